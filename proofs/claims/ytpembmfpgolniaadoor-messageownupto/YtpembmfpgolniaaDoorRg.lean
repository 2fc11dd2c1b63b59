import Derived.Test.YtpembmfpgolniaaDoorRv
namespace Go.Proofs.YtpembmfpgolniaaDoor
open Go.RowKit
def fd1 (m : Mv) : Bool := !(numB m.i && numB m.b && numB m.l && numB m.ba && numB m.pr)
def fd2 (m : Mv) (A : Bool) : Bool := A && (decide (m.l < 1) || decide (16384 < m.l))
def fd3 (m : Mv) : Bool := m.k != 1000 || (decide (64 ≤ m.i) && decide (m.i ≤ 255))
def fdR (m : Mv) : Bool := !fd1 m && !fd2 m (asksB m.k) && fd3 m
def kE (k : Int) : Bool := k != -1 && k != 1000 && !knownB k
def szb (m : Mv) (nd nh : Nat) : Bool := (m.k == 5 && decide (8192 < nd)) || (m.k == 7 && (decide (nd < 1) || decide (16384 < nd))) || (m.k == 1000 && decide (32767 < nd)) || (m.k == 22 && decide (560 < nh))
/-- what the reference says of a message -/
def refE (m : Mv) : Int := if kE m.k then 110 else if fR m then 113 else if fdR m then (if szb m (sln m.d) (sln m.h) then 111 else 0) else 112
end Go.Proofs.YtpembmfpgolniaaDoor
