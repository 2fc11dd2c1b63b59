import Derived.Test.YtpembmfpgolniaaDoorCk
import Derived.Deep.Cut
import Derived.Deep.CutRange
namespace Go.Proofs.YtpembmfpgolniaaDoor
open Go.RowKit
def asksB (k : Int) : Bool := k == 6 || k == 8
def queryB (k : Int) : Bool := decide (21 ≤ k) && decide (k ≤ 23)
def numB (n : Int) : Bool := decide (0 ≤ n) && decide (n ≤ 4294967295)
def knownB (k : Int) : Bool := (decide (0 ≤ k) && decide (k ≤ 8)) || (decide (21 ≤ k) && decide (k ≤ 23))
def fc1 (m : Mv) (A Q : Bool) : Bool := m.i != 0 && m.k != 4 && m.k != 7 && m.k != 1000 && !A && !Q
def fc2 (m : Mv) (A : Bool) : Bool := m.b != 0 && m.k != 7 && !A
def fc3 (m : Mv) (A Q : Bool) : Bool := m.l != 0 && !A && !Q
def fc4 (m : Mv) (nd : Nat) : Bool := decide (0 < nd) && m.k != 5 && m.k != 7 && m.k != 1000
def fc5 (m : Mv) (Q : Bool) : Bool := (m.r != zr 32 || m.ba != 0 || m.pr != 0) && !Q
def fc6 (m : Mv) (nh : Nat) : Bool := decide (0 < nh) && m.k != 22
def fR (m : Mv) : Bool := fc1 m (asksB m.k) (queryB m.k) || fc2 m (asksB m.k) || fc3 m (asksB m.k) (queryB m.k) || fc4 m (sln m.d) || fc5 m (queryB m.k) || fc6 m (sln m.h)
end Go.Proofs.YtpembmfpgolniaaDoor
