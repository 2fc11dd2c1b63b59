import Derived.Test.YtjhnkdhbjpddcaaDoorMakeR
import Derived.Deep.RegionLaw
namespace Go.Proofs.YtjhnkdhbjpddcaaDoor
open Go.RowKit
/-- the first k bits -/
def bl (l : List UInt8) (k : Nat) : List Bool := (List.range k).map (bit l)
theorem bl_len (l : List UInt8) (k : Nat) : (bl l k).length = k := by simp [bl]
theorem bl_snoc (l : List UInt8) (k : Nat) : bl l (k + 1) = bl l k ++ [bit l k] := by simp [bl, List.range_succ]
theorem lb_bl (l : List UInt8) (k i : Nat) (h : i < k) : lb (bl l k) i = bit l i := by
  unfold lb bl
  simp [List.getD, h]
theorem test_bit (l : List UInt8) (i : Nat) : (((byt l (i / 8)).toNat : Int) / (mk (i % 8) : Int) % 2 == 1) = bit l i := by
  have h := div_mk (byt l (i / 8)) (i % 8) (Nat.mod_lt _ (by omega))
  unfold bit
  rw [← h, Bool.eq_iff_iff, beq_iff_eq, beq_iff_eq]
  have : (((byt l (i / 8)).toNat : Int) / (mk (i % 8) : Int) % 2) = (((byt l (i / 8)).toNat / mk (i % 8) % 2 : Nat) : Int) := by simp
  rw [this]; omega
end Go.Proofs.YtjhnkdhbjpddcaaDoor
