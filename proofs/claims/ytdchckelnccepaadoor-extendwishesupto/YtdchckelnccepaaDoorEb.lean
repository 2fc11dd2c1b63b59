import Derived.Test.YtdchckelnccepaaDoorBase
import Derived.Deep.RegionHeld3
namespace Go.Proofs.YtdchckelnccepaaDoor.Bs
open Go.RowKit
def bdN (id : Int) (l : List UInt8) : Int := if id < 0 ∨ 255 < id then 211 else if 32766 < l.length then 213 else 0
def bdL (id : Int) (l : List UInt8) : List UInt8 := if id < 0 ∨ 255 < id then [] else if 32766 < l.length then [] else 20 :: UInt8.ofNat id.toNat :: l
/-- bytes and an error were answered -/
def QE (w : World) (l : List UInt8) (n : Int) (e : Ending) (w' : World) : Prop := ∃ a c, e = .returned (.tuple #[.slice a l.length c, .int .i64 n]) ∧ RB w' (.slice a l.length c) l ∧ Below w.heap.size w w'
theorem rb_nil (w : World) : RB w (.slice none 0 0) [] := ⟨none, 0, rfl, Nat.le_refl _, .inl rfl⟩
theorem two_ow (w : World) (id : Int) (h0 : 0 ≤ id) (h1 : id ≤ 255) : OW w.heap.size (w.alloc (.cells #[.int .u8 20, .int .u8 id] 5)) (.slice (some ⟨w.heap.size, 0, none⟩) 2 2) [20, UInt8.ofNat id.toNat] := by
  have e : (#[.int .u8 20, .int .u8 id] : Array Value) = bc [20, UInt8.ofNat id.toNat] := by
    have : ((UInt8.ofNat id.toNat).toNat : Int) = id := by rw [UInt8.toNat_ofNat', Nat.mod_eq_of_lt (by omega)]; omega
    simp [bc, Lib.byteCells]
    omega
  rw [e]
  exact OW.of_block (l := [20, UInt8.ofNat id.toNat]) (Nat.le_refl _) (heapNew _ _) rfl (by simp) (by simp) (by unfold maxLen; simp)
end Go.Proofs.YtdchckelnccepaaDoor.Bs
