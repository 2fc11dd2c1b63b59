import Derived.Test.YtjhnkdhbjpddcaaDoorMake
namespace Go.Proofs.YtjhnkdhbjpddcaaDoor
open Go.RowKit
def lb (L : List Bool) (i : Nat) : Bool := L.getD i false
/-- the slice v of bools reads as the list L -/
def RO (w : World) (v : Value) (L : List Bool) : Prop :=
  ∃ a c, v = .slice a L.length c ∧ (L = [] ∨ ∃ g o, a = some ⟨g, o, none⟩ ∧ g < w.heap.size ∧ ∀ i, i < L.length → w.cell? ⟨g, o + i, none⟩ = some (.bool (lb L i)))
theorem RO.keep {w w' : World} {v : Value} {l : List Bool} (h : RO w v l) (hb : Below w.heap.size w w') : RO w' v l := by
  obtain ⟨a, c, rfl, h⟩ := h
  refine ⟨a, c, rfl, ?_⟩
  rcases h with h | ⟨g, o, h1, h2, h3⟩
  · exact .inl h
  · exact .inr ⟨g, o, h1, Nat.lt_of_lt_of_le h2 hb.size, fun i hi => (World.cell?_of_block (w := w) (hb.block g h2)).trans (h3 i hi)⟩
theorem add_on (c : UInt8) (j : Nat) (hj : j < 8) (h : c.toNat.testBit (7 - j) = false) : IntKind.u8.wrap ((c.toNat : Int) + (mk j : Int)) = ((on c j).toNat : Int) := by
  have := add_mk c j hj h
  rw [on_toNat, ← this.1]
  unfold IntKind.wrap
  simp [IntKind.signed, IntKind.bits]
  omega
theorem conv_mk (j : Nat) : IntKind.u8.wrap (mk j : Int) = (mk j : Int) := by
  have := mk_lt j
  unfold IntKind.wrap
  simp [IntKind.signed, IntKind.bits]
  omega
theorem wrap_nat (p : Nat) (h : p ≤ 9223372036854775807) : IntKind.i64.wrap (p : Int) = (p : Int) := by
  unfold IntKind.wrap
  simp [IntKind.signed, IntKind.bits]
  omega
theorem byt_snoc (l : List UInt8) (i : Nat) : byt (l ++ [0]) i = byt l i := by
  unfold byt
  simp only [List.getD_eq_getElem?_getD, List.getElem?_append]
  by_cases h : i < l.length
  · rw [if_pos h]
  · rw [if_neg h, List.getElem?_eq_none (l := l) (by omega)]
    by_cases h2 : i - l.length = 0
    · rw [h2]; simp
    · rw [List.getElem?_eq_none (by simp; omega)]
theorem bit_snoc (l : List UInt8) (i : Nat) : bit (l ++ [0]) i = bit l i := by unfold bit; rw [byt_snoc]
end Go.Proofs.YtjhnkdhbjpddcaaDoor
