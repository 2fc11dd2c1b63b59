import Derived.Test.YteafkmdgnfbcfaaDoorOwn
namespace Go.Proofs.YteafkmdgnfbcfaaDoor
open Go.RowKit
theorem nilRB' (w : World) : RB w (.slice none 0 0) [] := ⟨none, 0, rfl, .inl rfl⟩
def iz (zs : List Int) (i : Nat) : Int := zs.getD i 0
/-- the slice v of ints reads as the list zs -/
def RZ (w : World) (v : Value) (zs : List Int) : Prop :=
  (v = .slice none 0 0 ∧ zs = []) ∨ ∃ x c, v = .slice (some x) zs.length c ∧ (zs = [] ∨ ∃ g o, x = ⟨g, o, none⟩ ∧ g < w.heap.size ∧ ∀ i, i < zs.length → w.cell? ⟨g, o + i, none⟩ = some (.int .i64 (iz zs i)))
theorem RZ.form {w : World} {v : Value} {zs : List Int} (h : RZ w v zs) : ∃ a c, v = .slice a zs.length c ∧ (zs = [] ∨ ∃ g o, a = some ⟨g, o, none⟩ ∧ g < w.heap.size ∧ ∀ i, i < zs.length → w.cell? ⟨g, o + i, none⟩ = some (.int .i64 (iz zs i))) := by
  rcases h with ⟨rfl, rfl⟩ | ⟨x, c, rfl, h⟩
  · exact ⟨none, 0, rfl, .inl rfl⟩
  · refine ⟨some x, c, rfl, ?_⟩
    rcases h with h | ⟨g, o, rfl, h1, h2⟩
    · exact .inl h
    · exact .inr ⟨g, o, rfl, h1, h2⟩
theorem RZ.keep {w w' : World} {v : Value} {zs : List Int} (h : RZ w v zs) (hb : Below w.heap.size w w') : RZ w' v zs := by
  rcases h with h | ⟨x, c, rfl, h⟩
  · exact .inl h
  · refine .inr ⟨x, c, rfl, ?_⟩
    rcases h with h | ⟨g, o, rfl, h1, h2⟩
    · exact .inl h
    · exact .inr ⟨g, o, rfl, Nat.lt_of_lt_of_le h1 hb.size, fun i hi => (World.cell?_of_block (w := w) (hb.block g h1)).trans (h2 i hi)⟩
theorem info3 : (Tryd.prog.info? 3).map (fun i => (i.zero, i.size, i.bytes)) = some (some (.int .i64 0), 1, 8) := by kernel_rfl
/-- a list of ints that the call owns -/
def OZ (B : Nat) (w : World) (v : Value) (zs : List Int) : Prop := w.ownsRow B 3 1 v zs.length (zs.map (Value.int .i64))
theorem OZ.rz {B : Nat} {w : World} {v : Value} {zs : List Int} (h : OZ B w v zs) : RZ w v zs := by
  have h' := h
  rcases h.2 with ⟨rfl, h0⟩ | ⟨g, cap, cur, rfl, _, hg, _⟩
  · exact .inl ⟨rfl, List.length_eq_zero_iff.1 h0⟩
  · refine .inr ⟨_, cap, rfl, .inr ⟨g, 0, rfl, (Array.getElem?_eq_some_iff.1 hg).1, fun i hi => ?_⟩⟩
    have := World.ownsRow.cellAt h' i (by omega)
    rw [Nat.zero_add, this]
    simp [iz, List.getElem?_eq_getElem hi, List.getD]

end Go.Proofs.YteafkmdgnfbcfaaDoor
