import Derived.Test.YtjhnkdhbjpddcaaDoorOwn
namespace Go.Proofs.YtjhnkdhbjpddcaaDoor
open Go.RowKit
theorem nilRB' (w : World) : RB w (.slice none 0 0) [] := ⟨none, 0, rfl, .inl rfl⟩
def iz (zs : List Int) (i : Nat) : Int := zs.getD i 0
/-- the slice v of ints reads as the list zs -/
def RZ (w : World) (v : Value) (zs : List Int) : Prop :=
  (v = .slice none 0 0 ∧ zs = []) ∨ ∃ x c, v = .slice (some x) zs.length c ∧ (zs = [] ∨ ∃ g o, x = ⟨g, o, none⟩ ∧ g < w.heap.size ∧ ∀ i, i < zs.length → w.cell? ⟨g, o + i, none⟩ = some (.int .i64 (iz zs i)))
theorem RZ.form {w : World} {v : Value} {zs : List Int} (h : RZ w v zs) : ∃ a c, v = .slice a zs.length c ∧ (zs = [] ∨ ∃ g o, a = some ⟨g, o, none⟩ ∧ g < w.heap.size ∧ ∀ i, i < zs.length → w.cell? ⟨g, o + i, none⟩ = some (.int .i64 (iz zs i))) := by
  rcases h with ⟨rfl, rfl⟩ | ⟨x, c, rfl, h⟩
  · exact ⟨none, 0, rfl, .inl rfl⟩
  · refine ⟨some x, c, rfl, ?_⟩
    rcases h with h | ⟨g, o, rfl, h1, h2⟩
    · exact .inl h
    · exact .inr ⟨g, o, rfl, h1, h2⟩
theorem RZ.keep {w w' : World} {v : Value} {zs : List Int} (h : RZ w v zs) (hb : Below w.heap.size w w') : RZ w' v zs := by
  rcases h with h | ⟨x, c, rfl, h⟩
  · exact .inl h
  · refine .inr ⟨x, c, rfl, ?_⟩
    rcases h with h | ⟨g, o, rfl, h1, h2⟩
    · exact .inl h
    · exact .inr ⟨g, o, rfl, Nat.lt_of_lt_of_le h1 hb.size, fun i hi => (World.cell?_of_block (w := w) (hb.block g h1)).trans (h2 i hi)⟩
theorem info3 : (Tryd.prog.info? 3).map (fun i => (i.zero, i.size, i.bytes)) = some (some (.int .i64 0), 1, 8) := by kernel_rfl
/-- a list of ints that the call owns -/
def OZ (B : Nat) (w : World) (v : Value) (zs : List Int) : Prop := w.ownsRow B 3 1 v zs.length (zs.map (Value.int .i64))
theorem OZ.rz {B : Nat} {w : World} {v : Value} {zs : List Int} (h : OZ B w v zs) : RZ w v zs := by
  have h' := h
  rcases h.2 with ⟨rfl, h0⟩ | ⟨g, cap, cur, rfl, _, hg, _⟩
  · exact .inl ⟨rfl, List.length_eq_zero_iff.1 h0⟩
  · refine .inr ⟨_, cap, rfl, .inr ⟨g, 0, rfl, (Array.getElem?_eq_some_iff.1 hg).1, fun i hi => ?_⟩⟩
    have := World.ownsRow.cellAt h' i (by omega)
    rw [Nat.zero_add, this]
    simp [iz, List.getElem?_eq_getElem hi, List.getD]
set_option maxHeartbeats 400000 in
theorem same19 (v1 v2 : Value) (l : List Int) (w : World) (hl : l.length ≤ 140737488351232) (h1 : RZ w v1 l) (h2 : RZ w v2 l) :
    Calls Tryd.prog 7 #[v1, v2] w fun e w' => e = .returned (.bool true) ∧ ∃ n, w' = w.drewN n := by
  obtain ⟨a1, c1, rfl, k1⟩ := h1.form
  obtain ⟨a2, c2, rfl, k2⟩ := h2.form
  have HH : Hid ((l = [] ∨ ∃ g o, a1 = some ⟨g, o, none⟩ ∧ g < w.heap.size ∧ ∀ i, i < l.length → w.cell? ⟨g, o + i, none⟩ = some (.int .i64 (iz l i))) ∧
     (l = [] ∨ ∃ g o, a2 = some ⟨g, o, none⟩ ∧ g < w.heap.size ∧ ∀ i, i < l.length → w.cell? ⟨g, o + i, none⟩ = some (.int .i64 (iz l i)))) := ⟨k1, k2⟩
  clear h1 h2 k1 k2
  generalize hn : l.length = n at *
  have HN : Hid (l.length = n) := hn
  clear hn
  go_enter Tryd.func7, Tryd.ntmps7
  go_wp2
  go_loopw [5] (fun i wr => ∃ k nq : Nat, k ≤ n ∧ i = .int .i64 k ∧ wr = w.drewN nq) (fun i _ => n - (intOf i).toNat)
  case atStart => exact ⟨0, 0, Nat.zero_le _, rfl, rfl⟩
  case round =>
    obtain ⟨k, nq, hk, rfl, rfl⟩ := hrel
    by_cases hlt : k < n
    · rcases HH.out.1 with h | ⟨g1, o1, rfl, _, h1⟩
      · have := HN.out; rw [h] at this; simp at this; omega
      rcases HH.out.2 with h | ⟨g2, o2, rfl, _, h2⟩
      · have := HN.out; rw [h] at this; simp at this; omega
      have g1 := h1 k hlt
      have g2 := h2 k hlt
      generalize iz l k = x at g1 g2
      clear h1 h2 HH HN
      go_wp2
      go_quiet (fail)
      go_wp2
      exact ⟨⟨k + 1, _, by omega, by go_num, rfl⟩, by simp [intOf]; omega⟩
    · go_wp2
      go_ret
      exact ⟨rfl, nq, rfl⟩
end Go.Proofs.YtjhnkdhbjpddcaaDoor
