import Derived.Test.YtjhnkdhbjpddcaaDoorPack
namespace Go.Proofs.YtjhnkdhbjpddcaaDoor
open Go.RowKit
theorem info4 : (Tryd.prog.info? 4).map (fun i => (i.zero, i.size, i.bytes)) = some (some (.bool false), 1, 1) := by kernel_rfl
/-- a list of bools that the call owns -/
def OB (B : Nat) (w : World) (v : Value) (L : List Bool) : Prop := w.ownsRow B 4 1 v L.length (L.map Value.bool)
theorem OB.at {B : Nat} {w : World} {a : Option Addr} {n c : Nat} {L : List Bool} (h : OB B w (.slice a n c) L) (q : Nat) (hq : q < n) :
    ∃ g, a = some ⟨g, 0, none⟩ ∧ B ≤ g ∧ g < w.heap.size ∧ w.cell? ⟨g, q, none⟩ = some (.bool (lb L q)) ∧ w.frozen? ⟨g, q, none⟩ = false := by
  rcases h.2 with ⟨h1, h2⟩ | ⟨g, cap, cur, h1, h2, h3, _⟩
  · simp only [Value.slice.injEq] at h1; omega
  · simp only [Value.slice.injEq] at h1
    obtain ⟨rfl, rfl, rfl⟩ := h1
    refine ⟨g, rfl, h2, (Array.getElem?_eq_some_iff.1 h3).1, ?_, World.ownsRow.frozenAt h q⟩
    have := World.ownsRow.cellAt h q (by omega)
    rw [this]
    simp [lb, List.getElem?_eq_getElem hq]
theorem OB.len {B : Nat} {w : World} {a : Option Addr} {n c : Nat} {L : List Bool} (h : OB B w (.slice a n c) L) : n = L.length := by
  rcases h.2 with ⟨h1, h2⟩ | ⟨g, cap, cur, h1, h2, h3, _⟩
  · simp only [Value.slice.injEq] at h1; omega
  · simp only [Value.slice.injEq] at h1; exact h1.2.1
theorem OB.form {B : Nat} {w : World} {v : Value} {L : List Bool} (h : OB B w v L) : ∃ a c, v = .slice a L.length c := by
  rcases h.2 with ⟨h1, h2⟩ | ⟨g, cap, cur, h1, h2, h3, _⟩
  · exact ⟨none, 0, by rw [h1, h2]⟩
  · exact ⟨_, _, h1⟩
theorem OB.ro {B : Nat} {w : World} {v : Value} {L : List Bool} (h : OB B w v L) : RO w v L := by
  obtain ⟨a, c, rfl⟩ := h.form
  refine ⟨a, c, rfl, ?_⟩
  by_cases hL : L = []
  · exact .inl hL
  · have h0 : 0 < L.length := List.length_pos_iff.2 hL
    obtain ⟨g, rfl, _, hg, _⟩ := h.at 0 h0
    refine .inr ⟨g, 0, rfl, hg, fun i hi => ?_⟩
    obtain ⟨g', e, _, _, hc, _⟩ := h.at i hi
    simp only [Option.some.injEq, Addr.mk.injEq, and_true] at e
    subst e
    rw [Nat.zero_add, hc]
theorem OB.grow {B : Nat} {w w' : World} {v : Value} {L : List Bool} (h : OB B w v L) (hb : Below w.heap.size w w') : OB B w' v L := by
  refine ⟨h.1, ?_⟩
  rcases h.2 with h1 | ⟨g, cap, cur, h1, h2, h3, h4⟩
  · exact .inl h1
  · exact .inr ⟨g, cap, cur, h1, h2, (hb.block g (Array.getElem?_eq_some_iff.1 h3).1).trans h3, h4⟩
theorem OB.alloc {B : Nat} {w : World} {v : Value} {L : List Bool} (h : OB B w v L) (o : Obj) : OB B (w.alloc o) v L := h.grow ((Below.refl _ _).alloc (Nat.le_refl _) _)
theorem OB.drew {B : Nat} {w : World} {v : Value} {L : List Bool} (h : OB B w v L) (n : Nat) : OB B (w.drewN n) v L := h.grow (belowDrew _ _)
theorem OB.falses (w : World) (m : Nat) (hm : m ≤ 1000000) : OB w.heap.size (w.alloc (.cells (madeCells #[.bool false] m) 4)) (.slice (some ⟨w.heap.size, 0, none⟩) m m) (List.replicate m false) := by
  unfold OB
  have e : (List.replicate m false).map Value.bool = (madeCells #[Value.bool false] m).toList := by rw [toList_madeCells_one]; simp
  rw [e, List.length_replicate]
  exact World.ownsRow_lit w _ m (Nat.le_refl _) (by unfold maxLen; omega) (by simp [size_madeCells])
theorem OW.mono {B B' : Nat} {w : World} {v : Value} {l : List UInt8} (h : OW B w v l) (hb : B' ≤ B) : OW B' w v l := by
  refine ⟨h.1, ?_⟩
  rcases h.2 with h1 | ⟨g, cap, cur, h1, h2, h3⟩
  · exact .inl h1
  · exact .inr ⟨g, cap, cur, h1, Nat.le_trans hb h2, h3⟩
theorem lb_falses (n i : Nat) : lb (List.replicate n false) i = false := by
  unfold lb
  simp only [List.getD_eq_getElem?_getD, List.getElem?_replicate]
  split <;> rfl
end Go.Proofs.YtjhnkdhbjpddcaaDoor
