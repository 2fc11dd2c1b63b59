import Derived.Test.YtldkecjfjcnkfaaHc
import Derived.Test.YtldkecjfjcnkfaaGm
namespace Go.Proofs.Ytldkecjfjcnkfaa
open Go.RowKit Go.Deep
theorem KL_eq {a x y : PE} (h : eqP a x = true) (hk : KL a y) : KL x y := by
  unfold eqP at h
  have e : a.key.toList = x.key.toList := by simpa using h
  unfold KL at hk ⊢
  rw [← e]
  exact hk
theorem KL_tri {a x : PE} (h1 : ltP a x = false) (h2 : eqP a x = false) : KL x a := by
  have := bytes_tri a.key.toList x.key.toList
  unfold ltP at h1
  unfold eqP at h2
  rw [h1, h2] at this
  show Op.bytesLess x.key.toList a.key.toList = true
  simpa using this
/-- what is put together of rising lists rises -/
theorem mg_rise : ∀ (old later : List PE), old.Pairwise KL → later.Pairwise KL → (mgP old later).Pairwise KL
  | old, [], h, _ => by unfold mgP; rw [mg_nil]; exact h
  | [], x :: xs, _, h => by unfold mgP; rw [mg_none]; exact h
  | a :: rest, x :: xs, ho, hl => by
    have ho' := List.pairwise_cons.1 ho
    have hl' := List.pairwise_cons.1 hl
    unfold mgP
    cases h : ltP a x with
    | true =>
      rw [mg_lt _ _ h]
      refine List.pairwise_cons.2 ⟨fun y hy => ?_, mg_rise rest (x :: xs) ho'.2 hl⟩
      rcases mg_mem _ _ _ _ y hy with h9 | h9
      · exact ho'.1 y h9
      · rcases List.mem_cons.1 h9 with rfl | h9
        · exact h
        · exact less_trans _ _ _ h (hl'.1 y h9)
    | false =>
      cases h2 : eqP a x with
      | true =>
        rw [mg_eq _ _ h h2]
        refine List.pairwise_cons.2 ⟨fun y hy => ?_, mg_rise rest xs ho'.2 hl'.2⟩
        rcases mg_mem _ _ _ _ y hy with h9 | h9
        · exact KL_eq h2 (ho'.1 y h9)
        · exact hl'.1 y h9
      | false =>
        rw [mg_gt _ _ h h2]
        refine List.pairwise_cons.2 ⟨fun y hy => ?_, mg_rise (a :: rest) xs ho hl'.2⟩
        rcases mg_mem _ _ _ _ y hy with h9 | h9
        · rcases List.mem_cons.1 h9 with rfl | h9
          · exact KL_tri h h2
          · exact less_trans _ _ _ (KL_tri h h2) (ho'.1 y h9)
        · exact hl'.1 y h9
termination_by old later => old.length + later.length
/-- what is put together of good others has no fault -/
theorem mg_wk {es es2 : List PE} (h1 : es.Pairwise KL) (h2 : es2.Pairwise KL) (g1 : ∀ e ∈ es, wk e.t 1 = 0) (g2 : ∀ e ∈ es2, wk e.t 1 = 0) : wk (tG (mgP es es2)) 0 = 0 :=
  (wk_tG _ 0 (by decide)).2 ⟨mg_rise es es2 h1 h2, fun e he => (mg_mem _ _ _ _ e he).elim (g1 e) (g2 e)⟩
/-- the two wishes and the answer's cell, in their boxes -/
def MB (H : Nat) (w x : World) (na ma na2 ma2 : Option Addr) (nc mc nc2 mc2 : Nat) (ns ns2 : List (ByteArray × Int)) (sz qu sz2 qu2 : Int) (ag ag2 : ByteArray) (es es2 : List PE) : Prop :=
  x.heap[H]? = some (.cells #[.slice na ns.length nc, .int .i64 sz, .int .i64 qu, .string ag, .slice ma es.length mc] 35 (0, 0)) ∧ x.heap[H + 1]? = some (.cells #[.slice na2 ns2.length nc2, .int .i64 sz2, .int .i64 qu2, .string ag2, .slice ma2 es2.length mc2] 35 (0, 0)) ∧ x.heap[H + 1 + 1]? = some (.cells #[.slice none 0 0, .int .i64 0, .int .i64 0, .string ⟨#[]⟩, .slice none 0 0] 35 (0, 0)) ∧ H + 3 ≤ x.heap.size ∧ Below H w x ∧
  RNs x (.slice na ns.length nc) ns ∧ RNs x (.slice na2 ns2.length nc2) ns2 ∧ RG x.heap.size x (.slice ma es.length mc) es ∧ RG x.heap.size x (.slice ma2 es2.length mc2) es2
theorem MB.keep {H : Nat} {w x y : World} {na ma na2 ma2 : Option Addr} {nc mc nc2 mc2 : Nat} {ns ns2 : List (ByteArray × Int)} {sz qu sz2 qu2 : Int} {ag ag2 : ByteArray} {es es2 : List PE} (h : MB H w x na ma na2 ma2 nc mc nc2 mc2 ns ns2 sz qu sz2 qu2 ag ag2 es es2) (hb : Below x.heap.size x y) : MB H w y na ma na2 ma2 nc mc nc2 mc2 ns ns2 sz qu sz2 qu2 ag ag2 es es2 := by
  obtain ⟨h1, h2, h3, h4, h5, h6, h7, h8, h9⟩ := h
  exact ⟨(hb.block _ (by omega)).trans h1, (hb.block _ (by omega)).trans h2, (hb.block _ (by omega)).trans h3, Nat.le_trans h4 hb.size, h5.trans (hb.mono (by omega)), h6.keep hb, h7.keep hb, (h8.keep hb).mono hb.size, (h9.keep hb).mono hb.size⟩
/-- the cells that a walk reads -/
def MC (H : Nat) (na ma na2 ma2 : Option Addr) (nc mc nc2 mc2 n1 n2 m1 m2 : Nat) (sz qu sz2 qu2 : Int) (ag ag2 : ByteArray) (x : World) : Prop :=
  (x.cell? ⟨H, 0, none⟩ = some (.slice na n1 nc) ∧ x.cell? ⟨H, 1, none⟩ = some (.int .i64 sz) ∧ x.cell? ⟨H, 2, none⟩ = some (.int .i64 qu) ∧ x.cell? ⟨H, 3, none⟩ = some (.string ag) ∧ x.cell? ⟨H, 4, none⟩ = some (.slice ma m1 mc)) ∧
  x.cell? ⟨H + 1, 0, none⟩ = some (.slice na2 n2 nc2) ∧ x.cell? ⟨H + 1, 1, none⟩ = some (.int .i64 sz2) ∧ x.cell? ⟨H + 1, 2, none⟩ = some (.int .i64 qu2) ∧ x.cell? ⟨H + 1, 3, none⟩ = some (.string ag2) ∧ x.cell? ⟨H + 1, 4, none⟩ = some (.slice ma2 m2 mc2)
theorem MB.cells {H : Nat} {w x : World} {na ma na2 ma2 : Option Addr} {nc mc nc2 mc2 : Nat} {ns ns2 : List (ByteArray × Int)} {sz qu sz2 qu2 : Int} {ag ag2 : ByteArray} {es es2 : List PE} (h : MB H w x na ma na2 ma2 nc mc nc2 mc2 ns ns2 sz qu sz2 qu2 ag ag2 es es2) : MC H na ma na2 ma2 nc mc nc2 mc2 ns.length ns2.length es.length es2.length sz qu sz2 qu2 ag ag2 x := by
  have e1 := h.1
  have e2 := h.2.1
  refine ⟨⟨?_, ?_, ?_, ?_, ?_⟩, ?_, ?_, ?_, ?_, ?_⟩ <;> simp [World.cell?, e1, e2]
theorem MB.start (w : World) {na ma na2 ma2 : Option Addr} {nc mc nc2 mc2 : Nat} {ns ns2 : List (ByteArray × Int)} {sz qu sz2 qu2 : Int} {ag ag2 : ByteArray} {es es2 : List PE} (h1 : RNs w (.slice na ns.length nc) ns) (h2 : RNs w (.slice na2 ns2.length nc2) ns2) (h3 : RG w.heap.size w (.slice ma es.length mc) es) (h4 : RG w.heap.size w (.slice ma2 es2.length mc2) es2) : MB w.heap.size w (((w.alloc (.cells #[.slice na ns.length nc, .int .i64 sz, .int .i64 qu, .string ag, .slice ma es.length mc] 35)).alloc (.cells #[.slice na2 ns2.length nc2, .int .i64 sz2, .int .i64 qu2, .string ag2, .slice ma2 es2.length mc2] 35)).alloc (.cells #[.slice none 0 0, .int .i64 0, .int .i64 0, .string ⟨#[]⟩, .slice none 0 0] 35)) na ma na2 ma2 nc mc nc2 mc2 ns ns2 sz qu sz2 qu2 ag ag2 es es2 := by
  have b : Below w.heap.size w (((w.alloc (.cells #[.slice na ns.length nc, .int .i64 sz, .int .i64 qu, .string ag, .slice ma es.length mc] 35)).alloc (.cells #[.slice na2 ns2.length nc2, .int .i64 sz2, .int .i64 qu2, .string ag2, .slice ma2 es2.length mc2] 35)).alloc (.cells #[.slice none 0 0, .int .i64 0, .int .i64 0, .string ⟨#[]⟩, .slice none 0 0] 35)) := (((Below.refl _ _).alloc (Nat.le_refl _) _).alloc (by simp) _).alloc (by simp; omega) _
  refine ⟨?_, ?_, ?_, by simp, b, h1.keep b, h2.keep b, (h3.keep b).mono b.size, (h4.keep b).mono b.size⟩
  · exact (Below.heap_alloc _ _ _ (by simp; omega)).trans ((Below.heap_alloc _ _ _ (by simp)).trans (heap_new _ _))
  · exact (Below.heap_alloc _ _ _ (by simp)).trans (by have := heap_new (w.alloc (.cells #[.slice na ns.length nc, .int .i64 sz, .int .i64 qu, .string ag, .slice ma es.length mc] 35)) (.cells #[.slice na2 ns2.length nc2, .int .i64 sz2, .int .i64 qu2, .string ag2, .slice ma2 es2.length mc2] 35); simpa using this)
  · have := heap_new ((w.alloc (.cells #[.slice na ns.length nc, .int .i64 sz, .int .i64 qu, .string ag, .slice ma es.length mc] 35)).alloc (.cells #[.slice na2 ns2.length nc2, .int .i64 sz2, .int .i64 qu2, .string ag2, .slice ma2 es2.length mc2] 35)) (.cells #[.slice none 0 0, .int .i64 0, .int .i64 0, .string ⟨#[]⟩, .slice none 0 0] 35)
    simpa using this
end Go.Proofs.Ytldkecjfjcnkfaa
