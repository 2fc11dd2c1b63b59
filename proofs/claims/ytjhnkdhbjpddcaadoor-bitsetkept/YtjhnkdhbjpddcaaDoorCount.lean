import Derived.Test.YtjhnkdhbjpddcaaDoorWalkF
namespace Go.Proofs.YtjhnkdhbjpddcaaDoor
open Go.RowKit Go.Shelf
attribute [local go_sem] Oper.semAt_some
theorem KG.set {g C : Nat} {W : World} (v : Value) (h0 : C ≠ 0) (hg : C ≠ g) : KG g W (W.setCell ⟨C, 0, none⟩ v) :=
  ⟨by simp [World.setCell], fun k hk _ => Below.heap_setCell _ _ _ _ (by rcases hk with rfl | rfl <;> (intro e; first | exact h0 e.symm | exact hg e.symm))⟩
theorem wrap_nat' (p : Nat) (h : p ≤ 9223372036854775807) : IntKind.i64.wrap (p : Int) = (p : Int) := by
  unfold IntKind.wrap
  simp [IntKind.signed, IntKind.bits]
  omega
set_option maxRecDepth 100000 in
set_option maxHeartbeats 2000000 in
theorem count23 (n : Int) (h0 : -9223372036854775808 ≤ n) (h1 : n ≤ 9223372036854775807) (v : Value) (l : List UInt8) (w : World) (hr : RB w v l) (hm : MT w) (hl : l.length ≤ 140737488351232) (hck : ck n l = 0) :
    Calls Tryd.prog 28 #[.int .i64 n, v] w fun e w' => e = .returned (.tuple #[.int .i64 (((on1 l (8 * l.length)).length : Nat) : Int), .int .i64 0]) ∧ Below w.heap.size w w' := by
  refine (callsIn_wide (n := 6)).1 ?_
  have HC : Hid (Calls Tryd.prog 8 #[.int .i64 n, v] w fun e w' => e = .returned (.int .i64 (ck n l)) ∧ ∃ nq, w' = w.drewN nq) := check10 n h0 h1 v l w hr hm hl
  rw [hck] at HC
  have HR : Hid (RB w v l ∧ MT w ∧ ck n l = 0) := ⟨hr, hm, hck⟩
  obtain ⟨a, c, rfl, _⟩ := hr
  clear hm hck
  refine callsIn_of_wp_marks Tryd.func28 rfl trivial ?_ rfl
  simp only [Tryd.ntmps28, List.size_toArray, List.length_cons, List.length_nil, Nat.reduceAdd, Nat.reduceSub, Array.replicate_succ, Array.replicate_zero, List.push_toArray, List.append_toArray, List.nil_append, List.cons_append]
  gi_wp2_with (refine ⟨trivial, ?_⟩; gi_at_call 8; refine (callsIn_wide.2 HC.out).mono ?_; rintro e w1 ⟨rfl, hw⟩)
  have HF : Hid (RB w1 (.slice a l.length c) l ∧ MT w1 ∧ Below w.heap.size w w1) := by
    obtain ⟨nq, rfl⟩ := hw
    exact ⟨HR.out.1.keep (belowDrew _ _), HR.out.2.1.keep (belowDrew _ _), belowDrew _ _⟩
  clear hw HC
  gi_wp2
  refine ⟨trivial, ?_⟩
  have hbA : Below w1.heap.size w1 (w1.alloc (Obj.cells #[.int .i64 0] 3)) := (Below.refl _ _).alloc (Nat.le_refl _) _
  have HA : Hid (RB (w1.alloc (Obj.cells #[.int .i64 0] 3)) (.slice a l.length c) l ∧ MT (w1.alloc (Obj.cells #[.int .i64 0] 3)) ∧ Boxed (w1.alloc (Obj.cells #[.int .i64 0] 3)) w1.heap.size 3 (.int .i64 0) ∧ Below w.heap.size w (w1.alloc (Obj.cells #[.int .i64 0] 3)) ∧ (w1.alloc (Obj.cells #[.int .i64 0] 3)).heap.size = w1.heap.size + 1 ∧ 0 < w1.heap.size ∧ w.heap.size ≤ w1.heap.size) :=
    ⟨HF.out.1.keep hbA, HF.out.2.1.keep hbA, Boxed.new w1 3 _, HF.out.2.2.trans (hbA.mono HF.out.2.2.size), by simp, HF.out.2.1.1, HF.out.2.2.size⟩
  clear hbA HF
  generalize w1.alloc (Obj.cells #[.int .i64 0] 3) = wA at *
  generalize w1.heap.size = C at *
  refine (callsIn_wide.2 (walk26 n h0 h1 _ l _ HA.out.1 HA.out.2.1 hl HR.out.2.2)).mono ?_
  rintro e w2 ⟨r, rfl, ⟨Bs, v2, rfl, hB1, hB2, hcell, how⟩, hb2⟩
  obtain ⟨g, hv, hgB, hgl⟩ := how.split hB1 hB2
  obtain ⟨q1, q2, q3, q4, q5, q6, q7⟩ := HA.out
  have hbox : Boxed w2 C 3 (.int .i64 0) := (hb2.block C q3.lt).trans q3
  have hmt : MT w2 := q2.keep hb2
  have hbw : Below w.heap.size w w2 := q4.trans (hb2.mono q4.size)
  have hl8 : l.length ≤ 8192 := by have := ck_ok HR.out.2.2; omega
  clear HA q1 q2 q3 q4 hb2 how
  gi_wp2
  refine wpIn_rangeFunc_ownF rfl (by omega) (gf := 31) (lb := #[.pointer (some ⟨Bs, 0, none⟩)]) rfl trivial (enters_of Tryd.func31 (by kernel_rfl) rfl)
    (iter35_stops Fence.wide 5 trivial rfl (by omega) Bs g v2 l hl8 w2 hB2 hcell hv hmt) KG.trans (KG.put (by omega) hgl) (Below.refl _ _) (fun _ => rfl)
    (fun pre W => (W.cell? ⟨C, 0, none⟩ = some (.int .i64 ((pre.length : Nat) : Int)) ∧ W.frozen? ⟨C, 0, none⟩ = false) ∧ Below w.heap.size w W)
    (fun _ _ _ => False)
    (OwnFrom.and (Own.from (fun s A B row hs hg hr => ⟨cell_kept hs.1 hg hr, (frozen_kept hs.1 hg hr).trans hs.2⟩) _) (ownFrom_below (Nat.le_refl _) hbw.size))
    (fun _ _ _ _ _ hs _ _ => hs)
    ⟨⟨hbox.cell, hbox.frozen⟩, hbw⟩
    (fun x => { tmps := #[.int .i64 n, .slice a l.length c, undef, undef, .int .i64 0, .int .i64 0, .int .i64 0, .pointer (some ⟨C, 0, none⟩), .int .i64 n, .slice a l.length c, .int .i64 0, .int .i64 0, .bool false, undef, .int .i64 n, .slice a l.length c, .func (.func 31) #[] #[.pointer (some ⟨Bs, 0, none⟩)], .int .i64 (x.1 : Int), undef, undef, undef], defers := [] }) ?assign ?body ?done ?stop
  case assign =>
    intro lp x W K hK
    gi_wp2
    simpa using hK
  case body =>
    rintro lp pre x W ⟨⟨hc, hf⟩, hB⟩ hlt
    have hw : IntKind.i64.wrap (((pre.length : Nat) : Int) + 1) = ((pre.length : Nat) : Int) + 1 := by
      have := wrap_nat' (pre.length + 1) (by omega)
      simpa using this
    gi_wp2
    refine ⟨KeepsOthers.setCell _ _ _, KG.set _ (by omega) (by omega), ⟨?_, by rw [World.frozen?_setCell]; exact hf⟩, hB.setCell (p := ⟨C, 0, none⟩) (by show w.heap.size ≤ C; omega) _⟩
    rw [World.cell?_setCell_same' _ _ _ (by rw [hc]; rfl)]
    simp
  case done =>
    rintro D ys W hD rfl ⟨⟨hc, _⟩, hB⟩ hK
    gi_wp2
    refine ⟨by simp, .inl ⟨_, _, rfl, run_takeDeferred hK, ?_⟩⟩
    exact ⟨_, results_tmp2 rfl _ _ _, rfl, hB.trans (belowK_b (w := w) (Nat.le_refl _) W D _ _ (by have := hbw.size; omega) hK rfl rfl)⟩
  case stop =>
    rintro D c pre W _ _ h _
    exact h.elim
end Go.Proofs.YtjhnkdhbjpddcaaDoor
