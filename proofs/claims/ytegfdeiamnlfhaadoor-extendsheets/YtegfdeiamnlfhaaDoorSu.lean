import Derived.Test.YtegfdeiamnlfhaaDoorSt
namespace Go.Proofs.YtegfdeiamnlfhaaDoor
open Go.RowKit Go.Deep
set_option maxHeartbeats 4000000 in
theorem sheet12_one (p t : Int) (a : Option Addr) (n c : Nat) (w : World) : Calls Tryd.prog 12 #[.agg #[.int .i64 1, .int .i64 p, .int .i64 t, .slice a n c]] w fun e w' => ∃ v', e = .returned (.agg #[.int .i64 4, .int .i64 0, .string ⟨#[]⟩, .slice none 0 0, v']) ∧ NR w.heap.size w' v' (shP 1 p t) ∧ Below w.heap.size w w' := by
  have B0 : Hid (Below w.heap.size w ((w.alloc (.cells #[.int .i64 1, .int .i64 p, .int .i64 t, .slice a n c] 24)).alloc (.cells #[.int .i64 0, .int .i64 0, .string ⟨#[]⟩, .slice none 0 0, .slice none 0 0] 35))) := ((Below.refl _ _).alloc (Nat.le_refl _) _).alloc (by simp) _
  have HRR : Hid (((w.alloc (.cells #[.int .i64 1, .int .i64 p, .int .i64 t, .slice a n c] 24)).alloc (.cells #[.int .i64 0, .int .i64 0, .string ⟨#[]⟩, .slice none 0 0, .slice none 0 0] 35)).heap[w.heap.size]? = some (.cells #[.int .i64 1, .int .i64 p, .int .i64 t, .slice a n c] 24 (0, 0)) ∧ ((w.alloc (.cells #[.int .i64 1, .int .i64 p, .int .i64 t, .slice a n c] 24)).alloc (.cells #[.int .i64 0, .int .i64 0, .string ⟨#[]⟩, .slice none 0 0, .slice none 0 0] 35)).heap[w.heap.size + 1]? = some (.cells #[.int .i64 0, .int .i64 0, .string ⟨#[]⟩, .slice none 0 0, .slice none 0 0] 35 (0, 0)) ∧ ((w.alloc (.cells #[.int .i64 1, .int .i64 p, .int .i64 t, .slice a n c] 24)).alloc (.cells #[.int .i64 0, .int .i64 0, .string ⟨#[]⟩, .slice none 0 0, .slice none 0 0] 35)).heap.size = w.heap.size + 2) := ⟨(Below.heap_alloc _ _ _ (by simp)).trans (heap_new _ _), by have := heap_new (w.alloc (.cells #[.int .i64 1, .int .i64 p, .int .i64 t, .slice a n c] 24)) (.cells #[.int .i64 0, .int .i64 0, .string ⟨#[]⟩, .slice none 0 0, .slice none 0 0] 35); simpa using this, by simp⟩
  go_enter Tryd.func12, Tryd.ntmps12
  go_upto_region 2 with fail
  have HF : Hid (∀ w', Below ((w.alloc (.cells #[.int .i64 1, .int .i64 p, .int .i64 t, .slice a n c] 24)).alloc (.cells #[.int .i64 0, .int .i64 0, .string ⟨#[]⟩, .slice none 0 0, .slice none 0 0] 35)).heap.size ((w.alloc (.cells #[.int .i64 1, .int .i64 p, .int .i64 t, .slice a n c] 24)).alloc (.cells #[.int .i64 0, .int .i64 0, .string ⟨#[]⟩, .slice none 0 0, .slice none 0 0] 35)) w' → (w'.cell? ⟨w.heap.size, 0, none⟩ = some (.int .i64 1) ∧ w'.cell? ⟨w.heap.size, 1, none⟩ = some (.int .i64 p) ∧ w'.cell? ⟨w.heap.size, 2, none⟩ = some (.int .i64 t)) ∧ w'.heap[w.heap.size + 1]? = some (.cells #[.int .i64 0, .int .i64 0, .string ⟨#[]⟩, .slice none 0 0, .slice none 0 0] 35 (0, 0))) := fun w' hw => by
    have z := HRR.out.2.2
    have e1 : w'.heap[w.heap.size]? = _ := (hw.block _ (by omega)).trans HRR.out.1
    exact ⟨⟨by simp [World.cell?, e1], by simp [World.cell?, e1], by simp [World.cell?, e1]⟩, (hw.block _ (by omega)).trans HRR.out.2.1⟩
  have HWS : Hid (w.heap.size + 2 ≤ ((w.alloc (.cells #[.int .i64 1, .int .i64 p, .int .i64 t, .slice a n c] 24)).alloc (.cells #[.int .i64 0, .int .i64 0, .string ⟨#[]⟩, .slice none 0 0, .slice none 0 0] 35)).heap.size) := by have z := HRR.out.2.2; show _ + 2 ≤ _; omega
  clear HRR
  generalize ((w.alloc (.cells #[.int .i64 1, .int .i64 p, .int .i64 t, .slice a n c] 24)).alloc (.cells #[.int .i64 0, .int .i64 0, .string ⟨#[]⟩, .slice none 0 0, .slice none 0 0] 35)) = w0 at *
  generalize hvb : w.heap.size = H at *
  have HS := Lib.hid hvb
  clear hvb
  obtain ⟨⟨c0, c1, c2⟩, -⟩ := HF.out w0 (Below.refl _ _)
  go_wp2_with fail
  refine (number20 1 w0).mono ?_
  rintro e x1 ⟨rfl, b1⟩
  have hz1 : Below w0.heap.size w0 x1 := (Below.refl w0.heap.size w0).trans (b1.mono (Below.refl w0.heap.size w0).size)
  have hy1 : Below x1.heap.size x1 (x1.alloc (.cells #[.string kM, .int .i64 1, .int .i64 1, .string ⟨#[]⟩, .slice none 0 0, .slice none 0 0] 42)) := (Below.refl _ _).alloc (Nat.le_refl _) _
  have X1 : Hid (NR w0.heap.size (x1.alloc (.cells #[.string kM, .int .i64 1, .int .i64 1, .string ⟨#[]⟩, .slice none 0 0, .slice none 0 0] 42)) (.slice none 0 0) [] ∧ (x1.alloc (.cells #[.string kM, .int .i64 1, .int .i64 1, .string ⟨#[]⟩, .slice none 0 0, .slice none 0 0] 42)).heap[x1.heap.size]? = some (.cells (pC (kM, 1)).toArray 42 (0, 0)) ∧ Below w0.heap.size w0 (x1.alloc (.cells #[.string kM, .int .i64 1, .int .i64 1, .string ⟨#[]⟩, .slice none 0 0, .slice none 0 0] 42))) := ⟨NR.nil _ _, heap_new _ _, hz1.trans (hy1.mono hz1.size)⟩
  clear c0 c1 c2 b1 hz1 hy1
  go_wp2_with (at_builtin; refine append_pair rfl _ _ rfl rfl X1.out.1 x1.heap.size (kM, 1) rfl X1.out.2.1 X1.out.2.2.size (by simp) ?_; intro v1 y1 hn1 hb1; obtain ⟨a1, d1, rfl⟩ := hn1.form; obtain ⟨⟨c0, c1, c2⟩, -⟩ := HF.out y1 (X1.out.2.2.trans hb1); have N1 : Hid (NR w0.heap.size y1 (.slice a1 1 d1) ([] ++ [(kM, 1)]) ∧ Below w0.heap.size w0 y1) := ⟨hn1, X1.out.2.2.trans hb1⟩; clear hn1 hb1)
  go_wp2_with fail
  refine (number20 p y1).mono ?_
  rintro e x2 ⟨rfl, b2⟩
  have hz2 : Below w0.heap.size w0 x2 := N1.out.2.trans (b2.mono N1.out.2.size)
  have hy2 : Below x2.heap.size x2 (x2.alloc (.cells #[.string kP, .int .i64 1, .int .i64 p, .string ⟨#[]⟩, .slice none 0 0, .slice none 0 0] 42)) := (Below.refl _ _).alloc (Nat.le_refl _) _
  have X2 : Hid (NR w0.heap.size (x2.alloc (.cells #[.string kP, .int .i64 1, .int .i64 p, .string ⟨#[]⟩, .slice none 0 0, .slice none 0 0] 42)) (.slice a1 1 d1) ([] ++ [(kM, 1)]) ∧ (x2.alloc (.cells #[.string kP, .int .i64 1, .int .i64 p, .string ⟨#[]⟩, .slice none 0 0, .slice none 0 0] 42)).heap[x2.heap.size]? = some (.cells (pC (kP, p)).toArray 42 (0, 0)) ∧ Below w0.heap.size w0 (x2.alloc (.cells #[.string kP, .int .i64 1, .int .i64 p, .string ⟨#[]⟩, .slice none 0 0, .slice none 0 0] 42))) := ⟨(N1.out.1.keep b2).keep hy2, heap_new _ _, hz2.trans (hy2.mono hz2.size)⟩
  clear c0 c1 c2 b2 hz2 hy2
  go_wp2_with (at_builtin; refine append_pair rfl _ _ rfl rfl X2.out.1 x2.heap.size (kP, p) rfl X2.out.2.1 X2.out.2.2.size (by simp) ?_; intro v2 y2 hn2 hb2; obtain ⟨a2, d2, rfl⟩ := hn2.form; obtain ⟨⟨c0, c1, c2⟩, -⟩ := HF.out y2 (X2.out.2.2.trans hb2); have N2 : Hid (NR w0.heap.size y2 (.slice a2 2 d2) (([] ++ [(kM, 1)]) ++ [(kP, p)]) ∧ Below w0.heap.size w0 y2) := ⟨hn2, X2.out.2.2.trans hb2⟩; clear hn2 hb2)
  go_wp2_with fail
  refine (number20 t y2).mono ?_
  rintro e x3 ⟨rfl, b3⟩
  have hz3 : Below w0.heap.size w0 x3 := N2.out.2.trans (b3.mono N2.out.2.size)
  have hy3 : Below x3.heap.size x3 (x3.alloc (.cells #[.string kT, .int .i64 1, .int .i64 t, .string ⟨#[]⟩, .slice none 0 0, .slice none 0 0] 42)) := (Below.refl _ _).alloc (Nat.le_refl _) _
  have X3 : Hid (NR w0.heap.size (x3.alloc (.cells #[.string kT, .int .i64 1, .int .i64 t, .string ⟨#[]⟩, .slice none 0 0, .slice none 0 0] 42)) (.slice a2 2 d2) (([] ++ [(kM, 1)]) ++ [(kP, p)]) ∧ (x3.alloc (.cells #[.string kT, .int .i64 1, .int .i64 t, .string ⟨#[]⟩, .slice none 0 0, .slice none 0 0] 42)).heap[x3.heap.size]? = some (.cells (pC (kT, t)).toArray 42 (0, 0)) ∧ Below w0.heap.size w0 (x3.alloc (.cells #[.string kT, .int .i64 1, .int .i64 t, .string ⟨#[]⟩, .slice none 0 0, .slice none 0 0] 42))) := ⟨(N2.out.1.keep b3).keep hy3, heap_new _ _, hz3.trans (hy3.mono hz3.size)⟩
  clear c0 c1 c2 b3 hz3 hy3
  go_wp2_with (at_builtin; refine append_pair rfl _ _ rfl rfl X3.out.1 x3.heap.size (kT, t) rfl X3.out.2.1 X3.out.2.2.size (by simp) ?_; intro v3 y3 hn3 hb3; obtain ⟨a3, d3, rfl⟩ := hn3.form; obtain ⟨⟨c0, c1, c2⟩, -⟩ := HF.out y3 (X3.out.2.2.trans hb3); have N3 : Hid (NR w0.heap.size y3 (.slice a3 3 d3) ((([] ++ [(kM, 1)]) ++ [(kP, p)]) ++ [(kT, t)]) ∧ Below w0.heap.size w0 y3) := ⟨hn3, X3.out.2.2.trans hb3⟩; clear hn3 hb3; have hR := (HF.out y3 N3.out.2).2; have HRR := Lib.hid hR; have r0 : y3.cell? ⟨H + 1, 0, none⟩ = some (.int .i64 0) := (by simp [World.cell?, hR]); have r1 : y3.cell? ⟨H + 1, 1, none⟩ = some (.int .i64 0) := (by simp [World.cell?, hR]); have r2 : y3.cell? ⟨H + 1, 2, none⟩ = some (.string ⟨#[]⟩) := (by simp [World.cell?, hR]); have r3 : y3.cell? ⟨H + 1, 3, none⟩ = some (.slice none 0 0) := (by simp [World.cell?, hR]); have r4 : y3.cell? ⟨H + 1, 4, none⟩ = some (.slice none 0 0) := (by simp [World.cell?, hR]); have f0 : ∀ j, y3.frozen? ⟨H + 1, j, none⟩ = false := (fun j => by simp [World.frozen?, hR]); have z0 := f0 0; have z1 := f0 1; have z2 := f0 2; have z3 := f0 3; have z4 := f0 4; clear hR f0)
  have HE : Hid (∀ wE, Besides (H + 1) y3 wE → NR H wE (.slice a3 3 d3) (shP 1 p t) ∧ Below H w wE) := fun wE hE => by
    have z := HWS.out
    have zz := B0.out
    refine ⟨?_, ?_⟩
    · have h9 := N3.out.1
      
      exact h9.besides (by omega) (by omega) hE
    · have h9 := zz.trans (N3.out.2.mono (by have := zz.size; have := HS.out; omega))
      have h8 := h9.size
      have h7 := HS.out
      exact ⟨hE.os.trans h9.os, hE.tape.trans h9.tape, hE.output.trans h9.output, Nat.le_trans h9.size hE.size, fun q hq => (hE.block q (by omega) (by omega)).trans (h9.block q hq)⟩
  refine bodyPost_ret (v := .agg #[.int .i64 4, .int .i64 0, .string ⟨#[]⟩, .slice none 0 0, .slice a3 3 d3]) (results_cell_row Tryd.results12 _ _ (H + 1) 35 _ (0, 0) _ rfl (blk_set (blk_set (blk_set (blk_set (blk_set HRR.out 0 _) 1 _) 2 _) 3 _) 4 _) Tryd.underlying35 rfl info35s) rfl ⟨_, rfl, ?_⟩
  rw [HS.out]
  exact HE.out _ (besides5 _ _ _ _ _ _ _)
set_option maxHeartbeats 4000000 in
theorem sheet12_two (k : Int) (p t : Int) (a : Option Addr) (n c : Nat) (w : World) (hk1 : ¬ k = 1) : Calls Tryd.prog 12 #[.agg #[.int .i64 k, .int .i64 p, .int .i64 t, .slice a n c]] w fun e w' => ∃ v', e = .returned (.agg #[.int .i64 4, .int .i64 0, .string ⟨#[]⟩, .slice none 0 0, v']) ∧ NR w.heap.size w' v' (shP k p t) ∧ Below w.heap.size w w' := by
  have B0 : Hid (Below w.heap.size w ((w.alloc (.cells #[.int .i64 k, .int .i64 p, .int .i64 t, .slice a n c] 24)).alloc (.cells #[.int .i64 0, .int .i64 0, .string ⟨#[]⟩, .slice none 0 0, .slice none 0 0] 35))) := ((Below.refl _ _).alloc (Nat.le_refl _) _).alloc (by simp) _
  have HRR : Hid (((w.alloc (.cells #[.int .i64 k, .int .i64 p, .int .i64 t, .slice a n c] 24)).alloc (.cells #[.int .i64 0, .int .i64 0, .string ⟨#[]⟩, .slice none 0 0, .slice none 0 0] 35)).heap[w.heap.size]? = some (.cells #[.int .i64 k, .int .i64 p, .int .i64 t, .slice a n c] 24 (0, 0)) ∧ ((w.alloc (.cells #[.int .i64 k, .int .i64 p, .int .i64 t, .slice a n c] 24)).alloc (.cells #[.int .i64 0, .int .i64 0, .string ⟨#[]⟩, .slice none 0 0, .slice none 0 0] 35)).heap[w.heap.size + 1]? = some (.cells #[.int .i64 0, .int .i64 0, .string ⟨#[]⟩, .slice none 0 0, .slice none 0 0] 35 (0, 0)) ∧ ((w.alloc (.cells #[.int .i64 k, .int .i64 p, .int .i64 t, .slice a n c] 24)).alloc (.cells #[.int .i64 0, .int .i64 0, .string ⟨#[]⟩, .slice none 0 0, .slice none 0 0] 35)).heap.size = w.heap.size + 2) := ⟨(Below.heap_alloc _ _ _ (by simp)).trans (heap_new _ _), by have := heap_new (w.alloc (.cells #[.int .i64 k, .int .i64 p, .int .i64 t, .slice a n c] 24)) (.cells #[.int .i64 0, .int .i64 0, .string ⟨#[]⟩, .slice none 0 0, .slice none 0 0] 35); simpa using this, by simp⟩
  have hq1 : (k == 1) = false := beq_eq_false_iff_ne.2 hk1
  go_enter Tryd.func12, Tryd.ntmps12
  go_upto_region 2 with fail
  have HF : Hid (∀ w', Below ((w.alloc (.cells #[.int .i64 k, .int .i64 p, .int .i64 t, .slice a n c] 24)).alloc (.cells #[.int .i64 0, .int .i64 0, .string ⟨#[]⟩, .slice none 0 0, .slice none 0 0] 35)).heap.size ((w.alloc (.cells #[.int .i64 k, .int .i64 p, .int .i64 t, .slice a n c] 24)).alloc (.cells #[.int .i64 0, .int .i64 0, .string ⟨#[]⟩, .slice none 0 0, .slice none 0 0] 35)) w' → (w'.cell? ⟨w.heap.size, 0, none⟩ = some (.int .i64 k) ∧ w'.cell? ⟨w.heap.size, 1, none⟩ = some (.int .i64 p) ∧ w'.cell? ⟨w.heap.size, 2, none⟩ = some (.int .i64 t)) ∧ w'.heap[w.heap.size + 1]? = some (.cells #[.int .i64 0, .int .i64 0, .string ⟨#[]⟩, .slice none 0 0, .slice none 0 0] 35 (0, 0))) := fun w' hw => by
    have z := HRR.out.2.2
    have e1 : w'.heap[w.heap.size]? = _ := (hw.block _ (by omega)).trans HRR.out.1
    exact ⟨⟨by simp [World.cell?, e1], by simp [World.cell?, e1], by simp [World.cell?, e1]⟩, (hw.block _ (by omega)).trans HRR.out.2.1⟩
  have HWS : Hid (w.heap.size + 2 ≤ ((w.alloc (.cells #[.int .i64 k, .int .i64 p, .int .i64 t, .slice a n c] 24)).alloc (.cells #[.int .i64 0, .int .i64 0, .string ⟨#[]⟩, .slice none 0 0, .slice none 0 0] 35)).heap.size) := by have z := HRR.out.2.2; show _ + 2 ≤ _; omega
  clear HRR
  generalize ((w.alloc (.cells #[.int .i64 k, .int .i64 p, .int .i64 t, .slice a n c] 24)).alloc (.cells #[.int .i64 0, .int .i64 0, .string ⟨#[]⟩, .slice none 0 0, .slice none 0 0] 35)) = w0 at *
  generalize hvb : w.heap.size = H at *
  have HS := Lib.hid hvb
  clear hvb
  obtain ⟨⟨c0, c1, c2⟩, -⟩ := HF.out w0 (Below.refl _ _)
  go_wp2_with fail
  refine (number20 k w0).mono ?_
  rintro e x1 ⟨rfl, b1⟩
  have hz1 : Below w0.heap.size w0 x1 := (Below.refl w0.heap.size w0).trans (b1.mono (Below.refl w0.heap.size w0).size)
  have hy1 : Below x1.heap.size x1 (x1.alloc (.cells #[.string kM, .int .i64 1, .int .i64 k, .string ⟨#[]⟩, .slice none 0 0, .slice none 0 0] 42)) := (Below.refl _ _).alloc (Nat.le_refl _) _
  have X1 : Hid (NR w0.heap.size (x1.alloc (.cells #[.string kM, .int .i64 1, .int .i64 k, .string ⟨#[]⟩, .slice none 0 0, .slice none 0 0] 42)) (.slice none 0 0) [] ∧ (x1.alloc (.cells #[.string kM, .int .i64 1, .int .i64 k, .string ⟨#[]⟩, .slice none 0 0, .slice none 0 0] 42)).heap[x1.heap.size]? = some (.cells (pC (kM, k)).toArray 42 (0, 0)) ∧ Below w0.heap.size w0 (x1.alloc (.cells #[.string kM, .int .i64 1, .int .i64 k, .string ⟨#[]⟩, .slice none 0 0, .slice none 0 0] 42))) := ⟨NR.nil _ _, heap_new _ _, hz1.trans (hy1.mono hz1.size)⟩
  clear c0 c1 c2 b1 hz1 hy1
  go_wp2_with (at_builtin; refine append_pair rfl _ _ rfl rfl X1.out.1 x1.heap.size (kM, k) rfl X1.out.2.1 X1.out.2.2.size (by simp) ?_; intro v1 y1 hn1 hb1; obtain ⟨a1, d1, rfl⟩ := hn1.form; obtain ⟨⟨c0, c1, c2⟩, -⟩ := HF.out y1 (X1.out.2.2.trans hb1); have N1 : Hid (NR w0.heap.size y1 (.slice a1 1 d1) ([] ++ [(kM, k)]) ∧ Below w0.heap.size w0 y1) := ⟨hn1, X1.out.2.2.trans hb1⟩; clear hn1 hb1)
  go_wp2_with fail
  refine (number20 p y1).mono ?_
  rintro e x2 ⟨rfl, b2⟩
  have hz2 : Below w0.heap.size w0 x2 := N1.out.2.trans (b2.mono N1.out.2.size)
  have hy2 : Below x2.heap.size x2 (x2.alloc (.cells #[.string kP, .int .i64 1, .int .i64 p, .string ⟨#[]⟩, .slice none 0 0, .slice none 0 0] 42)) := (Below.refl _ _).alloc (Nat.le_refl _) _
  have X2 : Hid (NR w0.heap.size (x2.alloc (.cells #[.string kP, .int .i64 1, .int .i64 p, .string ⟨#[]⟩, .slice none 0 0, .slice none 0 0] 42)) (.slice a1 1 d1) ([] ++ [(kM, k)]) ∧ (x2.alloc (.cells #[.string kP, .int .i64 1, .int .i64 p, .string ⟨#[]⟩, .slice none 0 0, .slice none 0 0] 42)).heap[x2.heap.size]? = some (.cells (pC (kP, p)).toArray 42 (0, 0)) ∧ Below w0.heap.size w0 (x2.alloc (.cells #[.string kP, .int .i64 1, .int .i64 p, .string ⟨#[]⟩, .slice none 0 0, .slice none 0 0] 42))) := ⟨(N1.out.1.keep b2).keep hy2, heap_new _ _, hz2.trans (hy2.mono hz2.size)⟩
  clear c0 c1 c2 b2 hz2 hy2
  go_wp2_with (at_builtin; refine append_pair rfl _ _ rfl rfl X2.out.1 x2.heap.size (kP, p) rfl X2.out.2.1 X2.out.2.2.size (by simp) ?_; intro v2 y2 hn2 hb2; obtain ⟨a2, d2, rfl⟩ := hn2.form; obtain ⟨⟨c0, c1, c2⟩, -⟩ := HF.out y2 (X2.out.2.2.trans hb2); have N2 : Hid (NR w0.heap.size y2 (.slice a2 2 d2) (([] ++ [(kM, k)]) ++ [(kP, p)]) ∧ Below w0.heap.size w0 y2) := ⟨hn2, X2.out.2.2.trans hb2⟩; clear hn2 hb2; have hR := (HF.out y2 N2.out.2).2; have HRR := Lib.hid hR; have r0 : y2.cell? ⟨H + 1, 0, none⟩ = some (.int .i64 0) := (by simp [World.cell?, hR]); have r1 : y2.cell? ⟨H + 1, 1, none⟩ = some (.int .i64 0) := (by simp [World.cell?, hR]); have r2 : y2.cell? ⟨H + 1, 2, none⟩ = some (.string ⟨#[]⟩) := (by simp [World.cell?, hR]); have r3 : y2.cell? ⟨H + 1, 3, none⟩ = some (.slice none 0 0) := (by simp [World.cell?, hR]); have r4 : y2.cell? ⟨H + 1, 4, none⟩ = some (.slice none 0 0) := (by simp [World.cell?, hR]); have f0 : ∀ j, y2.frozen? ⟨H + 1, j, none⟩ = false := (fun j => by simp [World.frozen?, hR]); have z0 := f0 0; have z1 := f0 1; have z2 := f0 2; have z3 := f0 3; have z4 := f0 4; clear hR f0)
  have HE : Hid (∀ wE, Besides (H + 1) y2 wE → NR H wE (.slice a2 2 d2) (shP k p t) ∧ Below H w wE) := fun wE hE => by
    have z := HWS.out
    have zz := B0.out
    refine ⟨?_, ?_⟩
    · have h9 := N2.out.1
      rw [show shP k p t = [(kM, k), (kP, p)] by unfold shP; rw [if_neg hk1]]
      exact h9.besides (by omega) (by omega) hE
    · have h9 := zz.trans (N2.out.2.mono (by have := zz.size; have := HS.out; omega))
      have h8 := h9.size
      have h7 := HS.out
      exact ⟨hE.os.trans h9.os, hE.tape.trans h9.tape, hE.output.trans h9.output, Nat.le_trans h9.size hE.size, fun q hq => (hE.block q (by omega) (by omega)).trans (h9.block q hq)⟩
  refine bodyPost_ret (v := .agg #[.int .i64 4, .int .i64 0, .string ⟨#[]⟩, .slice none 0 0, .slice a2 2 d2]) (results_cell_row Tryd.results12 _ _ (H + 1) 35 _ (0, 0) _ rfl (blk_set (blk_set (blk_set (blk_set (blk_set HRR.out 0 _) 1 _) 2 _) 3 _) 4 _) Tryd.underlying35 rfl info35s) rfl ⟨_, rfl, ?_⟩
  rw [HS.out]
  exact HE.out _ (besides5 _ _ _ _ _ _ _)
end Go.Proofs.YtegfdeiamnlfhaaDoor
