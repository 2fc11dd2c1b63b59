import Derived.Test.YtegfdeiamnlfhaaDoorSs
namespace Go.Proofs.YtegfdeiamnlfhaaDoor
open Go.RowKit Go.Deep
theorem belowDrewN1 (w : World) : Below w.heap.size w w.drew := ⟨rfl, rfl, rfl, Nat.le_refl _, fun _ _ => rfl⟩
theorem results_cell2 {fn : Func} {p u : Tmp} (h : fn.results = #[.cell p 35, .tmp u]) (tmps : Array Value) (w : World) (g : Nat) (cs : Array Value)
    (hp : tmps.getD p undef = .pointer (some ⟨g, 0, none⟩)) (hg : w.heap[g]? = some (.cells cs 35 (0, 0))) (hc : cs.size = 5) :
    (results fn tmps).run Tryd.prog w = .ok (.tuple #[.agg cs, tmps.getD u undef]) w := by
  rw [results_cell_tmp h, hp]
  have h1 : (asAddr (.pointer (some ⟨g, 0, none⟩))).run Tryd.prog w = .ok ⟨g, 0, none⟩ w := rfl
  rw [h1]
  simp only [Result.andThen]
  rw [run_loadVar_row w g 35 35 cs (0, 0) _ hg Tryd.underlying35 rfl (by rw [info35s, hc])]
theorem below5 {B : Nat} {w w' : World} {g : Nat} (h : Below B w w') (hg : B ≤ g) (c0 c1 c2 c3 c4 : Value) : Below B w (((((w'.setCell ⟨g, 0, none⟩ c0).setCell ⟨g, 1, none⟩ c1).setCell ⟨g, 2, none⟩ c2).setCell ⟨g, 3, none⟩ c3).setCell ⟨g, 4, none⟩ c4) :=
  ((((h.setCell hg _).setCell hg _).setCell hg _).setCell hg _).setCell hg _
theorem NR.mono {B B' : Nat} {w : World} {v : Value} {ps : List (ByteArray × Int)} (h : NR B w v ps) (hb : B' ≤ B) : NR B' w v ps := by
  obtain ⟨h1, h2⟩ := h
  refine ⟨h1, ?_⟩
  rcases h2 with h2 | ⟨g, cap, cur, e1, e2, e3⟩
  · exact .inl h2
  · exact .inr ⟨g, cap, cur, e1, by omega, e3⟩
theorem NR.besides {B B' g : Nat} {w w' : World} {v : Value} {ps : List (ByteArray × Int)} (h : NR B w v ps) (hg : g < B) (hb : B' ≤ B) (hs : Besides g w w') : NR B' w' v ps := by
  obtain ⟨h1, h2⟩ := h
  refine ⟨h1, ?_⟩
  rcases h2 with h2 | ⟨q, cap, cur, e1, e2, e3, e4⟩
  · exact .inl h2
  · exact .inr ⟨q, cap, cur, e1, by omega, (hs.block q (Array.getElem?_eq_some_iff.1 e3).1 (by omega)).trans e3, e4⟩
theorem numberIf_t (key : ByteArray) (n : Int) (w : World) : Calls Tryd.prog 16 #[.bool true, .string key, .int .i64 n] w fun e w' => e = .returned (.agg #[.string key, .int .i64 1, .int .i64 n, .string ⟨#[]⟩, .slice none 0 0, .slice none 0 0]) ∧ Below w.heap.size w w' := numberIf16 true key n w
theorem numberIf_f (key : ByteArray) (n : Int) (w : World) : Calls Tryd.prog 16 #[.bool false, .string key, .int .i64 n] w fun e w' => e = .returned (.agg #[.string key, .int .i64 0, .int .i64 0, .string ⟨#[]⟩, .slice none 0 0, .slice none 0 0]) ∧ Below w.heap.size w w' := numberIf16 false key n w
set_option maxHeartbeats 1000000 in
theorem number20 (n : Int) (w : World) : Calls Tryd.prog 20 #[.int .i64 n] w fun e w' => e = .returned (.agg #[.int .i64 1, .int .i64 n, .string ⟨#[]⟩, .slice none 0 0, .slice none 0 0]) ∧ Below w.heap.size w w' := by
  have HW : Hid (∀ o, Below w.heap.size w (w.alloc o)) := fun _ => (Below.refl _ _).alloc (Nat.le_refl _) _
  go_enter Tryd.func20, Tryd.ntmps20
  go_wp2
  exact bodyPost_ret (v := .agg #[.int .i64 1, .int .i64 n, .string ⟨#[]⟩, .slice none 0 0, .slice none 0 0]) (results_cell_row Tryd.results20 _ _ w.heap.size 35 _ (0, 0) _ rfl (heap_new _ _) Tryd.underlying35 rfl info35s) rfl ⟨rfl, HW.out _⟩
set_option maxHeartbeats 2000000 in
theorem sheetDict_no (k p t : Int) (a : Option Addr) (n c : Nat) (w : World) (hb : shG k p t n = false) : Calls Tryd.prog 9 #[.agg #[.int .i64 k, .int .i64 p, .int .i64 t, .slice a n c]] w fun e w' => e = .returned (.tuple #[.agg #[.int .i64 0, .int .i64 0, .string ⟨#[]⟩, .slice none 0 0, .slice none 0 0], .bool false]) ∧ Below w.heap.size w w' := by
  have HG := Lib.hid (good14 k p t a n c)
  rw [hb] at HG
  have B0 : Hid (Below w.heap.size w ((w.alloc (.cells #[.int .i64 k, .int .i64 p, .int .i64 t, .slice a n c] 24)).alloc (.cells #[.int .i64 0, .int .i64 0, .string ⟨#[]⟩, .slice none 0 0, .slice none 0 0] 35))) := ((Below.refl _ _).alloc (Nat.le_refl _) _).alloc (by simp) _
  have HRR : Hid (((w.alloc (.cells #[.int .i64 k, .int .i64 p, .int .i64 t, .slice a n c] 24)).alloc (.cells #[.int .i64 0, .int .i64 0, .string ⟨#[]⟩, .slice none 0 0, .slice none 0 0] 35)).heap[w.heap.size + 1]? = some (.cells #[.int .i64 0, .int .i64 0, .string ⟨#[]⟩, .slice none 0 0, .slice none 0 0] 35 (0, 0)) ∧ ((w.alloc (.cells #[.int .i64 k, .int .i64 p, .int .i64 t, .slice a n c] 24)).alloc (.cells #[.int .i64 0, .int .i64 0, .string ⟨#[]⟩, .slice none 0 0, .slice none 0 0] 35)).heap.size = w.heap.size + 2) := ⟨by have := heap_new (w.alloc (.cells #[.int .i64 k, .int .i64 p, .int .i64 t, .slice a n c] 24)) (.cells #[.int .i64 0, .int .i64 0, .string ⟨#[]⟩, .slice none 0 0, .slice none 0 0] 35); simpa using this, by simp⟩
  go_enter Tryd.func9, Tryd.ntmps9
  go_wp2_with fail
  refine (HG.out _).mono ?_
  rintro e w1 ⟨rfl, b1⟩
  have hR1 : w1.heap[w.heap.size + 1]? = _ := (b1.block _ (by have := HRR.out.2; omega)).trans HRR.out.1
  have H1 : Hid (Below w.heap.size w w1 ∧ w1.heap[w.heap.size + 1]? = some (.cells #[.int .i64 0, .int .i64 0, .string ⟨#[]⟩, .slice none 0 0, .slice none 0 0] 35 (0, 0))) := ⟨B0.out.trans (b1.mono B0.out.size), hR1⟩
  have r0 : w1.cell? ⟨w.heap.size + 1, 0, none⟩ = some (.int .i64 0) := by simp [World.cell?, hR1]
  have r1 : w1.cell? ⟨w.heap.size + 1, 1, none⟩ = some (.int .i64 0) := by simp [World.cell?, hR1]
  have r2 : w1.cell? ⟨w.heap.size + 1, 2, none⟩ = some (.string ⟨#[]⟩) := by simp [World.cell?, hR1]
  have r3 : w1.cell? ⟨w.heap.size + 1, 3, none⟩ = some (.slice none 0 0) := by simp [World.cell?, hR1]
  have r4 : w1.cell? ⟨w.heap.size + 1, 4, none⟩ = some (.slice none 0 0) := by simp [World.cell?, hR1]
  have f0 : ∀ j, w1.frozen? ⟨w.heap.size + 1, j, none⟩ = false := fun j => by simp [World.frozen?, hR1]
  have z0 := f0 0
  have z1 := f0 1
  have z2 := f0 2
  have z3 := f0 3
  have z4 := f0 4
  clear b1 hR1 HG HRR f0
  generalize hvb : w.heap.size = H at *
  have HS := Lib.hid hvb
  clear hvb
  go_wp2
  refine bodyPost_ret (v := .tuple #[.agg #[.int .i64 0, .int .i64 0, .string ⟨#[]⟩, .slice none 0 0, .slice none 0 0], .bool false]) (results_cell2 Tryd.results9 _ _ (H + 1) _ rfl (blk_set (blk_set (blk_set (blk_set (blk_set H1.out.2 0 _) 1 _) 2 _) 3 _) 4 _) rfl) rfl ⟨rfl, ?_⟩
  exact below5 (by rw [HS.out]; exact H1.out.1) (by rw [HS.out]; omega) _ _ _ _ _
set_option maxHeartbeats 4000000 in
theorem sheetDict_one (p t : Int) (a : Option Addr) (n c : Nat) (w : World) (hb : shG 1 p t n = true) : Calls Tryd.prog 9 #[.agg #[.int .i64 1, .int .i64 p, .int .i64 t, .slice a n c]] w fun e w' => ∃ v', e = .returned (.tuple #[.agg #[.int .i64 4, .int .i64 0, .string ⟨#[]⟩, .slice none 0 0, v'], .bool true]) ∧ NR w.heap.size w' v' (shP 1 p t) ∧ Below w.heap.size w w' := by
  have HG := Lib.hid (good14 1 p t a n c)
  rw [hb] at HG
  have B0 : Hid (Below w.heap.size w ((w.alloc (.cells #[.int .i64 1, .int .i64 p, .int .i64 t, .slice a n c] 24)).alloc (.cells #[.int .i64 0, .int .i64 0, .string ⟨#[]⟩, .slice none 0 0, .slice none 0 0] 35))) := ((Below.refl _ _).alloc (Nat.le_refl _) _).alloc (by simp) _
  have HRR : Hid (((w.alloc (.cells #[.int .i64 1, .int .i64 p, .int .i64 t, .slice a n c] 24)).alloc (.cells #[.int .i64 0, .int .i64 0, .string ⟨#[]⟩, .slice none 0 0, .slice none 0 0] 35)).heap[w.heap.size]? = some (.cells #[.int .i64 1, .int .i64 p, .int .i64 t, .slice a n c] 24 (0, 0)) ∧ ((w.alloc (.cells #[.int .i64 1, .int .i64 p, .int .i64 t, .slice a n c] 24)).alloc (.cells #[.int .i64 0, .int .i64 0, .string ⟨#[]⟩, .slice none 0 0, .slice none 0 0] 35)).heap[w.heap.size + 1]? = some (.cells #[.int .i64 0, .int .i64 0, .string ⟨#[]⟩, .slice none 0 0, .slice none 0 0] 35 (0, 0)) ∧ ((w.alloc (.cells #[.int .i64 1, .int .i64 p, .int .i64 t, .slice a n c] 24)).alloc (.cells #[.int .i64 0, .int .i64 0, .string ⟨#[]⟩, .slice none 0 0, .slice none 0 0] 35)).heap.size = w.heap.size + 2) := ⟨(Below.heap_alloc _ _ _ (by simp)).trans (heap_new _ _), by have := heap_new (w.alloc (.cells #[.int .i64 1, .int .i64 p, .int .i64 t, .slice a n c] 24)) (.cells #[.int .i64 0, .int .i64 0, .string ⟨#[]⟩, .slice none 0 0, .slice none 0 0] 35); simpa using this, by simp⟩
  go_enter Tryd.func9, Tryd.ntmps9
  go_wp2_with fail
  refine (HG.out _).mono ?_
  rintro e w1 ⟨rfl, b1⟩
  have HF : Hid (∀ w', Below w1.heap.size w1 w' → (w'.cell? ⟨w.heap.size, 0, none⟩ = some (.int .i64 1) ∧ w'.cell? ⟨w.heap.size, 1, none⟩ = some (.int .i64 p) ∧ w'.cell? ⟨w.heap.size, 2, none⟩ = some (.int .i64 t)) ∧ w'.heap[w.heap.size + 1]? = some (.cells #[.int .i64 0, .int .i64 0, .string ⟨#[]⟩, .slice none 0 0, .slice none 0 0] 35 (0, 0))) := fun w' hw => by
    have z := HRR.out.2.2
    have zz := b1.size
    have e1 : w'.heap[w.heap.size]? = _ := (hw.block _ (by omega)).trans ((b1.block _ (by omega)).trans HRR.out.1)
    exact ⟨⟨by simp [World.cell?, e1], by simp [World.cell?, e1], by simp [World.cell?, e1]⟩, (hw.block _ (by omega)).trans ((b1.block _ (by omega)).trans HRR.out.2.1)⟩
  have HWS : Hid (w.heap.size + 2 ≤ w1.heap.size) := by have z := HRR.out.2.2; have zz := b1.size; show _ + 2 ≤ _; omega
  have B01 : Hid (Below w.heap.size w w1) := B0.out.trans (b1.mono B0.out.size)
  clear b1 HG HRR B0
  generalize hvb : w.heap.size = H at *
  have HS := Lib.hid hvb
  clear hvb
  go_upto_region 3 with fail
  refine wp_region_held_drew (S := fun x => x.cell? ⟨H, 0, none⟩ = some (.int .i64 1) ∧ x.cell? ⟨H, 1, none⟩ = some (.int .i64 p) ∧ x.cell? ⟨H, 2, none⟩ = some (.int .i64 t)) (by kernel_rfl) ((HF.out _ (belowDrewN1 w1)).1) (fun hHeld => ?_)
  refine wpAnyH_take (i := 0) (v := .pointer (some ⟨H, 0, none⟩)) rfl (by kernel_rfl) (by kernel_rfl) (by kernel_rfl) (fun _ _ _ h => h) (Or.inl ⟨by rfl, fun w hw => by go_simp⟩) hHeld ?_
  simp only [Act.put, List.getElem_toArray, List.getElem_cons_zero, List.setIfInBounds_toArray, List.set_cons_zero, List.set_cons_succ]
  refine wpAnyH_take (i := 1) (v := .int .i64 1) rfl (by kernel_rfl) (by kernel_rfl) (by kernel_rfl) (fun _ _ _ h => h) (Or.inl ⟨by rfl, fun w hw => by obtain ⟨s0, s1, s2⟩ := hw; go_simp⟩) hHeld ?_
  simp only [Act.put, List.getElem_toArray, List.getElem_cons_zero, List.getElem_cons_succ, List.setIfInBounds_toArray, List.set_cons_zero, List.set_cons_succ]
  refine wpAnyH_take (i := 3) (v := .pointer (some ⟨H, 1, none⟩)) rfl (by kernel_rfl) (by kernel_rfl) (by kernel_rfl) (fun _ _ _ h => h) (Or.inl ⟨by rfl, fun w hw => by go_simp⟩) hHeld ?_
  simp only [Act.put, List.getElem_toArray, List.getElem_cons_zero, List.getElem_cons_succ, List.setIfInBounds_toArray, List.set_cons_zero, List.set_cons_succ]
  refine wpAnyH_take (i := 4) (v := .int .i64 p) rfl (by kernel_rfl) (by kernel_rfl) (by kernel_rfl) (fun _ _ _ h => h) (Or.inl ⟨by rfl, fun w hw => by obtain ⟨s0, s1, s2⟩ := hw; go_simp⟩) hHeld ?_
  simp only [Act.put, List.getElem_toArray, List.getElem_cons_zero, List.getElem_cons_succ, List.setIfInBounds_toArray, List.set_cons_zero, List.set_cons_succ]
  refine wpAnyH_take (i := 6) (v := .pointer (some ⟨H, 0, none⟩)) rfl (by kernel_rfl) (by kernel_rfl) (by kernel_rfl) (fun _ _ _ h => h) (Or.inl ⟨by rfl, fun w hw => by go_simp⟩) hHeld ?_
  simp only [Act.put, List.getElem_toArray, List.getElem_cons_zero, List.getElem_cons_succ, List.setIfInBounds_toArray, List.set_cons_zero, List.set_cons_succ]
  refine wpAnyH_take (i := 7) (v := .int .i64 1) rfl (by kernel_rfl) (by kernel_rfl) (by kernel_rfl) (fun _ _ _ h => h) (Or.inl ⟨by rfl, fun w hw => by obtain ⟨s0, s1, s2⟩ := hw; go_simp⟩) hHeld ?_
  simp only [Act.put, List.getElem_toArray, List.getElem_cons_zero, List.getElem_cons_succ, List.setIfInBounds_toArray, List.set_cons_zero, List.set_cons_succ]
  refine wpAnyH_take (i := 8) (v := .bool true) rfl (by kernel_rfl) (by kernel_rfl) (by kernel_rfl) (fun _ _ _ h => h) (Or.inl ⟨by rfl, fun w hw => by go_simp⟩) hHeld ?_
  simp only [Act.put, List.getElem_toArray, List.getElem_cons_zero, List.getElem_cons_succ, List.setIfInBounds_toArray, List.set_cons_zero, List.set_cons_succ]
  refine wpAnyH_take (i := 9) (v := .pointer (some ⟨H, 2, none⟩)) rfl (by kernel_rfl) (by kernel_rfl) (by kernel_rfl) (fun _ _ _ h => h) (Or.inl ⟨by rfl, fun w hw => by go_simp⟩) hHeld ?_
  simp only [Act.put, List.getElem_toArray, List.getElem_cons_zero, List.getElem_cons_succ, List.setIfInBounds_toArray, List.set_cons_zero, List.set_cons_succ]
  refine wpAnyH_take (i := 10) (v := .int .i64 t) rfl (by kernel_rfl) (by kernel_rfl) (by kernel_rfl) (fun _ _ _ h => h) (Or.inl ⟨by rfl, fun w hw => by obtain ⟨s0, s1, s2⟩ := hw; go_simp⟩) hHeld ?_
  simp only [Act.put, List.getElem_toArray, List.getElem_cons_zero, List.getElem_cons_succ, List.setIfInBounds_toArray, List.set_cons_zero, List.set_cons_succ]
  refine wpAnyH_ready (rs := [2]) (by kernel_rfl) (by simp) ?_
  refine AllReadyH.cons (o := _) rfl (fun K hK => ?_) AllReadyH.nil
  go_simp
  refine (numberIf_t kM 1 w1.drew).mono ?_
  rintro e w2 ⟨rfl, b2⟩
  have B2 : Hid (Below w1.heap.size w1 w2) := (belowDrewN1 w1).trans b2
  have hS2 := (HF.out w2 B2.out).1
  clear b2
  go_wp2_with fail
  refine hK.out _ _ hS2 (fun hHeld => ?_)
  clear hK K
  refine wpAnyH_ready (rs := [5]) (by kernel_rfl) (by simp) ?_
  refine AllReadyH.cons (o := _) rfl (fun K hK => ?_) AllReadyH.nil
  go_simp
  refine (numberIf_t kP p w2).mono ?_
  rintro e w3 ⟨rfl, b3⟩
  have B3 : Hid (Below w1.heap.size w1 w3) := B2.out.trans (b3.mono B2.out.size)
  have hS3 := (HF.out w3 B3.out).1
  clear b3
  go_wp2_with fail
  refine hK.out _ _ hS3 (fun hHeld => ?_)
  clear hK K
  refine wpAnyH_ready (rs := [11]) (by kernel_rfl) (by simp) ?_
  refine AllReadyH.cons (o := _) rfl (fun K hK => ?_) AllReadyH.nil
  go_simp
  refine (numberIf_t kT t w3).mono ?_
  rintro e w4 ⟨rfl, b4⟩
  have B4 : Hid (Below w1.heap.size w1 w4) := B3.out.trans (b4.mono B3.out.size)
  have hS4 := (HF.out w4 B4.out).1
  clear b4
  go_wp2_with fail
  refine hK.out _ _ hS4 (fun hHeld => ?_)
  clear hK K
  refine wpAnyH_ready (rs := [12]) (by kernel_rfl) (by simp) ?_
  refine AllReadyH.cons (o := _) rfl (fun K hK => ?_) AllReadyH.nil
  go_simp
  have bz : Below w4.heap.size w4 (w4.alloc (.cells #[.string kM, .int .i64 1, .int .i64 1, .string ⟨#[]⟩, .slice none 0 0, .slice none 0 0, .string kP, .int .i64 1, .int .i64 p, .string ⟨#[]⟩, .slice none 0 0, .slice none 0 0, .string kT, .int .i64 1, .int .i64 t, .string ⟨#[]⟩, .slice none 0 0, .slice none 0 0] 42)) := (Below.refl _ _).alloc (Nat.le_refl _) _
  have B5 : Hid (Below w1.heap.size w1 (w4.alloc (.cells #[.string kM, .int .i64 1, .int .i64 1, .string ⟨#[]⟩, .slice none 0 0, .slice none 0 0, .string kP, .int .i64 1, .int .i64 p, .string ⟨#[]⟩, .slice none 0 0, .slice none 0 0, .string kT, .int .i64 1, .int .i64 t, .string ⟨#[]⟩, .slice none 0 0, .slice none 0 0] 42)) ∧ (w4.alloc (.cells #[.string kM, .int .i64 1, .int .i64 1, .string ⟨#[]⟩, .slice none 0 0, .slice none 0 0, .string kP, .int .i64 1, .int .i64 p, .string ⟨#[]⟩, .slice none 0 0, .slice none 0 0, .string kT, .int .i64 1, .int .i64 t, .string ⟨#[]⟩, .slice none 0 0, .slice none 0 0] 42)).heap[w4.heap.size]? = some (.cells (oCs (shO 1 p t)).toArray 42 (0, 0))) := ⟨B4.out.trans (bz.mono B4.out.size), by exact heap_new _ _⟩
  have hS5 := (HF.out _ B5.out.1).1
  clear bz
  refine hK.out _ _ hS5 (fun hHeld => ?_)
  clear hK K
  have HDD := Lib.hid (dictionary15 (shO 1 p t) w4.heap.size (w4.alloc (.cells #[.string kM, .int .i64 1, .int .i64 1, .string ⟨#[]⟩, .slice none 0 0, .slice none 0 0, .string kP, .int .i64 1, .int .i64 p, .string ⟨#[]⟩, .slice none 0 0, .slice none 0 0, .string kT, .int .i64 1, .int .i64 t, .string ⟨#[]⟩, .slice none 0 0, .slice none 0 0] 42)) B5.out.2 (shO_rise _ _ _) (by simp [shO]))
  refine wpAnyH_ready (rs := [13]) (by kernel_rfl) (by simp) ?_
  refine AllReadyH.cons (o := _) rfl (fun K hK => ?_) AllReadyH.nil
  go_simp
  refine HDD.out.mono ?_
  rintro e w6 ⟨v', rfl, hn6, b6⟩
  obtain ⟨va, vc, rfl⟩ := hn6.form
  rw [shO_tl] at hn6 ⊢
  have B6 : Hid (Below w1.heap.size w1 w6 ∧ NR w1.heap.size w6 (.slice va (shP 1 p t).length vc) (shP 1 p t)) := ⟨B5.out.1.trans (b6.mono B5.out.1.size), hn6.mono B5.out.1.size⟩
  obtain ⟨hS6, hR6⟩ := HF.out w6 B6.out.1
  clear b6 hn6 HDD
  generalize (shP 1 p t).length = tlen at *
  go_wp2_with fail
  refine hK.out _ _ hS6 (fun hHeld => ?_)
  clear hK K
  have r0 : w6.cell? ⟨H + 1, 0, none⟩ = some (.int .i64 0) := by simp [World.cell?, hR6]
  have r1 : w6.cell? ⟨H + 1, 1, none⟩ = some (.int .i64 0) := by simp [World.cell?, hR6]
  have r2 : w6.cell? ⟨H + 1, 2, none⟩ = some (.string ⟨#[]⟩) := by simp [World.cell?, hR6]
  have r3 : w6.cell? ⟨H + 1, 3, none⟩ = some (.slice none 0 0) := by simp [World.cell?, hR6]
  have r4 : w6.cell? ⟨H + 1, 4, none⟩ = some (.slice none 0 0) := by simp [World.cell?, hR6]
  have f0 : ∀ j, w6.frozen? ⟨H + 1, j, none⟩ = false := fun j => by simp [World.frozen?, hR6]
  have z0 := f0 0
  have z1 := f0 1
  have z2 := f0 2
  have z3 := f0 3
  have z4 := f0 4
  clear f0
  have hS7 : (((((w6.setCell ⟨H + 1, 0, none⟩ (.int .i64 4)).setCell ⟨H + 1, 1, none⟩ (.int .i64 0)).setCell ⟨H + 1, 2, none⟩ (.string ⟨#[]⟩)).setCell ⟨H + 1, 3, none⟩ (.slice none 0 0)).setCell ⟨H + 1, 4, none⟩ (.slice va tlen vc)).cell? ⟨H, 0, none⟩ = some (.int .i64 1) ∧ (((((w6.setCell ⟨H + 1, 0, none⟩ (.int .i64 4)).setCell ⟨H + 1, 1, none⟩ (.int .i64 0)).setCell ⟨H + 1, 2, none⟩ (.string ⟨#[]⟩)).setCell ⟨H + 1, 3, none⟩ (.slice none 0 0)).setCell ⟨H + 1, 4, none⟩ (.slice va tlen vc)).cell? ⟨H, 1, none⟩ = some (.int .i64 p) ∧ (((((w6.setCell ⟨H + 1, 0, none⟩ (.int .i64 4)).setCell ⟨H + 1, 1, none⟩ (.int .i64 0)).setCell ⟨H + 1, 2, none⟩ (.string ⟨#[]⟩)).setCell ⟨H + 1, 3, none⟩ (.slice none 0 0)).setCell ⟨H + 1, 4, none⟩ (.slice va tlen vc)).cell? ⟨H, 2, none⟩ = some (.int .i64 t) := by
    have e : (((((w6.setCell ⟨H + 1, 0, none⟩ (.int .i64 4)).setCell ⟨H + 1, 1, none⟩ (.int .i64 0)).setCell ⟨H + 1, 2, none⟩ (.string ⟨#[]⟩)).setCell ⟨H + 1, 3, none⟩ (.slice none 0 0)).setCell ⟨H + 1, 4, none⟩ (.slice va tlen vc)).heap[H]? = w6.heap[H]? := (besides5 w6 (H + 1) _ _ _ _ _).block H (Nat.lt_of_lt_of_le (by have := HWS.out; omega) B6.out.1.size) (by omega)
    exact ⟨(World.cell?_of_block (w := w6) (a := ⟨H, 0, none⟩) e).trans hS6.1, (World.cell?_of_block (w := w6) (a := ⟨H, 1, none⟩) e).trans hS6.2.1, (World.cell?_of_block (w := w6) (a := ⟨H, 2, none⟩) e).trans hS6.2.2⟩
  refine wpAnyH_ready (rs := [14]) (by kernel_rfl) (by simp) ?_
  refine AllReadyH.cons (o := _) rfl (fun K hK => ?_) AllReadyH.nil
  go_simp
  refine hK.out _ _ hS7 (fun hHeld => ?_)
  clear hK K
  refine wpAnyH_ready (rs := [15]) (by kernel_rfl) (by simp) ?_
  refine AllReadyH.cons (o := _) rfl (fun K hK => ?_) AllReadyH.nil
  go_simp
  refine hK.out _ _ hS7 (fun hHeld => ?_)
  clear hK K
  refine wpAnyH_done (by kernel_rfl) ?_ _
  clear hHeld
  clear hS2 hS3 hS4 hS5 hS6 hS7 r0 r1 r2 r3 r4 z0 z1 z2 z3 z4
  go_wp2
  refine bodyPost_ret (v := .tuple #[.agg #[.int .i64 4, .int .i64 0, .string ⟨#[]⟩, .slice none 0 0, .slice va tlen vc], .bool true]) (results_cell2 Tryd.results9 _ _ (H + 1) _ rfl (blk_set (blk_set (blk_set (blk_set (blk_set hR6 0 _) 1 _) 2 _) 3 _) 4 _) rfl) rfl ⟨_, rfl, ?_, ?_⟩
  · exact B6.out.2.besides (by have := HWS.out; omega) (by rw [HS.out]; have := HWS.out; omega) (besides5 _ _ _ _ _ _ _)
  · exact below5 (by rw [HS.out]; exact B01.out.trans (B6.out.1.mono (by have := HWS.out; omega))) (by rw [HS.out]; omega) _ _ _ _ _
set_option maxHeartbeats 4000000 in
theorem sheetDict_two (k : Int) (p t : Int) (a : Option Addr) (n c : Nat) (w : World) (hb : shG k p t n = true) (hk1 : (k == 1) = false) : Calls Tryd.prog 9 #[.agg #[.int .i64 k, .int .i64 p, .int .i64 t, .slice a n c]] w fun e w' => ∃ v', e = .returned (.tuple #[.agg #[.int .i64 4, .int .i64 0, .string ⟨#[]⟩, .slice none 0 0, v'], .bool true]) ∧ NR w.heap.size w' v' (shP k p t) ∧ Below w.heap.size w w' := by
  have HG := Lib.hid (good14 k p t a n c)
  rw [hb] at HG
  have B0 : Hid (Below w.heap.size w ((w.alloc (.cells #[.int .i64 k, .int .i64 p, .int .i64 t, .slice a n c] 24)).alloc (.cells #[.int .i64 0, .int .i64 0, .string ⟨#[]⟩, .slice none 0 0, .slice none 0 0] 35))) := ((Below.refl _ _).alloc (Nat.le_refl _) _).alloc (by simp) _
  have HRR : Hid (((w.alloc (.cells #[.int .i64 k, .int .i64 p, .int .i64 t, .slice a n c] 24)).alloc (.cells #[.int .i64 0, .int .i64 0, .string ⟨#[]⟩, .slice none 0 0, .slice none 0 0] 35)).heap[w.heap.size]? = some (.cells #[.int .i64 k, .int .i64 p, .int .i64 t, .slice a n c] 24 (0, 0)) ∧ ((w.alloc (.cells #[.int .i64 k, .int .i64 p, .int .i64 t, .slice a n c] 24)).alloc (.cells #[.int .i64 0, .int .i64 0, .string ⟨#[]⟩, .slice none 0 0, .slice none 0 0] 35)).heap[w.heap.size + 1]? = some (.cells #[.int .i64 0, .int .i64 0, .string ⟨#[]⟩, .slice none 0 0, .slice none 0 0] 35 (0, 0)) ∧ ((w.alloc (.cells #[.int .i64 k, .int .i64 p, .int .i64 t, .slice a n c] 24)).alloc (.cells #[.int .i64 0, .int .i64 0, .string ⟨#[]⟩, .slice none 0 0, .slice none 0 0] 35)).heap.size = w.heap.size + 2) := ⟨(Below.heap_alloc _ _ _ (by simp)).trans (heap_new _ _), by have := heap_new (w.alloc (.cells #[.int .i64 k, .int .i64 p, .int .i64 t, .slice a n c] 24)) (.cells #[.int .i64 0, .int .i64 0, .string ⟨#[]⟩, .slice none 0 0, .slice none 0 0] 35); simpa using this, by simp⟩
  go_enter Tryd.func9, Tryd.ntmps9
  go_wp2_with fail
  refine (HG.out _).mono ?_
  rintro e w1 ⟨rfl, b1⟩
  have HF : Hid (∀ w', Below w1.heap.size w1 w' → (w'.cell? ⟨w.heap.size, 0, none⟩ = some (.int .i64 k) ∧ w'.cell? ⟨w.heap.size, 1, none⟩ = some (.int .i64 p) ∧ w'.cell? ⟨w.heap.size, 2, none⟩ = some (.int .i64 t)) ∧ w'.heap[w.heap.size + 1]? = some (.cells #[.int .i64 0, .int .i64 0, .string ⟨#[]⟩, .slice none 0 0, .slice none 0 0] 35 (0, 0))) := fun w' hw => by
    have z := HRR.out.2.2
    have zz := b1.size
    have e1 : w'.heap[w.heap.size]? = _ := (hw.block _ (by omega)).trans ((b1.block _ (by omega)).trans HRR.out.1)
    exact ⟨⟨by simp [World.cell?, e1], by simp [World.cell?, e1], by simp [World.cell?, e1]⟩, (hw.block _ (by omega)).trans ((b1.block _ (by omega)).trans HRR.out.2.1)⟩
  have HWS : Hid (w.heap.size + 2 ≤ w1.heap.size) := by have z := HRR.out.2.2; have zz := b1.size; show _ + 2 ≤ _; omega
  have B01 : Hid (Below w.heap.size w w1) := B0.out.trans (b1.mono B0.out.size)
  clear b1 HG HRR B0
  generalize hvb : w.heap.size = H at *
  have HS := Lib.hid hvb
  clear hvb
  go_upto_region 3 with fail
  refine wp_region_held_drew (S := fun x => x.cell? ⟨H, 0, none⟩ = some (.int .i64 k) ∧ x.cell? ⟨H, 1, none⟩ = some (.int .i64 p) ∧ x.cell? ⟨H, 2, none⟩ = some (.int .i64 t)) (by kernel_rfl) ((HF.out _ (belowDrewN1 w1)).1) (fun hHeld => ?_)
  refine wpAnyH_take (i := 0) (v := .pointer (some ⟨H, 0, none⟩)) rfl (by kernel_rfl) (by kernel_rfl) (by kernel_rfl) (fun _ _ _ h => h) (Or.inl ⟨by rfl, fun w hw => by go_simp⟩) hHeld ?_
  simp only [Act.put, List.getElem_toArray, List.getElem_cons_zero, List.setIfInBounds_toArray, List.set_cons_zero, List.set_cons_succ]
  refine wpAnyH_take (i := 1) (v := .int .i64 k) rfl (by kernel_rfl) (by kernel_rfl) (by kernel_rfl) (fun _ _ _ h => h) (Or.inl ⟨by rfl, fun w hw => by obtain ⟨s0, s1, s2⟩ := hw; go_simp⟩) hHeld ?_
  simp only [Act.put, List.getElem_toArray, List.getElem_cons_zero, List.getElem_cons_succ, List.setIfInBounds_toArray, List.set_cons_zero, List.set_cons_succ]
  refine wpAnyH_take (i := 3) (v := .pointer (some ⟨H, 1, none⟩)) rfl (by kernel_rfl) (by kernel_rfl) (by kernel_rfl) (fun _ _ _ h => h) (Or.inl ⟨by rfl, fun w hw => by go_simp⟩) hHeld ?_
  simp only [Act.put, List.getElem_toArray, List.getElem_cons_zero, List.getElem_cons_succ, List.setIfInBounds_toArray, List.set_cons_zero, List.set_cons_succ]
  refine wpAnyH_take (i := 4) (v := .int .i64 p) rfl (by kernel_rfl) (by kernel_rfl) (by kernel_rfl) (fun _ _ _ h => h) (Or.inl ⟨by rfl, fun w hw => by obtain ⟨s0, s1, s2⟩ := hw; go_simp⟩) hHeld ?_
  simp only [Act.put, List.getElem_toArray, List.getElem_cons_zero, List.getElem_cons_succ, List.setIfInBounds_toArray, List.set_cons_zero, List.set_cons_succ]
  refine wpAnyH_take (i := 6) (v := .pointer (some ⟨H, 0, none⟩)) rfl (by kernel_rfl) (by kernel_rfl) (by kernel_rfl) (fun _ _ _ h => h) (Or.inl ⟨by rfl, fun w hw => by go_simp⟩) hHeld ?_
  simp only [Act.put, List.getElem_toArray, List.getElem_cons_zero, List.getElem_cons_succ, List.setIfInBounds_toArray, List.set_cons_zero, List.set_cons_succ]
  refine wpAnyH_take (i := 7) (v := .int .i64 k) rfl (by kernel_rfl) (by kernel_rfl) (by kernel_rfl) (fun _ _ _ h => h) (Or.inl ⟨by rfl, fun w hw => by obtain ⟨s0, s1, s2⟩ := hw; go_simp⟩) hHeld ?_
  simp only [Act.put, List.getElem_toArray, List.getElem_cons_zero, List.getElem_cons_succ, List.setIfInBounds_toArray, List.set_cons_zero, List.set_cons_succ]
  refine wpAnyH_take (i := 8) (v := .bool false) rfl (by kernel_rfl) (by kernel_rfl) (by kernel_rfl) (fun _ _ _ h => h) (Or.inl ⟨by rfl, fun w hw => by go_simp⟩) hHeld ?_
  simp only [Act.put, List.getElem_toArray, List.getElem_cons_zero, List.getElem_cons_succ, List.setIfInBounds_toArray, List.set_cons_zero, List.set_cons_succ]
  refine wpAnyH_take (i := 9) (v := .pointer (some ⟨H, 2, none⟩)) rfl (by kernel_rfl) (by kernel_rfl) (by kernel_rfl) (fun _ _ _ h => h) (Or.inl ⟨by rfl, fun w hw => by go_simp⟩) hHeld ?_
  simp only [Act.put, List.getElem_toArray, List.getElem_cons_zero, List.getElem_cons_succ, List.setIfInBounds_toArray, List.set_cons_zero, List.set_cons_succ]
  refine wpAnyH_take (i := 10) (v := .int .i64 t) rfl (by kernel_rfl) (by kernel_rfl) (by kernel_rfl) (fun _ _ _ h => h) (Or.inl ⟨by rfl, fun w hw => by obtain ⟨s0, s1, s2⟩ := hw; go_simp⟩) hHeld ?_
  simp only [Act.put, List.getElem_toArray, List.getElem_cons_zero, List.getElem_cons_succ, List.setIfInBounds_toArray, List.set_cons_zero, List.set_cons_succ]
  refine wpAnyH_ready (rs := [2]) (by kernel_rfl) (by simp) ?_
  refine AllReadyH.cons (o := _) rfl (fun K hK => ?_) AllReadyH.nil
  go_simp
  refine (numberIf_t kM k w1.drew).mono ?_
  rintro e w2 ⟨rfl, b2⟩
  have B2 : Hid (Below w1.heap.size w1 w2) := (belowDrewN1 w1).trans b2
  have hS2 := (HF.out w2 B2.out).1
  clear b2
  go_wp2_with fail
  refine hK.out _ _ hS2 (fun hHeld => ?_)
  clear hK K
  refine wpAnyH_ready (rs := [5]) (by kernel_rfl) (by simp) ?_
  refine AllReadyH.cons (o := _) rfl (fun K hK => ?_) AllReadyH.nil
  go_simp
  refine (numberIf_t kP p w2).mono ?_
  rintro e w3 ⟨rfl, b3⟩
  have B3 : Hid (Below w1.heap.size w1 w3) := B2.out.trans (b3.mono B2.out.size)
  have hS3 := (HF.out w3 B3.out).1
  clear b3
  go_wp2_with fail
  refine hK.out _ _ hS3 (fun hHeld => ?_)
  clear hK K
  refine wpAnyH_ready (rs := [11]) (by kernel_rfl) (by simp) ?_
  refine AllReadyH.cons (o := _) rfl (fun K hK => ?_) AllReadyH.nil
  go_simp
  refine (numberIf_f kT t w3).mono ?_
  rintro e w4 ⟨rfl, b4⟩
  have B4 : Hid (Below w1.heap.size w1 w4) := B3.out.trans (b4.mono B3.out.size)
  have hS4 := (HF.out w4 B4.out).1
  clear b4
  go_wp2_with fail
  refine hK.out _ _ hS4 (fun hHeld => ?_)
  clear hK K
  refine wpAnyH_ready (rs := [12]) (by kernel_rfl) (by simp) ?_
  refine AllReadyH.cons (o := _) rfl (fun K hK => ?_) AllReadyH.nil
  go_simp
  have bz : Below w4.heap.size w4 (w4.alloc (.cells #[.string kM, .int .i64 1, .int .i64 k, .string ⟨#[]⟩, .slice none 0 0, .slice none 0 0, .string kP, .int .i64 1, .int .i64 p, .string ⟨#[]⟩, .slice none 0 0, .slice none 0 0, .string kT, .int .i64 0, .int .i64 0, .string ⟨#[]⟩, .slice none 0 0, .slice none 0 0] 42)) := (Below.refl _ _).alloc (Nat.le_refl _) _
  have B5 : Hid (Below w1.heap.size w1 (w4.alloc (.cells #[.string kM, .int .i64 1, .int .i64 k, .string ⟨#[]⟩, .slice none 0 0, .slice none 0 0, .string kP, .int .i64 1, .int .i64 p, .string ⟨#[]⟩, .slice none 0 0, .slice none 0 0, .string kT, .int .i64 0, .int .i64 0, .string ⟨#[]⟩, .slice none 0 0, .slice none 0 0] 42)) ∧ (w4.alloc (.cells #[.string kM, .int .i64 1, .int .i64 k, .string ⟨#[]⟩, .slice none 0 0, .slice none 0 0, .string kP, .int .i64 1, .int .i64 p, .string ⟨#[]⟩, .slice none 0 0, .slice none 0 0, .string kT, .int .i64 0, .int .i64 0, .string ⟨#[]⟩, .slice none 0 0, .slice none 0 0] 42)).heap[w4.heap.size]? = some (.cells (oCs (shO k p t)).toArray 42 (0, 0))) := ⟨B4.out.trans (bz.mono B4.out.size), by rw [show (oCs (shO k p t)).toArray = #[.string kM, .int .i64 1, .int .i64 k, .string ⟨#[]⟩, .slice none 0 0, .slice none 0 0, .string kP, .int .i64 1, .int .i64 p, .string ⟨#[]⟩, .slice none 0 0, .slice none 0 0, .string kT, .int .i64 0, .int .i64 0, .string ⟨#[]⟩, .slice none 0 0, .slice none 0 0] by simp [oCs, shO, oC, pC, hk1]]; exact heap_new _ _⟩
  have hS5 := (HF.out _ B5.out.1).1
  clear bz
  refine hK.out _ _ hS5 (fun hHeld => ?_)
  clear hK K
  have HDD := Lib.hid (dictionary15 (shO k p t) w4.heap.size (w4.alloc (.cells #[.string kM, .int .i64 1, .int .i64 k, .string ⟨#[]⟩, .slice none 0 0, .slice none 0 0, .string kP, .int .i64 1, .int .i64 p, .string ⟨#[]⟩, .slice none 0 0, .slice none 0 0, .string kT, .int .i64 0, .int .i64 0, .string ⟨#[]⟩, .slice none 0 0, .slice none 0 0] 42)) B5.out.2 (shO_rise _ _ _) (by simp [shO]))
  refine wpAnyH_ready (rs := [13]) (by kernel_rfl) (by simp) ?_
  refine AllReadyH.cons (o := _) rfl (fun K hK => ?_) AllReadyH.nil
  go_simp
  refine HDD.out.mono ?_
  rintro e w6 ⟨v', rfl, hn6, b6⟩
  obtain ⟨va, vc, rfl⟩ := hn6.form
  rw [shO_tl] at hn6 ⊢
  have B6 : Hid (Below w1.heap.size w1 w6 ∧ NR w1.heap.size w6 (.slice va (shP k p t).length vc) (shP k p t)) := ⟨B5.out.1.trans (b6.mono B5.out.1.size), hn6.mono B5.out.1.size⟩
  obtain ⟨hS6, hR6⟩ := HF.out w6 B6.out.1
  clear b6 hn6 HDD
  generalize (shP k p t).length = tlen at *
  go_wp2_with fail
  refine hK.out _ _ hS6 (fun hHeld => ?_)
  clear hK K
  have r0 : w6.cell? ⟨H + 1, 0, none⟩ = some (.int .i64 0) := by simp [World.cell?, hR6]
  have r1 : w6.cell? ⟨H + 1, 1, none⟩ = some (.int .i64 0) := by simp [World.cell?, hR6]
  have r2 : w6.cell? ⟨H + 1, 2, none⟩ = some (.string ⟨#[]⟩) := by simp [World.cell?, hR6]
  have r3 : w6.cell? ⟨H + 1, 3, none⟩ = some (.slice none 0 0) := by simp [World.cell?, hR6]
  have r4 : w6.cell? ⟨H + 1, 4, none⟩ = some (.slice none 0 0) := by simp [World.cell?, hR6]
  have f0 : ∀ j, w6.frozen? ⟨H + 1, j, none⟩ = false := fun j => by simp [World.frozen?, hR6]
  have z0 := f0 0
  have z1 := f0 1
  have z2 := f0 2
  have z3 := f0 3
  have z4 := f0 4
  clear f0
  have hS7 : (((((w6.setCell ⟨H + 1, 0, none⟩ (.int .i64 4)).setCell ⟨H + 1, 1, none⟩ (.int .i64 0)).setCell ⟨H + 1, 2, none⟩ (.string ⟨#[]⟩)).setCell ⟨H + 1, 3, none⟩ (.slice none 0 0)).setCell ⟨H + 1, 4, none⟩ (.slice va tlen vc)).cell? ⟨H, 0, none⟩ = some (.int .i64 k) ∧ (((((w6.setCell ⟨H + 1, 0, none⟩ (.int .i64 4)).setCell ⟨H + 1, 1, none⟩ (.int .i64 0)).setCell ⟨H + 1, 2, none⟩ (.string ⟨#[]⟩)).setCell ⟨H + 1, 3, none⟩ (.slice none 0 0)).setCell ⟨H + 1, 4, none⟩ (.slice va tlen vc)).cell? ⟨H, 1, none⟩ = some (.int .i64 p) ∧ (((((w6.setCell ⟨H + 1, 0, none⟩ (.int .i64 4)).setCell ⟨H + 1, 1, none⟩ (.int .i64 0)).setCell ⟨H + 1, 2, none⟩ (.string ⟨#[]⟩)).setCell ⟨H + 1, 3, none⟩ (.slice none 0 0)).setCell ⟨H + 1, 4, none⟩ (.slice va tlen vc)).cell? ⟨H, 2, none⟩ = some (.int .i64 t) := by
    have e : (((((w6.setCell ⟨H + 1, 0, none⟩ (.int .i64 4)).setCell ⟨H + 1, 1, none⟩ (.int .i64 0)).setCell ⟨H + 1, 2, none⟩ (.string ⟨#[]⟩)).setCell ⟨H + 1, 3, none⟩ (.slice none 0 0)).setCell ⟨H + 1, 4, none⟩ (.slice va tlen vc)).heap[H]? = w6.heap[H]? := (besides5 w6 (H + 1) _ _ _ _ _).block H (Nat.lt_of_lt_of_le (by have := HWS.out; omega) B6.out.1.size) (by omega)
    exact ⟨(World.cell?_of_block (w := w6) (a := ⟨H, 0, none⟩) e).trans hS6.1, (World.cell?_of_block (w := w6) (a := ⟨H, 1, none⟩) e).trans hS6.2.1, (World.cell?_of_block (w := w6) (a := ⟨H, 2, none⟩) e).trans hS6.2.2⟩
  refine wpAnyH_ready (rs := [14]) (by kernel_rfl) (by simp) ?_
  refine AllReadyH.cons (o := _) rfl (fun K hK => ?_) AllReadyH.nil
  go_simp
  refine hK.out _ _ hS7 (fun hHeld => ?_)
  clear hK K
  refine wpAnyH_ready (rs := [15]) (by kernel_rfl) (by simp) ?_
  refine AllReadyH.cons (o := _) rfl (fun K hK => ?_) AllReadyH.nil
  go_simp
  refine hK.out _ _ hS7 (fun hHeld => ?_)
  clear hK K
  refine wpAnyH_done (by kernel_rfl) ?_ _
  clear hHeld
  clear hS2 hS3 hS4 hS5 hS6 hS7 r0 r1 r2 r3 r4 z0 z1 z2 z3 z4
  go_wp2
  refine bodyPost_ret (v := .tuple #[.agg #[.int .i64 4, .int .i64 0, .string ⟨#[]⟩, .slice none 0 0, .slice va tlen vc], .bool true]) (results_cell2 Tryd.results9 _ _ (H + 1) _ rfl (blk_set (blk_set (blk_set (blk_set (blk_set hR6 0 _) 1 _) 2 _) 3 _) 4 _) rfl) rfl ⟨_, rfl, ?_, ?_⟩
  · exact B6.out.2.besides (by have := HWS.out; omega) (by rw [HS.out]; have := HWS.out; omega) (besides5 _ _ _ _ _ _ _)
  · exact below5 (by rw [HS.out]; exact B01.out.trans (B6.out.1.mono (by have := HWS.out; omega))) (by rw [HS.out]; omega) _ _ _ _ _
end Go.Proofs.YtegfdeiamnlfhaaDoor
