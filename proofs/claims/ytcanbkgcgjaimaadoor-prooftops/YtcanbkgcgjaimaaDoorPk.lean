import Derived.Test.YtcanbkgcgjaimaaDoorPj
namespace Go.Proofs.YtcanbkgcgjaimaaDoor
open Go.ChangeShapes Go.WideShapes Go.ChangeAt Go.RowKit Go.Joins
set_option maxHeartbeats 1000000 in
theorem walk4 {cs : Array Value} {b i l p : Int} (q : QF cs b i l p) (n low : Int) (w : World) (h : TZ w) :
    Calls Tryd.prog 4 #[.int .i64 n, .int .i64 low, .agg cs] w fun e w' => e = .returned (.bool true) ∧ Below w.heap.size w w' := by
  have hi := q.info
  have A := top7 q n low (w.alloc (Obj.cells cs 25)) (h.keep ((Below.refl _ _).alloc (Nat.le_refl _) _))
  have B := top8 q n low
  clear q h
  go_enter Tryd.func4, Tryd.ntmps4
  go_wp2_with (first | (refine wpList_load_row rfl 25 _ rfl w.heap.size rfl 25 cs (0, 0) _ (heap_alloc_last w _) Tryd.underlying25 rfl hi ?_))
  refine A.mono ?_
  rintro e w1 ⟨lv, pl, er, rfl, h1, b1⟩
  have hh : w1.heap[w.heap.size]? = some (Obj.cells cs 25) := (b1.block _ (by simp)).trans (heap_alloc_last w _)
  have B1 := ((Below.refl w.heap.size w).alloc (Nat.le_refl _) (Obj.cells cs 25)).trans (b1.mono (by simp))
  have E1 : Hid (TP n low b i l p lv pl er) := h1
  clear h1 b1 A
  go_wp2_with (first | (refine wpList_load_row rfl 25 _ rfl w.heap.size rfl 25 cs (0, 0) _ hh Tryd.underlying25 rfl hi ?_))
  refine (B _).mono ?_
  rintro e w2 ⟨lv2, pl2, er2, rfl, h2, b2⟩
  obtain ⟨rfl, rfl, rfl⟩ := E1.out.unique h2
  have B2 := B1.trans (b2.mono B1.size)
  clear h2 b2 B E1 hh
  go_wp2
  go_ret
  exact ⟨by simp, B2⟩
set_option maxRecDepth 100000 in
theorem proofTops_lifted (os : Os) (started : os.Started) (H : Type) (enc : TypeId × Value → H) :
    ReturnsInHanded {} Tryd.checked os 4 .any (fun w args => (Rows.proofTopsSpec.pre enc Tryd.prog Tryd.f4 Rows.proofTopsRow.domain false w args ∧ laidMetH Tryd.prog Rows.proofTopsRow.laid w) ∧ sizedMet enc Tryd.prog Tryd.f4 (OpenSpec.ofChange Rows.proofTopsSpec) false w args)
      (Rows.proofTopsSpec.post enc Tryd.prog Tryd.f4 false true false false) := by
  refine returnsInHanded_of_change_and (C := Tryd.checked) (X := fun w _ => laidMetH Tryd.prog Rows.proofTopsRow.laid w) (fun _ _ _ hh h => h.of_heap hh) ownKn started (by kernel_rfl) Tryd.func4
    (ChangeSpec.witness_shaped (enc := enc) (C := Tryd.checked) (os := os) (X := fun w _ => laidMetH Tryd.prog Rows.proofTopsRow.laid w) false (World.laidAll Tryd.prog os Rows.proofTopsRow.laid) #[.int .i64 0, .int .i64 0, .agg #[.int .u8 0, .int .u8 0, .int .u8 0, .int .u8 0, .int .u8 0, .int .u8 0, .int .u8 0, .int .u8 0, .int .u8 0, .int .u8 0, .int .u8 0, .int .u8 0, .int .u8 0, .int .u8 0, .int .u8 0, .int .u8 0, .int .u8 0, .int .u8 0, .int .u8 0, .int .u8 0, .int .u8 0, .int .u8 0, .int .u8 0, .int .u8 0, .int .u8 0, .int .u8 0, .int .u8 0, .int .u8 0, .int .u8 0, .int .u8 0, .int .u8 0, .int .u8 0, .int .i64 0, .int .i64 0, .int .i64 0, .int .i64 0]] 8 (World.laidAll_os _ _ _)
      (World.shaped_of_ZipB (by kernel_rfl) (by kernel_rfl)) (by kernel_rfl) (by kernel_rfl) (by kernel_rfl)
      (by rw [MakeChecks.laidMetH_plain _ _ _ (by kernel_rfl)]; exact laidMet_laidAll _ (by kernel_rfl) (by kernel_rfl))) ?_
  intro W base args ds gs before hval0 hW hcnd hsz0 hL _
  have hval : ∀ (j : Nat) t v, Tryd.f4.params[j]? = some t → args[j]? = some v → Value.okWide Tryd.prog W .any base t v := hval0
  have hT : TZ W := by
    have hL2 : laidMetH Tryd.prog Rows.proofTopsRow.laid W := hL
    rw [MakeChecks.laidMetH_plain _ _ _ (by kernel_rfl)] at hL2
    exact tab_of_laid hL2
  have hW' := hW
  obtain ⟨p, q, hA0, hV, rfl, _, _⟩ := hW
  have hA : DataW.TrodAll enc Tryd.prog W 0 (fun _ => true) true Tryd.f4.params.toList args.toList ds p := hA0
  rw [Tryd.params4] at hA hval
  obtain ⟨v0, v1, v2, d0, d1, d2, p0, p1, p2, rfl, rfl, rfl, h0, h1, h2⟩ := trodAll_three hA
  obtain ⟨rfl, rfl⟩ := trodVars_none hV
  have h2k := h2
  obtain ⟨a0, rfl, rfl, rfl, wa0⟩ := open_int Tryd.underlying3 (hval 0 3 v0 rfl rfl) h0
  obtain ⟨a1, rfl, rfl, rfl, wa1⟩ := open_int Tryd.underlying3 (hval 1 3 v1 rfl rfl) h1
  obtain ⟨cs, b, i, l, m, rfl, hq, _, _, _, _⟩ := openQuery (hval 2 25 v2 rfl rfl) h2
  clear hA0 hval0
  simp only [List.append_nil] at hW'
  refine (walk4 hq a0 a1 W hT).mono fun e W' ⟨he, bel⟩ => ?_
  subst he
  exact ⟨_, rfl, _, _, _, [], _, [], hW', trodAll_mk1 (shut_bool Tryd.underlying4 _), trodAll_mk3 (shut_int Tryd.underlying3 wa0) (shut_int Tryd.underlying3 wa1) (Below.trod laidO (by kernel_rfl) (of_decide_eq_true (by kernel_rfl)) h2k bel (trodLt h2k)), rfl, bel.frame _, fun h => by cases h⟩
theorem proofTops_holds : Rows.ProofTopsSaid :=
  OpenClaim.holds_of_wide 4 Tryd.f4 rfl rfl rfl rfl rfl rfl rfl ⟨rfl, rfl, rfl, rfl, rfl⟩ rfl rfl rfl rfl rfl (by kernel_rfl) Tryd.func4 (by kernel_rfl)
    (of_decide_eq_true (by kernel_rfl)) (by unfold Func.isWrapper; first | (rw [if_pos (by decide +kernel)]; kernel_rfl) | (rw [if_neg (by decide +kernel)]; exact ⟨rfl, rfl⟩))
    (fun os started H enc _ => proofTops_lifted os started H enc)
theorem proofTops_card_holds : Rows.ProofTopsCardSaid :=
  Claim7.holds_tied_plain_at .later [] [.data, .data] true (true, "faff52566629f4a38accfa1e2980389dd1fe74299110f41a4eb154e898f49c50") false proofTops_holds (fun _ h => by cases h) (by kernel_rfl) (fun _ h => by cases h) proofTops_row_tie rfl ⟨rfl, rfl⟩ (by kernel_rfl) rfl
    (fun f fn hf hfn => by
      obtain rfl : f = 4 := Option.some.inj ((show Tryd.prog.funcNamed "torrent/torrentlaw7.ProofTops" = some 4 by kernel_rfl).symm.trans hf) |>.symm
      obtain rfl : fn = Tryd.f4 := (Option.some.inj (Tryd.func4.symm.trans hfn)).symm
      exact ⟨by kernel_rfl, fun j t ht => by
        rw [Tryd.params4] at ht
        have hm : t ∈ [3, 3, 25] := by simpa using Array.mem_of_getElem? ht
        have hall : ([3, 3, 25].all fun u => !Tryd.prog.wantsStandIn u) = true := by kernel_rfl
        exact (show Tryd.prog.wantsStandIn t = false by simpa using List.all_eq_true.1 hall t hm)⟩)
    (by kernel_rfl)
#print axioms proofTops_card_holds
end Go.Proofs.YtcanbkgcgjaimaaDoor
