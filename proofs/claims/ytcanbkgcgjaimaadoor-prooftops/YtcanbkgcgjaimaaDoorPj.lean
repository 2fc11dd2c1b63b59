import Derived.Test.YtcanbkgcgjaimaaDoorPi
import Derived.Test.YtcanbkgcgjaimaaDoorTie
import Derived.Test.YtcanbkgcgjaimaaDoorCards
import Derived.LaidMore
import Derived.Lay
import Derived.SevenTiedAt
import Derived.Stop.Joined
import Derived.Stop.LaidErr
import Derived.Lib.LaidTab
namespace Go.Proofs.YtcanbkgcgjaimaaDoor
open Go.ChangeShapes Go.WideShapes Go.ChangeAt Go.RowKit Go.Joins
def tab64 : List Int := [0, 1, 56, 2, 57, 49, 28, 3, 61, 58, 42, 50, 38, 29, 17, 4, 62, 47, 59, 36, 45, 43, 51, 22, 53, 39, 33, 30, 24, 18, 12, 5, 63, 55, 48, 27, 60, 41, 37, 16, 46, 35, 44, 21, 52, 32, 23, 11, 54, 26, 40, 15, 34, 20, 31, 10, 25, 14, 19, 9, 13, 8, 7, 6]
theorem var64 {W : World} (h : Lib.TabIs Tryd.prog W "math/bits.deBruijn64tab" .u8 tab64) : TZ W := by
  have hn : Tryd.prog.globalNamed "math/bits.deBruijn64tab" = some 1 := by kernel_rfl
  unfold Lib.TabIs World.var? at h
  rw [hn] at h
  obtain ⟨cs, t, fr, hh⟩ : ∃ cs t fr, W.heap[1]? = some (.cells cs t fr) := by
    cases hq : W.heap[1]? with
    | none => simp [hq] at h
    | some o =>
      cases o with
      | cells cs t fr => exact ⟨cs, t, fr, rfl⟩
      | _ => simp [hq] at h
  have e : cs = (tab64.map fun z => Value.int .u8 z).toArray := by simpa [hh] using h
  subst e
  have L : 1 < W.heap.size := by
    rcases Nat.lt_or_ge 1 W.heap.size with g | g
    · exact g
    · rw [Array.getElem?_eq_none g] at hh; cases hh
  have K := fun j => cell_of_row W 1 j _ t fr hh
  exact ⟨L, (K 1).trans rfl, (K 3).trans rfl, (K 7).trans rfl, (K 15).trans rfl, (K 31).trans rfl, (K 63).trans rfl, (K 62).trans rfl, (K 61).trans rfl, (K 59).trans rfl⟩
theorem tab_of_laid {W : World} {r : List (String × DataW Unit)} (h : laidMet Tryd.prog (("math/bits.deBruijn32tab", Rows.laid_math_bits_deBruijn32tab) :: ("math/bits.deBruijn64tab", Rows.laid_math_bits_deBruijn64tab) :: r) W) : TZ W :=
  var64 (Lib.tabIs_of_head (g := 1) (t := 45) (e := 5) (n := 64) (by kernel_rfl) (by kernel_rfl) (by kernel_rfl) (by kernel_rfl) (by kernel_rfl) (by kernel_rfl) (laidMet.tail h))
set_option maxHeartbeats 1000000 in
theorem walk3 {cs : Array Value} {b i l p : Int} (q : QF cs b i l p) (w : World) (h : TZ w) :
    Calls Tryd.prog 3 #[.agg cs] w fun e w' => e = .returned (.bool true) ∧ Below w.heap.size w w' := by
  have hi := q.info
  have A := amount5 q (w.alloc (Obj.cells cs 25)) (h.keep ((Below.refl _ _).alloc (Nat.le_refl _) _))
  have B := amount6 q
  clear q h
  go_enter Tryd.func3, Tryd.ntmps3
  go_wp2_with (first | (refine wpList_load_row rfl 25 _ rfl w.heap.size rfl 25 cs (0, 0) _ (heap_alloc_last w _) Tryd.underlying25 rfl hi ?_))
  refine A.mono ?_
  rintro e w1 ⟨n, er, rfl, h1, b1⟩
  have hh : w1.heap[w.heap.size]? = some (Obj.cells cs 25) := (b1.block _ (by simp)).trans (heap_alloc_last w _)
  have B1 := ((Below.refl w.heap.size w).alloc (Nat.le_refl _) (Obj.cells cs 25)).trans (b1.mono (by simp))
  have E1 : Hid (AM b i l p n er) := h1
  clear h1 b1 A
  go_wp2_with (first | (refine wpList_load_row rfl 25 _ rfl w.heap.size rfl 25 cs (0, 0) _ hh Tryd.underlying25 rfl hi ?_))
  refine (B _).mono ?_
  rintro e w2 ⟨n2, er2, rfl, h2, b2⟩
  obtain ⟨rfl, rfl⟩ := E1.out.unique h2
  have B2 := B1.trans (b2.mono B1.size)
  clear h2 b2 B E1 hh
  go_wp2
  go_ret
  exact ⟨by simp, B2⟩
set_option maxRecDepth 100000 in
theorem proofAmounts_lifted (os : Os) (started : os.Started) (H : Type) (enc : TypeId × Value → H) :
    ReturnsInHanded {} Tryd.checked os 3 .any (fun w args => (Rows.proofAmountsSpec.pre enc Tryd.prog Tryd.f3 Rows.proofAmountsRow.domain false w args ∧ laidMetH Tryd.prog Rows.proofAmountsRow.laid w) ∧ sizedMet enc Tryd.prog Tryd.f3 (OpenSpec.ofChange Rows.proofAmountsSpec) false w args)
      (Rows.proofAmountsSpec.post enc Tryd.prog Tryd.f3 false true false false) := by
  refine returnsInHanded_of_change_and (C := Tryd.checked) (X := fun w _ => laidMetH Tryd.prog Rows.proofAmountsRow.laid w) (fun _ _ _ hh h => h.of_heap hh) ownKn started (by kernel_rfl) Tryd.func3
    (ChangeSpec.witness_shaped (enc := enc) (C := Tryd.checked) (os := os) (X := fun w _ => laidMetH Tryd.prog Rows.proofAmountsRow.laid w) false (World.laidAll Tryd.prog os Rows.proofAmountsRow.laid) #[.agg #[.int .u8 0, .int .u8 0, .int .u8 0, .int .u8 0, .int .u8 0, .int .u8 0, .int .u8 0, .int .u8 0, .int .u8 0, .int .u8 0, .int .u8 0, .int .u8 0, .int .u8 0, .int .u8 0, .int .u8 0, .int .u8 0, .int .u8 0, .int .u8 0, .int .u8 0, .int .u8 0, .int .u8 0, .int .u8 0, .int .u8 0, .int .u8 0, .int .u8 0, .int .u8 0, .int .u8 0, .int .u8 0, .int .u8 0, .int .u8 0, .int .u8 0, .int .u8 0, .int .i64 0, .int .i64 0, .int .i64 0, .int .i64 0]] 8 (World.laidAll_os _ _ _)
      (World.shaped_of_ZipB (by kernel_rfl) (by kernel_rfl)) (by kernel_rfl) (by kernel_rfl) (by kernel_rfl)
      (by rw [MakeChecks.laidMetH_plain _ _ _ (by kernel_rfl)]; exact laidMet_laidAll _ (by kernel_rfl) (by kernel_rfl))) ?_
  intro W base args ds gs before hval0 hW hcnd hsz0 hL _
  have hval : ∀ (j : Nat) t v, Tryd.f3.params[j]? = some t → args[j]? = some v → Value.okWide Tryd.prog W .any base t v := hval0
  have hT : TZ W := by
    have hL2 : laidMetH Tryd.prog Rows.proofAmountsRow.laid W := hL
    rw [MakeChecks.laidMetH_plain _ _ _ (by kernel_rfl)] at hL2
    exact tab_of_laid hL2
  have hW' := hW
  obtain ⟨p, q, hA0, hV, rfl, _, _⟩ := hW
  have hA : DataW.TrodAll enc Tryd.prog W 0 (fun _ => true) true Tryd.f3.params.toList args.toList ds p := hA0
  rw [Tryd.params3] at hA hval
  obtain ⟨v0, d0, rfl, rfl, h0⟩ := trodAll_one hA
  obtain ⟨rfl, rfl⟩ := trodVars_none hV
  have h0k := h0
  obtain ⟨cs, b, i, l, m, rfl, hq, _, _, _, _⟩ := openQuery (hval 0 25 v0 rfl rfl) h0
  clear hA0 hval0
  simp only [List.append_nil] at hW'
  refine (walk3 hq W hT).mono fun e W' ⟨he, bel⟩ => ?_
  subst he
  exact ⟨_, rfl, _, _, _, [], _, [], hW', trodAll_mk1 (shut_bool Tryd.underlying4 _), trodAll_mk1 (Below.trod laidO (by kernel_rfl) (of_decide_eq_true (by kernel_rfl)) h0k bel (trodLt h0k)), rfl, bel.frame _, fun h => by cases h⟩
theorem proofAmounts_holds : Rows.ProofAmountsSaid :=
  OpenClaim.holds_of_wide 3 Tryd.f3 rfl rfl rfl rfl rfl rfl rfl ⟨rfl, rfl, rfl, rfl, rfl⟩ rfl rfl rfl rfl rfl (by kernel_rfl) Tryd.func3 (by kernel_rfl)
    (of_decide_eq_true (by kernel_rfl)) (by unfold Func.isWrapper; first | (rw [if_pos (by decide +kernel)]; kernel_rfl) | (rw [if_neg (by decide +kernel)]; exact ⟨rfl, rfl⟩))
    (fun os started H enc _ => proofAmounts_lifted os started H enc)
theorem proofAmounts_card_holds : Rows.ProofAmountsCardSaid :=
  Claim7.holds_tied_plain_at .later [] [.data, .data] true (true, "faff52566629f4a38accfa1e2980389dd1fe74299110f41a4eb154e898f49c50") false proofAmounts_holds (fun _ h => by cases h) (by kernel_rfl) (fun _ h => by cases h) proofAmounts_row_tie rfl ⟨rfl, rfl⟩ (by kernel_rfl) rfl
    (fun f fn hf hfn => by
      obtain rfl : f = 3 := Option.some.inj ((show Tryd.prog.funcNamed "torrent/torrentlaw7.ProofAmounts" = some 3 by kernel_rfl).symm.trans hf) |>.symm
      obtain rfl : fn = Tryd.f3 := (Option.some.inj (Tryd.func3.symm.trans hfn)).symm
      exact ⟨by kernel_rfl, fun j t ht => by
        rw [Tryd.params3] at ht
        have hm : t ∈ [25] := by simpa using Array.mem_of_getElem? ht
        have hall : ([25].all fun u => !Tryd.prog.wantsStandIn u) = true := by kernel_rfl
        exact (show Tryd.prog.wantsStandIn t = false by simpa using List.all_eq_true.1 hall t hm)⟩)
    (by kernel_rfl)
#print axioms proofAmounts_card_holds
end Go.Proofs.YtcanbkgcgjaimaaDoor
