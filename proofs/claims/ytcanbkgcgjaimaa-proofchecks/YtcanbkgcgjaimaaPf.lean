import Derived.Test.YtcanbkgcgjaimaaPo
namespace Go.Proofs.Ytcanbkgcgjaimaa
open Go.Shelf Go.RowKit
set_option maxHeartbeats 1000000 in
theorem walk4 {cs : Array Value} {b i l p : Int} (q : QF cs b i l p) (n low : Int) (w : World) :
    Calls Try.prog 4 #[.int .i64 n, .int .i64 low, .agg cs] w fun e w' => e = .returned (.bool true) ∧ Below w.heap.size w w' := by
  have hi := q.info
  have A := check8 q n low
  have B := check9 q n low
  clear q
  go_enter Try.func4, Try.ntmps4
  go_wp2_with (first | (refine wpList_load_row rfl 31 _ rfl w.heap.size rfl 31 cs (0, 0) _ (heap_alloc_last w _) Try.underlying31 rfl hi ?_))
  refine (A _).mono ?_
  rintro e w1 ⟨er, rfl, h1, b1⟩
  have hh : w1.heap[w.heap.size]? = some (Obj.cells cs 31) := (b1.block _ (by simp)).trans (heap_alloc_last w _)
  have B1 := ((Below.refl w.heap.size w).alloc (Nat.le_refl _) (Obj.cells cs 31)).trans (b1.mono (by simp))
  have E1 : Hid (CK n low b i l p er) := h1
  clear h1 b1 A
  go_wp2_with (first | (refine wpList_load_row rfl 31 _ rfl w.heap.size rfl 31 cs (0, 0) _ hh Try.underlying31 rfl hi ?_))
  refine (B _).mono ?_
  rintro e w2 ⟨er2, rfl, h2, b2⟩
  obtain rfl := E1.out.unique h2
  have B2 := B1.trans (b2.mono B1.size)
  clear h2 b2 B E1 hh
  go_wp2
  go_ret
  exact ⟨by simp, B2⟩
end Go.Proofs.Ytcanbkgcgjaimaa
namespace Go.Proofs.Ytcanbkgcgjaimaa.proofChecks
open Go.ChangeShapes Go.WideShapes Go.ChangeAt Go.RowKit Go.Joins
set_option maxRecDepth 100000 in
theorem lifted (os : Os) (started : os.Started) (H : Type) (enc : TypeId × Value → H) :
    ReturnsInHanded {} Try.checked os 4 .any (Rows.proofChecksSpec.pre6 enc Try.prog Try.f4 Rows.proofChecksRow.domain false) (Rows.proofChecksSpec.post enc Try.prog Try.f4 false true false false) := by
  refine returnsInHanded_of_change (C := Try.checked) ownKn started (by kernel_rfl) Try.func4
    (ChangeSpec.witness6 (enc := enc) (C := Try.checked) false ⟨#[], #[.int .i64 0, .int .i64 0, .agg #[.int .u8 0, .int .u8 0, .int .u8 0, .int .u8 0, .int .u8 0, .int .u8 0, .int .u8 0, .int .u8 0, .int .u8 0, .int .u8 0, .int .u8 0, .int .u8 0, .int .u8 0, .int .u8 0, .int .u8 0, .int .u8 0, .int .u8 0, .int .u8 0, .int .u8 0, .int .u8 0, .int .u8 0, .int .u8 0, .int .u8 0, .int .u8 0, .int .u8 0, .int .u8 0, .int .u8 0, .int .u8 0, .int .u8 0, .int .u8 0, .int .u8 0, .int .u8 0, .int .i64 0, .int .i64 0, .int .i64 0, .int .i64 0]], []⟩ 8 (by kernel_rfl) (by kernel_rfl) (by kernel_rfl) (by kernel_rfl)) ?_
  intro W base args ds gs before hval0 hW _ _
  have hval : ∀ (j : Nat) t v, Try.f4.params[j]? = some t → args[j]? = some v → Value.okWide Try.prog W .any base t v := hval0
  have hW' := hW
  obtain ⟨p, q, hA0, hV, rfl, _, _⟩ := hW
  have hA : DataW.TrodAll enc Try.prog W 0 (fun _ => true) true Try.f4.params.toList args.toList ds p := hA0
  rw [Try.params4] at hA hval
  obtain ⟨v0, v1, v2, d0, d1, d2, p0, p1, p2, rfl, rfl, rfl, h0, h1, h2⟩ := trodAll_three hA
  obtain ⟨rfl, rfl⟩ := trodVars_none hV
  have h2k := h2
  obtain ⟨a0, rfl, rfl, rfl, wa0⟩ := open_int Try.underlying3 (hval 0 3 v0 rfl rfl) h0
  obtain ⟨a1, rfl, rfl, rfl, wa1⟩ := open_int Try.underlying3 (hval 1 3 v1 rfl rfl) h1
  obtain ⟨cs, b, i, l, m, rfl, hq, _, _, _, _⟩ := openQuery (hval 2 31 v2 rfl rfl) h2
  clear hA0 hval0
  simp only [List.append_nil] at hW'
  refine (walk4 hq a0 a1 W).mono fun e W' ⟨he, bel⟩ => ?_
  subst he
  exact ⟨_, rfl, _, _, _, [], _, [], hW', trodAll_mk1 (shut_bool Try.underlying4 _), trodAll_mk3 (shut_int Try.underlying3 wa0) (shut_int Try.underlying3 wa1) (Below.trod laidO (by kernel_rfl) (of_decide_eq_true (by kernel_rfl)) h2k bel (trodLt h2k)), rfl, bel.frame _, fun h => by cases h⟩
end Go.Proofs.Ytcanbkgcgjaimaa.proofChecks
namespace Go.Proofs.Ytcanbkgcgjaimaa
theorem proofChecks_holds : Rows.ProofChecksSaid :=
  OpenClaim.holds_of_wide 4 Try.f4 rfl rfl rfl rfl rfl rfl rfl ⟨rfl, rfl, rfl, rfl, rfl⟩ rfl rfl rfl rfl rfl (by kernel_rfl) Try.func4 (by kernel_rfl)
    (of_decide_eq_true (by kernel_rfl)) (by unfold Func.isWrapper; first | (rw [if_pos (by decide +kernel)]; kernel_rfl) | (rw [if_neg (by decide +kernel)]; exact ⟨rfl, rfl⟩))
    (fun os started H enc _ => proofChecks.lifted os started H enc)
#print axioms proofChecks_holds
end Go.Proofs.Ytcanbkgcgjaimaa
