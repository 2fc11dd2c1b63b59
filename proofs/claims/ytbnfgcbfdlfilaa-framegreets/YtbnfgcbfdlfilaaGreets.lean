import Derived.Test.YtbnfgcbfdlfilaaGreetR
import Derived.Test.YtbnfgcbfdlfilaaOpen
namespace Go.Proofs.Ytbnfgcbfdlfilaa
open Go.ChangeShapes Go.WideShapes Go.ChangeAt Go.RowKit
theorem info_hello {hb : List UInt8} (hl : hb.length = 48) : (Try.prog.info? 25).map (·.size) = some (bc hb).size := by rw [bc_size, hl]; kernel_rfl
set_option maxHeartbeats 1000000 in
theorem greetsLaw (hb : List UInt8) (hl : hb.length = 48) (w : World) :
    Calls Try.prog 3 #[.agg (bc hb)] w fun e w' => e = .returned (.bool true) ∧ Below w.heap.size w w' := by
  have G := fun u => greet hb hl u
  have R := fun u => greetR hb hl u
  have hL : (sgn ++ hb).length ≤ 140737488351232 := by simp [sgn, hl]
  have hi := info_hello hl
  generalize sgn ++ hb = L at *
  clear hl
  go_enter Try.func3, Try.ntmps3
  go_wp2_with (first | (refine wpList_load_row rfl 25 _ rfl w.heap.size rfl 25 (bc hb) (0, 0) _ (heapNew w _) Try.underlying25 rfl hi ?_))
  refine (G _).mono ?_
  rintro e w1 ⟨v, rfl, o1, b1⟩
  have hh : w1.heap[w.heap.size]? = some (.cells (bc hb) 25 (0, 0)) := (b1.block _ (by simp)).trans (heapNew w _)
  have B1 : Below w.heap.size w w1 := ((Below.refl _ _).alloc (Nat.le_refl _) _).trans (b1.mono (by simp))
  have O1 : Hid (RB w1 v L) := o1.rb
  obtain ⟨a1, c1, rfl⟩ := o1.form
  clear o1 b1 G
  go_wp2_with (first | (refine wpList_load_row rfl 25 _ rfl w.heap.size rfl 25 (bc hb) (0, 0) _ hh Try.underlying25 rfl hi ?_))
  refine (R _).mono ?_
  rintro e w2 ⟨v2, rfl, o2, b2⟩
  have B2 : Below w.heap.size w w2 := B1.trans (b2.mono B1.size)
  have O2 : Hid (RB w2 v2 L ∧ RB w2 (.slice a1 L.length c1) L) := ⟨o2.rb, O1.out.keep b2⟩
  obtain ⟨a2, c2, rfl⟩ := o2.form
  clear o2 b2 R hh O1 B1
  go_wp2_with fail
  refine (same _ _ L _ hL O2.out.2 O2.out.1).mono ?_
  rintro e w3 ⟨rfl, n, rfl⟩
  go_wp2
  go_ret
  exact ⟨rfl, belowN B2 _⟩
set_option maxRecDepth 100000 in
theorem frameGreets_lifted (os : Os) (started : os.Started) (H : Type) (enc : TypeId × Value → H) :
    ReturnsInHanded {} Try.checked os 3 .any (Rows.frameGreetsSpec.pre6 enc Try.prog Try.f3 Rows.frameGreetsRow.domain false) (Rows.frameGreetsSpec.post enc Try.prog Try.f3 false true false false) := by
  refine returnsInHanded_of_change_sized (C := Try.checked) ownKn started (by kernel_rfl) Try.func3
    (ChangeSpec.witness6 (enc := enc) (C := Try.checked) false ⟨#[], #[.agg #[.int .u8 0, .int .u8 0, .int .u8 0, .int .u8 0, .int .u8 0, .int .u8 0, .int .u8 0, .int .u8 0, .int .u8 0, .int .u8 0, .int .u8 0, .int .u8 0, .int .u8 0, .int .u8 0, .int .u8 0, .int .u8 0, .int .u8 0, .int .u8 0, .int .u8 0, .int .u8 0, .int .u8 0, .int .u8 0, .int .u8 0, .int .u8 0, .int .u8 0, .int .u8 0, .int .u8 0, .int .u8 0, .int .u8 0, .int .u8 0, .int .u8 0, .int .u8 0, .int .u8 0, .int .u8 0, .int .u8 0, .int .u8 0, .int .u8 0, .int .u8 0, .int .u8 0, .int .u8 0, .int .u8 0, .int .u8 0, .int .u8 0, .int .u8 0, .int .u8 0, .int .u8 0, .int .u8 0, .int .u8 0]], []⟩ 8 (by kernel_rfl) (by kernel_rfl) (by kernel_rfl) (by kernel_rfl)) ?_
  intro W base args ds gs before hval0 hW hcnd hsz0 _
  have hval : ∀ (j : Nat) t v, Try.f3.params[j]? = some t → args[j]? = some v → Value.okWide Try.prog W .any base t v := hval0
  have hsz : (DataW.weightsEach Try.prog (Try.f3.params.toList ++ Rows.frameGreetsSpec.plain.varTypes Try.prog) (ds ++ gs)).all (· ≤ reachBytes) = true := hsz0
  have hW' := hW
  obtain ⟨p, q, hA0, hV, rfl, _, _⟩ := hW
  have hA : DataW.TrodAll enc Try.prog W 0 (fun _ => true) true Try.f3.params.toList args.toList ds p := hA0
  rw [Try.params3] at hA hval hsz
  obtain ⟨v0, vs0, d0, ds0, p0, q0, hargs, rfl, rfl, h0, r0⟩ := trodAll_cons hA
  obtain ⟨rfl, rfl, rfl⟩ := trodAll_nil r0
  obtain rfl : args = #[v0] := by cases args; simp_all
  obtain ⟨rfl, rfl⟩ := trodVars_none hV
  have k0 := h0
  obtain ⟨x0, rfl, g0⟩ := openHello (hval 0 25 v0 rfl rfl) h0
  clear hA0 hval0
  simp only [List.append_nil] at hW'
  refine (greetsLaw x0 g0 W).mono fun e W' ⟨he, bel⟩ => ?_
  subst he
  exact ⟨_, rfl, _, _, _, [], _, [], hW', trodAll_mk1 (shut_bool Try.underlying4 _), (trodAll_cons_mk (Below.trod laidO (by kernel_rfl) (of_decide_eq_true (by kernel_rfl)) k0 bel (trodLt k0)) trodAll_mk0), rfl, bel.frame _, fun h => by cases h⟩
theorem frameGreets_holds : Rows.FrameGreetsSaid :=
  OpenClaim.holds_of_wide 3 Try.f3 rfl rfl rfl rfl rfl rfl rfl ⟨rfl, rfl, rfl, rfl, rfl⟩ rfl rfl rfl rfl rfl (by kernel_rfl) Try.func3 (by kernel_rfl)
    (of_decide_eq_true (by kernel_rfl)) (by unfold Func.isWrapper; first | (rw [if_pos (by decide +kernel)]; kernel_rfl) | (rw [if_neg (by decide +kernel)]; exact ⟨rfl, rfl⟩))
    (fun os started H enc _ => frameGreets_lifted os started H enc)
#print axioms frameGreets_holds
end Go.Proofs.Ytbnfgcbfdlfilaa
