import Derived.Test.YtbnfgcbfdlfilaaWrap
import Derived.Test.YtbnfgcbfdlfilaaOpen
namespace Go.Proofs.Ytbnfgcbfdlfilaa
open Go.ChangeShapes Go.WideShapes Go.ChangeAt Go.RowKit
theorem rb_nil (w : World) (a : Option Addr) (c : Nat) : RB w (.slice a 0 c) [] := ⟨a, c, rfl, Nat.zero_le _, .inl rfl⟩
set_option maxHeartbeats 1000000 in
theorem wrapsLaw (v : Value) (l : List UInt8) (hl : l.length ≤ 140737488351232) (w : World) (hr : RB w v l) :
    Calls Try.prog 4 #[v] w fun e w' => e = .returned (.bool true) ∧ Below w.heap.size w w' := by
  have HR : Hid (RB w v l) := hr
  obtain ⟨a, c, rfl, hr⟩ := hr
  clear hr
  have HL : Hid (l.length ≤ 140737488351232) := hl
  go_enter Try.func4, Try.ntmps4
  go_wp2_with fail
  refine (copied HR.out hl).mono ?_
  rintro e w1 ⟨u, rfl, o1, b1⟩
  have R1 : Hid (RB w1 u l ∧ RB w1 (.slice a l.length c) l) := ⟨o1.rb, HR.out.keep b1⟩
  have B1 : Hid (Below w.heap.size w w1) := b1
  obtain ⟨ua, uc, rfl⟩ := o1.form
  clear o1 b1 HR
  by_cases hn : l.length ≤ 32768
  · go_wp2_with fail
    refine (wrap_yes _ l hn _ R1.out.1).mono ?_
    rintro e w2 ⟨v2, rfl, o2, b2⟩
    have R2 : Hid (RB w2 v2 (frm l) ∧ RB w2 (.slice ua l.length uc) l ∧ RB w2 (.slice a l.length c) l) := ⟨o2.rb, R1.out.1.keep b2, R1.out.2.keep b2⟩
    have B2 : Hid (Below w.heap.size w w2) := B1.out.trans (b2.mono B1.out.size)
    obtain ⟨a2, c2, rfl⟩ := o2.form
    clear o2 b2 R1 B1
    go_wp2_with fail
    refine (wrapR_yes _ l hn _ R2.out.2.2).mono ?_
    rintro e w3 ⟨v3, rfl, o3, b3⟩
    have R3 : Hid (RB w3 v3 (frm l) ∧ RB w3 (.slice a2 (frm l).length c2) (frm l) ∧ RB w3 (.slice ua l.length uc) l ∧ RB w3 (.slice a l.length c) l) := ⟨o3.rb, R2.out.1.keep b3, R2.out.2.1.keep b3, R2.out.2.2.keep b3⟩
    have B3 : Hid (Below w.heap.size w w3) := B2.out.trans (b3.mono B2.out.size)
    obtain ⟨a3, c3, rfl⟩ := o3.form
    clear o3 b3 R2 B2
    have HF : Hid ((frm l).length ≤ 140737488351232) := by unfold Hid frm; rw [List.length_append, be4_len]; omega
    generalize frm l = fl at *
    go_wp2_with fail
    refine (same _ _ fl _ HF.out R3.out.2.1 R3.out.1).mono ?_
    rintro e w4 ⟨rfl, n4, rfl⟩
    have R4 : Hid (RB (w3.drewN n4) (.slice ua l.length uc) l ∧ RB (w3.drewN n4) (.slice a l.length c) l) := ⟨R3.out.2.2.1.keep (belowDrew _ _), R3.out.2.2.2.keep (belowDrew _ _)⟩
    have B4 : Hid (Below w.heap.size w (w3.drewN n4)) := belowN B3.out _
    generalize w3.drewN n4 = w4 at *
    clear R3 B3 HF
    go_wp2_with fail
    refine (same _ _ l _ HL.out R4.out.1 R4.out.2).mono ?_
    rintro e w5 ⟨rfl, n5, rfl⟩
    go_wp2
    go_ret
    exact ⟨rfl, belowN B4.out _⟩
  · go_wp2_with fail
    refine (wrap_no _ _ _ (by omega) hl _).mono ?_
    rintro e w2 ⟨rfl, rfl⟩
    go_wp2_with fail
    refine (wrapR_no _ _ _ (by omega) hl _).mono ?_
    rintro e w2 ⟨rfl, rfl⟩
    go_wp2_with fail
    refine (same _ _ [] _ (by simp) (rb_nil _ _ _) (rb_nil _ _ _)).mono ?_
    rintro e w4 ⟨rfl, n4, rfl⟩
    have R4 : Hid (RB (w1.drewN n4) (.slice ua l.length uc) l ∧ RB (w1.drewN n4) (.slice a l.length c) l) := ⟨R1.out.1.keep (belowDrew _ _), R1.out.2.keep (belowDrew _ _)⟩
    have B4 : Hid (Below w.heap.size w (w1.drewN n4)) := belowN B1.out _
    generalize w1.drewN n4 = w4 at *
    clear R1 B1
    go_wp2_with fail
    refine (same _ _ l _ HL.out R4.out.1 R4.out.2).mono ?_
    rintro e w5 ⟨rfl, n5, rfl⟩
    go_wp2
    go_ret
    exact ⟨rfl, belowN B4.out _⟩
set_option maxRecDepth 100000 in
theorem frameWraps_lifted (os : Os) (started : os.Started) (H : Type) (enc : TypeId × Value → H) :
    ReturnsInHanded {} Try.checked os 4 .any (Rows.frameWrapsSpec.pre6 enc Try.prog Try.f4 Rows.frameWrapsRow.domain false) (Rows.frameWrapsSpec.post enc Try.prog Try.f4 false true false false) := by
  refine returnsInHanded_of_change_sized (C := Try.checked) ownKn started (by kernel_rfl) Try.func4
    (ChangeSpec.witness6 (enc := enc) (C := Try.checked) false ⟨#[], #[.slice none 0 0], []⟩ 8 (by kernel_rfl) (by kernel_rfl) (by kernel_rfl) (by kernel_rfl)) ?_
  intro W base args ds gs before hval0 hW hcnd hsz0 _
  have hval : ∀ (j : Nat) t v, Try.f4.params[j]? = some t → args[j]? = some v → Value.okWide Try.prog W .any base t v := hval0
  have hsz : (DataW.weightsEach Try.prog (Try.f4.params.toList ++ Rows.frameWrapsSpec.plain.varTypes Try.prog) (ds ++ gs)).all (· ≤ reachBytes) = true := hsz0
  have hW' := hW
  obtain ⟨p, q, hA0, hV, rfl, _, _⟩ := hW
  have hA : DataW.TrodAll enc Try.prog W 0 (fun _ => true) true Try.f4.params.toList args.toList ds p := hA0
  rw [Try.params4] at hA hval hsz
  obtain ⟨v0, vs0, d0, ds0, p0, q0, hargs, rfl, rfl, h0, r0⟩ := trodAll_cons hA
  obtain ⟨rfl, rfl, rfl⟩ := trodAll_nil r0
  obtain rfl : args = #[v0] := by cases args; simp_all
  obtain ⟨rfl, rfl⟩ := trodVars_none hV
  have k0 := h0
  obtain ⟨x0, e0, g0⟩ := openBytes (hval 0 26 v0 rfl rfl) h0 (fun q hq => by
    have := List.all_eq_true.1 hsz q (by simp [DataW.weightsEach, hq])
    simpa using this)
  clear hA0 hval0
  simp only [List.append_nil] at hW'
  refine (wrapsLaw v0 x0 g0 W e0).mono fun e W' ⟨he, bel⟩ => ?_
  subst he
  exact ⟨_, rfl, _, _, _, [], _, [], hW', trodAll_mk1 (shut_bool Try.underlying4 _), (trodAll_cons_mk (Below.trod laidO (by kernel_rfl) (of_decide_eq_true (by kernel_rfl)) k0 bel (trodLt k0)) trodAll_mk0), rfl, bel.frame _, fun h => by cases h⟩
theorem frameWraps_holds : Rows.FrameWrapsSaid :=
  OpenClaim.holds_of_wide 4 Try.f4 rfl rfl rfl rfl rfl rfl rfl ⟨rfl, rfl, rfl, rfl, rfl⟩ rfl rfl rfl rfl rfl (by kernel_rfl) Try.func4 (by kernel_rfl)
    (of_decide_eq_true (by kernel_rfl)) (by unfold Func.isWrapper; first | (rw [if_pos (by decide +kernel)]; kernel_rfl) | (rw [if_neg (by decide +kernel)]; exact ⟨rfl, rfl⟩))
    (fun os started H enc _ => frameWraps_lifted os started H enc)
#print axioms frameWraps_holds
end Go.Proofs.Ytbnfgcbfdlfilaa
