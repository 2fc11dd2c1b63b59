import Derived.Test.YtbpggbibdoifmaaOpenU
namespace Go.Proofs.Ytbpggbibdoifmaa
open Go.ChangeShapes Go.WideShapes Go.ChangeAt Go.RowKit
set_option maxHeartbeats 2000000 in
theorem splitsLaw (v : Value) (l : List UInt8) (hl : l.length ≤ 1048576) (w : World) (hr : RB w v l) :
    Calls Try.prog 3 #[v] w fun e w' => e = .returned (.bool true) ∧ Below w.heap.size w w' := by
  have HR : Hid (RB w v l) := hr
  obtain ⟨a, c, rfl, hr⟩ := hr
  clear hr
  have HL : Hid (l.length ≤ 140737488351232) := by unfold Hid; omega
  go_enter Try.func3, Try.ntmps3
  go_wp2_with fail
  refine (copied HR.out (by omega)).mono ?_
  rintro e w1 ⟨u, rfl, o1, b1⟩
  have R1 : Hid (RB w1 u l ∧ RB w1 (.slice a l.length c) l) := ⟨o1.rb, HR.out.keep b1⟩
  have B1 : Hid (Below w.heap.size w w1) := b1
  obtain ⟨ua, uc, rfl⟩ := o1.form
  clear o1 b1 HR
  go_wp2_with fail
  refine (splitP _ l (by omega) _ R1.out.1).mono ?_
  rintro e w2 ⟨bv, bs, er, rfl, ⟨r, hrd⟩, ob, b2⟩
  obtain ⟨f1, f2, f3, f4, f5, f6⟩ := hrd.frames rfl
  have R2 : Hid (Rd false l [] bs false r er ∧ RBS w2 bv bs ∧ RB w2 (.slice ua l.length uc) l ∧ RB w2 (.slice a l.length c) l) := ⟨hrd, ob.rbs, R1.out.1.keep b2, R1.out.2.keep b2⟩
  have B2 : Hid (Below w.heap.size w w2) := B1.out.trans (b2.mono B1.out.size)
  obtain ⟨ba, bcap, rfl⟩ := ob.form
  have hbl : Hid (bs.length ≤ 140737488351232 ∧ ∀ b ∈ bs, b.length ≤ 140737488351232) := by
    refine ⟨?_, fun b hb => by have := f6 b hb; omega⟩
    have : ∀ bs : List (List UInt8), bs.length ≤ sz bs := fun bs => by
      induction bs with
      | nil => simp
      | cons b bs ih => rw [sz_cons, List.length_cons]; omega
    have := this bs
    omega
  clear ob b2 R1 B1 f1 f2 f3 f4 f5 f6 hrd
  go_wp2_with fail
  refine (refSplit _ l (by omega) _ R2.out.2.2.2).mono ?_
  rintro e w3 ⟨bv2, bs2, k, er2, rfl, hrd2, hk2, or2, b3⟩
  obtain ⟨_, rfl, _, _, rfl⟩ := R2.out.1.det hrd2
  subst hk2
  have R3 : Hid (RBS w3 bv2 bs2 ∧ RBS w3 (.slice ba bs2.length bcap) bs2 ∧ RB w3 (.slice ua l.length uc) l ∧ RB w3 (.slice a l.length c) l) := ⟨or2.rbs, R2.out.2.1.keep b3, R2.out.2.2.1.keep b3, R2.out.2.2.2.keep b3⟩
  have B3 : Hid (Below w.heap.size w w3) := B2.out.trans (b3.mono B2.out.size)
  obtain ⟨ba2, bcap2, rfl⟩ := or2.form
  clear or2 b3 hrd2 R2 B2
  go_wp2_with fail
  refine (sameBodies _ _ bs2 _ hbl.out.1 hbl.out.2 R3.out.2.1 R3.out.1).mono ?_
  rintro e w4 ⟨rfl, n4, rfl⟩
  have R4 : Hid (RB (w3.drewN n4) (.slice ua l.length uc) l ∧ RB (w3.drewN n4) (.slice a l.length c) l) := ⟨R3.out.2.2.1.keep (belowDrew _ _), R3.out.2.2.2.keep (belowDrew _ _)⟩
  have B4 : Hid (Below w.heap.size w (w3.drewN n4)) := belowN B3.out _
  generalize w3.drewN n4 = w4 at *
  clear R3 B3
  go_wp2_with fail
  refine (same _ _ l _ HL.out R4.out.1 R4.out.2).mono ?_
  rintro e w5 ⟨rfl, n5, rfl⟩
  go_wp2
  go_ret
  exact ⟨rfl, belowN B4.out _⟩
theorem frameSplits_contract (H : Type) (enc : TypeId × Value → H) (W : World) (base : Nat) (args : Array Value) (ds gs : List (DataW H)) (before : List MemPlace)
    (hval0 : ∀ (j : Nat) t v, Try.f3.params[j]? = some t → args[j]? = some v → Value.okWide Try.prog W .any base t v)
    (hW : DataW.Whole enc Try.prog Try.f3.params.toList Rows.frameSplitsSpec.vars false W args.toList ds gs before)
    (hk0 : Rows.uptoSmall H (ds ++ gs) = true) :
    Calls Try.prog 3 args W fun e W' => ∃ v, e = .returned v ∧ Rows.frameSplitsSpec.post enc Try.prog Try.f3 false true false false W args v W' := by
  have hval : ∀ (j : Nat) t v, Try.f3.params[j]? = some t → args[j]? = some v → Value.okWide Try.prog W .any base t v := hval0
  have hW' := hW
  obtain ⟨p, q, hA0, hV, rfl, _, _⟩ := hW
  have hA : DataW.TrodAll enc Try.prog W 0 (fun _ => true) true Try.f3.params.toList args.toList ds p := hA0
  rw [Try.params3] at hA hval
  obtain ⟨v0, vs0, d0, ds0, p0, q0, hargs, rfl, rfl, h0, r0⟩ := trodAll_cons hA
  obtain ⟨rfl, rfl, rfl⟩ := trodAll_nil r0
  obtain rfl : args = #[v0] := by cases args; simp_all
  obtain ⟨rfl, rfl⟩ := trodVars_none hV
  have hk : Rows.uptoBulk d0 ≤ 1048576 := by
    have h := of_decide_eq_true hk0
    simp only [List.cons_append, List.nil_append, Rows.uptoBulkAll] at h
    omega
  have k0 := h0
  obtain ⟨x0, e0, g0⟩ := openBytesU (hval 0 22 v0 rfl rfl) h0
  clear hA0 hval0
  simp only [List.append_nil] at hW'
  refine (splitsLaw v0 x0 (by omega) W e0).mono fun e W' ⟨he, bel⟩ => ?_
  subst he
  exact ⟨_, rfl, _, _, _, [], _, [], hW', trodAll_mk1 (shut_bool Try.underlying4 _), (trodAll_cons_mk (Below.trod laidO (by kernel_rfl) (of_decide_eq_true (by kernel_rfl)) k0 bel (trodLt k0)) trodAll_mk0), rfl, bel.frame _, fun h => by cases h⟩
set_option maxRecDepth 100000 in
theorem frameSplits_lifted (os : Os) (started : os.Started) (H : Type) (enc : TypeId × Value → H) (F : Stop.Interp) :
    ReturnsInHanded {} Try.checked os 3 .any ((Rows.OpenSpec.upto Rows.frameSplitsSpec).pre6 enc Try.prog Try.f3 Rows.frameSplitsUptoRow.domain false) (((Rows.OpenSpec.upto Rows.frameSplitsSpec).at F).post enc Try.prog Try.f3 false true false false) := by
  refine returnsInHanded_of_cond (C := Try.checked) (s := Rows.OpenSpec.upto Rows.frameSplitsSpec) (k := Rows.uptoSmall) rfl ownKn started (by kernel_rfl) Try.func3
    (OpenSpec.witness (enc := enc) (C := Try.checked) (s := Rows.OpenSpec.upto Rows.frameSplitsSpec) (k := Rows.uptoSmall) rfl false ⟨#[], #[.slice none 0 0], []⟩ 8 (by kernel_rfl) (by kernel_rfl) (by kernel_rfl)
      (x := ([.nil], [], [])) (by kernel_rfl) rfl (by kernel_rfl)) ?_
  intro W base args ds gs before hval hW _ hk _
  exact frameSplits_contract H enc W base args ds gs before hval hW hk
theorem frameSplitsUpto_holds : Rows.FrameSplitsUptoSaid :=
  OpenClaim.holds_of_cond 3 Try.f3 rfl rfl rfl rfl rfl rfl rfl ⟨rfl, rfl, rfl, rfl, rfl⟩ rfl rfl rfl rfl rfl (by kernel_rfl) Try.func3 (by kernel_rfl)
    (of_decide_eq_true (by kernel_rfl)) (by unfold Func.isWrapper; first | (rw [if_pos (by decide +kernel)]; kernel_rfl) | (rw [if_neg (by decide +kernel)]; exact ⟨rfl, rfl⟩))
    (fun os started H enc _ F => frameSplits_lifted os started H enc F)
#print axioms frameSplitsUpto_holds
end Go.Proofs.Ytbpggbibdoifmaa
