import Derived.Test.YtfpokhcddjgfmaaOpn
import Derived.Test.YtfpokhcddjgfmaaLe
namespace Go.Proofs.Ytfpokhcddjgfmaa
open Go.ChangeShapes Go.WideShapes Go.ChangeAt Go.RowKit Go.Joins
theorem drNl (w : World) (n : Nat) : Below w.heap.size w (w.drewN n) := ⟨rfl, rfl, rfl, Nat.le_refl _, fun _ _ => rfl⟩
theorem smB_selfl (l : List ByteArray) : smB l l = true := by simp [smB]
set_option maxHeartbeats 1000000 in
theorem lesses4 (v v2 : Value) (l m : List ByteArray) (w : World) (hf : FL l) (hf2 : FL m) (hr : SR w l v) (hr2 : SR w m v2) :
    Calls Try.prog 4 #[v, v2] w fun e w' => e = .returned (.bool true) ∧ Below w.heap.size w w' := by
  have HF : Hid (FL l ∧ FL m) := ⟨hf, hf2⟩
  have HR : Hid (SR w l v ∧ SR w m v2) := ⟨hr, hr2⟩
  obtain ⟨va, vc, rfl, _, _⟩ := hr
  obtain ⟨va2, vc2, rfl, _, _⟩ := hr2
  have HS : Hid (smB l l = true ∧ smB m m = true) := ⟨smB_selfl l, smB_selfl m⟩
  clear hf hf2
  go_enter Try.func4, Try.ntmps4
  go_wp2_with fail
  refine (twin11 _ l _ HF.out.1.1 HR.out.1).mono ?_
  rintro e w1 ⟨u, rfl, ho, hb1⟩
  have S1 : Hid (SR w1 l u) := ho.sr
  obtain ⟨ua', uc, rfl⟩ := ho.form
  have R1 : Hid (SR w1 l _ ∧ SR w1 m _) := ⟨HR.out.1.keep hb1, HR.out.2.keep hb1⟩
  have B1 : Hid (Below w.heap.size w w1) := hb1
  clear ho hb1
  go_wp2_with fail
  refine (twin11 _ m _ HF.out.2.1 R1.out.2).mono ?_
  rintro e w2 ⟨u, rfl, ho, hb2⟩
  have T2 : Hid (SR w2 m u) := ho.sr
  obtain ⟨ub', uc', rfl⟩ := ho.form
  have S2 : Hid (SR w2 l _) := S1.out.keep hb2
  have R2 : Hid (SR w2 l _ ∧ SR w2 m _) := ⟨R1.out.1.keep hb2, R1.out.2.keep hb2⟩
  have B2 : Hid (Below w.heap.size w w2) := B1.out.trans (hb2.mono B1.out.size)
  clear ho hb2 S1 R1 B1
  go_wp2_with fail
  refine (less12 _ _ l m _ HF.out.1.1 HF.out.2.1 R2.out.1 R2.out.2).mono ?_
  rintro e w3 ⟨rfl, rfl⟩
  go_wp2_with fail
  refine (less13 _ _ l m _ HF.out.1.1 HF.out.2.1 S2.out T2.out).mono ?_
  rintro e w4 ⟨rfl, n, rfl⟩
  have S3 : Hid (SR (w3.drewN n) l _ ∧ SR (w3.drewN n) m _) := ⟨S2.out.keep (drNl _ _), T2.out.keep (drNl _ _)⟩
  have R3 : Hid (SR (w3.drewN n) l _ ∧ SR (w3.drewN n) m _) := ⟨R2.out.1.keep (drNl _ _), R2.out.2.keep (drNl _ _)⟩
  have B3 : Hid (Below w.heap.size w (w3.drewN n)) := B2.out.trans ((drNl _ _).mono B2.out.size)
  generalize w3.drewN n = w4 at *
  generalize lx l m = z at *
  clear S2 T2 R2 B2
  go_wp2_with fail
  refine (same14 _ _ l l _ HF.out.1.1 HF.out.1.1 R3.out.1 S3.out.1).mono ?_
  rintro e w5 ⟨rfl, n2, rfl⟩
  rw [HS.out.1]
  go_wp2_with fail
  refine (same14 _ _ m m _ HF.out.2.1 HF.out.2.1 (R3.out.2.keep (drNl _ _)) (S3.out.2.keep (drNl _ _))).mono ?_
  rintro e w5 ⟨rfl, n3, rfl⟩
  rw [HS.out.2]
  go_wp2
  go_ret
  exact ⟨rfl, B3.out.trans ((drNl _ _).mono B3.out.size)⟩
set_option maxRecDepth 100000 in
theorem namesLesses_lifted (os : Os) (started : os.Started) (H : Type) (enc : TypeId × Value → H) :
    ReturnsInHanded {} Try.checked os 4 .any (Rows.namesLessesSpec.pre6 enc Try.prog Try.f4 Rows.namesLessesRow.domain false) (Rows.namesLessesSpec.post enc Try.prog Try.f4 false true false false) := by
  refine returnsInHanded_of_change_sized (C := Try.checked) ownKn started (by kernel_rfl) Try.func4
    (ChangeSpec.witness6 (enc := enc) (C := Try.checked) false ⟨#[], #[.slice none 0 0, .slice none 0 0], []⟩ 8 (by kernel_rfl) (by kernel_rfl) (by kernel_rfl) (by kernel_rfl)) ?_
  intro W base args ds gs before hval0 hW hcnd hsz0 _
  have hval : ∀ (j : Nat) t v, Try.f4.params[j]? = some t → args[j]? = some v → Value.okWide Try.prog W .any base t v := hval0
  have hsz : (DataW.weightsEach Try.prog (Try.f4.params.toList ++ Rows.namesLessesSpec.plain.varTypes Try.prog) (ds ++ gs)).all (· ≤ reachBytes) = true := hsz0
  have hW' := hW
  obtain ⟨p, q, hA0, hV, rfl, _, _⟩ := hW
  have hA : DataW.TrodAll enc Try.prog W 0 (fun _ => true) true Try.f4.params.toList args.toList ds p := hA0
  rw [Try.params4] at hA hval hsz
  obtain ⟨v0, v1, d0, d1, p0, p1, rfl, rfl, rfl, h0, h1⟩ := trodAll_two hA
  obtain ⟨rfl, rfl⟩ := trodVars_none hV
  have h0k := h0
  have h1k := h1
  obtain ⟨l, hr, hf⟩ := openArg (hval 0 24 v0 rfl rfl) h0 (fun q hq => by
    have := List.all_eq_true.1 hsz q (by simp [DataW.weightsEach, hq])
    simpa using this)
  obtain ⟨m, hr2, hf2⟩ := openArg (hval 1 24 v1 rfl rfl) h1 (fun q hq => by
    have := List.all_eq_true.1 hsz q (by simp [DataW.weightsEach, hq])
    simpa using this)
  clear hA0 hval0
  simp only [List.append_nil] at hW'
  refine (lesses4 v0 v1 l m W hf hf2 hr hr2).mono fun e W' ⟨he, bel⟩ => ?_
  subst he
  exact ⟨_, rfl, _, _, _, [], _, [], hW', trodAll_mk1 (shut_bool Try.underlying4 _), trodAll_mk2 (Below.trod laidO (by kernel_rfl) (of_decide_eq_true (by kernel_rfl)) h0k bel (trodLt h0k)) (Below.trod laidO (by kernel_rfl) (of_decide_eq_true (by kernel_rfl)) h1k bel (trodLt h1k)), rfl, bel.frame _, fun h => by cases h⟩
theorem namesLesses_holds : Rows.NamesLessesSaid :=
  OpenClaim.holds_of_wide 4 Try.f4 rfl rfl rfl rfl rfl rfl rfl ⟨rfl, rfl, rfl, rfl, rfl⟩ rfl rfl rfl rfl rfl (by kernel_rfl) Try.func4 (by kernel_rfl)
    (of_decide_eq_true (by kernel_rfl)) (by unfold Func.isWrapper; first | (rw [if_pos (by decide +kernel)]; kernel_rfl) | (rw [if_neg (by decide +kernel)]; exact ⟨rfl, rfl⟩))
    (fun os started H enc _ => namesLesses_lifted os started H enc)
#print axioms namesLesses_holds
end Go.Proofs.Ytfpokhcddjgfmaa
