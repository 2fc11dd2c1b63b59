import Derived.Test.YtfpokhcddjgfmaaOpn
import Derived.Test.YtfpokhcddjgfmaaJr
namespace Go.Proofs.Ytfpokhcddjgfmaa
open Go.ChangeShapes Go.WideShapes Go.ChangeAt Go.RowKit Go.Joins
theorem drNj (w : World) (n : Nat) : Below w.heap.size w (w.drewN n) := ⟨rfl, rfl, rfl, Nat.le_refl _, fun _ _ => rfl⟩
theorem smB_selfj (l : List ByteArray) : smB l l = true := by simp [smB]
set_option maxHeartbeats 1000000 in
theorem joins8 (v : Value) (l : List ByteArray) (w : World) (hf : FL l) (hr : SR w l v) :
    Calls Try.prog 8 #[v] w fun e w' => e = .returned (.bool true) ∧ Below w.heap.size w w' := by
  have HF : Hid (FL l) := hf
  have HR : Hid (SR w l v) := hr
  obtain ⟨va, vc, rfl, _, _⟩ := hr
  have HS : Hid (smB l l = true) := smB_selfj l
  have HJ1 : Hid (∀ v w, SR w l v → Calls Try.prog 23 #[v] w fun e w' => e = .returned (.tuple #[.string (if pe l = 0 then jo l else ⟨#[]⟩), .int .i64 (pe l)]) ∧ Below w.heap.size w w') := fun v w h => join23 l v w hf h
  have HJ2 : Hid (∀ v w, SR w l v → Calls Try.prog 24 #[v] w fun e w' => e = .returned (.tuple #[.string (if pe l = 0 then jo l else ⟨#[]⟩), .int .i64 (pe l)]) ∧ Below w.heap.size w w') := fun v w h => join24 l v w hf h
  generalize (if pe l = 0 then jo l else (⟨#[]⟩ : ByteArray)) = t at *
  generalize pe l = z at *
  clear hf
  go_enter Try.func8, Try.ntmps8
  go_wp2_with fail
  refine (twin11 _ l _ HF.out.1 HR.out).mono ?_
  rintro e w1 ⟨u, rfl, ho, hb1⟩
  have S1 : Hid (SR w1 l u) := ho.sr
  obtain ⟨ua', uc, rfl⟩ := ho.form
  have R1 : Hid (SR w1 l _) := HR.out.keep hb1
  have B1 : Hid (Below w.heap.size w w1) := hb1
  clear ho hb1
  go_wp2_with fail
  refine (HJ1.out _ _ R1.out).mono ?_
  rintro e w2 ⟨rfl, hb2⟩
  have S2 : Hid (SR w2 l _) := S1.out.keep hb2
  have R2 : Hid (SR w2 l _) := R1.out.keep hb2
  have B2 : Hid (Below w.heap.size w w2) := B1.out.trans (hb2.mono B1.out.size)
  clear hb2 S1 R1 B1
  go_wp2_with fail
  refine (HJ2.out _ _ S2.out).mono ?_
  rintro e w3 ⟨rfl, hb3⟩
  have S3 : Hid (SR w3 l _) := S2.out.keep hb3
  have R3 : Hid (SR w3 l _) := R2.out.keep hb3
  have B3 : Hid (Below w.heap.size w w3) := B2.out.trans (hb3.mono B2.out.size)
  clear hb3 S2 R2 B2
  go_wp2_with fail
  refine (same14 _ _ l l _ HF.out.1 HF.out.1 R3.out S3.out).mono ?_
  rintro e w4 ⟨rfl, n, rfl⟩
  rw [HS.out]
  go_wp2
  go_ret
  exact ⟨rfl, B3.out.trans ((drNj _ _).mono B3.out.size)⟩
set_option maxRecDepth 100000 in
theorem namesJoins_lifted (os : Os) (started : os.Started) (H : Type) (enc : TypeId × Value → H) :
    ReturnsInHanded {} Try.checked os 8 .any (Rows.namesJoinsSpec.pre6 enc Try.prog Try.f8 Rows.namesJoinsRow.domain false) (Rows.namesJoinsSpec.post enc Try.prog Try.f8 false true false false) := by
  refine returnsInHanded_of_change_sized (C := Try.checked) ownKn started (by kernel_rfl) Try.func8
    (ChangeSpec.witness6 (enc := enc) (C := Try.checked) false ⟨#[], #[.slice none 0 0], []⟩ 8 (by kernel_rfl) (by kernel_rfl) (by kernel_rfl) (by kernel_rfl)) ?_
  intro W base args ds gs before hval0 hW hcnd hsz0 _
  have hval : ∀ (j : Nat) t v, Try.f8.params[j]? = some t → args[j]? = some v → Value.okWide Try.prog W .any base t v := hval0
  have hsz : (DataW.weightsEach Try.prog (Try.f8.params.toList ++ Rows.namesJoinsSpec.plain.varTypes Try.prog) (ds ++ gs)).all (· ≤ reachBytes) = true := hsz0
  have hW' := hW
  obtain ⟨p, q, hA0, hV, rfl, _, _⟩ := hW
  have hA : DataW.TrodAll enc Try.prog W 0 (fun _ => true) true Try.f8.params.toList args.toList ds p := hA0
  rw [Try.params8] at hA hval hsz
  obtain ⟨v0, d0, rfl, rfl, h0⟩ := trodAll_one hA
  obtain ⟨rfl, rfl⟩ := trodVars_none hV
  have h0k := h0
  obtain ⟨l, hr, hf⟩ := openArg (hval 0 24 v0 rfl rfl) h0 (fun q hq => by
    have := List.all_eq_true.1 hsz q (by simp [DataW.weightsEach, hq])
    simpa using this)
  clear hA0 hval0
  simp only [List.append_nil] at hW'
  refine (joins8 v0 l W hf hr).mono fun e W' ⟨he, bel⟩ => ?_
  subst he
  exact ⟨_, rfl, _, _, _, [], _, [], hW', trodAll_mk1 (shut_bool Try.underlying4 _), trodAll_mk1 (Below.trod laidO (by kernel_rfl) (of_decide_eq_true (by kernel_rfl)) h0k bel (trodLt h0k)), rfl, bel.frame _, fun h => by cases h⟩
theorem namesJoins_holds : Rows.NamesJoinsSaid :=
  OpenClaim.holds_of_wide 8 Try.f8 rfl rfl rfl rfl rfl rfl rfl ⟨rfl, rfl, rfl, rfl, rfl⟩ rfl rfl rfl rfl rfl (by kernel_rfl) Try.func8 (by kernel_rfl)
    (of_decide_eq_true (by kernel_rfl)) (by unfold Func.isWrapper; first | (rw [if_pos (by decide +kernel)]; kernel_rfl) | (rw [if_neg (by decide +kernel)]; exact ⟨rfl, rfl⟩))
    (fun os started H enc _ => namesJoins_lifted os started H enc)
#print axioms namesJoins_holds
end Go.Proofs.Ytfpokhcddjgfmaa
