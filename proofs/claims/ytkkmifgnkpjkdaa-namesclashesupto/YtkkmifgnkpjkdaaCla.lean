import Derived.Test.YtkkmifgnkpjkdaaCr
import Derived.Test.YtkkmifgnkpjkdaaCp
import Derived.Test.YtkkmifgnkpjkdaaTw
import Derived.Test.YtkkmifgnkpjkdaaOp2
namespace Go.Proofs.Ytkkmifgnkpjkdaa
open Go.RowKit
set_option maxHeartbeats 1000000 in
theorem clashes3 (v : Value) (L : List (List ByteArray)) (w : World) (hf : PF L) (h1 : PR w L v) :
    Calls Try.prog 3 #[v] w fun e w' => e = .returned (.bool true) ∧ Below w.heap.size w w' := by
  have H1 : Hid (PR w L v) := h1
  have HF : Hid (PF L) := hf
  obtain ⟨a1, c1, rfl, _, _⟩ := h1
  clear hf
  generalize hn : L.length = n at *
  go_enter Try.func3, Try.ntmps3
  go_wp2_with fail
  refine (twins5 _ L _ HF.out H1.out).mono ?_
  rintro e w1 ⟨t, rfl, ho, hb⟩
  have HT : Hid (PR w1 L t ∧ PR w1 L (.slice a1 n c1) ∧ Below w.heap.size w w1) := ⟨ho.pr, H1.out.keep hb, hb⟩
  obtain ⟨ta, tc, rfl⟩ := ho.form
  rw [hn] at HT ⊢
  clear ho hb
  go_wp2_with fail
  refine (clash6 _ L _ HF.out HT.out.2.1).mono ?_
  rintro e w2 ⟨i, j, z, rfl, hz, hb⟩
  have HZ : Hid (CL L i j z) := hz
  have HT2 : Hid (PR w2 L (.slice ta n tc) ∧ PR w2 L (.slice a1 n c1) ∧ Below w.heap.size w w2) := ⟨HT.out.1.keep hb, HT.out.2.1.keep hb, HT.out.2.2.trans (hb.mono HT.out.2.2.size)⟩
  clear hz hb HT
  go_wp2_with fail
  refine (clash7 _ L _ HF.out HT2.out.1).mono ?_
  rintro e w3 ⟨i', j', z', rfl, hz, nd, rfl⟩
  obtain ⟨rfl, rfl, rfl⟩ := HZ.out.unique hz
  have HT3 : Hid (PR (w2.drewN nd) L (.slice ta n tc) ∧ PR (w2.drewN nd) L (.slice a1 n c1) ∧ Below w.heap.size w (w2.drewN nd)) := ⟨HT2.out.1.keep (drB _ _), HT2.out.2.1.keep (drB _ _), HT2.out.2.2.trans ((drB _ _).mono HT2.out.2.2.size)⟩
  clear hz HT2 HZ
  generalize w2.drewN nd = w4 at *
  go_wp2_with fail
  refine (sameAll8 _ _ L _ HF.out HT3.out.2.1 HT3.out.1).mono ?_
  rintro e w5 ⟨rfl, n2, rfl⟩
  go_wp2
  go_ret
  exact ⟨rfl, HT3.out.2.2.trans ((drB _ _).mono HT3.out.2.2.size)⟩
end Go.Proofs.Ytkkmifgnkpjkdaa
namespace Go.Proofs.Ytkkmifgnkpjkdaa.namesClashes
open Go.ChangeShapes Go.WideShapes Go.ChangeAt Go.RowKit
theorem contract (H : Type) (enc : TypeId × Value → H) (W : World) (base : Nat) (args : Array Value) (ds gs : List (DataW H)) (before : List MemPlace)
    (hval0 : ∀ (j : Nat) t v, Try.f3.params[j]? = some t → args[j]? = some v → Value.okWide Try.prog W .any base t v)
    (hW : DataW.Whole enc Try.prog Try.f3.params.toList Rows.namesClashesSpec.vars false W args.toList ds gs before)
    (hk0 : Rows.uptoSmall H (ds ++ gs) = true) :
    Calls Try.prog 3 args W fun e W' => ∃ v, e = .returned v ∧ Rows.namesClashesSpec.post enc Try.prog Try.f3 false true false false W args v W' := by
  have hval : ∀ (j : Nat) t v, Try.f3.params[j]? = some t → args[j]? = some v → Value.okWide Try.prog W .any base t v := hval0
  have hW' := hW
  obtain ⟨p, q, hA0, hV, rfl, _, _⟩ := hW
  have hA : DataW.TrodAll enc Try.prog W 0 (fun _ => true) true Try.f3.params.toList args.toList ds p := hA0
  rw [Try.params3] at hA hval
  obtain ⟨v0, d0, rfl, rfl, h0⟩ := trodAll_one hA
  obtain ⟨rfl, rfl⟩ := trodVars_none hV
  have h0k := h0
  have hk : Rows.uptoBulk d0 ≤ 1048576 := by
    have h := of_decide_eq_true hk0
    simp only [List.cons_append, List.nil_append, Rows.uptoBulkAll] at h
    omega
  obtain ⟨L, hr, hf⟩ := openPaths (hval 0 22 v0 rfl rfl) h0 hk
  clear hA0 hval0
  simp only [List.append_nil] at hW'
  refine (clashes3 v0 L W hf hr).mono fun e W' ⟨he, bel⟩ => ?_
  subst he
  exact ⟨_, rfl, _, _, _, [], _, [], hW', trodAll_mk1 (shut_bool Try.underlying4 _), trodAll_mk1 (Below.trod laidO (by kernel_rfl) (of_decide_eq_true (by kernel_rfl)) h0k bel (trodLt h0k)), rfl, bel.frame _, fun h => by cases h⟩
set_option maxRecDepth 100000 in
theorem lifted (os : Os) (started : os.Started) (H : Type) (enc : TypeId × Value → H) (F : Stop.Interp) :
    ReturnsInHanded {} Try.checked os 3 .any ((Rows.OpenSpec.upto Rows.namesClashesSpec).pre6 enc Try.prog Try.f3 Rows.namesClashesUptoRow.domain false) (((Rows.OpenSpec.upto Rows.namesClashesSpec).at F).post enc Try.prog Try.f3 false true false false) := by
  refine returnsInHanded_of_cond (C := Try.checked) (s := Rows.OpenSpec.upto Rows.namesClashesSpec) (k := Rows.uptoSmall) rfl ownKn started (by kernel_rfl) Try.func3
    (OpenSpec.witness (enc := enc) (C := Try.checked) (s := Rows.OpenSpec.upto Rows.namesClashesSpec) (k := Rows.uptoSmall) rfl false ⟨#[], #[.slice none 0 0], []⟩ 8 (by kernel_rfl) (by kernel_rfl) (by kernel_rfl)
      (x := ([.nil], [], [])) (by kernel_rfl) rfl (by kernel_rfl)) ?_
  intro W base args ds gs before hval hW _ hk _
  exact contract H enc W base args ds gs before hval hW hk
end Go.Proofs.Ytkkmifgnkpjkdaa.namesClashes
namespace Go.Proofs.Ytkkmifgnkpjkdaa
theorem namesClashesUpto_holds : Rows.NamesClashesUptoSaid :=
  OpenClaim.holds_of_cond 3 Try.f3 rfl rfl rfl rfl rfl rfl rfl ⟨rfl, rfl, rfl, rfl, rfl⟩ rfl rfl rfl rfl rfl (by kernel_rfl) Try.func3 (by kernel_rfl)
    (of_decide_eq_true (by kernel_rfl)) (by unfold Func.isWrapper; first | (rw [if_pos (by decide +kernel)]; kernel_rfl) | (rw [if_neg (by decide +kernel)]; exact ⟨rfl, rfl⟩))
    (fun os started H enc _ F => namesClashes.lifted os started H enc F)
#print axioms namesClashesUpto_holds
end Go.Proofs.Ytkkmifgnkpjkdaa
