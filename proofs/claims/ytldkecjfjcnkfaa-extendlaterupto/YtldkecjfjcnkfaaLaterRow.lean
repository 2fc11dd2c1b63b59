import Derived.Test.YtldkecjfjcnkfaaHo
import Derived.Test.YtldkecjfjcnkfaaLf
import Derived.Test.YtldkecjfjcnkfaaRows
import Derived.SevenTiedAt
import Derived.Deep.DeepHandedRow
import Derived.Deep.CondSized
namespace Go.Proofs.Ytldkecjfjcnkfaa
open Go.ChangeShapes Go.WideShapes Go.ChangeAt Go.RowKit Go.Deep
open Go.ChangeMaps (open_string shut_string)
set_option maxRecDepth 100000 in
theorem extendLater_contract (H : Type) (enc : TypeId × Value → H) (W : World) (base : Nat) (args : Array Value) (ds gs : List (DataW H)) (before : List MemPlace)
    (hval0 : ∀ (j : Nat) t v, Try.f6.params[j]? = some t → args[j]? = some v → Value.okWide Try.prog W .any base t v)
    (hW : DataW.Whole enc Try.prog Try.f6.params.toList Rows.extendLaterSpec.vars false W args.toList ds gs before)
    (hk0 : Rows.uptoSmall H (ds ++ gs) = true)
    (hsz0 : (DataW.weightsEach Try.prog (Try.f6.params.toList ++ Rows.extendLaterSpec.plain.varTypes Try.prog) (ds ++ gs)).all (· ≤ reachBytes) = true) :
    Calls Try.prog 6 args W fun e W' => ∃ v, e = .returned v ∧ Rows.extendLaterSpec.post enc Try.prog Try.f6 false true false false W args v W' := by
  have hval : ∀ (j : Nat) t v, Try.f6.params[j]? = some t → args[j]? = some v → Value.okWide Try.prog W .any base t v := hval0
  have hsz := hsz0
  have hW' := hW
  obtain ⟨p, q, hA0, hV, rfl, _, _⟩ := hW
  have hA : DataW.TrodAll enc Try.prog W 0 (fun _ => true) true Try.f6.params.toList args.toList ds p := hA0
  rw [Try.params6] at hA hval hsz
  obtain ⟨v0, vs0, d0, ds0, p0, q0, hargs, rfl, rfl, h0, r0⟩ := trodAll_cons hA
  obtain ⟨v1, vs1, d1, ds1, p1, q1, rfl, rfl, rfl, h1, r1⟩ := trodAll_cons r0
  obtain ⟨v2, vs2, d2, ds2, p2, q2, rfl, rfl, rfl, h2, r2⟩ := trodAll_cons r1
  obtain ⟨v3, vs3, d3, ds3, p3, q3, rfl, rfl, rfl, h3, r3⟩ := trodAll_cons r2
  obtain ⟨rfl, rfl, rfl⟩ := trodAll_nil r3
  obtain rfl : args = #[v0, v1, v2, v3] := by cases args; simp_all
  obtain ⟨rfl, rfl⟩ := trodVars_none hV
  have hk : Rows.uptoBulk d0 + Rows.uptoBulk d1 + Rows.uptoBulk d2 + Rows.uptoBulk d3 ≤ 1048576 := by
    have h := of_decide_eq_true hk0
    simp only [List.cons_append, List.nil_append, Rows.uptoBulkAll] at h
    omega
  have k0 := h0
  obtain ⟨nv0, sz0, qu0, ag0, yv0, ns0, dn0, ky0, dv0, rfl, hn0, hl0, hns0, hag0, hkd0, hdn0, hr0, hc0, hcy0⟩ := openWishU (hval 0 35 v0 rfl rfl) h0 (fun q hq => by
    have := List.all_eq_true.1 hsz q (by simp [DataW.weightsEach, hq])
    simpa using this) (by omega)
  obtain ⟨es0, hel0, hea0, heg0⟩ := rg_of_rd hr0 hcy0
  obtain ⟨na0, nc0, rfl, -⟩ := id hn0
  obtain ⟨ma0, mc0, rfl, -, -⟩ := id heg0
  have hke0 : ∀ e ∈ es0, e.key.size ≤ 140737488351232 ∧ e.t.ok := fun e he => by
    obtain ⟨j, hj, rfl⟩ := List.getElem_of_mem he
    have h9 := hea0 j (by rw [← hel0]; exact hj)
    rw [kyG_at hj, dvG_at hj] at h9
    rw [h9.1, h9.2]
    exact hkd0 j (by rw [← hel0]; exact hj)
  have k1 := h1
  obtain ⟨nv1, sz1, qu1, ag1, yv1, ns1, dn1, ky1, dv1, rfl, hn1, hl1, hns1, hag1, hkd1, hdn1, hr1, hc1, hcy1⟩ := openWishU (hval 1 35 v1 rfl rfl) h1 (fun q hq => by
    have := List.all_eq_true.1 hsz q (by simp [DataW.weightsEach, hq])
    simpa using this) (by omega)
  obtain ⟨es1, hel1, hea1, heg1⟩ := rg_of_rd hr1 hcy1
  obtain ⟨na1, nc1, rfl, -⟩ := id hn1
  obtain ⟨ma1, mc1, rfl, -, -⟩ := id heg1
  have hke1 : ∀ e ∈ es1, e.key.size ≤ 140737488351232 ∧ e.t.ok := fun e he => by
    obtain ⟨j, hj, rfl⟩ := List.getElem_of_mem he
    have h9 := hea1 j (by rw [← hel1]; exact hj)
    rw [kyG_at hj, dvG_at hj] at h9
    rw [h9.1, h9.2]
    exact hkd1 j (by rw [← hel1]; exact hj)
  have k2 := h2
  obtain ⟨nv2, sz2, qu2, ag2, yv2, ns2, dn2, ky2, dv2, rfl, hn2, hl2, hns2, hag2, hkd2, hdn2, hr2, hc2, hcy2⟩ := openWishU (hval 2 35 v2 rfl rfl) h2 (fun q hq => by
    have := List.all_eq_true.1 hsz q (by simp [DataW.weightsEach, hq])
    simpa using this) (by omega)
  obtain ⟨es2, hel2, hea2, heg2⟩ := rg_of_rd hr2 hcy2
  obtain ⟨na2, nc2, rfl, -⟩ := id hn2
  obtain ⟨ma2, mc2, rfl, -, -⟩ := id heg2
  have hke2 : ∀ e ∈ es2, e.key.size ≤ 140737488351232 ∧ e.t.ok := fun e he => by
    obtain ⟨j, hj, rfl⟩ := List.getElem_of_mem he
    have h9 := hea2 j (by rw [← hel2]; exact hj)
    rw [kyG_at hj, dvG_at hj] at h9
    rw [h9.1, h9.2]
    exact hkd2 j (by rw [← hel2]; exact hj)
  obtain ⟨s3, rfl, rfl, rfl, w3⟩ := open_string Try.underlying9 (hval 3 9 v3 rfl rfl) h3
  clear hA0 hval0
  simp only [List.append_nil] at hW'
  refine (laterLaw na0 ma0 nc0 mc0 ns0 sz0 qu0 ag0 es0 na1 ma1 nc1 mc1 ns1 sz1 qu1 ag1 es1 na2 ma2 nc2 mc2 ns2 sz2 qu2 ag2 es2 s3 W hn0 heg0 ⟨hl0, by rw [hel0]; exact hdn0, hns0, hag0, hke0⟩ hn1 heg1 ⟨hl1, by rw [hel1]; exact hdn1, hns1, hag1, hke1⟩ hn2 heg2 ⟨hl2, by rw [hel2]; exact hdn2, hns2, hag2, hke2⟩).mono fun e W' ⟨he, bel⟩ => ?_
  subst he
  exact ⟨_, rfl, _, _, _, [], _, [], hW', trodAll_mk1 (shut_bool Try.underlying4 _), (trodAll_cons_mk (Below.trod laidO (by kernel_rfl) (of_decide_eq_true (by kernel_rfl)) k0 bel (trodLt k0)) (trodAll_cons_mk (Below.trod laidO (by kernel_rfl) (of_decide_eq_true (by kernel_rfl)) k1 bel (trodLt k1)) (trodAll_cons_mk (Below.trod laidO (by kernel_rfl) (of_decide_eq_true (by kernel_rfl)) k2 bel (trodLt k2)) (trodAll_cons_mk (shut_string Try.underlying9 w3) trodAll_mk0)))), rfl, bel.frame _, fun h => by cases h⟩
set_option maxRecDepth 100000 in
theorem extendLater_lifted (os : Os) (started : os.Started) (H : Type) (enc : TypeId × Value → H) (F : Stop.Interp) :
    ReturnsInHanded {} Try.checked os 6 .any ((Rows.OpenSpec.upto Rows.extendLaterSpec).pre6 enc Try.prog Try.f6 Rows.extendLaterUptoRow.domain false) (((Rows.OpenSpec.upto Rows.extendLaterSpec).at F).post enc Try.prog Try.f6 false true false false) := by
  refine returnsInHanded_of_cond_sized (C := Try.checked) (s := Rows.OpenSpec.upto Rows.extendLaterSpec) (k := Rows.uptoSmall) rfl ownKn started (by kernel_rfl) Try.func6
    (OpenSpec.witness (enc := enc) (C := Try.checked) (s := Rows.OpenSpec.upto Rows.extendLaterSpec) (k := Rows.uptoSmall) rfl false ⟨#[], #[.agg #[.slice none 0 0, .int .i64 0, .int .i64 0, .string ByteArray.empty, .slice none 0 0], .agg #[.slice none 0 0, .int .i64 0, .int .i64 0, .string ByteArray.empty, .slice none 0 0], .agg #[.slice none 0 0, .int .i64 0, .int .i64 0, .string ByteArray.empty, .slice none 0 0], .string ByteArray.empty], []⟩ 8 (by kernel_rfl) (by kernel_rfl) (by kernel_rfl)
      (x := ([.agg [.nil, .lit (.int .i64 0), .lit (.int .i64 0), .lit (.string []), .nil], .agg [.nil, .lit (.int .i64 0), .lit (.int .i64 0), .lit (.string []), .nil], .agg [.nil, .lit (.int .i64 0), .lit (.int .i64 0), .lit (.string []), .nil], .lit (.string [])], [], [])) (by kernel_rfl) rfl (by kernel_rfl)) ?_
  intro W base args ds gs before hval hW _ hk hsz _
  exact extendLater_contract H enc W base args ds gs before hval hW hk hsz
theorem extendLaterUpto_holds : Rows.ExtendLaterUptoSaid :=
  OpenClaim.holds_of_cond 6 Try.f6 rfl rfl rfl rfl rfl rfl rfl ⟨rfl, rfl, rfl, rfl, rfl⟩ rfl rfl rfl rfl rfl (by kernel_rfl) Try.func6 (by kernel_rfl)
    (of_decide_eq_true (by kernel_rfl)) (by unfold Func.isWrapper; first | (rw [if_pos (by decide +kernel)]; kernel_rfl) | (rw [if_neg (by decide +kernel)]; exact ⟨rfl, rfl⟩))
    (fun os started H enc _ F => extendLater_lifted os started H enc F)
#print axioms extendLaterUpto_holds
end Go.Proofs.Ytldkecjfjcnkfaa
