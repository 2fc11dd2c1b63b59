import Derived.Test.YtkbfphdedgeofaaRm
import Derived.Test.YtkbfphdedgeofaaOpenU
namespace Go.Proofs.Ytkbfphdedgeofaa
open Go.ChangeShapes Go.WideShapes Go.ChangeAt Go.RowKit Go.Deep
section
variable {H : Type} {enc : TypeId × Value → H} {w : World}
theorem cellsOp : Try.prog.cellsOf 51 = 2 := by kernel_rfl
/-- a step as it lies in memory -/
theorem openOp {m : Nat} {cs : List Value} {x : DataW H × List MemPlace} (h : DataW.trod enc Try.prog w 0 (fun _ => true) true m 51 cs = some x) :
    ∃ u : Ro, cs = u.ls ∧ RB w u.dv u.dl ∧ u.dl.length + 1 ≤ Rows.uptoBulk x.1 ∧ -9223372036854775808 ≤ u.k ∧ u.k ≤ 9223372036854775807 := by
  obtain ⟨xs, n, _, hx, hl, hlen, hf⟩ := DataW.trod_struct Try.underlying51 h
  rw [cellsOp] at hl
  have hL : xs.length = 2 := hlen
  obtain ⟨c0, c1, rfl⟩ : ∃ c0 c1, cs = [c0, c1] := by
    match cs, hl with
    | [c0, c1], _ => exact ⟨c0, c1, rfl⟩
  have f0 : DataW.trod enc Try.prog w 0 (fun _ => true) true n 3 (([c0, c1].drop 0).take (Try.prog.cellsOf 3)) = xs[0]? := hf 0 _ rfl
  have f1 : DataW.trod enc Try.prog w 0 (fun _ => true) true n 28 (([c0, c1].drop 1).take (Try.prog.cellsOf 28)) = xs[1]? := hf 1 _ rfl
  rw [cells3, List.getElem?_eq_getElem (by omega)] at f0
  rw [cellsB, List.getElem?_eq_getElem (by omega)] at f1
  have g0 : DataW.trod enc Try.prog w 0 (fun _ => true) true n 3 [c0] = some xs[0] := f0
  have g1 : DataW.trod enc Try.prog w 0 (fun _ => true) true n 28 [c1] = some xs[1] := f1
  obtain ⟨z, e0, _, wa⟩ := DataW.trod_int Try.underlying3 g0
  have h255 : -9223372036854775808 ≤ z ∧ z ≤ 9223372036854775807 := by simpa [Lit.wf, IntKind.min, IntKind.max, IntKind.signed, IntKind.bits] using wa
  simp at e0
  subst e0
  obtain ⟨l, h1, h2⟩ := openBytesB g1
  refine ⟨⟨z, c1, l⟩, rfl, h1, ?_, h255⟩
  rw [hx]
  have hm : xs[1].1 ∈ xs.map (·.1) := List.mem_map_of_mem (List.getElem_mem _)
  have := bulk_mem hm
  simp only [Rows.uptoBulk]
  omega
theorem dsum_bulk : ∀ (us : List Ro) (E : List (DataW H)), us.length = E.length → (∀ i (hi : i < E.length) u, us[i]? = some u → u.dl.length + 1 ≤ Rows.uptoBulk E[i]) → dsum us + us.length ≤ Rows.uptoBulkAll E
  | [], _, _, _ => by simp [dsum]
  | u :: us, [], h, _ => by simp at h
  | u :: us, e :: E, h, hb => by
    have h1 := dsum_bulk us E (by simpa using h) (fun i hi z hz => hb (i + 1) (by simpa using hi) z (by simpa using hz))
    have h2 := hb 0 (by simp) u rfl
    simp only [List.getElem_cons_zero] at h2
    simp only [dsum, List.map_cons, List.sum_cons, Rows.uptoBulkAll, List.length_cons] at h1 ⊢
    omega
theorem openScriptU {base : Nat} {v : Value} {d : DataW H} {ps : List MemPlace} (hv : Value.okWide Try.prog w .any base 47 v)
    (h : DataW.Trod enc Try.prog w 0 (fun _ => true) true 47 v d ps) : ∃ us, RO w v us ∧ dsum us + us.length + 1 ≤ Rows.uptoBulk d := by
  obtain ⟨a0, len0, cap0, rfl⟩ := okWide_slice Try.underlying47 hv
  obtain ⟨fuel, hf⟩ := h
  have hf' : DataW.trod enc Try.prog w 0 (fun _ => true) true fuel 47 [.slice a0 len0 cap0] = some (d, ps) := hf
  obtain ⟨a, len, cap, he, hlc, hrow⟩ := openRowB Try.underlying47 hf' (by rw [cellsOp]; omega)
  rw [he]
  rcases hrow with rfl | ⟨m, elems, hlen, hbulk, b, o, rfl, hlt, hel⟩
  · exact ⟨[], ⟨⟨a, cap, rfl, hlc, .inl rfl⟩, by simp⟩, by have := bulk_pos d; simpa [dsum] using this⟩
  simp only at hbulk
  have key : ∀ i, i < len → ∃ u : Ro, w.rangeAt b (o + i * 2) u.ls ∧ RB w u.dv u.dl ∧ ∀ hi : i < elems.length, u.dl.length + 1 ≤ Rows.uptoBulk elems[i].1 := fun i hi => by
    obtain ⟨cs, hcl, hc, ht⟩ := hel i (by omega)
    obtain ⟨u, rfl, h1, h2, _⟩ := openOp ht
    rw [cellsOp] at hc
    refine ⟨u, fun j x hj => ?_, h1, fun _ => h2⟩
    have hj2 : j < 2 := by have := (List.getElem?_eq_some_iff.1 hj).1; simpa [Ro.ls] using this
    rw [hc j hj2]; exact hj
  have hinh : Inhabited Ro := ⟨⟨0, undef, []⟩⟩
  obtain ⟨f, hf⟩ := choose_lt key
  obtain ⟨l, rfl, hl⟩ := lists_of f len
  refine ⟨l, ⟨⟨_, cap, rfl, hlc, .inr ⟨b, o, rfl, hlt, fun i u hu => ?_⟩⟩, fun u hu => ?_⟩, ?_⟩
  · have hi := (List.getElem?_eq_some_iff.1 hu).1
    rw [hl i hi] at hu
    injection hu with hu
    subst hu
    exact (hf i hi).1
  · obtain ⟨i, hi, rfl⟩ := List.getElem_of_mem hu
    have := hl i hi
    rw [List.getElem?_eq_getElem hi] at this
    injection this with this
    rw [this]; exact (hf i hi).2.1
  · have := dsum_bulk l (elems.map (·.1)) (by rw [List.length_map]; omega) (fun i hi u hu => by
      rw [List.length_map] at hi
      rw [hl i (by omega)] at hu
      injection hu with hu
      subst hu
      rw [List.getElem_map]
      exact (hf i (by omega)).2.2 hi)
    omega
end
theorem readsLaw (none hello : Bool) (v : Value) (us : List Ro) (w : World) (hr : RO w v us) (hl : us.length ≤ 1048576) (hd : dsum us ≤ 1048576) :
    Calls Try.prog 4 #[.bool none, .bool hello, v] w fun e w' => e = .returned (.bool true) ∧ Below w.heap.size w w' := by
  cases none
  · exact readsSome hello v us w hr hl hd
  · exact readsNone hello v us w hr hl hd
theorem frameReads_contract (H : Type) (enc : TypeId × Value → H) (W : World) (base : Nat) (args : Array Value) (ds gs : List (DataW H)) (before : List MemPlace)
    (hval0 : ∀ (j : Nat) t v, Try.f4.params[j]? = some t → args[j]? = some v → Value.okWide Try.prog W .any base t v)
    (hW : DataW.Whole enc Try.prog Try.f4.params.toList Rows.frameReadsSpec.vars false W args.toList ds gs before)
    (hk0 : Rows.uptoSmall H (ds ++ gs) = true) :
    Calls Try.prog 4 args W fun e W' => ∃ v, e = .returned v ∧ Rows.frameReadsSpec.post enc Try.prog Try.f4 false true false false W args v W' := by
  have hval : ∀ (j : Nat) t v, Try.f4.params[j]? = some t → args[j]? = some v → Value.okWide Try.prog W .any base t v := hval0
  have hW' := hW
  obtain ⟨p, q, hA0, hV, rfl, _, _⟩ := hW
  have hA : DataW.TrodAll enc Try.prog W 0 (fun _ => true) true Try.f4.params.toList args.toList ds p := hA0
  rw [Try.params4] at hA hval
  obtain ⟨v0, vs0, d0, ds0, p0, q0, hargs, rfl, rfl, h0, r0⟩ := trodAll_cons hA
  obtain ⟨v1, vs1, d1, ds1, p1, q1, rfl, rfl, rfl, h1, r1⟩ := trodAll_cons r0
  obtain ⟨v2, vs2, d2, ds2, p2, q2, rfl, rfl, rfl, h2, r2⟩ := trodAll_cons r1
  obtain ⟨rfl, rfl, rfl⟩ := trodAll_nil r2
  obtain rfl : args = #[v0, v1, v2] := by cases args; simp_all
  obtain ⟨rfl, rfl⟩ := trodVars_none hV
  have hk : Rows.uptoBulk d0 + Rows.uptoBulk d1 + Rows.uptoBulk d2 ≤ 1048576 := by
    have h := of_decide_eq_true hk0
    simp only [List.cons_append, List.nil_append, Rows.uptoBulkAll] at h
    omega
  have k0 := h0
  obtain ⟨x0, rfl, rfl, rfl⟩ := open_bool Try.underlying4 (hval 0 4 v0 rfl rfl) h0
  have k1 := h1
  obtain ⟨x1, rfl, rfl, rfl⟩ := open_bool Try.underlying4 (hval 1 4 v1 rfl rfl) h1
  have k2 := h2
  obtain ⟨x2, e2, g2⟩ := openScriptU (hval 2 47 v2 rfl rfl) h2
  clear hA0 hval0
  simp only [List.append_nil] at hW'
  refine (readsLaw x0 x1 v2 x2 W e2 (by omega) (by omega)).mono fun e W' ⟨he, bel⟩ => ?_
  subst he
  exact ⟨_, rfl, _, _, _, [], _, [], hW', trodAll_mk1 (shut_bool Try.underlying4 _), (trodAll_cons_mk (Below.trod laidO (by kernel_rfl) (of_decide_eq_true (by kernel_rfl)) k0 bel (trodLt k0)) (trodAll_cons_mk (Below.trod laidO (by kernel_rfl) (of_decide_eq_true (by kernel_rfl)) k1 bel (trodLt k1)) (trodAll_cons_mk (Below.trod laidO (by kernel_rfl) (of_decide_eq_true (by kernel_rfl)) k2 bel (trodLt k2)) trodAll_mk0))), rfl, bel.frame _, fun h => by cases h⟩
set_option maxRecDepth 100000 in
theorem frameReads_lifted (os : Os) (started : os.Started) (H : Type) (enc : TypeId × Value → H) (F : Stop.Interp) :
    ReturnsInHanded {} Try.checked os 4 .any ((Rows.OpenSpec.upto Rows.frameReadsSpec).pre6 enc Try.prog Try.f4 Rows.frameReadsUptoRow.domain false) (((Rows.OpenSpec.upto Rows.frameReadsSpec).at F).post enc Try.prog Try.f4 false true false false) := by
  refine returnsInHanded_of_cond (C := Try.checked) (s := Rows.OpenSpec.upto Rows.frameReadsSpec) (k := Rows.uptoSmall) rfl ownKn started (by kernel_rfl) Try.func4
    (OpenSpec.witness (enc := enc) (C := Try.checked) (s := Rows.OpenSpec.upto Rows.frameReadsSpec) (k := Rows.uptoSmall) rfl false ⟨#[], #[.bool false, .bool false, .slice none 0 0], []⟩ 8 (by kernel_rfl) (by kernel_rfl) (by kernel_rfl)
      (x := ([.lit (.bool false), .lit (.bool false), .nil], [], [])) (by kernel_rfl) rfl (by kernel_rfl)) ?_
  intro W base args ds gs before hval hW _ hk _
  exact frameReads_contract H enc W base args ds gs before hval hW hk
theorem frameReadsUpto_holds : Rows.FrameReadsUptoSaid :=
  OpenClaim.holds_of_cond 4 Try.f4 rfl rfl rfl rfl rfl rfl rfl ⟨rfl, rfl, rfl, rfl, rfl⟩ rfl rfl rfl rfl rfl (by kernel_rfl) Try.func4 (by kernel_rfl)
    (of_decide_eq_true (by kernel_rfl)) (by unfold Func.isWrapper; first | (rw [if_pos (by decide +kernel)]; kernel_rfl) | (rw [if_neg (by decide +kernel)]; exact ⟨rfl, rfl⟩))
    (fun os started H enc _ F => frameReads_lifted os started H enc F)
#print axioms frameReadsUpto_holds
end Go.Proofs.Ytkbfphdedgeofaa
