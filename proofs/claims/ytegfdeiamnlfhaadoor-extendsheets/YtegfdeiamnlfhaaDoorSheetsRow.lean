import Derived.Test.YtegfdeiamnlfhaaDoorSx
import Derived.Test.YtegfdeiamnlfhaaDoorTie
import Derived.Test.YtegfdeiamnlfhaaDoorCards
import Derived.ProofKit
import Derived.OpenShut
import Derived.SizedLaws
import Derived.Carry
import Derived.LaidMore
import Derived.Lay
import Derived.SevenTiedAt
import Derived.Stop.Joined
import Derived.Stop.LaidErr
import Derived.Lib.AppendIntMem
import Derived.Lib.LaidTab
namespace Go.Proofs.YtegfdeiamnlfhaaDoor
open Go.ChangeShapes Go.WideShapes Go.ChangeAt Go.RowKit Go.Deep
theorem ownKn : ownKnob Tryd.prog.godebug = none := by kernel_rfl
theorem laidO : laidOutB Tryd.prog = true := by kernel_rfl
theorem trodLt {H : Type} {enc : TypeId × Value → H} {W : World} {t : TypeId} {v : Value} {d : DataW H} {p : List MemPlace} (h : DataW.Trod enc Tryd.prog W 0 (fun _ => true) true t v d p) : ∀ x ∈ p, x.block < W.heap.size := by
  obtain ⟨m, hm⟩ := h
  exact DataW.trod_lt m _ _ _ hm
theorem cells5 : Tryd.prog.cellsOf 5 = 1 := by kernel_rfl
theorem bytes5 : Tryd.prog.bytesOf 5 = 1 := by kernel_rfl
theorem cells22' : Tryd.prog.cellsOf 22 = 1 := by kernel_rfl
theorem cells24 : Tryd.prog.cellsOf 24 = 4 := by kernel_rfl
theorem lists_of {α : Type} (f : Nat → α) (n : Nat) : ∃ L : List α, L.length = n ∧ ∀ i, i < n → L[i]? = some (f i) :=
  ⟨(List.range n).map f, by simp, fun i hi => by simp [hi]⟩
theorem len4 {α : Type} {l : List α} (h : l.length = 4) : ∃ a b c d, l = [a, b, c, d] := by
  match l, h with
  | [a, b, c, d], _ => exact ⟨a, b, c, d, rfl⟩
section
variable {H : Type} {enc : TypeId × Value → H} {w : World}
theorem rb_of_trod {fuel : Nat} {v : Value} {x : DataW H × List MemPlace} (h : DataW.trod enc Tryd.prog w 0 (fun _ => true) true fuel 22 [v] = some x) (hw : ∀ q ∈ DataW.weights Tryd.prog 22 x.1, q ≤ reachBytes) :
    ∃ l, Bs.RB w v l ∧ l.length ≤ 140737488351232 := by
  have hcap : ∀ a len cap, v = .slice a len cap → len ≤ cap := fun a len cap e => by
    rcases DataW.trod_slice Tryd.underlying22 h with ⟨h0, _⟩ | ⟨a', len', cap', elems, rest, m, _, h0, _, _, hlc, _⟩
    · rw [e] at h0; simp at h0; omega
    · rw [e] at h0; simp at h0; omega
  obtain ⟨ad, dn, cd, rfl, bd, gd⟩ := openRow Tryd.underlying22 h hw (by rw [cells5]; omega)
  have hle := hcap _ _ _ rfl
  rw [bytes5] at bd
  rw [cells5] at gd
  have e1 : reachBytes = 140737488351232 := rfl
  rcases gd with rfl | ⟨m', rfl, b, o, rfl, hb, g⟩
  · exact ⟨[], ⟨_, _, rfl, hle, .inl rfl⟩, by simp⟩
  have : ∀ i, i < dn → ∃ z : UInt8, w.cell? ⟨b, o + i, none⟩ = some (.int .u8 (z.toNat : Int)) := by
    intro i hi
    obtain ⟨cs, y, hcl, hcell, ht, hq⟩ := g i hi
    obtain ⟨c0, rfl⟩ := List.length_eq_one_iff.1 hcl
    obtain ⟨z, e0, _, wa⟩ := DataW.trod_int Tryd.underlying5 ht
    have h255 : 0 ≤ z ∧ z ≤ 255 := by simpa [Lit.wf, IntKind.min, IntKind.max, IntKind.signed, IntKind.bits] using wa
    simp at e0
    subst e0
    refine ⟨UInt8.ofNat z.toNat, ?_⟩
    rw [UInt8.toNat_ofNat', Nat.mod_eq_of_lt (by omega)]
    have := hcell 0 (by omega)
    simp at this
    rw [this]
    congr 2
    omega
  have : Inhabited UInt8 := ⟨0⟩
  obtain ⟨f, hf⟩ := choose_lt ‹∀ i, i < dn → _›
  obtain ⟨L, rfl, hL⟩ := lists_of f dn
  refine ⟨L, ⟨_, _, rfl, hle, .inr ⟨b, o, rfl, hb, fun i hi => ?_⟩⟩, by rw [e1] at bd; omega⟩
  have : Bs.byt L i = f i := by unfold Bs.byt; simp [List.getD, hL i hi]
  rw [this]
  exact hf i hi
set_option maxRecDepth 100000 in
theorem openSheet {base : Nat} {v : Value} {d : DataW H} {ps : List MemPlace} (hv : Value.okWide Tryd.prog w .any base 24 v) (h : DataW.Trod enc Tryd.prog w 0 (fun _ => true) true 24 v d ps) (hw : ∀ q ∈ DataW.weights Tryd.prog 24 d, q ≤ reachBytes) :
    ∃ k p t dv l, v = .agg #[.int .i64 k, .int .i64 p, .int .i64 t, dv] ∧ i64 k ∧ i64 p ∧ i64 t ∧ Bs.RB w dv l ∧ l.length ≤ 140737488351232 := by
  obtain ⟨cs, rfl, hcs⟩ := okWide_struct Tryd.underlying24 hv
  obtain ⟨fuel, hf⟩ := h
  obtain ⟨xs, m, rfl, hxx, hl, hx, hf⟩ := DataW.trod_struct Tryd.underlying24 hf
  rw [cells24] at hl
  obtain ⟨c0, c1, c2, c3, hc⟩ := len4 hl
  have hcl : cs = #[c0, c1, c2, c3] := by
    have : cs.toList = [c0, c1, c2, c3] := by simpa [Value.cells] using hc
    rw [← this]
  subst hcl
  obtain ⟨x0, x1, x2, x3, rfl⟩ := len4 (l := xs) (by simpa using hx)
  rw [hc] at hf
  have f0 := hf 0 _ rfl
  have f1 := hf 1 _ rfl
  have f2 := hf 2 _ rfl
  have f3 := hf 3 _ rfl
  simp [cells3, cells22'] at f0 f1 f2 f3
  obtain ⟨z0, e0, _, wa0⟩ := DataW.trod_int Tryd.underlying3 f0
  obtain ⟨z1, e1, _, wa1⟩ := DataW.trod_int Tryd.underlying3 f1
  obtain ⟨z2, e2, _, wa2⟩ := DataW.trod_int Tryd.underlying3 f2
  have g0 : -9223372036854775808 ≤ z0 ∧ z0 ≤ 9223372036854775807 := by simpa [Lit.wf, IntKind.min, IntKind.max, IntKind.signed, IntKind.bits] using wa0
  have g1 : -9223372036854775808 ≤ z1 ∧ z1 ≤ 9223372036854775807 := by simpa [Lit.wf, IntKind.min, IntKind.max, IntKind.signed, IntKind.bits] using wa1
  have g2 : -9223372036854775808 ≤ z2 ∧ z2 ≤ 9223372036854775807 := by simpa [Lit.wf, IntKind.min, IntKind.max, IntKind.signed, IntKind.bits] using wa2
  simp at e0 e1 e2
  subst e0 e1 e2
  have hd : d = .agg ([x0, x1, x2, x3].map (·.1)) := congrArg Prod.fst hxx
  rw [hd] at hw
  simp only [DataW.weights, Tryd.underlying24, DataW.weightsEach, List.map, List.mem_append, List.append_nil] at hw
  obtain ⟨l, hr, hl2⟩ := rb_of_trod f3 (fun q hq => hw q (by simp only [hq, or_true]))
  exact ⟨z0, z1, z2, c3, l, rfl, g0, g1, g2, hr, hl2⟩
end
theorem tab_of_laid {W : World} {r : List (String × DataW Unit)} (h : laidMet Tryd.prog (("math/bits.deBruijn32tab", Rows.laid_math_bits_deBruijn32tab) :: ("math/bits.deBruijn64tab", Rows.laid_math_bits_deBruijn64tab) :: ("internal/strconv.uint64pow10", Rows.laid_internal_strconv_uint64pow10) :: r) W) : TB W.heap.size W :=
  Lib.tabBelow_of_tabIs (Lib.tabIs_of_head (g := 1) (t := 87) (e := 80) (n := 20) (by kernel_rfl) (by kernel_rfl) (by kernel_rfl) (by kernel_rfl) (by kernel_rfl) (by kernel_rfl) (laidMet.tail (laidMet.tail h)))
set_option maxRecDepth 100000 in
theorem extendSheets_lifted (os : Os) (started : os.Started) (H : Type) (enc : TypeId × Value → H) :
    ReturnsInHanded {} Tryd.checked os 3 .any (fun w args => (Rows.extendSheetsSpec.pre enc Tryd.prog Tryd.f3 Rows.extendSheetsRow.domain false w args ∧ laidMetH Tryd.prog Rows.extendSheetsRow.laid w) ∧ sizedMet enc Tryd.prog Tryd.f3 (OpenSpec.ofChange Rows.extendSheetsSpec) false w args)
      (Rows.extendSheetsSpec.post enc Tryd.prog Tryd.f3 false true false false) := by
  refine returnsInHanded_of_change_and (C := Tryd.checked) (X := fun w _ => laidMetH Tryd.prog Rows.extendSheetsRow.laid w) (fun _ _ _ hh h => h.of_heap hh) ownKn started (by kernel_rfl) Tryd.func3
    (ChangeSpec.witness_shaped (enc := enc) (C := Tryd.checked) (os := os) (X := fun w _ => laidMetH Tryd.prog Rows.extendSheetsRow.laid w) false (World.laidAll Tryd.prog os Rows.extendSheetsRow.laid) #[.agg #[.int .i64 0, .int .i64 0, .int .i64 0, .slice none 0 0]] 8 (World.laidAll_os _ _ _)
      (World.shaped_of_ZipB (by kernel_rfl) (by kernel_rfl)) (by kernel_rfl) (by kernel_rfl) (by kernel_rfl)
      (by rw [MakeChecks.laidMetH_plain _ _ _ (by kernel_rfl)]; exact laidMet_laidAll _ (by kernel_rfl) (by kernel_rfl))) ?_
  intro W base args ds gs before hval0 hW hcnd hsz0 hL _
  have hval : ∀ (j : Nat) t v, Tryd.f3.params[j]? = some t → args[j]? = some v → Value.okWide Tryd.prog W .any base t v := hval0
  have hsz : (DataW.weightsEach Tryd.prog (Tryd.f3.params.toList ++ Rows.extendSheetsSpec.plain.varTypes Tryd.prog) (ds ++ gs)).all (· ≤ reachBytes) = true := hsz0
  have hT : TB W.heap.size W := by
    have hL2 : laidMetH Tryd.prog Rows.extendSheetsRow.laid W := hL
    rw [MakeChecks.laidMetH_plain _ _ _ (by kernel_rfl)] at hL2
    exact tab_of_laid hL2
  have hW' := hW
  obtain ⟨p, q, hA0, hV, rfl, _, _⟩ := hW
  have hA : DataW.TrodAll enc Tryd.prog W 0 (fun _ => true) true Tryd.f3.params.toList args.toList ds p := hA0
  rw [Tryd.params3] at hA hval hsz
  obtain ⟨v0, d0, rfl, rfl, h0⟩ := trodAll_one hA
  obtain ⟨rfl, rfl⟩ := trodVars_none hV
  have h0k := h0
  obtain ⟨k, pp', t, dv, l, rfl, i1, i2, i3, hr, hl⟩ := openSheet (hval 0 24 v0 rfl rfl) h0 (fun q hq => by
    have := List.all_eq_true.1 hsz q (by simp [DataW.weightsEach, hq])
    simpa using this)
  clear hA0 hval0
  simp only [List.append_nil] at hW'
  refine (sheetsLaw k pp' t dv l W i1 i2 i3 hr hl hT).mono fun e W' ⟨he, bel⟩ => ?_
  subst he
  exact ⟨_, rfl, _, _, _, [], _, [], hW', trodAll_mk1 (shut_bool Tryd.underlying4 _), trodAll_mk1 (Below.trod laidO (by kernel_rfl) (of_decide_eq_true (by kernel_rfl)) h0k bel (trodLt h0k)), rfl, bel.frame _, fun h => by cases h⟩
theorem extendSheets_holds : Rows.ExtendSheetsSaid :=
  OpenClaim.holds_of_wide 3 Tryd.f3 rfl rfl rfl rfl rfl rfl rfl ⟨rfl, rfl, rfl, rfl, rfl⟩ rfl rfl rfl rfl rfl (by kernel_rfl) Tryd.func3 (by kernel_rfl)
    (of_decide_eq_true (by kernel_rfl)) (by unfold Func.isWrapper; first | (rw [if_pos (by decide +kernel)]; kernel_rfl) | (rw [if_neg (by decide +kernel)]; exact ⟨rfl, rfl⟩))
    (fun os started H enc _ => extendSheets_lifted os started H enc)
theorem extendSheets_card_holds : Rows.ExtendSheetsCardSaid :=
  Claim7.holds_tied_plain_at .later [] [.data, .data, .data] true (true, "b78b9685e325864678c74af80b6e3b200fc609830c64b341f4cad6094933de7f") false extendSheets_holds (fun _ h => by cases h) (by kernel_rfl) (fun _ h => by cases h) extendSheets_row_tie rfl ⟨rfl, rfl⟩ (by kernel_rfl) rfl
    (fun f fn hf hfn => by
      obtain rfl : f = 3 := Option.some.inj ((show Tryd.prog.funcNamed "torrent/torrentlaw21.ExtendSheets" = some 3 by kernel_rfl).symm.trans hf) |>.symm
      obtain rfl : fn = Tryd.f3 := (Option.some.inj (Tryd.func3.symm.trans hfn)).symm
      exact ⟨by kernel_rfl, fun j t ht => by
        rw [Tryd.params3] at ht
        have hm : t ∈ [24] := by simpa using Array.mem_of_getElem? ht
        have hall : ([24].all fun u => !Tryd.prog.wantsStandIn u) = true := by kernel_rfl
        exact (show Tryd.prog.wantsStandIn t = false by simpa using List.all_eq_true.1 hall t hm)⟩)
    (by kernel_rfl)
#print axioms extendSheets_card_holds
end Go.Proofs.YtegfdeiamnlfhaaDoor
