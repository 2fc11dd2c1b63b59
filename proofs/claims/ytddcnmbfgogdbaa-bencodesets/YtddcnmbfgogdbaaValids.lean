import Derived.Test.YtddcnmbfgogdbaaWalk
import Derived.Test.YtddcnmbfgogdbaaCopy
import Derived.ProofKit
import Derived.OpenShut
import Derived.SizedLaws
import Derived.Carry
namespace Go.Proofs.Ytddcnmbfgogdbaa
open Go.ChangeShapes Go.WideShapes Go.ChangeAt Go.RowKit Go.Deep
set_option maxHeartbeats 400000 in
theorem valid12 (t : T) (x y : Value) (w : World) (hok : t.ok) (hr : RV (fun _ => True) w t x y) :
    Calls Try.prog 12 #[vv t x y] w fun e w' => e = .returned (.int .i64 (wk t 0)) ∧ Below w.heap.size w w' := by
  have HR : Hid (RV (fun _ => True) w t x y) := hr
  clear hr
  unfold vv
  go_enter Try.func12, Try.ntmps12
  go_wp2_with fail
  refine (fault22 t x y _ 0 (by omega) (by omega) hok (Below.rv ((Below.refl _ _).alloc (Nat.le_refl _) _) (Nat.le_refl _) HR.out)).mono ?_
  rintro e w1 ⟨rfl, hb⟩
  go_wp2
  go_ret
  exact ⟨rfl, ((Below.refl _ _).alloc (Nat.le_refl _) _).trans (hb.mono (by simp))⟩
set_option maxHeartbeats 400000 in
theorem valid13 (t : T) (x y : Value) (w : World) (hok : t.ok) (hr : RV (fun _ => True) w t x y) :
    Calls Try.prog 13 #[vv t x y] w fun e w' => e = .returned (.int .i64 (wk t 0)) ∧ Below w.heap.size w w' := by
  have HR : Hid (RV (fun _ => True) w t x y) := hr
  clear hr
  unfold vv
  go_enter Try.func13, Try.ntmps13
  go_wp2_with fail
  refine (walk23 t x y _ 0 (by omega) (by omega) hok (Below.rv ((Below.refl _ _).alloc (Nat.le_refl _) _) (Nat.le_refl _) HR.out)).mono ?_
  rintro e w1 ⟨rfl, hb⟩
  go_wp2
  go_ret
  exact ⟨rfl, ((Below.refl _ _).alloc (Nat.le_refl _) _).trans (hb.mono (by simp))⟩
set_option maxHeartbeats 1000000 in
theorem valids4 (t : T) (x y : Value) (w : World) (hok : t.ok) (hr : RV (fun _ => True) w t x y) :
    Calls Try.prog 4 #[vv t x y] w fun e w' => e = .returned (.bool true) ∧ Below w.heap.size w w' := by
  have HR : Hid (RV (fun _ => True) w t x y) := hr
  obtain ⟨⟨xa, xn, xc, rfl⟩, ⟨ya, yn, yc, rfl⟩⟩ := hr.slices
  clear hr
  have HO : Hid t.ok := hok
  unfold vv
  have B0 : Hid (Below w.heap.size w (w.alloc (Obj.cells #[.int .i64 t.k, .int .i64 t.n, .string t.s, .slice xa xn xc, .slice ya yn yc] 25))) := (Below.refl _ _).alloc (Nat.le_refl _) _
  go_enter Try.func4, Try.ntmps4
  go_wp2_with fail
  refine (far7 t _ _ _ HO.out (Below.rv B0.out (Nat.le_refl _) HR.out)).mono ?_
  rintro e w1 ⟨r, rfl, hb1, hsm⟩
  have B1 : Hid (Below w.heap.size w w1) := B0.out.trans (hb1.mono (by simp))
  obtain ⟨c0, c1, c2, c3, c4⟩ : w1.cell? ⟨w.heap.size, 0, none⟩ = some (.int .i64 t.k) ∧ w1.cell? ⟨w.heap.size, 1, none⟩ = some (.int .i64 t.n) ∧ w1.cell? ⟨w.heap.size, 2, none⟩ = some (.string t.s) ∧ w1.cell? ⟨w.heap.size, 3, none⟩ = some (.slice xa xn xc) ∧ w1.cell? ⟨w.heap.size, 4, none⟩ = some (.slice ya yn yc) :=
    ⟨Below.cellS hb1 (Nat.le_refl _) (by go_simp), Below.cellS hb1 (Nat.le_refl _) (by go_simp), Below.cellS hb1 (Nat.le_refl _) (by go_simp), Below.cellS hb1 (Nat.le_refl _) (by go_simp), Below.cellS hb1 (Nat.le_refl _) (by go_simp)⟩
  clear hb1 B0
  cases r with
  | true =>
    go_wp2
    go_ret
    exact ⟨rfl, B1.out⟩
  | false =>
    have HS : Hid t.small := hsm rfl
    clear hsm
    go_wp2_with fail
    refine (copy8 t _ _ _ HO.out HS.out (Below.rv B1.out (Nat.le_refl _) HR.out)).mono ?_
    rintro e w2 ⟨x2, y2, rfl, hr2, hb2⟩
    obtain ⟨⟨xa2, xn2, xc2, rfl⟩, ⟨ya2, yn2, yc2, rfl⟩⟩ := hr2.slices
    have HR2 : Hid (RV (fun _ => True) w2 t (.slice xa2 xn2 xc2) (.slice ya2 yn2 yc2)) := RV.keep (fun _ _ => trivial) (Nat.le_refl _) (fun _ _ _ => rfl) _ _ _ hr2
    have B2 : Hid (Below w.heap.size w w2) := B1.out.trans (hb2.mono B1.out.size)
    replace c0 := Below.cellS hb2 (Nat.le_refl _) c0
    replace c1 := Below.cellS hb2 (Nat.le_refl _) c1
    replace c2 := Below.cellS hb2 (Nat.le_refl _) c2
    replace c3 := Below.cellS hb2 (Nat.le_refl _) c3
    replace c4 := Below.cellS hb2 (Nat.le_refl _) c4
    clear hr2 hb2 B1
    have c0' := fun ob => cell_alloc_old (o := ob) c0
    have c1' := fun ob => cell_alloc_old (o := ob) c1
    have c2' := fun ob => cell_alloc_old (o := ob) c2
    have c3' := fun ob => cell_alloc_old (o := ob) c3
    have c4' := fun ob => cell_alloc_old (o := ob) c4
    unfold vv
    go_wp2_with fail
    have BA : Hid (Below w2.heap.size w2 (w2.alloc (Obj.cells #[.int .i64 t.k, .int .i64 t.n, .string t.s, .slice xa2 xn2 xc2, .slice ya2 yn2 yc2] 25))) := (Below.refl _ _).alloc (Nat.le_refl _) _
    have hx : obj (w2.alloc (Obj.cells #[.int .i64 t.k, .int .i64 t.n, .string t.s, .slice xa2 xn2 xc2, .slice ya2 yn2 yc2] 25)) w2.heap.size (.int .i64 t.k) (.int .i64 t.n) (.string t.s) (.slice xa2 xn2 xc2) (.slice ya2 yn2 yc2) := heap_new _ _
    refine (valid12 t _ _ _ HO.out (Below.rv (B2.out.trans (BA.out.mono B2.out.size)) (Nat.le_refl _) HR.out)).mono ?_
    rintro e w3 ⟨rfl, hb3⟩
    have B3 : Hid (Below w2.heap.size w2 w3) := BA.out.trans (hb3.mono (by simp))
    have hx3 := hx.keep (hb3.block _ hx.lt)
    replace c0 := Below.cellS B3.out (Nat.le_refl _) c0
    replace c1 := Below.cellS B3.out (Nat.le_refl _) c1
    replace c2 := Below.cellS B3.out (Nat.le_refl _) c2
    replace c3 := Below.cellS B3.out (Nat.le_refl _) c3
    replace c4 := Below.cellS B3.out (Nat.le_refl _) c4
    obtain ⟨d0, d1, d2, d3, d4⟩ := hx3.cells
    clear hb3 hx c0' c1' c2' c3' c4' BA
    go_wp2_with fail
    refine (valid13 t _ _ _ HO.out (Below.rv B3.out (Nat.le_refl _) HR2.out)).mono ?_
    rintro e w4 ⟨rfl, hb4⟩
    have B4 : Hid (Below w2.heap.size w2 w4) := B3.out.trans (hb4.mono B3.out.size)
    replace c0 := Below.cellS hb4 (Nat.le_refl _) c0
    replace c1 := Below.cellS hb4 (Nat.le_refl _) c1
    replace c2 := Below.cellS hb4 (Nat.le_refl _) c2
    replace c3 := Below.cellS hb4 (Nat.le_refl _) c3
    replace c4 := Below.cellS hb4 (Nat.le_refl _) c4
    replace d0 := Below.cellS hb4 (Nat.le_refl _) d0
    replace d1 := Below.cellS hb4 (Nat.le_refl _) d1
    replace d2 := Below.cellS hb4 (Nat.le_refl _) d2
    replace d3 := Below.cellS hb4 (Nat.le_refl _) d3
    replace d4 := Below.cellS hb4 (Nat.le_refl _) d4
    clear hb4 B3 hx3
    generalize wk t 0 = q
    go_wp2_with fail
    refine (same11 t _ _ _ _ _ HO.out (Below.rv (B2.out.trans (B4.out.mono B2.out.size)) (Nat.le_refl _) HR.out) (Below.rv B4.out (Nat.le_refl _) HR2.out)).mono ?_
    rintro e w5 ⟨rfl, hb5⟩
    go_wp2
    go_ret
    have B24 := B2.out.trans (B4.out.mono B2.out.size)
    exact ⟨rfl, B24.trans (hb5.mono B24.size)⟩
namespace bencodeValids
theorem own : ownKnob Try.prog.godebug = none := by kernel_rfl
theorem laidOut : laidOutB Try.prog = true := by kernel_rfl
/-- an argument that is a value: its cells, its tree -/
theorem openValue {H : Type} {enc : TypeId × Value → H} {W : World} {base : Nat} {v : Value} {d : DataW H} {p : List MemPlace} (hv : Value.okWide Try.prog W .any base 25 v)
    (h : DataW.Trod enc Try.prog W 0 (fun _ => true) true 25 v d p) (hw : ∀ q ∈ DataW.weights Try.prog 25 d, q ≤ reachBytes) :
    ∃ t x y, v = vv t x y ∧ RV (fun _ => True) W t x y ∧ t.ok := by
  obtain ⟨cs, rfl, hcs⟩ := okWide_struct Try.underlying25 hv
  obtain ⟨fuel, hf⟩ := h
  obtain ⟨t, x, y, hc, hr, hok⟩ := rv_of_trod fuel _ _ hf hw
  refine ⟨t, x, y, ?_, hr, hok⟩
  have hc' : cs.toList = [.int .i64 t.k, .int .i64 t.n, .string t.s, x, y] := by simpa [Value.cells] using hc
  unfold vv
  rw [← hc']
set_option maxRecDepth 100000 in
theorem lifted (os : Os) (started : os.Started) (H : Type) (enc : TypeId × Value → H) :
    ReturnsInHanded {} Try.checked os 4 .any (Rows.bencodeValidsSpec.pre6 enc Try.prog Try.f4 Rows.bencodeValidsRow.domain false) (Rows.bencodeValidsSpec.post enc Try.prog Try.f4 false true false false) := by
  refine returnsInHanded_of_change_sized (C := Try.checked) own started (by kernel_rfl) Try.func4
    (ChangeSpec.witness6 (enc := enc) (C := Try.checked) false ⟨#[], #[.agg #[.int .i64 0, .int .i64 0, .string ByteArray.empty, .slice none 0 0, .slice none 0 0]], []⟩ 8 (by kernel_rfl) (by kernel_rfl) (by kernel_rfl) (by kernel_rfl)) ?_
  intro W base args ds gs before hval0 hW hcnd hsz0 _
  have hval : ∀ (j : Nat) t v, Try.f4.params[j]? = some t → args[j]? = some v → Value.okWide Try.prog W .any base t v := hval0
  have hsz : (DataW.weightsEach Try.prog (Try.f4.params.toList ++ Rows.bencodeValidsSpec.plain.varTypes Try.prog) (ds ++ gs)).all (· ≤ reachBytes) = true := hsz0
  have hW' := hW
  obtain ⟨p, q, hA0, hV, rfl, _, _⟩ := hW
  have hA : DataW.TrodAll enc Try.prog W 0 (fun _ => true) true Try.f4.params.toList args.toList ds p := hA0
  rw [Try.params4] at hA hval hsz
  obtain ⟨v0, d0, rfl, rfl, h0⟩ := trodAll_one hA
  obtain ⟨rfl, rfl⟩ := trodVars_none hV
  have h0k := h0
  have hlt : ∀ x ∈ p, x.block < W.heap.size := by obtain ⟨m, hm⟩ := h0k; exact DataW.trod_lt m _ _ _ hm
  obtain ⟨t, x, y, rfl, hr, hok⟩ := openValue (hval 0 25 v0 rfl rfl) h0 (fun q hq => by
    have := List.all_eq_true.1 hsz q (by simp [DataW.weightsEach, hq])
    simpa using this)
  clear hA0 hval0
  simp only [List.append_nil] at hW'
  refine (valids4 t x y W hok hr).mono fun e W' ⟨he, bel⟩ => ?_
  subst he
  exact ⟨_, rfl, _, _, _, [], _, [], hW', trodAll_mk1 (shut_bool Try.underlying4 _), trodAll_mk1 (Below.trod laidOut (by kernel_rfl) (of_decide_eq_true (by kernel_rfl)) h0k bel hlt), rfl, bel.frame _, fun h => by cases h⟩
end bencodeValids
theorem bencodeValids_holds : Rows.BencodeValidsSaid :=
  OpenClaim.holds_of_wide 4 Try.f4 rfl rfl rfl rfl rfl rfl rfl ⟨rfl, rfl, rfl, rfl, rfl⟩ rfl rfl rfl rfl rfl (by kernel_rfl) Try.func4 (by kernel_rfl)
    (of_decide_eq_true (by kernel_rfl)) (by unfold Func.isWrapper; first | (rw [if_pos (by decide +kernel)]; kernel_rfl) | (rw [if_neg (by decide +kernel)]; exact ⟨rfl, rfl⟩))
    (fun os started H enc _ => bencodeValids.lifted os started H enc)
#print axioms bencodeValids_holds
end Go.Proofs.Ytddcnmbfgogdbaa
