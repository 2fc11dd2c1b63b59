import Derived.Test.YtddcnmbfgogdbaaEq
import Derived.Test.YtddcnmbfgogdbaaCopy
import Derived.Test.YtddcnmbfgogdbaaOpen
namespace Go.Proofs.Ytddcnmbfgogdbaa
open Go.ChangeShapes Go.WideShapes Go.ChangeAt Go.RowKit Go.Deep
/-- in block b a value lies that reads as t -/
def VB (w : World) (b : Nat) (t : T) (x y : Value) : Prop := obj w b (.int .i64 t.k) (.int .i64 t.n) (.string t.s) x y ∧ RV (fun _ => True) w t x y
theorem VB.keep {w w' : World} {b : Nat} {t : T} {x y : Value} (h : VB w b t x y) (hb : Below w.heap.size w w') : VB w' b t x y :=
  ⟨h.1.keep (hb.block _ h.1.lt), Below.rv hb (Nat.le_refl _) h.2⟩
set_option maxHeartbeats 4000000 in
theorem equals3 (t t2 : T) (x y x2 y2 : Value) (w : World) (hok : t.ok) (hok2 : t2.ok) (hr : RV (fun _ => True) w t x y) (hr2 : RV (fun _ => True) w t2 x2 y2) :
    Calls Try.prog 3 #[vv t x y, vv t2 x2 y2] w fun e w' => e = .returned (.bool true) ∧ Below w.heap.size w w' := by
  obtain ⟨⟨xa, xn, xc, rfl⟩, ⟨ya, yn, yc, rfl⟩⟩ := hr.slices
  obtain ⟨⟨xa2, xn2, xc2, rfl⟩, ⟨ya2, yn2, yc2, rfl⟩⟩ := hr2.slices
  have HO : Hid (t.ok ∧ t2.ok) := ⟨hok, hok2⟩
  have B0 : Hid (Below w.heap.size w ((w.alloc (Obj.cells #[.int .i64 t.k, .int .i64 t.n, .string t.s, .slice xa xn xc, .slice ya yn yc] 25)).alloc (Obj.cells #[.int .i64 t2.k, .int .i64 t2.n, .string t2.s, .slice xa2 xn2 xc2, .slice ya2 yn2 yc2] 25))) := ((Below.refl _ _).alloc (Nat.le_refl _) _).alloc (by simp) _
  have V0 : Hid (VB ((w.alloc (Obj.cells #[.int .i64 t.k, .int .i64 t.n, .string t.s, .slice xa xn xc, .slice ya yn yc] 25)).alloc (Obj.cells #[.int .i64 t2.k, .int .i64 t2.n, .string t2.s, .slice xa2 xn2 xc2, .slice ya2 yn2 yc2] 25)) w.heap.size t (.slice xa xn xc) (.slice ya yn yc)) :=
    ⟨(Below.heap_alloc _ _ _ (by simp)).trans (heap_new _ _), Below.rv B0.out (Nat.le_refl _) hr⟩
  have V1 : Hid (VB ((w.alloc (Obj.cells #[.int .i64 t.k, .int .i64 t.n, .string t.s, .slice xa xn xc, .slice ya yn yc] 25)).alloc (Obj.cells #[.int .i64 t2.k, .int .i64 t2.n, .string t2.s, .slice xa2 xn2 xc2, .slice ya2 yn2 yc2] 25)) (w.heap.size + 1) t2 (.slice xa2 xn2 xc2) (.slice ya2 yn2 yc2)) :=
    ⟨by have := heap_new (w.alloc (Obj.cells #[.int .i64 t.k, .int .i64 t.n, .string t.s, .slice xa xn xc, .slice ya yn yc] 25)) (Obj.cells #[.int .i64 t2.k, .int .i64 t2.n, .string t2.s, .slice xa2 xn2 xc2, .slice ya2 yn2 yc2] 25); simpa [obj] using this, Below.rv B0.out (Nat.le_refl _) hr2⟩
  clear hok hok2 hr hr2
  unfold vv
  go_enter Try.func3, Try.ntmps3
  go_wp2_with fail
  refine (far7 t _ _ _ HO.out.1 V0.out.2).mono ?_
  rintro e w1 ⟨r, rfl, hb1, hsm⟩
  have B1 : Hid (Below w.heap.size w w1) := B0.out.trans (hb1.mono (by simp; omega))
  replace V0 : Hid _ := VB.keep V0.out hb1
  replace V1 : Hid _ := VB.keep V1.out hb1
  clear hb1 B0
  generalize hvb : w.heap.size = vb at *
  have HS : Hid (w.heap.size = vb) := hvb
  clear hvb
  cases r with
  | true =>
    clear hsm
    go_wp2
    go_ret
    exact ⟨rfl, HS.out ▸ B1.out⟩
  | false =>
  have S1 : Hid t.small := hsm rfl
  clear hsm
  obtain ⟨c0, c1, c2, c3, c4⟩ := V1.out.1.cells
  go_wp2_with fail
  refine (far7 t2 _ _ _ HO.out.2 V1.out.2).mono ?_
  rintro e w2 ⟨r, rfl, hb1, hsm⟩
  have B2 : Hid (Below vb w w2) := B1.out.trans (hb1.mono (HS.out ▸ B1.out.size))
  replace V0 : Hid _ := VB.keep V0.out hb1
  replace V1 : Hid _ := VB.keep V1.out hb1
  clear hb1 B1 c0 c1 c2 c3 c4
  cases r with
  | true =>
    clear hsm
    go_wp2
    go_ret
    exact ⟨rfl, HS.out ▸ B2.out⟩
  | false =>
  have S2 : Hid t2.small := hsm rfl
  clear hsm
  obtain ⟨c0, c1, c2, c3, c4⟩ := V0.out.1.cells
  go_wp2_with fail
  refine (copy8 t _ _ _ HO.out.1 S1.out V0.out.2).mono ?_
  rintro e w3 ⟨x3, y3, rfl, hr3, hb1⟩
  obtain ⟨⟨xa3, xn3, xc3, rfl⟩, ⟨ya3, yn3, yc3, rfl⟩⟩ := hr3.slices
  have B3 : Hid (Below vb w (w3.alloc (Obj.cells #[.int .i64 t.k, .int .i64 t.n, .string t.s, .slice xa3 xn3 xc3, .slice ya3 yn3 yc3] 25))) := (B2.out.trans (hb1.mono (HS.out ▸ B2.out.size))).alloc (by have := B2.out.size; have := hb1.size; have := HS.out; omega) _
  have hA : Below w3.heap.size w3 (w3.alloc (Obj.cells #[.int .i64 t.k, .int .i64 t.n, .string t.s, .slice xa3 xn3 xc3, .slice ya3 yn3 yc3] 25)) := (Below.refl _ _).alloc (Nat.le_refl _) _
  have V2 : Hid (VB (w3.alloc (Obj.cells #[.int .i64 t.k, .int .i64 t.n, .string t.s, .slice xa3 xn3 xc3, .slice ya3 yn3 yc3] 25)) w3.heap.size t (.slice xa3 xn3 xc3) (.slice ya3 yn3 yc3)) := ⟨heap_new _ _, Below.rv hA (Nat.le_refl _) hr3⟩
  replace V0 : Hid _ := VB.keep (VB.keep V0.out hb1) hA
  replace V1 : Hid _ := VB.keep (VB.keep V1.out hb1) hA
  obtain ⟨d0, d1, d2, d3, d4⟩ := V1.out.1.cells
  unfold vv
  clear hb1 B2 c0 c1 c2 c3 c4 hr3 hA
  go_wp2_with fail
  generalize (w3.alloc (Obj.cells #[.int .i64 t.k, .int .i64 t.n, .string t.s, .slice xa3 xn3 xc3, .slice ya3 yn3 yc3] 25)) = w4 at *
  generalize w3.heap.size = b3 at *
  clear d0 d1 d2 d3 d4
  refine (copy8 t2 _ _ _ HO.out.2 S2.out V1.out.2).mono ?_
  rintro e w5 ⟨x4, y4, rfl, hr4, hb1⟩
  obtain ⟨⟨xa4, xn4, xc4, rfl⟩, ⟨ya4, yn4, yc4, rfl⟩⟩ := hr4.slices
  have B5 : Hid (Below vb w (w5.alloc (Obj.cells #[.int .i64 t2.k, .int .i64 t2.n, .string t2.s, .slice xa4 xn4 xc4, .slice ya4 yn4 yc4] 25))) := (B3.out.trans (hb1.mono (HS.out ▸ B3.out.size))).alloc (by have := B3.out.size; have := hb1.size; have := HS.out; omega) _
  have hA : Below w5.heap.size w5 (w5.alloc (Obj.cells #[.int .i64 t2.k, .int .i64 t2.n, .string t2.s, .slice xa4 xn4 xc4, .slice ya4 yn4 yc4] 25)) := (Below.refl _ _).alloc (Nat.le_refl _) _
  have V3 : Hid (VB (w5.alloc (Obj.cells #[.int .i64 t2.k, .int .i64 t2.n, .string t2.s, .slice xa4 xn4 xc4, .slice ya4 yn4 yc4] 25)) w5.heap.size t2 (.slice xa4 xn4 xc4) (.slice ya4 yn4 yc4)) := ⟨heap_new _ _, Below.rv hA (Nat.le_refl _) hr4⟩
  replace V0 : Hid _ := VB.keep (VB.keep V0.out hb1) hA
  replace V1 : Hid _ := VB.keep (VB.keep V1.out hb1) hA
  replace V2 : Hid _ := VB.keep (VB.keep V2.out hb1) hA
  obtain ⟨c0, c1, c2, c3, c4⟩ := V0.out.1.cells
  obtain ⟨d0, d1, d2, d3, d4⟩ := V1.out.1.cells
  unfold vv
  clear hb1 B3 hr4 hA
  go_wp2_with fail
  generalize (w5.alloc (Obj.cells #[.int .i64 t2.k, .int .i64 t2.n, .string t2.s, .slice xa4 xn4 xc4, .slice ya4 yn4 yc4] 25)) = w6 at *
  generalize w5.heap.size = b4 at *
  clear c0 c1 c2 c3 c4 d0 d1 d2 d3 d4
  refine (equal9 t t2 _ _ _ _ _ HO.out.1 HO.out.2 V0.out.2 V1.out.2).mono ?_
  rintro e w7 ⟨rfl, hb1⟩
  have B7 : Hid (Below vb w w7) := B5.out.trans (hb1.mono (HS.out ▸ B5.out.size))
  replace V0 : Hid _ := VB.keep V0.out hb1
  replace V1 : Hid _ := VB.keep V1.out hb1
  replace V2 : Hid _ := VB.keep V2.out hb1
  replace V3 : Hid _ := VB.keep V3.out hb1
  obtain ⟨c0, c1, c2, c3, c4⟩ := V2.out.1.cells
  obtain ⟨d0, d1, d2, d3, d4⟩ := V3.out.1.cells
  clear hb1 B5
  go_wp2_with fail
  clear c0 c1 c2 c3 c4 d0 d1 d2 d3 d4
  refine (equal10 t t2 _ _ _ _ _ HO.out.1 HO.out.2 V2.out.2 V3.out.2).mono ?_
  rintro e w8 ⟨rfl, hb1⟩
  have B8 : Hid (Below vb w w8) := B7.out.trans (hb1.mono (HS.out ▸ B7.out.size))
  replace V0 : Hid _ := VB.keep V0.out hb1
  replace V1 : Hid _ := VB.keep V1.out hb1
  replace V2 : Hid _ := VB.keep V2.out hb1
  replace V3 : Hid _ := VB.keep V3.out hb1
  obtain ⟨c0, c1, c2, c3, c4⟩ := V0.out.1.cells
  obtain ⟨d0, d1, d2, d3, d4⟩ := V2.out.1.cells
  generalize eqT t t2 = q
  clear hb1 B7
  go_wp2_with fail
  clear c0 c1 c2 c3 c4 d0 d1 d2 d3 d4
  refine (equal9 t t _ _ _ _ _ HO.out.1 HO.out.1 V0.out.2 V2.out.2).mono ?_
  rw [eqT_same t _ _ _ _ V0.out.2]
  rintro e w9 ⟨rfl, hb1⟩
  have B9 : Hid (Below vb w w9) := B8.out.trans (hb1.mono (HS.out ▸ B8.out.size))
  replace V0 : Hid _ := VB.keep V0.out hb1
  replace V1 : Hid _ := VB.keep V1.out hb1
  replace V2 : Hid _ := VB.keep V2.out hb1
  replace V3 : Hid _ := VB.keep V3.out hb1
  obtain ⟨c0, c1, c2, c3, c4⟩ := V0.out.1.cells
  obtain ⟨d0, d1, d2, d3, d4⟩ := V2.out.1.cells
  clear hb1 B8
  go_wp2_with fail
  clear c0 c1 c2 c3 c4 d0 d1 d2 d3 d4
  refine (same11 t _ _ _ _ _ HO.out.1 V0.out.2 V2.out.2).mono ?_
  rintro e w10 ⟨rfl, hb1⟩
  have B10 : Hid (Below vb w w10) := B9.out.trans (hb1.mono (HS.out ▸ B9.out.size))
  replace V1 : Hid _ := VB.keep V1.out hb1
  replace V3 : Hid _ := VB.keep V3.out hb1
  obtain ⟨c0, c1, c2, c3, c4⟩ := V1.out.1.cells
  obtain ⟨d0, d1, d2, d3, d4⟩ := V3.out.1.cells
  clear hb1 B9
  go_wp2_with fail
  clear c0 c1 c2 c3 c4 d0 d1 d2 d3 d4
  refine (same11 t2 _ _ _ _ _ HO.out.2 V1.out.2 V3.out.2).mono ?_
  rintro e w11 ⟨rfl, hb1⟩
  have B11 := B10.out.trans (hb1.mono (HS.out ▸ B10.out.size))
  go_wp2
  go_ret
  exact ⟨rfl, HS.out ▸ B11⟩
set_option maxRecDepth 100000 in
theorem bencodeEquals_lifted (os : Os) (started : os.Started) (H : Type) (enc : TypeId × Value → H) :
    ReturnsInHanded {} Try.checked os 3 .any (Rows.bencodeEqualsSpec.pre6 enc Try.prog Try.f3 Rows.bencodeEqualsRow.domain false) (Rows.bencodeEqualsSpec.post enc Try.prog Try.f3 false true false false) := by
  refine returnsInHanded_of_change_sized (C := Try.checked) ownKn started (by kernel_rfl) Try.func3
    (ChangeSpec.witness6 (enc := enc) (C := Try.checked) false ⟨#[], #[.agg #[.int .i64 0, .int .i64 0, .string ByteArray.empty, .slice none 0 0, .slice none 0 0], .agg #[.int .i64 0, .int .i64 0, .string ByteArray.empty, .slice none 0 0, .slice none 0 0]], []⟩ 8 (by kernel_rfl) (by kernel_rfl) (by kernel_rfl) (by kernel_rfl)) ?_
  intro W base args ds gs before hval0 hW hcnd hsz0 _
  have hval : ∀ (j : Nat) t v, Try.f3.params[j]? = some t → args[j]? = some v → Value.okWide Try.prog W .any base t v := hval0
  have hsz : (DataW.weightsEach Try.prog (Try.f3.params.toList ++ Rows.bencodeEqualsSpec.plain.varTypes Try.prog) (ds ++ gs)).all (· ≤ reachBytes) = true := hsz0
  have hW' := hW
  obtain ⟨p, q, hA0, hV, rfl, _, _⟩ := hW
  have hA : DataW.TrodAll enc Try.prog W 0 (fun _ => true) true Try.f3.params.toList args.toList ds p := hA0
  rw [Try.params3] at hA hval hsz
  obtain ⟨v0, v1, d0, d1, p0, p1, rfl, rfl, rfl, h0, h1⟩ := trodAll_two hA
  obtain ⟨rfl, rfl⟩ := trodVars_none hV
  have h0k := h0
  have h1k := h1
  obtain ⟨t, x, y, rfl, hr, hok⟩ := openVal (hval 0 25 v0 rfl rfl) h0 (fun q hq => by
    have := List.all_eq_true.1 hsz q (by simp [DataW.weightsEach, hq])
    simpa using this)
  obtain ⟨t2, x2, y2, rfl, hr2, hok2⟩ := openVal (hval 1 25 v1 rfl rfl) h1 (fun q hq => by
    have := List.all_eq_true.1 hsz q (by simp [DataW.weightsEach, hq])
    simpa using this)
  clear hA0 hval0
  simp only [List.append_nil] at hW'
  refine (equals3 t t2 x y x2 y2 W hok hok2 hr hr2).mono fun e W' ⟨he, bel⟩ => ?_
  subst he
  exact ⟨_, rfl, _, _, _, [], _, [], hW', trodAll_mk1 (shut_bool Try.underlying4 _), trodAll_mk2 (Below.trod laidO (by kernel_rfl) (of_decide_eq_true (by kernel_rfl)) h0k bel (trodLt h0k)) (Below.trod laidO (by kernel_rfl) (of_decide_eq_true (by kernel_rfl)) h1k bel (trodLt h1k)), rfl, bel.frame _, fun h => by cases h⟩
theorem bencodeEquals_holds : Rows.BencodeEqualsSaid :=
  OpenClaim.holds_of_wide 3 Try.f3 rfl rfl rfl rfl rfl rfl rfl ⟨rfl, rfl, rfl, rfl, rfl⟩ rfl rfl rfl rfl rfl (by kernel_rfl) Try.func3 (by kernel_rfl)
    (of_decide_eq_true (by kernel_rfl)) (by unfold Func.isWrapper; first | (rw [if_pos (by decide +kernel)]; kernel_rfl) | (rw [if_neg (by decide +kernel)]; exact ⟨rfl, rfl⟩))
    (fun os started H enc _ => bencodeEquals_lifted os started H enc)
#print axioms bencodeEquals_holds
end Go.Proofs.Ytddcnmbfgogdbaa
