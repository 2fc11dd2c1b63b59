import Derived.Test.YtddcnmbfgogdbaaWith
import Derived.Test.YtddcnmbfgogdbaaCopy
import Derived.Test.YtddcnmbfgogdbaaOpen
namespace Go.Proofs.Ytddcnmbfgogdbaa
open Go.ChangeShapes Go.WideShapes Go.ChangeAt Go.RowKit Go.Deep
open Go.ChangeMaps (open_string shut_string)
/-- in block b a value lies that reads as t -/
def VS (w : World) (b : Nat) (t : T) (x y : Value) : Prop := obj w b (.int .i64 t.k) (.int .i64 t.n) (.string t.s) x y ∧ RV (fun _ => True) w t x y
theorem VS.keep {w w' : World} {b : Nat} {t : T} {x y : Value} (h : VS w b t x y) (hb : Below w.heap.size w w') : VS w' b t x y :=
  ⟨h.1.keep (hb.block _ h.1.lt), Below.rv hb (Nat.le_refl _) h.2⟩
set_option maxHeartbeats 4000000 in
theorem sets5 (t t2 : T) (key : ByteArray) (x y x2 y2 : Value) (w : World) (hok : t.ok) (hok2 : t2.ok) (hkey : key.size ≤ 140737488351232) (hr : RV (fun _ => True) w t x y) (hr2 : RV (fun _ => True) w t2 x2 y2) :
    Calls Try.prog 5 #[vv t x y, .string key, vv t2 x2 y2] w fun e w' => e = .returned (.bool true) ∧ Below w.heap.size w w' := by
  obtain ⟨⟨xa, xn, xc, rfl⟩, ⟨ya, yn, yc, rfl⟩⟩ := hr.slices
  obtain ⟨⟨xa2, xn2, xc2, rfl⟩, ⟨ya2, yn2, yc2, rfl⟩⟩ := hr2.slices
  have HO : Hid (t.ok ∧ t2.ok) := ⟨hok, hok2⟩
  have B0 : Hid (Below w.heap.size w ((w.alloc (Obj.cells #[.int .i64 t.k, .int .i64 t.n, .string t.s, .slice xa xn xc, .slice ya yn yc] 25)).alloc (Obj.cells #[.int .i64 t2.k, .int .i64 t2.n, .string t2.s, .slice xa2 xn2 xc2, .slice ya2 yn2 yc2] 25))) := ((Below.refl _ _).alloc (Nat.le_refl _) _).alloc (by simp) _
  have V0 : Hid (VS ((w.alloc (Obj.cells #[.int .i64 t.k, .int .i64 t.n, .string t.s, .slice xa xn xc, .slice ya yn yc] 25)).alloc (Obj.cells #[.int .i64 t2.k, .int .i64 t2.n, .string t2.s, .slice xa2 xn2 xc2, .slice ya2 yn2 yc2] 25)) w.heap.size t (.slice xa xn xc) (.slice ya yn yc)) :=
    ⟨(Below.heap_alloc _ _ _ (by simp)).trans (heap_new _ _), Below.rv B0.out (Nat.le_refl _) hr⟩
  have V1 : Hid (VS ((w.alloc (Obj.cells #[.int .i64 t.k, .int .i64 t.n, .string t.s, .slice xa xn xc, .slice ya yn yc] 25)).alloc (Obj.cells #[.int .i64 t2.k, .int .i64 t2.n, .string t2.s, .slice xa2 xn2 xc2, .slice ya2 yn2 yc2] 25)) (w.heap.size + 1) t2 (.slice xa2 xn2 xc2) (.slice ya2 yn2 yc2)) :=
    ⟨by have := heap_new (w.alloc (Obj.cells #[.int .i64 t.k, .int .i64 t.n, .string t.s, .slice xa xn xc, .slice ya yn yc] 25)) (Obj.cells #[.int .i64 t2.k, .int .i64 t2.n, .string t2.s, .slice xa2 xn2 xc2, .slice ya2 yn2 yc2] 25); simpa [obj] using this, Below.rv B0.out (Nat.le_refl _) hr2⟩
  clear hok hok2 hr hr2
  unfold vv
  go_enter Try.func5, Try.ntmps5
  go_wp2_with fail
  refine (far7 t _ _ _ HO.out.1 V0.out.2).mono ?_
  rintro e w1 ⟨r, rfl, hb1, hsm⟩
  have B1 : Hid (Below w.heap.size w w1) := B0.out.trans (hb1.mono (by simp; omega))
  replace V0 : Hid _ := VS.keep V0.out hb1
  replace V1 : Hid _ := VS.keep V1.out hb1
  clear hb1 B0
  generalize hvb : w.heap.size = vb at *
  have HS : Hid (w.heap.size = vb) := hvb
  clear hvb
  cases r with
  | true =>
    clear hsm
    go_wp2
    go_ret
    exact ⟨rfl, HS.out ▸ B1.out⟩
  | false =>
  have S1 : Hid t.small := hsm rfl
  clear hsm
  obtain ⟨c0, c1, c2, c3, c4⟩ := V1.out.1.cells
  go_wp2_with fail
  refine (far7 t2 _ _ _ HO.out.2 V1.out.2).mono ?_
  rintro e w2 ⟨r, rfl, hb1, hsm⟩
  have B2 : Hid (Below vb w w2) := B1.out.trans (hb1.mono (HS.out ▸ B1.out.size))
  replace V0 : Hid _ := VS.keep V0.out hb1
  replace V1 : Hid _ := VS.keep V1.out hb1
  clear hb1 B1 c0 c1 c2 c3 c4
  cases r with
  | true =>
    clear hsm
    go_wp2
    go_ret
    exact ⟨rfl, HS.out ▸ B2.out⟩
  | false =>
  have S2 : Hid t2.small := hsm rfl
  clear hsm
  obtain ⟨c0, c1, c2, c3, c4⟩ := V0.out.1.cells
  go_wp2_with fail
  refine (copy8 t _ _ _ HO.out.1 S1.out V0.out.2).mono ?_
  rintro e w3 ⟨x3, y3, rfl, hr3, hb1⟩
  obtain ⟨⟨xa3, xn3, xc3, rfl⟩, ⟨ya3, yn3, yc3, rfl⟩⟩ := hr3.slices
  have B3 : Hid (Below vb w (w3.alloc (Obj.cells #[.int .i64 t.k, .int .i64 t.n, .string t.s, .slice xa3 xn3 xc3, .slice ya3 yn3 yc3] 25))) := (B2.out.trans (hb1.mono (HS.out ▸ B2.out.size))).alloc (by have := B2.out.size; have := hb1.size; have := HS.out; omega) _
  have hA : Below w3.heap.size w3 (w3.alloc (Obj.cells #[.int .i64 t.k, .int .i64 t.n, .string t.s, .slice xa3 xn3 xc3, .slice ya3 yn3 yc3] 25)) := (Below.refl _ _).alloc (Nat.le_refl _) _
  have V2 : Hid (VS (w3.alloc (Obj.cells #[.int .i64 t.k, .int .i64 t.n, .string t.s, .slice xa3 xn3 xc3, .slice ya3 yn3 yc3] 25)) w3.heap.size t (.slice xa3 xn3 xc3) (.slice ya3 yn3 yc3)) := ⟨heap_new _ _, Below.rv hA (Nat.le_refl _) hr3⟩
  replace V0 : Hid _ := VS.keep (VS.keep V0.out hb1) hA
  replace V1 : Hid _ := VS.keep (VS.keep V1.out hb1) hA
  obtain ⟨d0, d1, d2, d3, d4⟩ := V1.out.1.cells
  unfold vv
  clear hb1 B2 c0 c1 c2 c3 c4 hr3 hA
  go_wp2_with fail
  generalize (w3.alloc (Obj.cells #[.int .i64 t.k, .int .i64 t.n, .string t.s, .slice xa3 xn3 xc3, .slice ya3 yn3 yc3] 25)) = w4 at *
  generalize w3.heap.size = b3 at *
  clear d0 d1 d2 d3 d4
  refine (copy8 t2 _ _ _ HO.out.2 S2.out V1.out.2).mono ?_
  rintro e w5 ⟨x4, y4, rfl, hr4, hb1⟩
  obtain ⟨⟨xa4, xn4, xc4, rfl⟩, ⟨ya4, yn4, yc4, rfl⟩⟩ := hr4.slices
  have B5 : Hid (Below vb w (w5.alloc (Obj.cells #[.int .i64 t2.k, .int .i64 t2.n, .string t2.s, .slice xa4 xn4 xc4, .slice ya4 yn4 yc4] 25))) := (B3.out.trans (hb1.mono (HS.out ▸ B3.out.size))).alloc (by have := B3.out.size; have := hb1.size; have := HS.out; omega) _
  have hA : Below w5.heap.size w5 (w5.alloc (Obj.cells #[.int .i64 t2.k, .int .i64 t2.n, .string t2.s, .slice xa4 xn4 xc4, .slice ya4 yn4 yc4] 25)) := (Below.refl _ _).alloc (Nat.le_refl _) _
  have V3 : Hid (VS (w5.alloc (Obj.cells #[.int .i64 t2.k, .int .i64 t2.n, .string t2.s, .slice xa4 xn4 xc4, .slice ya4 yn4 yc4] 25)) w5.heap.size t2 (.slice xa4 xn4 xc4) (.slice ya4 yn4 yc4)) := ⟨heap_new _ _, Below.rv hA (Nat.le_refl _) hr4⟩
  replace V0 : Hid _ := VS.keep (VS.keep V0.out hb1) hA
  replace V1 : Hid _ := VS.keep (VS.keep V1.out hb1) hA
  replace V2 : Hid _ := VS.keep (VS.keep V2.out hb1) hA
  obtain ⟨c0, c1, c2, c3, c4⟩ := V0.out.1.cells
  obtain ⟨d0, d1, d2, d3, d4⟩ := V1.out.1.cells
  unfold vv
  clear hb1 B3 hr4 hA
  go_wp2_with fail
  generalize (w5.alloc (Obj.cells #[.int .i64 t2.k, .int .i64 t2.n, .string t2.s, .slice xa4 xn4 xc4, .slice ya4 yn4 yc4] 25)) = w6 at *
  generalize w5.heap.size = b4 at *
  clear c0 c1 c2 c3 c4 d0 d1 d2 d3 d4
  refine (with14 t t2 _ _ _ _ key w6 HO.out.1 S1.out HO.out.2 S2.out V0.out.2 V1.out.2).mono ?_
  rintro e w7 ⟨u, er, x5, y5, rfl, hr5, hb1, hws⟩
  obtain ⟨⟨xa5, xn5, xc5, rfl⟩, ⟨ya5, yn5, yc5, rfl⟩⟩ := hr5.slices
  have HWS : Hid (WS t key t2 u er) := hws
  have hA : Below w7.heap.size w7 (w7.alloc (Obj.cells #[.int .i64 u.k, .int .i64 u.n, .string u.s, .slice xa5 xn5 xc5, .slice ya5 yn5 yc5] 25)) := (Below.refl _ _).alloc (Nat.le_refl _) _
  have B7 : Hid (Below vb w (w7.alloc (Obj.cells #[.int .i64 u.k, .int .i64 u.n, .string u.s, .slice xa5 xn5 xc5, .slice ya5 yn5 yc5] 25))) := (B5.out.trans (hb1.mono (HS.out ▸ B5.out.size))).trans (hA.mono (by have := B5.out.size; have := hb1.size; have := HS.out; omega))
  have V4 : Hid (VS (w7.alloc (Obj.cells #[.int .i64 u.k, .int .i64 u.n, .string u.s, .slice xa5 xn5 xc5, .slice ya5 yn5 yc5] 25)) w7.heap.size u (.slice xa5 xn5 xc5) (.slice ya5 yn5 yc5)) := ⟨heap_new _ _, Below.rv hA (Nat.le_refl _) hr5⟩
  replace V0 : Hid _ := VS.keep (VS.keep V0.out hb1) hA
  replace V1 : Hid _ := VS.keep (VS.keep V1.out hb1) hA
  replace V2 : Hid _ := VS.keep (VS.keep V2.out hb1) hA
  replace V3 : Hid _ := VS.keep (VS.keep V3.out hb1) hA
  obtain ⟨c0, c1, c2, c3, c4⟩ := V2.out.1.cells
  obtain ⟨d0, d1, d2, d3, d4⟩ := V3.out.1.cells
  unfold vv
  clear hb1 B5 hr5 hA hws
  go_wp2_with fail
  generalize (w7.alloc (Obj.cells #[.int .i64 u.k, .int .i64 u.n, .string u.s, .slice xa5 xn5 xc5, .slice ya5 yn5 yc5] 25)) = w8 at *
  generalize w7.heap.size = b5 at *
  clear c0 c1 c2 c3 c4 d0 d1 d2 d3 d4
  refine (with15 t t2 _ _ _ _ key w8 HO.out.1 S1.out HO.out.2 hkey V2.out.2 V3.out.2).mono ?_
  rintro e w9 ⟨u', er', x6, y6, rfl, hr6, hb1, hws, hok6⟩
  obtain ⟨rfl, rfl⟩ := WS.unique HWS.out hws
  obtain ⟨⟨xa6, xn6, xc6, rfl⟩, ⟨ya6, yn6, yc6, rfl⟩⟩ := hr6.slices
  have HO6 : Hid u.ok := hok6
  have hA : Below w9.heap.size w9 (w9.alloc (Obj.cells #[.int .i64 u.k, .int .i64 u.n, .string u.s, .slice xa6 xn6 xc6, .slice ya6 yn6 yc6] 25)) := (Below.refl _ _).alloc (Nat.le_refl _) _
  have B9 : Hid (Below vb w (w9.alloc (Obj.cells #[.int .i64 u.k, .int .i64 u.n, .string u.s, .slice xa6 xn6 xc6, .slice ya6 yn6 yc6] 25))) := (B7.out.trans (hb1.mono (HS.out ▸ B7.out.size))).trans (hA.mono (by have := B7.out.size; have := hb1.size; have := HS.out; omega))
  have V5 : Hid (VS (w9.alloc (Obj.cells #[.int .i64 u.k, .int .i64 u.n, .string u.s, .slice xa6 xn6 xc6, .slice ya6 yn6 yc6] 25)) w9.heap.size u (.slice xa6 xn6 xc6) (.slice ya6 yn6 yc6)) := ⟨heap_new _ _, Below.rv hA (Nat.le_refl _) hr6⟩
  replace V0 : Hid _ := VS.keep (VS.keep V0.out hb1) hA
  replace V1 : Hid _ := VS.keep (VS.keep V1.out hb1) hA
  replace V2 : Hid _ := VS.keep (VS.keep V2.out hb1) hA
  replace V3 : Hid _ := VS.keep (VS.keep V3.out hb1) hA
  replace V4 : Hid _ := VS.keep (VS.keep V4.out hb1) hA
  obtain ⟨c0, c1, c2, c3, c4⟩ := V4.out.1.cells
  obtain ⟨d0, d1, d2, d3, d4⟩ := V5.out.1.cells
  unfold vv
  clear hb1 B7 hr6 hA hws hok6
  go_wp2_with fail
  generalize (w9.alloc (Obj.cells #[.int .i64 u.k, .int .i64 u.n, .string u.s, .slice xa6 xn6 xc6, .slice ya6 yn6 yc6] 25)) = w10 at *
  generalize w9.heap.size = b6 at *
  clear c0 c1 c2 c3 c4 d0 d1 d2 d3 d4
  refine (same11 u _ _ _ _ _ HO6.out V4.out.2 V5.out.2).mono ?_
  rintro e w11 ⟨rfl, hb1⟩
  have B11 : Hid (Below vb w w11) := B9.out.trans (hb1.mono (HS.out ▸ B9.out.size))
  replace V0 : Hid _ := VS.keep V0.out hb1
  replace V1 : Hid _ := VS.keep V1.out hb1
  replace V2 : Hid _ := VS.keep V2.out hb1
  replace V3 : Hid _ := VS.keep V3.out hb1
  obtain ⟨c0, c1, c2, c3, c4⟩ := V0.out.1.cells
  obtain ⟨d0, d1, d2, d3, d4⟩ := V2.out.1.cells
  clear hb1 B9
  go_wp2_with fail
  clear c0 c1 c2 c3 c4 d0 d1 d2 d3 d4
  refine (same11 t _ _ _ _ _ HO.out.1 V0.out.2 V2.out.2).mono ?_
  rintro e w12 ⟨rfl, hb1⟩
  have B12 : Hid (Below vb w w12) := B11.out.trans (hb1.mono (HS.out ▸ B11.out.size))
  replace V1 : Hid _ := VS.keep V1.out hb1
  replace V3 : Hid _ := VS.keep V3.out hb1
  obtain ⟨c0, c1, c2, c3, c4⟩ := V1.out.1.cells
  obtain ⟨d0, d1, d2, d3, d4⟩ := V3.out.1.cells
  clear hb1 B11
  go_wp2_with fail
  clear c0 c1 c2 c3 c4 d0 d1 d2 d3 d4
  refine (same11 t2 _ _ _ _ _ HO.out.2 V1.out.2 V3.out.2).mono ?_
  rintro e w13 ⟨rfl, hb1⟩
  have B13 := B12.out.trans (hb1.mono (HS.out ▸ B12.out.size))
  go_wp2
  go_ret
  exact ⟨rfl, HS.out ▸ B13⟩
set_option maxRecDepth 100000 in
theorem bencodeSets_lifted (os : Os) (started : os.Started) (H : Type) (enc : TypeId × Value → H) :
    ReturnsInHanded {} Try.checked os 5 .any (Rows.bencodeSetsSpec.pre6 enc Try.prog Try.f5 Rows.bencodeSetsRow.domain false) (Rows.bencodeSetsSpec.post enc Try.prog Try.f5 false true false false) := by
  refine returnsInHanded_of_change_sized (C := Try.checked) ownKn started (by kernel_rfl) Try.func5
    (ChangeSpec.witness6 (enc := enc) (C := Try.checked) false ⟨#[], #[.agg #[.int .i64 0, .int .i64 0, .string ByteArray.empty, .slice none 0 0, .slice none 0 0], .string ByteArray.empty, .agg #[.int .i64 0, .int .i64 0, .string ByteArray.empty, .slice none 0 0, .slice none 0 0]], []⟩ 8 (by kernel_rfl) (by kernel_rfl) (by kernel_rfl) (by kernel_rfl)) ?_
  intro W base args ds gs before hval0 hW hcnd hsz0 _
  have hval : ∀ (j : Nat) t v, Try.f5.params[j]? = some t → args[j]? = some v → Value.okWide Try.prog W .any base t v := hval0
  have hsz : (DataW.weightsEach Try.prog (Try.f5.params.toList ++ Rows.bencodeSetsSpec.plain.varTypes Try.prog) (ds ++ gs)).all (· ≤ reachBytes) = true := hsz0
  have hW' := hW
  obtain ⟨p, q, hA0, hV, rfl, _, _⟩ := hW
  have hA : DataW.TrodAll enc Try.prog W 0 (fun _ => true) true Try.f5.params.toList args.toList ds p := hA0
  rw [Try.params5] at hA hval hsz
  obtain ⟨v0, v1, v2, d0, d1, d2, p0, p1, p2, rfl, rfl, rfl, h0, h1, h2⟩ := trodAll_three hA
  obtain ⟨rfl, rfl⟩ := trodVars_none hV
  have h0k := h0
  have h2k := h2
  obtain ⟨key, rfl, rfl, rfl, wk1⟩ := open_string Try.underlying9 (hval 1 9 v1 rfl rfl) h1
  have hkey : key.size ≤ 140737488351232 := by
    have := sized_string hsz (j := 1) (t := 9) (bytes := key.data.toList) rfl rfl
    rw [Array.length_toList] at this
    exact this
  obtain ⟨t, x, y, rfl, hr, hok⟩ := openVal (hval 0 25 v0 rfl rfl) h0 (fun q hq => by
    have := List.all_eq_true.1 hsz q (by simp [DataW.weightsEach, hq])
    simpa using this)
  obtain ⟨t2, x2, y2, rfl, hr2, hok2⟩ := openVal (hval 2 25 v2 rfl rfl) h2 (fun q hq => by
    have := List.all_eq_true.1 hsz q (by simp [DataW.weightsEach, hq])
    simpa using this)
  clear hA0 hval0
  simp only [List.append_nil] at hW'
  refine (sets5 t t2 key x y x2 y2 W hok hok2 hkey hr hr2).mono fun e W' ⟨he, bel⟩ => ?_
  subst he
  exact ⟨_, rfl, _, _, _, [], _, [], hW', trodAll_mk1 (shut_bool Try.underlying4 _), trodAll_mk3 (Below.trod laidO (by kernel_rfl) (of_decide_eq_true (by kernel_rfl)) h0k bel (trodLt h0k)) (shut_string Try.underlying9 wk1) (Below.trod laidO (by kernel_rfl) (of_decide_eq_true (by kernel_rfl)) h2k bel (trodLt h2k)), rfl, bel.frame _, fun h => by cases h⟩
theorem bencodeSets_holds : Rows.BencodeSetsSaid :=
  OpenClaim.holds_of_wide 5 Try.f5 rfl rfl rfl rfl rfl rfl rfl ⟨rfl, rfl, rfl, rfl, rfl⟩ rfl rfl rfl rfl rfl (by kernel_rfl) Try.func5 (by kernel_rfl)
    (of_decide_eq_true (by kernel_rfl)) (by unfold Func.isWrapper; first | (rw [if_pos (by decide +kernel)]; kernel_rfl) | (rw [if_neg (by decide +kernel)]; exact ⟨rfl, rfl⟩))
    (fun os started H enc _ => bencodeSets_lifted os started H enc)
#print axioms bencodeSets_holds
end Go.Proofs.Ytddcnmbfgogdbaa
