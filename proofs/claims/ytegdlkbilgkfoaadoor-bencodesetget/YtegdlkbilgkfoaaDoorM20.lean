import Derived.Test.YtegdlkbilgkfoaaDoorM19
namespace Go.Proofs.YtegdlkbilgkfoaaDoor
open Go.RowKit Go.Deep
def bx (t : T) (x y : Value) : Obj := .cells #[.int .i64 t.k, .int .i64 t.n, .string t.s, x, y] 27
theorem vs_new {w : World} {t : T} {x y : Value} (h : RV (fun _ => True) w t x y) : VS (w.alloc (bx t x y)) w.heap.size t x y :=
  ⟨heap_new _ _, Below.rv ((Below.refl _ _).alloc (Nat.le_refl _) _) (Nat.le_refl _) h⟩
theorem bel_box {H : Nat} {w w1 w2 : World} (h : Below H w w1) (hH : w.heap.size = H) (hb : Below w1.heap.size w1 w2) (o : Obj) : Below H w (w2.alloc o) :=
  (h.trans (hb.mono (hH ▸ h.size))).alloc (by have := h.size; have := hb.size; omega) o
theorem bel_call {H : Nat} {w w1 w2 : World} (h : Below H w w1) (hH : w.heap.size = H) (hb : Below w1.heap.size w1 w2) : Below H w w2 :=
  h.trans (hb.mono (hH ▸ h.size))
theorem VS.box {w w2 : World} {b : Nat} {t : T} {x y : Value} (h : VS w b t x y) (hb : Below w.heap.size w w2) (o : Obj) : VS (w2.alloc o) b t x y :=
  (h.keep hb).keep ((Below.refl _ _).alloc (Nat.le_refl _) _)
theorem get_lit (t r : T) (er : Int) (x y : Value) (k : ByteArray) (w : World) (hg : getS t (fun _ => k) 1 = (r, er)) (hok : t.ok) (hsm : t.small) (hr : RV (fun _ => True) w t x y) :
    Calls Tryd.prog 22 #[vv t x y, .slice (some ⟨w.heap.size, 0, none⟩) 1 1] (w.alloc (.cells #[.string k] 9)) fun e w' => ∃ x' y', e = .returned (.tuple #[vv r x' y', .int .i64 er]) ∧ RV (fun _ => True) w' r x' y' ∧ Below w.heap.size w w' := by
  have hba : Below w.heap.size w (w.alloc (.cells #[.string k] 9)) := (Below.refl _ _).alloc (Nat.le_refl _) _
  refine (get16 t x y _ (fun _ => k) 1 _ hok hsm (Below.rv hba (Nat.le_refl _) hr) ⟨_, _, rfl, .inr ⟨_, 0, rfl, by simp, fun i hi => ?_⟩⟩ (by omega)).mono ?_
  · obtain rfl : i = 0 := by omega
    go_simp
  · rintro e w' ⟨x', y', rfl, h1, h2⟩
    rw [hg] at h1 ⊢
    exact ⟨x', y', rfl, h1, hba.trans (h2.mono hba.size)⟩
theorem len_few {w : World} {t : T} {x : Value} {a : Option Addr} {n c : Nat} (hr : RV (fun _ => True) w t x (.slice a n c)) (h : wt t ≤ 2147483647) : n + 1 ≤ 2147483647 := by
  cases t with
  | no => exact hr.elim
  | mk k m s ln l dn ky dv =>
    obtain ⟨b1, c1, e1, _⟩ := hr.2
    injection e1 with _ e1 _
    have := few h
    omega
theorem rv_zeroT (w : World) : RV (fun _ => True) w zeroT (.slice none 0 0) (.slice none 0 0) := ⟨⟨none, 0, rfl, .inl rfl⟩, ⟨none, 0, rfl, .inl rfl⟩⟩
theorem same_as (t u : T) (x y x2 y2 : Value) (w : World) (hk : u.k = t.k ∧ u.n = t.n ∧ u.s = t.s) (hok : u.ok) (h1 : RV (fun _ => True) w u x y) (h2 : RV (fun _ => True) w u x2 y2) :
    Calls Tryd.prog 12 #[vv u x y, vv t x2 y2] w fun e w' => e = .returned (.bool true) ∧ Below w.heap.size w w' := by
  have := same11 u x y x2 y2 w hok h1 h2
  have e : vv t x2 y2 = vv u x2 y2 := by unfold vv; rw [hk.1, hk.2.1, hk.2.2]
  rw [e]
  exact this
set_option maxRecDepth 20000 in
set_option maxHeartbeats 4000000 in
theorem setget8 (t x : T) (tx ty xx xy : Value) (key other : ByteArray) (w : World) (hok : t.ok) (hok2 : x.ok) (hks : key.size ≤ 140737488351232) (hev : EVw w) (hT : TB w.heap.size w) (hr : RV (fun _ => True) w t tx ty) (hr2 : RV (fun _ => True) w x xx xy) :
    Calls Tryd.prog 8 #[vv t tx ty, .string key, vv x xx xy, .string other] w fun e w' => e = .returned (.bool true) ∧ Below w.heap.size w w' := by
  obtain ⟨⟨xa, xn, xc, rfl⟩, ⟨ya, yn, yc, rfl⟩⟩ := hr.slices
  obtain ⟨⟨xa2, xn2, xc2, rfl⟩, ⟨ya2, yn2, yc2, rfl⟩⟩ := hr2.slices
  have HO : Hid (t.ok ∧ x.ok ∧ key.size ≤ 140737488351232) := ⟨hok, hok2, hks⟩
  have b1 : Below w.heap.size w (w.alloc (bx t (.slice xa xn xc) (.slice ya yn yc))) := (Below.refl _ _).alloc (Nat.le_refl _) _
  have b2 : Below (w.alloc (bx t (.slice xa xn xc) (.slice ya yn yc))).heap.size (w.alloc (bx t (.slice xa xn xc) (.slice ya yn yc))) ((w.alloc (bx t (.slice xa xn xc) (.slice ya yn yc))).alloc (bx x (.slice xa2 xn2 xc2) (.slice ya2 yn2 yc2))) := (Below.refl _ _).alloc (Nat.le_refl _) _
  have b3 : Below w.heap.size w ((w.alloc (bx t (.slice xa xn xc) (.slice ya yn yc))).alloc (bx x (.slice xa2 xn2 xc2) (.slice ya2 yn2 yc2))) := b1.trans (b2.mono (by simp))
  have B0 := Lib.hid b3
  have HE := Lib.hid (hev.keep b3)
  have HT := Lib.hid (TB.on' hT b3)
  have V0 := Lib.hid ((vs_new hr).keep b2)
  have X0 := Lib.hid (vs_new (Below.rv b1 (Nat.le_refl _) hr2))
  clear hok hok2 hev hT hr hr2 b1 b2 b3 hks
  unfold bx at B0 HE HT V0 X0
  unfold vv
  go_enter Tryd.func8, Tryd.ntmps8
  go_wp2_with fail
  generalize hw0 : ((w.alloc (Obj.cells #[.int .i64 t.k, .int .i64 t.n, .string t.s, .slice xa xn xc, .slice ya yn yc] 27)).alloc (Obj.cells #[.int .i64 x.k, .int .i64 x.n, .string x.s, .slice xa2 xn2 xc2, .slice ya2 yn2 yc2] 27)) = w0 at *
  clear hw0
  generalize hxb : (w.alloc (Obj.cells #[.int .i64 t.k, .int .i64 t.n, .string t.s, .slice xa xn xc, .slice ya yn yc] 27)).heap.size = xb at *
  have hxb' : w.heap.size + 1 = xb := by rw [← hxb]; simp
  clear hxb
  rw [hxb']
  generalize hvb : w.heap.size = vb at *
  have HS := Lib.hid hvb
  clear hvb hxb'
  refine (far7 t _ _ _ HO.out.1 V0.out.2).mono ?_
  rintro e w1 ⟨r, rfl, hb1, hsm⟩
  have B1 := Lib.hid (bel_call B0.out HS.out hb1)
  have E1 := Lib.hid (HE.out.keep hb1)
  have T1 := Lib.hid (TB.on' HT.out hb1)
  have V1 := Lib.hid (VS.keep V0.out hb1)
  have X1 := Lib.hid (VS.keep X0.out hb1)
  clear hb1 B0 HE HT V0 X0
  cases r with
  | true =>
    clear hsm
    go_wp2
    go_ret
    exact ⟨rfl, HS.out ▸ B1.out⟩
  | false =>
  have SM := Lib.hid (hsm rfl)
  clear hsm
  obtain ⟨d0, d1, d2, d3, d4⟩ := X1.out.1.cells
  go_wp2_with fail
  show Calls Tryd.prog 18 #[vv x (.slice xa2 xn2 xc2) (.slice ya2 yn2 yc2)] _ _
  clear d0 d1 d2 d3 d4
  refine (far7 x _ _ _ HO.out.2.1 X1.out.2).mono ?_
  rintro e w2 ⟨r, rfl, hb1, hsm⟩
  have B2 := Lib.hid (bel_call B1.out HS.out hb1)
  have E2 := Lib.hid (E1.out.keep hb1)
  have T2 := Lib.hid (TB.on' T1.out hb1)
  have V2 := Lib.hid (VS.keep V1.out hb1)
  have X2 := Lib.hid (VS.keep X1.out hb1)
  clear hb1 B1 E1 T1 V1 X1
  cases r with
  | true =>
    clear hsm
    go_wp2
    go_ret
    exact ⟨rfl, HS.out ▸ B2.out⟩
  | false =>
  have SX := Lib.hid (hsm rfl)
  clear hsm
  go_wp2_with fail
  refine (awake14 _ E2.out T2.out).mono ?_
  rintro e w3 ⟨rfl, hb1⟩
  have B3 := Lib.hid (bel_call B2.out HS.out hb1)
  have V3 := Lib.hid (VS.keep V2.out hb1)
  have X3 := Lib.hid (VS.keep X2.out hb1)
  clear hb1 B2 E2 T2 V2 X2
  obtain ⟨d0, d1, d2, d3, d4⟩ := X3.out.1.cells
  obtain ⟨c0, c1, c2, c3, c4⟩ := V3.out.1.cells
  go_wp2_with fail
  show Calls Tryd.prog 21 #[vv t (.slice xa xn xc) (.slice ya yn yc), .string key, vv x (.slice xa2 xn2 xc2) (.slice ya2 yn2 yc2)] _ _
  clear d0 d1 d2 d3 d4 c0 c1 c2 c3 c4
  refine (with14 t x _ _ _ _ key _ HO.out.1 SM.out.1 HO.out.2.1 SX.out.1 V3.out.2 X3.out.2).mono ?_
  rintro e w4 ⟨u, er, ux, uy, rfl, hru, hb1, hws⟩
  obtain ⟨⟨xa4, xn4, xc4, rfl⟩, ⟨ya4, yn4, yc4, rfl⟩⟩ := hru.slices
  have B4 := Lib.hid (bel_box B3.out HS.out hb1 (bx u (.slice xa4 xn4 xc4) (.slice ya4 yn4 yc4)))
  have V4 := Lib.hid (VS.box V3.out hb1 (bx u (.slice xa4 xn4 xc4) (.slice ya4 yn4 yc4)))
  have X4 := Lib.hid (VS.box X3.out hb1 (bx u (.slice xa4 xn4 xc4) (.slice ya4 yn4 yc4)))
  have U4 := Lib.hid (vs_new hru)
  have HW := Lib.hid hws
  clear hb1 B3 V3 X3 hru hws
  unfold vv
  unfold bx at B4 V4 X4 U4
  go_wp2_with fail
  generalize (w4.alloc (Obj.cells #[.int .i64 u.k, .int .i64 u.n, .string u.s, .slice xa4 xn4 xc4, .slice ya4 yn4 yc4] 27)) = w5 at *
  generalize w4.heap.size = ub at *
  refine (num15 _ _).mono ?_
  rintro e w6 ⟨rfl, rfl⟩
  by_cases he : er = 0
  · subst he
    have hcase : wk t 0 = 0 ∧ t.k = 4 ∧ wk x 0 = 0 ∧ wk x 1 = 0 ∧ ∃ n s ln l dn ky dv at' f, t = .mk 4 n s ln l dn ky dv ∧ Fd ky dn key at' f ∧ u = withT dn ky dv key x at' f := by
      rcases HW.out with ⟨h1, _, h2⟩ | ⟨_, _, _, h2⟩ | ⟨_, _, h1, _, h2⟩ | ⟨_, _, _, h1, _, h2⟩ | ⟨h1, h2, h3, h4, _, h5⟩
      · exact absurd h2.symm h1
      · cases h2
      · exact absurd h2.symm h1
      · exact absurd h2.symm h1
      · exact ⟨h1, h2, h3, h4, h5⟩
    clear HW
    obtain ⟨f, had, hsg⟩ : ∃ f had, SGF t u x key f had := by
      obtain ⟨hw, hk4, hx0, hx1, n, s, ln, l, dn, ky, dv, at', f, rfl, hfd, rfl⟩ := hcase
      exact ⟨f, _, sg_of hw hx1 hfd HO.out.1 SM.out.1 SM.out.2 HO.out.2.1 SX.out.1 HO.out.2.2⟩
    have SG := Lib.hid hsg
    clear hcase hsg
    have dd := fun ob => (U4.out.box (Below.refl _ _) ob).1.cells
    have e0 := fun ob => (dd ob).1
    have e1 := fun ob => (dd ob).2.1
    have e2 := fun ob => (dd ob).2.2.1
    have e3 := fun ob => (dd ob).2.2.2.1
    have e4 := fun ob => (dd ob).2.2.2.2
    clear dd
    obtain ⟨d0, d1, d2, d3, d4⟩ := U4.out.1.cells
    go_wp2_with fail
    clear d0 d1 d2 d3 d4 e0 e1 e2 e3 e4
    show Calls Tryd.prog 22 #[vv u (.slice xa4 xn4 xc4) (.slice ya4 yn4 yc4), _] _ _
    refine (get_lit u x 0 _ _ key _ SG.out.g1 SG.out.uok SG.out.usm U4.out.2).mono ?_
    rintro e w7 ⟨yx, yy, rfl, hry, hb1⟩
    obtain ⟨⟨xa7, xn7, xc7, rfl⟩, ⟨ya7, yn7, yc7, rfl⟩⟩ := hry.slices
    have B7 := Lib.hid (bel_box B4.out HS.out hb1 (bx x (.slice xa7 xn7 xc7) (.slice ya7 yn7 yc7)))
    have V7 := Lib.hid (VS.box V4.out hb1 (bx x (.slice xa7 xn7 xc7) (.slice ya7 yn7 yc7)))
    have X7 := Lib.hid (VS.box X4.out hb1 (bx x (.slice xa7 xn7 xc7) (.slice ya7 yn7 yc7)))
    have U7 := Lib.hid (VS.box U4.out hb1 (bx x (.slice xa7 xn7 xc7) (.slice ya7 yn7 yc7)))
    have N7 := Lib.hid (vs_new hry)
    clear hb1 hry B4 V4 X4 U4
    unfold vv
    unfold bx at B7 V7 X7 U7 N7
    go_wp2_with fail
    generalize (w7.alloc (Obj.cells #[.int .i64 x.k, .int .i64 x.n, .string x.s, .slice xa7 xn7 xc7, .slice ya7 yn7 yc7] 27)) = w8 at *
    generalize w7.heap.size = yb at *
    refine (num15 _ _).mono ?_
    rintro e w9 ⟨rfl, rfl⟩
    obtain ⟨c0, c1, c2, c3, c4⟩ := X7.out.1.cells
    obtain ⟨d0, d1, d2, d3, d4⟩ := N7.out.1.cells
    go_wp2_with fail
    clear c0 c1 c2 c3 c4 d0 d1 d2 d3 d4
    show Calls Tryd.prog 12 #[vv x (.slice xa2 xn2 xc2) (.slice ya2 yn2 yc2), vv x (.slice xa7 xn7 xc7) (.slice ya7 yn7 yc7)] _ _
    refine (same11 x _ _ _ _ _ HO.out.2.1 X7.out.2 N7.out.2).mono ?_
    rintro e w10 ⟨rfl, hb1⟩
    have B10 := Lib.hid (bel_call B7.out HS.out hb1)
    have V10 := Lib.hid (VS.keep V7.out hb1)
    have U10 := Lib.hid (VS.keep U7.out hb1)
    clear hb1 B7 V7 U7 X7 N7
    have dd := fun ob => (V10.out.box (Below.refl _ _) ob).1.cells
    have e0 := fun ob => (dd ob).1
    have e1 := fun ob => (dd ob).2.1
    have e2 := fun ob => (dd ob).2.2.1
    have e3 := fun ob => (dd ob).2.2.2.1
    have e4 := fun ob => (dd ob).2.2.2.2
    clear dd
    obtain ⟨d0, d1, d2, d3, d4⟩ := V10.out.1.cells
    go_wp2_with fail
    clear e0 e1 e2 e3 e4 d0 d1 d2 d3 d4
    show Calls Tryd.prog 22 #[vv t (.slice xa xn xc) (.slice ya yn yc), _] _ _
    cases f with
    | true =>
    refine (get_lit t had 0 _ _ key _ (by have := SG.out.g2; rw [if_pos rfl] at this; exact this) HO.out.1 SM.out.1 V10.out.2).mono ?_
    rintro e w11 ⟨hx1, hy1, rfl, hrh, hb1⟩
    obtain ⟨⟨xa11, xn11, xc11, rfl⟩, ⟨ya11, yn11, yc11, rfl⟩⟩ := hrh.slices
    have B11 := Lib.hid (bel_box B10.out HS.out hb1 (bx had (.slice xa11 xn11 xc11) (.slice ya11 yn11 yc11)))
    have V11 := Lib.hid (VS.box V10.out hb1 (bx had (.slice xa11 xn11 xc11) (.slice ya11 yn11 yc11)))
    have U11 := Lib.hid (VS.box U10.out hb1 (bx had (.slice xa11 xn11 xc11) (.slice ya11 yn11 yc11)))
    have N11 := Lib.hid (vs_new hrh)
    clear hb1 hrh B10 V10 U10
    unfold vv
    unfold bx at B11 V11 U11 N11
    go_wp2_with fail
    generalize (w11.alloc (Obj.cells #[.int .i64 had.k, .int .i64 had.n, .string had.s, .slice xa11 xn11 xc11, .slice ya11 yn11 yc11] 27)) = w12 at *
    generalize w11.heap.size = hb at *
    refine (num15 _ _).mono ?_
    rintro e w13 ⟨rfl, rfl⟩
    obtain ⟨c0, c1, c2, c3, c4⟩ := U11.out.1.cells
    obtain ⟨d0, d1, d2, d3, d4⟩ := N11.out.1.cells
    go_wp2_with fail
    clear c0 c1 c2 c3 c4 d0 d1 d2 d3 d4
    show Calls Tryd.prog 21 #[vv u (.slice xa4 xn4 xc4) (.slice ya4 yn4 yc4), .string key, vv had (.slice xa11 xn11 xc11) (.slice ya11 yn11 yc11)] _ _
    refine (with14 u had _ _ _ _ key _ SG.out.uok SG.out.usm (SG.out.hok rfl).1 (SG.out.hok rfl).2 U11.out.2 N11.out.2).mono ?_
    rintro e w14 ⟨u2, er2, ux2, uy2, rfl, hru, hb1, hws⟩
    obtain ⟨rfl, hu2o, hu2k, hu2r⟩ := SG.out.back rfl u2 er2 hws
    have BK := Lib.hid (And.intro hu2o (And.intro hu2k hu2r))
    clear hws hu2o hu2k hu2r N11
    obtain ⟨⟨xa15, xn15, xc15, rfl⟩, ⟨ya15, yn15, yc15, rfl⟩⟩ := hru.slices
    have B15 := Lib.hid (bel_box B11.out HS.out hb1 (bx u2 (.slice xa15 xn15 xc15) (.slice ya15 yn15 yc15)))
    have V15 := Lib.hid (VS.box V11.out hb1 (bx u2 (.slice xa15 xn15 xc15) (.slice ya15 yn15 yc15)))
    have U15 := Lib.hid (VS.box U11.out hb1 (bx u2 (.slice xa15 xn15 xc15) (.slice ya15 yn15 yc15)))
    have N15 := Lib.hid (vs_new hru)
    clear hb1 hru B11 V11 U11
    unfold vv
    unfold bx at B15 V15 U15 N15
    go_wp2_with fail
    generalize (w14.alloc (Obj.cells #[.int .i64 u2.k, .int .i64 u2.n, .string u2.s, .slice xa15 xn15 xc15, .slice ya15 yn15 yc15] 27)) = w15 at *
    generalize w14.heap.size = bb at *
    refine (num15 _ _).mono ?_
    rintro e w16 ⟨rfl, rfl⟩
    obtain ⟨c0, c1, c2, c3, c4⟩ := N15.out.1.cells
    obtain ⟨d0, d1, d2, d3, d4⟩ := V15.out.1.cells
    go_wp2_with fail
    clear c0 c1 c2 c3 c4 d0 d1 d2 d3 d4
    show Calls Tryd.prog 12 #[vv u2 (.slice xa15 xn15 xc15) (.slice ya15 yn15 yc15), vv t (.slice xa xn xc) (.slice ya yn yc)] _ _
    refine (same_as t u2 _ _ _ _ _ BK.out.2.1 BK.out.1 N15.out.2 (BK.out.2.2 _ _ _ V15.out.2)).mono ?_
    rintro e w17 ⟨rfl, hb1⟩
    have B17 := Lib.hid (bel_call B15.out HS.out hb1)
    have V17 := Lib.hid (VS.keep V15.out hb1)
    have U17 := Lib.hid (VS.keep U15.out hb1)
    clear hb1 B15 V15 U15 N15 BK
    have hyn := len_few V17.out.2 SM.out.2
    obtain rfl : yn4 = yn := by
      have := SG.out.len _ _ _ _ _ _ _ _ _ _ V17.out.2 U17.out.2
      simpa using this
    obtain ⟨c0, c1, c2, c3, c4⟩ := V17.out.1.cells
    obtain ⟨d0, d1, d2, d3, d4⟩ := U17.out.1.cells
    by_cases hne : other.toList = key.toList
    · have hneb : (other.toList == key.toList) = true := beq_iff_eq.2 hne
      go_wp2
      go_ret
      exact ⟨rfl, HS.out ▸ B17.out⟩
    have hneb : (other.toList == key.toList) = false := beq_eq_false_iff_ne.2 hne
    have GG := Lib.hid (SG.out.g3 other hne)
    clear hne
    have dd := fun ob => (V17.out.box (Below.refl _ _) ob).1.cells
    have e0 := fun ob => (dd ob).1
    have e1 := fun ob => (dd ob).2.1
    have e2 := fun ob => (dd ob).2.2.1
    have e3 := fun ob => (dd ob).2.2.2.1
    have e4 := fun ob => (dd ob).2.2.2.2
    clear dd
    go_wp2_with fail
    clear c0 c1 c2 c3 c4 d0 d1 d2 d3 d4 e0 e1 e2 e3 e4
    show Calls Tryd.prog 22 #[vv t _ _, _] _ _
    obtain ⟨gt, ge, hgg⟩ : ∃ gt ge, getS t (fun _ => other) 1 = (gt, ge) := ⟨_, _, rfl⟩
    have GK : Hid gt.ok := by have := SG.out.gok (fun _ => other); rw [hgg] at this; exact Lib.hid this
    have GU := Lib.hid (GG.out.trans hgg)
    refine (get_lit t gt ge _ _ other _ hgg HO.out.1 SM.out.1 V17.out.2).mono ?_
    clear hgg GG
    rintro e p1 ⟨px, py, rfl, hrp, hb1⟩
    obtain ⟨⟨xa21, xn21, xc21, rfl⟩, ⟨ya21, yn21, yc21, rfl⟩⟩ := hrp.slices
    have B21 := Lib.hid (bel_box B17.out HS.out hb1 (bx gt (.slice xa21 xn21 xc21) (.slice ya21 yn21 yc21)))
    have U21 := Lib.hid (VS.box U17.out hb1 (bx gt (.slice xa21 xn21 xc21) (.slice ya21 yn21 yc21)))
    have P21 := Lib.hid (vs_new hrp)
    clear hb1 hrp B17 U17 V17
    unfold vv
    unfold bx at B21 U21 P21
    have dd := fun ob => (U21.out.box (Below.refl _ _) ob).1.cells
    have e0 := fun ob => (dd ob).1
    have e1 := fun ob => (dd ob).2.1
    have e2 := fun ob => (dd ob).2.2.1
    have e3 := fun ob => (dd ob).2.2.2.1
    have e4 := fun ob => (dd ob).2.2.2.2
    clear dd
    obtain ⟨d0, d1, d2, d3, d4⟩ := U21.out.1.cells
    go_wp2_with fail
    clear d0 d1 d2 d3 d4 e0 e1 e2 e3 e4
    have hp2 : (p1.alloc (Obj.cells #[.int .i64 gt.k, .int .i64 gt.n, .string gt.s, .slice xa21 xn21 xc21, .slice ya21 yn21 yc21] 27)).heap.size = p1.heap.size + 1 := by simp
    rw [← hp2]
    generalize (p1.alloc (Obj.cells #[.int .i64 gt.k, .int .i64 gt.n, .string gt.s, .slice xa21 xn21 xc21, .slice ya21 yn21 yc21] 27)) = p2 at *
    clear hp2
    generalize p1.heap.size = pb at *
    show Calls Tryd.prog 22 #[vv u _ _, _] _ _
    refine (get_lit u gt ge _ _ other _ GU.out SG.out.uok SG.out.usm U21.out.2).mono ?_
    rintro e p3 ⟨qx, qy, rfl, hrq, hb1⟩
    obtain ⟨⟨xa22, xn22, xc22, rfl⟩, ⟨ya22, yn22, yc22, rfl⟩⟩ := hrq.slices
    have B22 := Lib.hid (bel_box B21.out HS.out hb1 (bx gt (.slice xa22 xn22 xc22) (.slice ya22 yn22 yc22)))
    have P22 := Lib.hid (VS.box P21.out hb1 (bx gt (.slice xa22 xn22 xc22) (.slice ya22 yn22 yc22)))
    have Q22 := Lib.hid (vs_new hrq)
    clear hb1 hrq B21 U21 P21
    unfold vv
    unfold bx at B22 P22 Q22
    go_wp2_with fail
    generalize (p3.alloc (Obj.cells #[.int .i64 gt.k, .int .i64 gt.n, .string gt.s, .slice xa22 xn22 xc22, .slice ya22 yn22 yc22] 27)) = p4 at *
    generalize p3.heap.size = qb at *
    refine (num15 _ _).mono ?_
    rintro e p5 ⟨rfl, rfl⟩
    go_wp2_with fail
    refine (num15 _ _).mono ?_
    rintro e p6 ⟨rfl, rfl⟩
    obtain ⟨c0, c1, c2, c3, c4⟩ := P22.out.1.cells
    obtain ⟨d0, d1, d2, d3, d4⟩ := Q22.out.1.cells
    go_wp2_with fail
    clear c0 c1 c2 c3 c4 d0 d1 d2 d3 d4
    show Calls Tryd.prog 12 #[vv gt (.slice xa21 xn21 xc21) (.slice ya21 yn21 yc21), vv gt (.slice xa22 xn22 xc22) (.slice ya22 yn22 yc22)] _ _
    refine (same11 gt _ _ _ _ _ GK.out P22.out.2 Q22.out.2).mono ?_
    rintro e p7 ⟨rfl, hb1⟩
    have BZ := bel_call B22.out HS.out hb1
    go_wp2
    go_ret
    exact ⟨rfl, HS.out ▸ BZ⟩
    | false =>
    refine (get_lit t zeroT 28 _ _ key _ (by have := SG.out.g2; rw [if_neg (by decide)] at this; exact this) HO.out.1 SM.out.1 V10.out.2).mono ?_
    rintro e w11 ⟨hx1, hy1, rfl, hrh, hb1⟩
    obtain ⟨⟨xa11, xn11, xc11, rfl⟩, ⟨ya11, yn11, yc11, rfl⟩⟩ := hrh.slices
    have B11 := Lib.hid (bel_box B10.out HS.out hb1 (bx zeroT (.slice xa11 xn11 xc11) (.slice ya11 yn11 yc11)))
    have V11 := Lib.hid (VS.box V10.out hb1 (bx zeroT (.slice xa11 xn11 xc11) (.slice ya11 yn11 yc11)))
    have U11 := Lib.hid (VS.box U10.out hb1 (bx zeroT (.slice xa11 xn11 xc11) (.slice ya11 yn11 yc11)))
    have N11 := Lib.hid (vs_new hrh)
    clear hb1 hrh B10 V10 U10
    unfold vv
    unfold bx at B11 V11 U11 N11
    go_wp2_with fail
    generalize (w11.alloc (Obj.cells #[.int .i64 zeroT.k, .int .i64 zeroT.n, .string zeroT.s, .slice xa11 xn11 xc11, .slice ya11 yn11 yc11] 27)) = w12 at *
    generalize w11.heap.size = hb at *
    refine (num15 _ _).mono ?_
    rintro e w17 ⟨rfl, rfl⟩
    have hyn := len_few V11.out.2 SM.out.2
    obtain rfl : yn4 = yn + 1 := by
      have := SG.out.len _ _ _ _ _ _ _ _ _ _ V11.out.2 U11.out.2
      simpa using this
    obtain ⟨c0, c1, c2, c3, c4⟩ := V11.out.1.cells
    obtain ⟨d0, d1, d2, d3, d4⟩ := U11.out.1.cells
    by_cases hne : other.toList = key.toList
    · have hneb : (other.toList == key.toList) = true := beq_iff_eq.2 hne
      go_wp2
      go_ret
      exact ⟨rfl, HS.out ▸ B11.out⟩
    have hneb : (other.toList == key.toList) = false := beq_eq_false_iff_ne.2 hne
    have GG := Lib.hid (SG.out.g3 other hne)
    clear hne
    have dd := fun ob => (V11.out.box (Below.refl _ _) ob).1.cells
    have e0 := fun ob => (dd ob).1
    have e1 := fun ob => (dd ob).2.1
    have e2 := fun ob => (dd ob).2.2.1
    have e3 := fun ob => (dd ob).2.2.2.1
    have e4 := fun ob => (dd ob).2.2.2.2
    clear dd
    go_wp2_with fail
    clear c0 c1 c2 c3 c4 d0 d1 d2 d3 d4 e0 e1 e2 e3 e4
    show Calls Tryd.prog 22 #[vv t _ _, _] _ _
    obtain ⟨gt, ge, hgg⟩ : ∃ gt ge, getS t (fun _ => other) 1 = (gt, ge) := ⟨_, _, rfl⟩
    have GK : Hid gt.ok := by have := SG.out.gok (fun _ => other); rw [hgg] at this; exact Lib.hid this
    have GU := Lib.hid (GG.out.trans hgg)
    refine (get_lit t gt ge _ _ other _ hgg HO.out.1 SM.out.1 V11.out.2).mono ?_
    clear hgg GG
    rintro e p1 ⟨px, py, rfl, hrp, hb1⟩
    obtain ⟨⟨xa21, xn21, xc21, rfl⟩, ⟨ya21, yn21, yc21, rfl⟩⟩ := hrp.slices
    have B21 := Lib.hid (bel_box B11.out HS.out hb1 (bx gt (.slice xa21 xn21 xc21) (.slice ya21 yn21 yc21)))
    have U21 := Lib.hid (VS.box U11.out hb1 (bx gt (.slice xa21 xn21 xc21) (.slice ya21 yn21 yc21)))
    have P21 := Lib.hid (vs_new hrp)
    clear hb1 hrp B11 U11 V11
    unfold vv
    unfold bx at B21 U21 P21
    have dd := fun ob => (U21.out.box (Below.refl _ _) ob).1.cells
    have e0 := fun ob => (dd ob).1
    have e1 := fun ob => (dd ob).2.1
    have e2 := fun ob => (dd ob).2.2.1
    have e3 := fun ob => (dd ob).2.2.2.1
    have e4 := fun ob => (dd ob).2.2.2.2
    clear dd
    obtain ⟨d0, d1, d2, d3, d4⟩ := U21.out.1.cells
    go_wp2_with fail
    clear d0 d1 d2 d3 d4 e0 e1 e2 e3 e4
    have hp2 : (p1.alloc (Obj.cells #[.int .i64 gt.k, .int .i64 gt.n, .string gt.s, .slice xa21 xn21 xc21, .slice ya21 yn21 yc21] 27)).heap.size = p1.heap.size + 1 := by simp
    rw [← hp2]
    generalize (p1.alloc (Obj.cells #[.int .i64 gt.k, .int .i64 gt.n, .string gt.s, .slice xa21 xn21 xc21, .slice ya21 yn21 yc21] 27)) = p2 at *
    clear hp2
    generalize p1.heap.size = pb at *
    show Calls Tryd.prog 22 #[vv u _ _, _] _ _
    refine (get_lit u gt ge _ _ other _ GU.out SG.out.uok SG.out.usm U21.out.2).mono ?_
    rintro e p3 ⟨qx, qy, rfl, hrq, hb1⟩
    obtain ⟨⟨xa22, xn22, xc22, rfl⟩, ⟨ya22, yn22, yc22, rfl⟩⟩ := hrq.slices
    have B22 := Lib.hid (bel_box B21.out HS.out hb1 (bx gt (.slice xa22 xn22 xc22) (.slice ya22 yn22 yc22)))
    have P22 := Lib.hid (VS.box P21.out hb1 (bx gt (.slice xa22 xn22 xc22) (.slice ya22 yn22 yc22)))
    have Q22 := Lib.hid (vs_new hrq)
    clear hb1 hrq B21 U21 P21
    unfold vv
    unfold bx at B22 P22 Q22
    go_wp2_with fail
    generalize (p3.alloc (Obj.cells #[.int .i64 gt.k, .int .i64 gt.n, .string gt.s, .slice xa22 xn22 xc22, .slice ya22 yn22 yc22] 27)) = p4 at *
    generalize p3.heap.size = qb at *
    refine (num15 _ _).mono ?_
    rintro e p5 ⟨rfl, rfl⟩
    go_wp2_with fail
    refine (num15 _ _).mono ?_
    rintro e p6 ⟨rfl, rfl⟩
    obtain ⟨c0, c1, c2, c3, c4⟩ := P22.out.1.cells
    obtain ⟨d0, d1, d2, d3, d4⟩ := Q22.out.1.cells
    go_wp2_with fail
    clear c0 c1 c2 c3 c4 d0 d1 d2 d3 d4
    show Calls Tryd.prog 12 #[vv gt (.slice xa21 xn21 xc21) (.slice ya21 yn21 yc21), vv gt (.slice xa22 xn22 xc22) (.slice ya22 yn22 yc22)] _ _
    refine (same11 gt _ _ _ _ _ GK.out P22.out.2 Q22.out.2).mono ?_
    rintro e p7 ⟨rfl, hb1⟩
    have BZ := bel_call B22.out HS.out hb1
    go_wp2
    go_ret
    exact ⟨rfl, HS.out ▸ BZ⟩
  · have g0 : (er == 0) = false := beq_eq_false_iff_ne.2 he
    have hz : u = zeroT := by
      rcases HW.out with ⟨_, h, _⟩ | ⟨_, _, h, _⟩ | ⟨_, _, _, h, _⟩ | ⟨_, _, _, _, h, _⟩ | ⟨_, _, _, _, h, _⟩
      · exact h
      · exact h
      · exact h
      · exact h
      · exact absurd h he
    subst hz
    clear HW
    obtain ⟨d0, d1, d2, d3, d4⟩ := U4.out.1.cells
    go_wp2_with fail
    clear d0 d1 d2 d3 d4
    show Calls Tryd.prog 12 #[vv zeroT (.slice xa4 xn4 xc4) (.slice ya4 yn4 yc4), vv zeroT (.slice none 0 0) (.slice none 0 0)] _ _
    refine (same11 zeroT _ _ _ _ _ zeroT_ok U4.out.2 (rv_zeroT _)).mono ?_
    rintro e w7 ⟨rfl, hb1⟩
    have BZ := bel_call B4.out HS.out hb1
    go_wp2
    go_ret
    exact ⟨rfl, HS.out ▸ BZ⟩
end Go.Proofs.YtegdlkbilgkfoaaDoor
