import Derived.Test.YtegdlkbilgkfoaaDoorNr
import Derived.Test.YtegdlkbilgkfoaaDoorLen
import Derived.Test.YtegdlkbilgkfoaaDoorInts
namespace Go.Proofs.YtegdlkbilgkfoaaDoor
open Go.RowKit Go.Deep
/-- in block b a value lies that reads as t -/
def VS (w : World) (b : Nat) (t : T) (x y : Value) : Prop := obj w b (.int .i64 t.k) (.int .i64 t.n) (.string t.s) x y ∧ RV (fun _ => True) w t x y
theorem VS.keep {w w' : World} {b : Nat} {t : T} {x y : Value} (h : VS w b t x y) (hb : Below w.heap.size w w') : VS w' b t x y :=
  ⟨h.1.keep (hb.block _ h.1.lt), Below.rv hb (Nat.le_refl _) h.2⟩
set_option maxRecDepth 10000 in
set_option maxHeartbeats 4000000 in
theorem back5 (t : T) (x y : Value) (w : World) (hok : t.ok) (hin : t.ints) (hev : EVw w) (hT : TB w.heap.size w) (hr : RV (fun _ => True) w t x y) :
    Calls Tryd.prog 5 #[vv t x y] w fun e w' => e = .returned (.bool true) ∧ Below w.heap.size w w' := by
  obtain ⟨⟨xa, xn, xc, rfl⟩, ⟨ya, yn, yc, rfl⟩⟩ := hr.slices
  have HO : Hid (t.ok ∧ t.ints ∧ t.full) := ⟨hok, hin, full_of_rv _ _ _ hr⟩
  have B0 : Hid (Below w.heap.size w (w.alloc (Obj.cells #[.int .i64 t.k, .int .i64 t.n, .string t.s, .slice xa xn xc, .slice ya yn yc] 27))) := (Below.refl _ _).alloc (Nat.le_refl _) _
  have HE := Lib.hid (hev.keep B0.out)
  have HT := Lib.hid (TB.on' hT B0.out)
  have V0 : Hid (VS (w.alloc (Obj.cells #[.int .i64 t.k, .int .i64 t.n, .string t.s, .slice xa xn xc, .slice ya yn yc] 27)) w.heap.size t (.slice xa xn xc) (.slice ya yn yc)) :=
    ⟨heap_new _ _, Below.rv B0.out (Nat.le_refl _) hr⟩
  clear hok hin hev hT hr
  unfold vv
  go_enter Tryd.func5, Tryd.ntmps5
  go_wp2_with fail
  generalize (w.alloc (Obj.cells #[.int .i64 t.k, .int .i64 t.n, .string t.s, .slice xa xn xc, .slice ya yn yc] 27)) = w0 at *
  generalize hvb : w.heap.size = vb at *
  have HS : Hid (w.heap.size = vb) := hvb
  clear hvb
  refine (far7 t _ _ _ HO.out.1 V0.out.2).mono ?_
  rintro e w1 ⟨r, rfl, hb1, hsm⟩
  have B1 : Hid (Below vb w w1) := B0.out.trans (hb1.mono (HS.out ▸ B0.out.size))
  have E1 := Lib.hid (HE.out.keep hb1)
  have T1 := Lib.hid (TB.on' HT.out hb1)
  have V1 := Lib.hid (VS.keep V0.out hb1)
  clear hb1 B0 HE HT V0
  cases r with
  | true =>
    clear hsm
    go_wp2
    go_ret
    exact ⟨rfl, HS.out ▸ B1.out⟩
  | false =>
  have S1 : Hid t.small := (hsm rfl).1
  have R1 : Hid t.rng := rng_of t HO.out.2.1 S1.out
  have L1 : Hid ((txt t).length ≤ 80000000000000) := by
    have h1 := txt_len t HO.out.1 R1.out
    have h2 := (hsm rfl).2
    exact Lib.hid (by omega)
  clear hsm
  go_wp2_with fail
  refine (awake14 _ E1.out T1.out).mono ?_
  rintro e w2 ⟨rfl, hb2⟩
  have B2 : Hid (Below vb w w2) := B1.out.trans (hb2.mono (HS.out ▸ B1.out.size))
  have E2 := Lib.hid (E1.out.keep hb2)
  have T2 := Lib.hid (TB.on' T1.out hb2)
  have V2 := Lib.hid (VS.keep V1.out hb2)
  clear hb2 B1 E1 T1 V1
  obtain ⟨d0, d1, d2, d3, d4⟩ := V2.out.1.cells
  go_wp2_with fail
  show Calls Tryd.prog 16 #[vv t (.slice xa xn xc) (.slice ya yn yc)] _ _
  refine (valid12 t _ _ _ HO.out.1 V2.out.2).mono ?_
  rintro e w3 ⟨rfl, hb3⟩
  have B3 : Hid (Below vb w w3) := B2.out.trans (hb3.mono (HS.out ▸ B2.out.size))
  have E3 := Lib.hid (E2.out.keep hb3)
  have T3 := Lib.hid (TB.on' T2.out hb3)
  have V3 := Lib.hid (VS.keep V2.out hb3)
  clear hb3 B2 E2 T2 V2 d0 d1 d2 d3 d4
  obtain ⟨d0, d1, d2, d3, d4⟩ := V3.out.1.cells
  go_wp2_with fail
  show Calls Tryd.prog 17 #[vv t (.slice xa xn xc) (.slice ya yn yc)] _ _
  refine (encode7 t _ _ _ HO.out.1 S1.out R1.out L1.out T3.out V3.out.2).mono ?_
  rintro e w4 ⟨v4, er4, rfl, B, l, ho, her, hl, hb4⟩
  have B4 : Hid (Below vb w w4) := B3.out.trans (hb4.mono (HS.out ▸ B3.out.size))
  have E4 := Lib.hid (E3.out.keep hb4)
  have V4 := Lib.hid (VS.keep V3.out hb4)
  have R4 := Lib.hid ho.rb
  obtain ⟨a4, c4, rfl⟩ := ho.form'
  clear ho hb4 B3 E3 T3 V3 d0 d1 d2 d3 d4
  by_cases hw : wk t 0 = 0
  · by_cases hlen : 1048576 < (txt t).length
    · rw [if_pos hw, if_pos hlen] at her
      rw [if_neg (by rintro ⟨_, h⟩; omega)] at hl
      subst her hl
      rw [hw]
      go_wp2_with fail
      refine (num15 _ _).mono ?_
      rintro e w5 ⟨rfl, rfl⟩
      go_wp2_with fail
      refine (num15 _ _).mono ?_
      rintro e w6 ⟨rfl, rfl⟩
      go_wp2_with fail
      refine (num15 _ _).mono ?_
      rintro e w7 ⟨rfl, rfl⟩
      go_wp2_with fail
      refine (num15 _ _).mono ?_
      rintro e w8 ⟨rfl, rfl⟩
      go_wp2_with fail
      refine (num15 _ _).mono ?_
      rintro e w9 ⟨rfl, rfl⟩
      go_wp2
      go_ret
      exact ⟨rfl, HS.out ▸ B4.out⟩
    · rw [if_pos hw, if_neg hlen] at her
      rw [if_pos ⟨hw, by omega⟩] at hl
      subst her hl
      rw [hw]
      have HD := Lib.hid (dout_written hw HO.out.2.2 R1.out HO.out.1 (by omega))
      go_wp2_with fail
      refine (num15 _ _).mono ?_
      rintro e w5 ⟨rfl, rfl⟩
      go_wp2_with fail
      refine (decode10 _ _ _ R4.out E4.out).mono ?_
      rintro e w6 ⟨t', x', y', k', er', rfl, hrv, hok', hout, hb6⟩
      obtain ⟨rfl, rfl, rfl⟩ := DOUT.unique hout HD.out
      obtain ⟨⟨xa', xn', xc', rfl⟩, ⟨ya', yn', yc', rfl⟩⟩ := hrv.slices
      rw [vv_nrm hw]
      have hba : Below w6.heap.size w6 (w6.alloc (Obj.cells #[.int .i64 t.k, .int .i64 t.n, .string t.s, .slice xa' xn' xc', .slice ya' yn' yc'] 27)) := (Below.refl _ _).alloc (Nat.le_refl _) _
      have hbb := hb6.trans (hba.mono hb6.size)
      have B6 : Hid (Below vb w (w6.alloc (Obj.cells #[.int .i64 t.k, .int .i64 t.n, .string t.s, .slice xa' xn' xc', .slice ya' yn' yc'] 27))) := B4.out.trans (hbb.mono (HS.out ▸ B4.out.size))
      have V6 := Lib.hid (VS.keep V4.out hbb)
      have O6 : Hid (obj (w6.alloc (Obj.cells #[.int .i64 t.k, .int .i64 t.n, .string t.s, .slice xa' xn' xc', .slice ya' yn' yc'] 27)) w6.heap.size (.int .i64 t.k) (.int .i64 t.n) (.string t.s) (.slice xa' xn' xc') (.slice ya' yn' yc')) := heap_new _ _
      have N6 := Lib.hid (Below.rv hba (Nat.le_refl _) hrv)
      clear hba hbb hrv hok' hout hb6 R4 E4 V4 B4 HD
      unfold vv
      go_wp2_with fail
      generalize (w6.alloc (Obj.cells #[.int .i64 t.k, .int .i64 t.n, .string t.s, .slice xa' xn' xc', .slice ya' yn' yc'] 27)) = w7 at *
      generalize w6.heap.size = ub at *
      obtain ⟨d0, d1, d2, d3, d4⟩ := V6.out.1.cells
      obtain ⟨f0, f1, f2, f3, f4⟩ := O6.out.cells
      refine (num15 _ _).mono ?_
      rintro e w8 ⟨rfl, rfl⟩
      have hlen' : ((txt t).length : Int) ≤ 1048576 := by omega
      go_wp2_with fail
      refine (num15 _ _).mono ?_
      rintro e w9 ⟨rfl, rfl⟩
      go_wp2_with fail
      show Calls Tryd.prog 12 #[vv t (.slice xa xn xc) (.slice ya yn yc), vv t (.slice xa' xn' xc') (.slice ya' yn' yc')] _ _
      refine (same_nrm t 0 _ _ _ _ _ hw HO.out.1 V6.out.2 N6.out).mono ?_
      rintro e wz ⟨rfl, hbz⟩
      have BZ := B6.out.trans (hbz.mono (HS.out ▸ B6.out.size))
      go_wp2
      go_ret
      exact ⟨rfl, HS.out ▸ BZ⟩
  · rw [if_neg hw] at her
    rw [if_neg (fun h => hw h.1)] at hl
    subst her hl
    have g0 : (wk t 0 == 0) = false := beq_eq_false_iff_ne.2 hw
    generalize wk t 0 = er at *
    go_wp2_with fail
    refine (num15 _ _).mono ?_
    rintro e w5 ⟨rfl, rfl⟩
    go_wp2_with fail
    refine (num15 _ _).mono ?_
    rintro e w6 ⟨rfl, rfl⟩
    go_wp2_with fail
    refine (num15 _ _).mono ?_
    rintro e w7 ⟨rfl, rfl⟩
    go_wp2
    go_ret
    exact ⟨by simp, HS.out ▸ B4.out⟩
end Go.Proofs.YtegdlkbilgkfoaaDoor
