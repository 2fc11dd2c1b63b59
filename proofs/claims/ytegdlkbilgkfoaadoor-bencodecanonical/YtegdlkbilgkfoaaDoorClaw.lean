import Derived.Test.YtegdlkbilgkfoaaDoorAwk
import Derived.Test.YtegdlkbilgkfoaaDoorCo
import Derived.Test.YtegdlkbilgkfoaaDoorTwin
namespace Go.Proofs.YtegdlkbilgkfoaaDoor
open Go.RowKit Go.Deep
set_option maxRecDepth 10000 in
set_option maxHeartbeats 4000000 in
theorem canon4 (v : Value) (b : List UInt8) (w : World) (h1 : RB w v b) (hev : EVw w) (hT : TB w.heap.size w) :
    Calls Tryd.prog 4 #[v] w fun e w' => e = .returned (.bool true) ∧ Below w.heap.size w w' := by
  have HR := Lib.hid h1
  have HE := Lib.hid hev
  have HT := Lib.hid hT
  obtain ⟨a1, c1, rfl, _⟩ := h1
  clear hev hT
  go_enter Tryd.func4, Tryd.ntmps4
  go_wp2_with fail
  refine (awake14 _ HE.out HT.out).mono ?_
  rintro e w1 ⟨rfl, hb1⟩
  have R1 := Lib.hid (HR.out.keep hb1)
  have E1 := Lib.hid (HE.out.keep hb1)
  have T1 := Lib.hid (TB.on' HT.out hb1)
  have B1 := Lib.hid hb1
  clear hb1 HR HE HT
  go_wp2_with fail
  refine (decode10 _ b _ R1.out E1.out).mono ?_
  rintro e w2 ⟨t, x, y, k, er, rfl, hrv, hok, hout, hb2⟩
  obtain ⟨⟨xa, xn, xc, rfl⟩, ⟨ya, yn, yc, rfl⟩⟩ := hrv.slices
  have hba : Below w2.heap.size w2 (w2.alloc (Obj.cells #[.int .i64 t.k, .int .i64 t.n, .string t.s, .slice xa xn xc, .slice ya yn yc] 27)) := (Below.refl _ _).alloc (Nat.le_refl _) _
  have hbb := hb2.trans (hba.mono hb2.size)
  have R2 := Lib.hid (R1.out.keep hbb)
  have T2 := Lib.hid (TB.on' T1.out hbb)
  have B2 := Lib.hid (B1.out.trans (hbb.mono B1.out.size))
  have V2 := Lib.hid (Below.rv hba (Nat.le_refl _) hrv)
  have O2 : Hid (obj (w2.alloc (Obj.cells #[.int .i64 t.k, .int .i64 t.n, .string t.s, .slice xa xn xc, .slice ya yn yc] 27)) w2.heap.size (.int .i64 t.k) (.int .i64 t.n) (.string t.s) (.slice xa xn xc) (.slice ya yn yc)) := heap_new _ _
  have HC := Lib.hid hout
  clear hba hbb hrv hout hb2 R1 E1 B1 T1
  unfold vv
  go_wp2_with fail
  generalize (w2.alloc (Obj.cells #[.int .i64 t.k, .int .i64 t.n, .string t.s, .slice xa xn xc, .slice ya yn yc] 27)) = w3 at *
  generalize w2.heap.size = VB at *
  refine (num15 _ _).mono ?_
  rintro e w4 ⟨rfl, rfl⟩
  by_cases he : er = 0
  · subst he
    obtain ⟨hbt, hgd, hlen⟩ := dout_txt HC.out
    subst hbt
    have HG := Lib.hid hgd
    have hw0 : wk t 0 = 0 := hgd.1
    clear HC hgd
    obtain ⟨d0, d1, d2, d3, d4⟩ := O2.out.cells
    go_wp2_with fail
    show Calls Tryd.prog 16 #[vv t (.slice xa xn xc) (.slice ya yn yc)] _ _
    refine (valid12 t _ _ _ hok V2.out).mono ?_
    rintro e w5 ⟨rfl, hb5⟩
    rw [hw0]
    have R5 := Lib.hid (R2.out.keep hb5)
    have T5 := Lib.hid (TB.on' T2.out hb5)
    have B5 := Lib.hid (B2.out.trans (hb5.mono B2.out.size))
    have V5 := Lib.hid (Below.rv hb5 (Nat.le_refl _) V2.out)
    have O5 := Lib.hid (O2.out.keep (hb5.block _ O2.out.lt))
    clear hb5 R2 T2 B2 V2 O2 d0 d1 d2 d3 d4
    obtain ⟨d0, d1, d2, d3, d4⟩ := O5.out.cells
    go_wp2_with fail
    show Calls Tryd.prog 17 #[vv t (.slice xa xn xc) (.slice ya yn yc)] _ _
    refine (encode7 t _ _ _ hok HG.out.2.1 HG.out.2.2 (by omega) T5.out V5.out).mono ?_
    rintro e w6 ⟨v6, er6, rfl, B, l, ho, her, hl, hb6⟩
    rw [if_pos hw0, if_neg (by omega)] at her
    rw [if_pos ⟨hw0, hlen⟩] at hl
    subst her hl
    have R6 := Lib.hid (And.intro ho.rb (R5.out.keep hb6))
    have B6 := Lib.hid (B5.out.trans (hb6.mono B5.out.size))
    obtain ⟨a6, c6, rfl⟩ := ho.form'
    clear ho hb6 R5 T5 B5 V5 O5 d0 d1 d2 d3 d4
    go_wp2_with fail
    refine (num15 _ _).mono ?_
    rintro e w7 ⟨rfl, rfl⟩
    go_wp2_with fail
    refine (num15 _ _).mono ?_
    rintro e w8 ⟨rfl, rfl⟩
    go_wp2_with fail
    refine (same9 _ _ _ _ (by omega) R6.out.1 R6.out.2).mono ?_
    rintro e w9 ⟨rfl, nq, rfl⟩
    go_wp2
    go_ret
    exact ⟨rfl, ⟨B6.out.os, B6.out.tape, B6.out.output, B6.out.size, B6.out.block⟩⟩
  · have g0 : (er == 0) = false := beq_eq_false_iff_ne.2 he
    go_wp2
    go_ret
    exact ⟨rfl, B2.out⟩
end Go.Proofs.YtegdlkbilgkfoaaDoor
