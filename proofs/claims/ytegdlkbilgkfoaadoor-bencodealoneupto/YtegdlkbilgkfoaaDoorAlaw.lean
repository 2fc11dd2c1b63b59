import Derived.Test.YtegdlkbilgkfoaaDoorBlaw
import Derived.Test.YtegdlkbilgkfoaaDoorFs
namespace Go.Proofs.YtegdlkbilgkfoaaDoor
open Go.RowKit Go.Deep
theorem out_written {t : T} (r : List UInt8) (hw : wk t 0 = 0) (hf : t.full) (hr : t.rng) (hok : t.ok) (hl : (txt t ++ r).length ≤ 1048576) : OUT (txt t ++ r) (nrm t) (txt t).length 0 :=
  .inl ⟨rfl, run_written r hw hf hr hok, hl⟩
theorem dout_more {t : T} (r : List UInt8) (hw : wk t 0 = 0) (hf : t.full) (hr : t.rng) (hok : t.ok) (hl : (txt t ++ r).length ≤ 1048576) :
    ∃ u k er, DOUT (txt t ++ r) u k er ∧ ((r.length = 0 ∧ er = 0 ∧ k = 0) ∨ (r.length ≠ 0 ∧ er = 26 ∧ k = (txt t).length)) := by
  have h := run_written r hw hf hr hok
  by_cases h0 : r.length = 0
  · exact ⟨_, _, _, .inl ⟨rfl, rfl, hl, _, h, by rw [List.length_append]; omega⟩, .inl ⟨h0, rfl, rfl⟩⟩
  · exact ⟨_, _, _, .inr ⟨rfl, .inl ⟨rfl, by rw [List.length_append]; omega, hl, _, h⟩⟩, .inr ⟨h0, rfl, rfl⟩⟩
set_option maxRecDepth 10000 in
set_option maxHeartbeats 4000000 in
theorem alone6 (t : T) (x y v2 : Value) (m : List UInt8) (w : World) (hok : t.ok) (hin : t.ints) (hev : EVw w) (hT : TB w.heap.size w) (hr : RV (fun _ => True) w t x y) (h2 : RB w v2 m) (s2 : v2 = .slice none 0 0 ∨ ∃ ad n c, v2 = .slice (some ad) n c) (hml : m.length ≤ 140737486000000) :
    Calls Tryd.prog 6 #[vv t x y, v2] w fun e w' => e = .returned (.bool true) ∧ Below w.heap.size w w' := by
  obtain ⟨⟨xa, xn, xc, rfl⟩, ⟨ya, yn, yc, rfl⟩⟩ := hr.slices
  have HO : Hid (t.ok ∧ t.ints ∧ t.full) := ⟨hok, hin, full_of_rv _ _ _ hr⟩
  have B0 : Hid (Below w.heap.size w (w.alloc (Obj.cells #[.int .i64 t.k, .int .i64 t.n, .string t.s, .slice xa xn xc, .slice ya yn yc] 27))) := (Below.refl _ _).alloc (Nat.le_refl _) _
  have HE := Lib.hid (hev.keep B0.out)
  have HT := Lib.hid (TB.on' hT B0.out)
  have R0 := Lib.hid (h2.keep B0.out)
  have S2 := Lib.hid s2
  have V0 : Hid (VS (w.alloc (Obj.cells #[.int .i64 t.k, .int .i64 t.n, .string t.s, .slice xa xn xc, .slice ya yn yc] 27)) w.heap.size t (.slice xa xn xc) (.slice ya yn yc)) :=
    ⟨heap_new _ _, Below.rv B0.out (Nat.le_refl _) hr⟩
  obtain ⟨a2, c2, rfl, _⟩ := h2
  clear hok hin hev hT hr s2
  unfold vv
  go_enter Tryd.func6, Tryd.ntmps6
  go_wp2_with fail
  generalize (w.alloc (Obj.cells #[.int .i64 t.k, .int .i64 t.n, .string t.s, .slice xa xn xc, .slice ya yn yc] 27)) = w0 at *
  generalize hvb : w.heap.size = vb at *
  have HS : Hid (w.heap.size = vb) := hvb
  clear hvb
  refine (far7 t _ _ _ HO.out.1 V0.out.2).mono ?_
  rintro e w1 ⟨r, rfl, hb1, hsm⟩
  have B1 : Hid (Below vb w w1) := B0.out.trans (hb1.mono (HS.out ▸ B0.out.size))
  have E1 := Lib.hid (HE.out.keep hb1)
  have T1 := Lib.hid (TB.on' HT.out hb1)
  have V1 := Lib.hid (VS.keep V0.out hb1)
  have R1 := Lib.hid (R0.out.keep hb1)
  clear hb1 B0 HE HT V0 R0
  cases r with
  | true =>
    clear hsm
    go_wp2
    go_ret
    exact ⟨rfl, HS.out ▸ B1.out⟩
  | false =>
  have SM : Hid t.small := (hsm rfl).1
  have RG : Hid t.rng := rng_of t HO.out.2.1 SM.out
  have L1 : Hid ((txt t).length ≤ 80000000000000) := by
    have h1 := txt_len t HO.out.1 RG.out
    have h2 := (hsm rfl).2
    exact Lib.hid (by omega)
  clear hsm
  go_wp2_with fail
  refine (awake14 _ E1.out T1.out).mono ?_
  rintro e w3 ⟨rfl, hb2⟩
  have B3 : Hid (Below vb w w3) := B1.out.trans (hb2.mono (HS.out ▸ B1.out.size))
  have E3 := Lib.hid (E1.out.keep hb2)
  have T3 := Lib.hid (TB.on' T1.out hb2)
  have V3 := Lib.hid (VS.keep V1.out hb2)
  have R3 := Lib.hid (R1.out.keep hb2)
  clear hb2 B1 E1 T1 V1 R1
  obtain ⟨d0, d1, d2, d3, d4⟩ := V3.out.1.cells
  go_wp2_with fail
  show Calls Tryd.prog 17 #[vv t (.slice xa xn xc) (.slice ya yn yc)] _ _
  refine (encode7 t _ _ _ HO.out.1 SM.out RG.out L1.out T3.out V3.out.2).mono ?_
  rintro e w4 ⟨v4, er4, rfl, B, l, ho, her, hl, hb4⟩
  have B4 : Hid (Below vb w w4) := B3.out.trans (hb4.mono (HS.out ▸ B3.out.size))
  have E4 := Lib.hid (E3.out.keep hb4)
  have V4 := Lib.hid (VS.keep V3.out hb4)
  have Q4 := Lib.hid (R3.out.keep hb4)
  have R4 := Lib.hid ho.rb
  have S4 : Hid (v4 = .slice none 0 0 ∨ ∃ ad n c, v4 = .slice (some ad) n c) := by
    rcases ow_cell ho with ⟨h, _⟩ | ⟨g, c, h, _⟩
    · exact .inl h
    · exact .inr ⟨_, _, _, h⟩
  obtain ⟨a4, c4, rfl⟩ := ho.form'
  have HH := Lib.hid (And.intro her hl)
  clear ho hb4 B3 E3 T3 V3 R3 d0 d1 d2 d3 d4 her hl
  go_wp2_with fail
  refine (num15 _ _).mono ?_
  rintro e w5 ⟨rfl, rfl⟩
  by_cases he4 : er4 = 0
  · subst he4
    obtain ⟨her, hl⟩ := HH.out
    clear HH
    have hw : wk t 0 = 0 := by
      by_cases h : wk t 0 = 0
      · exact h
      · rw [if_neg h] at her; exact her.symm
    rw [if_pos hw] at her
    have hlen : (txt t).length ≤ 1048576 := by
      by_cases h : 1048576 < (txt t).length
      · rw [if_pos h] at her; cases her
      · omega
    rw [if_pos ⟨hw, hlen⟩] at hl
    subst hl
    clear her
    go_wp2_with fail
    refine (together19 _ _ (txt t) m _ R4.out Q4.out S4.out S2.out (by omega)).mono ?_
    rintro e w6 ⟨v6, rfl, ho6, hb6⟩
    have R6 := Lib.hid ho6.rb
    have E6 := Lib.hid (E4.out.keep hb6)
    have V6 := Lib.hid (VS.keep V4.out hb6)
    have B6 : Hid (Below vb w w6) := B4.out.trans (hb6.mono (HS.out ▸ B4.out.size))
    obtain ⟨a6, c6, rfl⟩ := ho6.form'
    clear ho6 hb6 R4 E4 V4 B4 Q4 S4 S2
    generalize hqq : txt t ++ m = q at *
    have HQ := Lib.hid hqq
    clear hqq
    go_wp2_with fail
    refine (prefix12 _ q _ R6.out E6.out).mono ?_
    rintro e w7 ⟨t', x', y', k', er', rfl, hrv, hok', hout, hb7⟩
    obtain ⟨⟨xa', xn', xc', rfl⟩, ⟨ya', yn', yc', rfl⟩⟩ := hrv.slices
    have hba : Below w7.heap.size w7 (w7.alloc (Obj.cells #[.int .i64 t'.k, .int .i64 t'.n, .string t'.s, .slice xa' xn' xc', .slice ya' yn' yc'] 27)) := (Below.refl _ _).alloc (Nat.le_refl _) _
    have hbb := hb7.trans (hba.mono hb7.size)
    have B7 : Hid (Below vb w (w7.alloc (Obj.cells #[.int .i64 t'.k, .int .i64 t'.n, .string t'.s, .slice xa' xn' xc', .slice ya' yn' yc'] 27))) := B6.out.trans (hbb.mono (HS.out ▸ B6.out.size))
    have V7 := Lib.hid (VS.keep V6.out hbb)
    have E7 := Lib.hid (E6.out.keep hbb)
    have R7 := Lib.hid (R6.out.keep hbb)
    have O7 : Hid (VS (w7.alloc (Obj.cells #[.int .i64 t'.k, .int .i64 t'.n, .string t'.s, .slice xa' xn' xc', .slice ya' yn' yc'] 27)) w7.heap.size t' (.slice xa' xn' xc') (.slice ya' yn' yc')) := ⟨heap_new _ _, Below.rv hba (Nat.le_refl _) hrv⟩
    have P7 := Lib.hid hout
    clear hba hbb hrv hok' hout hb7 R6 E6 V6 B6
    unfold vv
    go_wp2_with fail
    generalize (w7.alloc (Obj.cells #[.int .i64 t'.k, .int .i64 t'.n, .string t'.s, .slice xa' xn' xc', .slice ya' yn' yc'] 27)) = w8 at *
    generalize w7.heap.size = ub at *
    refine (decode10 _ q _ R7.out E7.out).mono ?_
    rintro e w9 ⟨t9, x9, y9, k9, er9, rfl, hrv, hok', hout, hb9⟩
    obtain ⟨⟨xa9, xn9, xc9, rfl⟩, ⟨ya9, yn9, yc9, rfl⟩⟩ := hrv.slices
    have H9 : Hid (∀ ob, VS (w9.alloc ob) vb t (.slice xa xn xc) (.slice ya yn yc) ∧ VS (w9.alloc ob) ub t' (.slice xa' xn' xc') (.slice ya' yn' yc') ∧ Below vb w (w9.alloc ob)) := fun ob => by
      have hba : Below w9.heap.size w9 (w9.alloc ob) := (Below.refl _ _).alloc (Nat.le_refl _) _
      have hbb := hb9.trans (hba.mono hb9.size)
      exact ⟨VS.keep V7.out hbb, VS.keep O7.out hbb, B7.out.trans (hbb.mono (HS.out ▸ B7.out.size))⟩
    have P9 := Lib.hid hout
    clear hrv hok' hout hb9 R7 E7 V7 B7 O7
    unfold vv
    by_cases hlong : 1048576 < q.length
    · obtain ⟨rfl, rfl, rfl⟩ := OUT.unique P7.out (.inr ⟨rfl, .inr ⟨hlong, rfl, rfl⟩⟩)
      obtain ⟨rfl, rfl, rfl⟩ := DOUT.unique P9.out (.inr ⟨rfl, .inr (.inr ⟨hlong, rfl, rfl⟩)⟩)
      have hli : (1048576 : Int) < (q.length : Int) := by omega
      clear P7 P9
      go_wp2_with fail
      refine (num15 _ _).mono ?_
      rintro e wa ⟨rfl, rfl⟩
      go_wp2_with fail
      refine (num15 _ _).mono ?_
      rintro e wb ⟨rfl, rfl⟩
      go_wp2
      go_ret
      exact ⟨rfl, HS.out ▸ (H9.out _).2.2⟩
    · obtain ⟨rfl, rfl, rfl⟩ := OUT.unique P7.out (by have := out_written m hw HO.out.2.2 RG.out HO.out.1 (by rw [HQ.out]; omega); rwa [HQ.out] at this)
      obtain ⟨u, ku, eu, hdu, hcs⟩ := dout_more m hw HO.out.2.2 RG.out HO.out.1 (by rw [HQ.out]; omega)
      rw [HQ.out] at hdu
      obtain ⟨rfl, rfl, rfl⟩ := DOUT.unique P9.out hdu
      have hli : ¬ (1048576 : Int) < (q.length : Int) := by omega
      obtain ⟨z1, z2, z3⟩ := nrm_k hw
      have H0 : Hid (∀ ob, VS (w9.alloc ob) vb t (.slice xa xn xc) (.slice ya yn yc) ∧ (obj (w9.alloc ob) ub (.int .i64 t.k) (.int .i64 t.n) (.string t.s) (.slice xa' xn' xc') (.slice ya' yn' yc') ∧ RV (fun _ => True) (w9.alloc ob) (nrm t) (.slice xa' xn' xc') (.slice ya' yn' yc')) ∧ Below vb w (w9.alloc ob)) := fun ob => by
        have := H9.out ob
        unfold VS at this ⊢
        rw [z1, z2, z3] at this
        exact this
      have HC := Lib.hid hcs
      have d := fun ob => (H0.out ob).1.1.cells
      have d0 := fun ob => (d ob).1
      have d1 := fun ob => (d ob).2.1
      have d2 := fun ob => (d ob).2.2.1
      have d3 := fun ob => (d ob).2.2.2.1
      have d4 := fun ob => (d ob).2.2.2.2
      have f := fun ob => (H0.out ob).2.1.1.cells
      have f0 := fun ob => (f ob).1
      have f1 := fun ob => (f ob).2.1
      have f2 := fun ob => (f ob).2.2.1
      have f3 := fun ob => (f ob).2.2.2.1
      have f4 := fun ob => (f ob).2.2.2.2
      clear P7 P9 hdu hcs H9 z1 z2 z3 d f
      go_wp2_with fail
      refine (num15 _ _).mono ?_
      rintro e wa ⟨rfl, rfl⟩
      go_wp2_with fail
      show Calls Tryd.prog 12 #[vv t (.slice xa xn xc) (.slice ya yn yc), vv t (.slice xa' xn' xc') (.slice ya' yn' yc')] _ _
      refine (same_nrm t 0 _ _ _ _ _ hw HO.out.1 (H0.out _).1.2 (H0.out _).2.1.2).mono ?_
      rintro e wz ⟨rfl, hbz⟩
      have BZ := Lib.hid ((H0.out _).2.2.trans (hbz.mono (HS.out ▸ (H0.out _).2.2.size)))
      clear hbz d0 d1 d2 d3 d4 f0 f1 f2 f3 f4 H0
      rcases HC.out with ⟨hm0, rfl, rfl⟩ | ⟨hm0, rfl, rfl⟩
      · have hmi : ((m.length : Nat) : Int) = 0 := by omega
        go_wp2_with fail
        refine (num15 _ _).mono ?_
        rintro e wb ⟨rfl, rfl⟩
        go_wp2
        go_ret
        exact ⟨rfl, HS.out ▸ BZ.out⟩
      · have hmi : ¬ ((m.length : Nat) : Int) = 0 := by omega
        go_wp2_with fail
        refine (num15 _ _).mono ?_
        rintro e wb ⟨rfl, rfl⟩
        go_wp2
        go_ret
        exact ⟨by simp, HS.out ▸ BZ.out⟩
  · have g0 : (er4 == 0) = false := beq_eq_false_iff_ne.2 he4
    go_wp2
    go_ret
    exact ⟨rfl, HS.out ▸ B4.out⟩
end Go.Proofs.YtegdlkbilgkfoaaDoor
