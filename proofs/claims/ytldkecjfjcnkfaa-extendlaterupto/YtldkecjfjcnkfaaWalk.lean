import Derived.Test.YtldkecjfjcnkfaaWk
namespace Go.Proofs.Ytldkecjfjcnkfaa
open Go.RowKit Go.Deep
/-- of two lists of bytes one is less, or they are the same -/
theorem bytes_tri : ∀ x y : List UInt8, (!Op.bytesLess y x) = (Op.bytesLess x y || x == y)
  | [], [] => rfl
  | [], b :: y => rfl
  | a :: x, [] => rfl
  | a :: x, b :: y => by
    have ih := bytes_tri x y
    simp only [Op.bytesLess]
    rcases Nat.lt_trichotomy a.toNat b.toNat with h | h | h
    · have h1 : a < b := UInt8.lt_iff_toNat_lt.2 h
      have h2 : ¬ b < a := fun hc => by have := UInt8.lt_iff_toNat_lt.1 hc; omega
      have h3 : ¬ b = a := fun hc => by subst hc; omega
      simp [h1, h2, h3]
    · have h1 : a = b := UInt8.toNat_inj.1 h
      subst h1
      simp only [show ¬ (a < a) from fun hc => by have := UInt8.lt_iff_toNat_lt.1 hc; omega, decide_false, Bool.false_or, beq_self_eq_true, Bool.true_and, ih]
      simp
    · have h1 : b < a := UInt8.lt_iff_toNat_lt.2 h
      have h2 : ¬ a < b := fun hc => by have := UInt8.lt_iff_toNat_lt.1 hc; omega
      have h3 : ¬ a = b := fun hc => by subst hc; omega
      simp [h1, h2, h3]
set_option maxHeartbeats 4000000 in
theorem walk23 (t : T) : WC 69 t := by
  induction t with
  | no => intro x y w ar _ _ _ h; exact h.elim
  | mk k n s ln l dn ky dv il id =>
    intro x y w ar ar0 ar1 hok hr
    obtain ⟨ok1, ok2, ok3, ok4, ok5⟩ := hok
    obtain ⟨⟨a, ca, rfl, hL⟩, ⟨a', ca', rfl, hD⟩⟩ := hr
    show Calls Try.prog 69 #[.agg #[.int .i64 k, .int .i64 n, .string s, .slice a ln ca, .slice a' dn ca'], .int .i64 ar] w _
    have HI : Hid ((∀ i, WC 69 (l i)) ∧ (∀ i, WC 69 (dv i)) ∧ (∀ i, i < ln → (l i).ok) ∧ (∀ i, i < dn → (dv i).ok) ∧
        (ln = 0 ∨ ∃ b o, a = some ⟨b, o, none⟩ ∧ True ∧ b < w.heap.size ∧ ∀ i, i < ln → ∃ x' y', RV (fun _ => True) w (l i) x' y' ∧ five w b (o + i * 5) (l i) x' y') ∧
        (dn = 0 ∨ ∃ b o, a' = some ⟨b, o, none⟩ ∧ True ∧ b < w.heap.size ∧ ∀ i, i < dn → ∃ x' y', RV (fun _ => True) w (dv i) x' y' ∧ w.cell? ⟨b, o + i * 6, none⟩ = some (.string (ky i)) ∧ five w b (o + i * 6 + 1) (dv i) x' y')) :=
      ⟨il, id, ok4, fun i hi => (ok5 i hi).2, hL, hD⟩
    clear il id ok4 ok5 hL hD
    have HW : Hid (∀ r, wk (.mk k n s ln l dn ky dv) ar = r ↔ (if ownB k n s ln dn = false then 27 else if k < 3 then 0 else if 32 ≤ ar then 24
      else if fstE (fun i => wk (l i) (ar + 1)) ln ≠ 0 then fstE (fun i => wk (l i) (ar + 1)) ln
      else fstE (fun i => if keyBad ky i = true then 25 else wk (dv i) (ar + 1)) dn) = r) := fun r => by rw [wk]
    generalize wk (.mk k n s ln l dn ky dv) ar = R at *
    by_cases hk14 : k < 1 ∨ 4 < k
    · have hown : ownB k n s ln dn = false := by
        cases h : ownB k n s ln dn with
        | false => rfl
        | true => have := (ownB_iff _ _ _ _ _).1 h; omega
      have hR : R = 27 := (HW.out 27).2 (if_pos hown)
      subst hR
      rcases hk14 with h | h
      all_goals
        go_enter Try.func69, Try.ntmps69
        go_wp2
        go_ret
        exact ⟨rfl, (Below.refl _ _).alloc (Nat.le_refl _) _⟩
    have k1 : 1 ≤ k := by omega
    have k4 : k ≤ 4 := by omega
    clear hk14
    go_enter Try.func69, Try.ntmps69
    go_wp2_with fail
    refine (foreign33 k n s ln dn a a' ca ca' _).mono ?_
    rintro e w0 ⟨r, rfl, hp, hb0⟩
    have hw0 : Hid (Below w.heap.size w w0) := ((Below.refl _ _).alloc (Nat.le_refl _) _).trans (hb0.mono (by simp))
    obtain ⟨c0, c3, c4⟩ : w0.cell? ⟨w.heap.size, 0, none⟩ = some (.int .i64 k) ∧ w0.cell? ⟨w.heap.size, 3, none⟩ = some (.slice a ln ca) ∧ w0.cell? ⟨w.heap.size, 4, none⟩ = some (.slice a' dn ca') :=
      ⟨Below.cellS hb0 (Nat.le_refl _) (by go_simp), Below.cellS hb0 (Nat.le_refl _) (by go_simp), Below.cellS hb0 (Nat.le_refl _) (by go_simp)⟩
    clear hb0
    cases r with
    | true =>
      have hown : ownB k n s ln dn = false := by
        cases h : ownB k n s ln dn with
        | false => rfl
        | true => exact absurd (hp.2 ((ownB_iff _ _ _ _ _).1 h).2.2) (by simp)
      have hR : R = 27 := (HW.out 27).2 (if_pos hown)
      subst hR
      go_wp2
      go_ret
      exact ⟨rfl, hw0.out⟩
    | false =>
      have hown : ownB k n s ln dn = true := (ownB_iff _ _ _ _ _).2 ⟨k1, k4, hp.1 rfl⟩
      have HO : Hid (ownB k n s ln dn ≠ false) := fun h => by rw [hown] at h; cases h
      clear hown hp
      by_cases hk : k < 3
      · have hR : R = 0 := (HW.out 0).2 ((if_neg HO.out).trans (if_pos hk))
        subst hR
        go_wp2
        go_ret
        exact ⟨rfl, hw0.out⟩
      by_cases har : 32 ≤ ar
      · have hR : R = 24 := (HW.out 24).2 ((if_neg HO.out).trans ((if_neg hk).trans (if_pos har)))
        subst hR
        have hk' : 3 ≤ k := by omega
        go_wp2
        go_ret
        exact ⟨rfl, hw0.out⟩
      have HX : Hid (∀ r, R = r ↔ (if fstE (fun i => wk (l i) (ar + 1)) ln ≠ 0 then fstE (fun i => wk (l i) (ar + 1)) ln
          else fstE (fun i => if keyBad ky i = true then 25 else wk (dv i) (ar + 1)) dn) = r) := fun r => by
        rw [HW.out r, if_neg HO.out, if_neg hk, if_neg har]
      have hk' : 3 ≤ k := by omega
      have har' : ar < 32 := by omega
      clear HW HO hk har
      go_wp2
      go_loopw [5] (fun i wr => ∃ j : Nat, j ≤ ln ∧ i = .int .i64 j ∧ Hid (Below w0.heap.size w0 wr) ∧ Hid (fstE (fun i => wk (l i) (ar + 1)) j = 0)) (fun i _ => ln - (intOf i).toNat)
      case atStart => exact ⟨0, Nat.zero_le _, rfl, Below.refl _ _, rfl⟩
      case round =>
        obtain ⟨j, hj, rfl, hb, hz⟩ := hrel
        replace c3 := Below.cellS hb.out (Nat.le_refl _) c3
        replace c4 := Below.cellS hb.out (Nat.le_refl _) c4
        have hw : Hid (Below w.heap.size w wr) := hw0.out.trans (hb.out.mono hw0.out.size)
        by_cases hlt : j < ln
        · obtain ⟨il, _, ok4, _, hL, _⟩ := HI.out
          rcases hL with h | ⟨b, o, rfl, _, hbl, hL⟩
          · omega
          obtain ⟨x1, y1, hv, g1, g2, g3, g4, g5⟩ := hL j hlt
          replace g1 := Below.cellS hw.out (Nat.le_refl _) g1
          replace g2 := Below.cellS hw.out (Nat.le_refl _) g2
          replace g3 := Below.cellS hw.out (Nat.le_refl _) g3
          replace g4 := Below.cellS hw.out (Nat.le_refl _) g4
          replace g5 := Below.cellS hw.out (Nat.le_refl _) g5
          have HV : Hid (WC 69 (l j) ∧ (l j).ok ∧ RV (fun _ => True) wr (l j) x1 y1) := ⟨il j, ok4 j hlt, Below.rv hw.out (Nat.le_refl _) hv⟩
          clear il ok4 hL hv hbl
          go_wp2_with fail
          refine (HV.out.1 _ _ _ (ar + 1) (by omega) (by omega) HV.out.2.1 HV.out.2.2).mono ?_
          rintro e w2 ⟨rfl, hb2⟩
          have hb3 : Hid (Below w0.heap.size w0 w2) := hb.out.trans (hb2.mono hb.out.size)
          clear HV hb2 g1 g2 g3 g4 g5
          by_cases he : wk (l j) (ar + 1) = 0
          · rw [he]
            go_wp2
            go_roundw
            case rel => exact ⟨j + 1, by omega, by go_num, hb3, fstE_go hz.out he⟩
            case measure => simp [intOf]; omega
          · have hst := fstE_stop hlt hz.out he
            have hR : R = wk (l j) (ar + 1) := (HX.out _).2 (by rw [if_pos (by rw [hst]; exact he), hst])
            clear hst HX
            generalize wk (l j) (ar + 1) = q at *
            subst hR
            go_wp2
            go_ret
            exact ⟨rfl, hw0.out.trans (hb3.out.mono hw0.out.size)⟩
        · obtain rfl : j = ln := by omega
          have HX2 : Hid (R = fstE (fun i => if keyBad ky i = true then 25 else wk (dv i) (ar + 1)) dn) := (HX.out _).2 (by rw [if_neg (by rw [hz.out]; simp)])
          clear HX
          go_wp2
          clear hz hlt hj ok2 c3
          rename World => w1
          go_loopw [7] (fun i w9 => ∃ j2 : Nat, j2 ≤ dn ∧ i = .int .i64 j2 ∧ Hid (Below w1.heap.size w1 w9) ∧ Hid (fstE (fun i => if keyBad ky i = true then 25 else wk (dv i) (ar + 1)) j2 = 0)) (fun i _ => dn - (intOf i).toNat)
          case atStart => exact ⟨0, Nat.zero_le _, rfl, Below.refl _ _, rfl⟩
          case round =>
            obtain ⟨j2, hj2, rfl, hb9, hz⟩ := hrel
            replace c4 := Below.cellS hb9.out (Nat.le_refl _) c4
            have hw1 := hw
            replace hw : Hid (Below w.heap.size w wr) := hw.out.trans (hb9.out.mono hw.out.size)
            by_cases hlt : j2 < dn
            · obtain ⟨_, id, _, ok5, _, hD⟩ := HI.out
              rcases hD with h | ⟨b, o, rfl, _, hbl, hD⟩
              · omega
              obtain ⟨x1, y1, hv, g0, g1, g2, g3, g4, g5⟩ := hD j2 hlt
              have hpk : ∀ p, p < dn → wr.cell? ⟨b, o + p * 6, none⟩ = some (.string (ky p)) := fun p hp => by
                obtain ⟨_, _, _, h, _⟩ := hD p hp
                exact Below.cellS hw.out (Nat.le_refl _) h
              replace g0 := Below.cellS hw.out (Nat.le_refl _) g0
              replace g1 := Below.cellS hw.out (Nat.le_refl _) g1
              replace g2 := Below.cellS hw.out (Nat.le_refl _) g2
              replace g3 := Below.cellS hw.out (Nat.le_refl _) g3
              replace g4 := Below.cellS hw.out (Nat.le_refl _) g4
              replace g5 := Below.cellS hw.out (Nat.le_refl _) g5
              have HV : Hid (∀ nq, Calls Try.prog 69 #[vv (dv j2) x1 y1, .int .i64 (ar + 1)] (wr.drewN nq) fun e w' => e = .returned (.int .i64 (wk (dv j2) (ar + 1))) ∧ Below w1.heap.size w1 w') := by
                intro nq
                refine ((id j2) x1 y1 (wr.drewN nq) (ar + 1) (by omega) (by omega) (ok5 j2 hlt) (Below.rv (below_drewN hw.out nq) (Nat.le_refl _) hv)).mono ?_
                rintro e w' ⟨rfl, hb'⟩
                exact ⟨rfl, (below_drewN hb9.out nq).trans (hb'.mono hb9.out.size)⟩
              clear id ok5 hD hv hbl
              have HG : Hid (∀ q : Int, q = wk (dv j2) (ar + 1) → keyBad ky j2 = false → (q = 0 → fstE (fun i => if keyBad ky i = true then 25 else wk (dv i) (ar + 1)) (j2 + 1) = 0) ∧ (q ≠ 0 → R = q)) := by
                intro q hq hkb
                have hf : (fun i => if keyBad ky i = true then (25 : Int) else wk (dv i) (ar + 1)) j2 = q := by simp only [hkb]; simp [hq]
                exact ⟨fun h => fstE_go hz.out (hf.trans h), fun h => HX2.out.trans ((fstE_stop hlt hz.out (fun hc => h (hf.symm.trans hc))).trans hf)⟩
              have HF : Hid (keyBad ky j2 = true → R = 25) := by
                intro hkb
                have hf : (fun i => if keyBad ky i = true then (25 : Int) else wk (dv i) (ar + 1)) j2 = 25 := by simp only [hkb]; simp
                exact HX2.out.trans ((fstE_stop hlt hz.out (fun hc => absurd (hf.symm.trans hc) (by omega))).trans hf)
              clear hz HX2
              cases j2 with
              | zero =>
                clear hpk
                rw [show o + 0 * 6 = o by omega] at g0
                rw [show o + 0 * 6 + 1 = o + 1 by omega] at g1
                rw [show o + 0 * 6 + 1 + 1 = o + 2 by omega] at g2
                rw [show o + 0 * 6 + 1 + 2 = o + 3 by omega] at g3
                rw [show o + 0 * 6 + 1 + 3 = o + 4 by omega] at g4
                rw [show o + 0 * 6 + 1 + 4 = o + 5 by omega] at g5
                have HG2 := HG.out _ rfl rfl
                have HG3 : Hid _ := HG2
                clear HF HG HG2
                go_wp2
                go_quiet (fail)
                go_wp2_with fail
                refine (HV.out nq).mono ?_
                rintro e w2 ⟨rfl, hb2⟩
                have hb3 : Hid (Below w1.heap.size w1 w2) := hb2
                clear HV hb2 g0 g1 g2 g3 g4 g5 c4
                generalize wk (dv 0) (ar + 1) = q at *
                by_cases he : q = 0
                · have HG4 : Hid _ := HG3.out.1 he
                  clear HG3
                  subst he
                  go_wp2
                  go_roundw
                  case rel => exact ⟨1, by omega, by go_num, hb3, HG4.out⟩
                  case measure => simp [intOf]; omega
                · have hR := HG3.out.2 he
                  clear HG3
                  subst hR
                  go_wp2
                  go_ret
                  exact ⟨rfl, hw1.out.trans (hb3.out.mono hw1.out.size)⟩
              | succ p =>
                have hk1 := hpk p (by omega)
                clear hpk
                have p0 : (0 : Int) ≤ (p : Int) := by omega
                have p1 : (p : Int) < (dn : Int) := by omega
                have p2 : (0 : Int) ≤ ((p + 1 : Nat) : Int) := by omega
                have p3 : ((p + 1 : Nat) : Int) < (dn : Int) := by omega
                by_cases hkb : keyBad ky (p + 1) = true
                · have hR : R = 25 := HF.out hkb
                  have hT : Op.bytesLess (ky p).toList (ky (p + 1)).toList = false := by
                    have := bytes_tri (ky (p + 1)).toList (ky p).toList
                    rw [show (Op.bytesLess (ky (p + 1)).toList (ky p).toList || (ky (p + 1)).toList == (ky p).toList) = true from hkb] at this
                    simpa using this
                  clear HF HG HV hkb
                  subst hR
                  go_wp2
                  go_quiet (fail)
                  go_wp2
                  go_ret
                  exact ⟨rfl, below_drewN hw.out _⟩
                · have hkb3 : keyBad ky (p + 1) = false := by simpa using hkb
                  have hT : Op.bytesLess (ky p).toList (ky (p + 1)).toList = true := by
                    have := bytes_tri (ky (p + 1)).toList (ky p).toList
                    rw [show (Op.bytesLess (ky (p + 1)).toList (ky p).toList || (ky (p + 1)).toList == (ky p).toList) = false from hkb3] at this
                    simpa using this
                  have HG2 := HG.out _ rfl hkb3
                  have HG3 : Hid _ := HG2
                  clear HF HG HG2 hkb hkb3
                  go_wp2
                  go_quiet (fail)
                  go_wp2_with fail
                  refine (HV.out nq).mono ?_
                  rintro e w2 ⟨rfl, hb2⟩
                  have hb3 : Hid (Below w1.heap.size w1 w2) := hb2
                  clear HV hb2 g0 g1 g2 g3 g4 g5 c4 hk1 hT
                  generalize wk (dv (p + 1)) (ar + 1) = q at *
                  by_cases he : q = 0
                  · have HG4 : Hid _ := HG3.out.1 he
                    clear HG3
                    subst he
                    go_wp2
                    go_roundw
                    case rel => exact ⟨p + 1 + 1, by omega, by go_num, hb3, HG4.out⟩
                    case measure => simp [intOf]; omega
                  · have hR := HG3.out.2 he
                    clear HG3
                    subst hR
                    go_wp2
                    go_ret
                    exact ⟨rfl, hw1.out.trans (hb3.out.mono hw1.out.size)⟩
            · obtain rfl : j2 = dn := by omega
              have hR : R = 0 := HX2.out.trans hz.out
              subst hR
              clear hz HX2
              go_wp2
              go_ret
              exact ⟨rfl, hw.out⟩
end Go.Proofs.Ytldkecjfjcnkfaa
