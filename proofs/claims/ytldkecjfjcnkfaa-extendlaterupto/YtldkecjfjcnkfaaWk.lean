import Derived.Test.YtldkecjfjcnkfaaPure
namespace Go.Proofs.Ytldkecjfjcnkfaa
open Go.RowKit Go.Deep
theorem below_drewN {B : Nat} {a w : World} (h : Below B a w) (n : Nat) : Below B a (w.drewN n) := ⟨h.os, h.tape, h.output, h.size, h.block⟩
/-- the first that is not 0 -/
def fstE (f : Nat → Int) : Nat → Int
  | 0 => 0
  | n + 1 => if fstE f n = 0 then f n else fstE f n
theorem fstE_stop {f : Nat → Int} {j n : Nat} (h : j < n) (h0 : fstE f j = 0) (h1 : f j ≠ 0) : fstE f n = f j := by
  induction n with
  | zero => omega
  | succ n ih =>
    unfold fstE
    by_cases hj : j = n
    · subst hj; rw [if_pos h0]
    · rw [ih (by omega), if_neg h1]
theorem fstE_go {f : Nat → Int} {j : Nat} (h0 : fstE f j = 0) (h1 : f j = 0) : fstE f (j + 1) = 0 := by unfold fstE; rw [if_pos h0, h1]
theorem fstE_congr {f g : Nat → Int} {n : Nat} (h : ∀ i, i < n → f i = g i) : fstE f n = fstE g n := by
  induction n with
  | zero => rfl
  | succ n ih => unfold fstE; rw [ih (fun i hi => h i (by omega)), h n (by omega)]
def ownB (k n : Int) (s : ByteArray) (ln dn : Nat) : Bool := decide (1 ≤ k ∧ k ≤ 4 ∧ (k = 1 ∨ n = 0) ∧ (k = 2 ∨ s.toList = []) ∧ (k = 3 ∨ ln = 0) ∧ (k = 4 ∨ dn = 0))
theorem ownB_iff (k n : Int) (s : ByteArray) (ln dn : Nat) : ownB k n s ln dn = true ↔ 1 ≤ k ∧ k ≤ 4 ∧ Own k n s ln dn := by unfold ownB Own; simp
/-- the key at i does not rise -/
def keyBad (ky : Nat → ByteArray) : Nat → Bool
  | 0 => false
  | p + 1 => Op.bytesLess (ky (p + 1)).toList (ky p).toList || (ky (p + 1)).toList == (ky p).toList
/-- the first fault of the walk -/
def wk : T → Int → Int
  | .no => fun _ => 0
  | .mk k n s ln l dn ky dv => fun ar =>
    if ownB k n s ln dn = false then 27 else if k < 3 then 0 else if 32 ≤ ar then 24
    else if fstE (fun i => wk (l i) (ar + 1)) ln ≠ 0 then fstE (fun i => wk (l i) (ar + 1)) ln
    else fstE (fun i => if keyBad ky i = true then 25 else wk (dv i) (ar + 1)) dn
def WC (f : Nat) (t : T) : Prop := ∀ (x y : Value) (w : World) (ar : Int), 0 ≤ ar → ar ≤ 32 → t.ok → RV (fun _ => True) w t x y →
  Calls Try.prog f #[vv t x y, .int .i64 ar] w fun e w' => e = .returned (.int .i64 (wk t ar)) ∧ Below w.heap.size w w'
set_option maxHeartbeats 2000000 in
theorem fault22 (t : T) : WC 45 t := by
  induction t with
  | no => intro x y w ar _ _ _ h; exact h.elim
  | mk k n s ln l dn ky dv il id =>
    intro x y w ar ar0 ar1 hok hr
    obtain ⟨ok1, ok2, ok3, ok4, ok5⟩ := hok
    obtain ⟨⟨a, ca, rfl, hL⟩, ⟨a', ca', rfl, hD⟩⟩ := hr
    show Calls Try.prog 45 #[.agg #[.int .i64 k, .int .i64 n, .string s, .slice a ln ca, .slice a' dn ca'], .int .i64 ar] w _
    have HI : Hid ((∀ i, WC 45 (l i)) ∧ (∀ i, WC 45 (dv i)) ∧ (∀ i, i < ln → (l i).ok) ∧ (∀ i, i < dn → (dv i).ok) ∧
        (ln = 0 ∨ ∃ b o, a = some ⟨b, o, none⟩ ∧ True ∧ b < w.heap.size ∧ ∀ i, i < ln → ∃ x' y', RV (fun _ => True) w (l i) x' y' ∧ five w b (o + i * 5) (l i) x' y') ∧
        (dn = 0 ∨ ∃ b o, a' = some ⟨b, o, none⟩ ∧ True ∧ b < w.heap.size ∧ ∀ i, i < dn → ∃ x' y', RV (fun _ => True) w (dv i) x' y' ∧ w.cell? ⟨b, o + i * 6, none⟩ = some (.string (ky i)) ∧ five w b (o + i * 6 + 1) (dv i) x' y')) :=
      ⟨il, id, ok4, fun i hi => (ok5 i hi).2, hL, hD⟩
    clear il id ok4 ok5 hL hD
    have HW : Hid (∀ r, wk (.mk k n s ln l dn ky dv) ar = r ↔ (if ownB k n s ln dn = false then 27 else if k < 3 then 0 else if 32 ≤ ar then 24
      else if fstE (fun i => wk (l i) (ar + 1)) ln ≠ 0 then fstE (fun i => wk (l i) (ar + 1)) ln
      else fstE (fun i => if keyBad ky i = true then 25 else wk (dv i) (ar + 1)) dn) = r) := fun r => by rw [wk]
    generalize wk (.mk k n s ln l dn ky dv) ar = R at *
    go_enter Try.func45, Try.ntmps45
    go_wp2_with fail
    refine (pure32 k n s ln dn a a' ca ca' _).mono ?_
    rintro e w0 ⟨r, rfl, hp, hb0⟩
    have hw0 : Hid (Below w.heap.size w w0) := ((Below.refl _ _).alloc (Nat.le_refl _) _).trans (hb0.mono (by simp))
    obtain ⟨c0, c1, c2, c3, c4⟩ : w0.cell? ⟨w.heap.size, 0, none⟩ = some (.int .i64 k) ∧ w0.cell? ⟨w.heap.size, 1, none⟩ = some (.int .i64 n) ∧ w0.cell? ⟨w.heap.size, 2, none⟩ = some (.string s) ∧ w0.cell? ⟨w.heap.size, 3, none⟩ = some (.slice a ln ca) ∧ w0.cell? ⟨w.heap.size, 4, none⟩ = some (.slice a' dn ca') :=
      ⟨Below.cellS hb0 (Nat.le_refl _) (by go_simp), Below.cellS hb0 (Nat.le_refl _) (by go_simp), Below.cellS hb0 (Nat.le_refl _) (by go_simp), Below.cellS hb0 (Nat.le_refl _) (by go_simp), Below.cellS hb0 (Nat.le_refl _) (by go_simp)⟩
    clear hb0
    rw [← ownB_iff] at hp
    cases r with
    | false =>
      have hown : ownB k n s ln dn = false := by
        cases h : ownB k n s ln dn with
        | false => rfl
        | true => exact absurd (hp.2 h) (by simp)
      have hR : R = 27 := (HW.out 27).2 (if_pos hown)
      subst hR
      go_wp2
      go_ret
      exact ⟨rfl, hw0.out⟩
    | true =>
      have hown : ownB k n s ln dn = true := hp.1 rfl
      obtain ⟨k1, k4, _⟩ := (ownB_iff k n s ln dn).1 hown
      have HO : Hid (ownB k n s ln dn ≠ false) := fun h => by rw [hown] at h; cases h
      clear hown hp
      by_cases hk : k < 3
      · have n3 : (k != 3) = true := by simp; omega
        have n4 : (k != 4) = true := by simp; omega
        have hR : R = 0 := (HW.out 0).2 ((if_neg HO.out).trans (if_pos hk))
        subst hR
        go_wp2
        go_ret
        exact ⟨rfl, hw0.out⟩
      have e34 : k = 3 ∨ k = 4 := by omega
      by_cases har : 32 ≤ ar
      · have hR : R = 24 := (HW.out 24).2 ((if_neg HO.out).trans ((if_neg hk).trans (if_pos har)))
        subst hR
        rcases e34 with rfl | rfl
        · go_wp2
          go_ret
          exact ⟨rfl, hw0.out⟩
        · go_wp2
          go_ret
          exact ⟨rfl, hw0.out⟩
      have HX : Hid (∀ r, R = r ↔ (if fstE (fun i => wk (l i) (ar + 1)) ln ≠ 0 then fstE (fun i => wk (l i) (ar + 1)) ln
          else fstE (fun i => if keyBad ky i = true then 25 else wk (dv i) (ar + 1)) dn) = r) := fun r => by
        rw [HW.out r, if_neg HO.out, if_neg hk, if_neg har]
      have H34 : Hid (k = 3 ∨ k = 4) := e34
      clear HW HO e34 c1 c2 hk k1 k4
      have har' : ar < 32 := by omega
      clear har
      rcases H34.out with rfl | rfl
      all_goals
        clear H34
        go_wp2
        go_loopw [27] (fun i wr => ∃ j : Nat, j ≤ ln ∧ i = .int .i64 j ∧ Hid (Below w0.heap.size w0 wr) ∧ Hid (fstE (fun i => wk (l i) (ar + 1)) j = 0)) (fun i _ => ln - (intOf i).toNat)
        case atStart => exact ⟨0, Nat.zero_le _, rfl, Below.refl _ _, rfl⟩
        case round =>
          obtain ⟨j, hj, rfl, hb, hz⟩ := hrel
          replace c4 := Below.cellS hb.out (Nat.le_refl _) c4
          have hw : Hid (Below w.heap.size w wr) := hw0.out.trans (hb.out.mono hw0.out.size)
          by_cases hlt : j < ln
          · obtain ⟨il, _, ok4, _, hL, _⟩ := HI.out
            rcases hL with h | ⟨b, o, rfl, _, hbl, hL⟩
            · omega
            obtain ⟨x1, y1, hv, g1, g2, g3, g4, g5⟩ := hL j hlt
            replace g1 := Below.cellS hw.out (Nat.le_refl _) g1
            replace g2 := Below.cellS hw.out (Nat.le_refl _) g2
            replace g3 := Below.cellS hw.out (Nat.le_refl _) g3
            replace g4 := Below.cellS hw.out (Nat.le_refl _) g4
            replace g5 := Below.cellS hw.out (Nat.le_refl _) g5
            obtain ⟨⟨xa, xn, xc, rfl⟩, ⟨ya, yn, yc, rfl⟩⟩ := hv.slices
            have HV : Hid (WC 45 (l j) ∧ (l j).ok ∧ RV (fun _ => True) wr (l j) (.slice xa xn xc) (.slice ya yn yc)) := ⟨il j, ok4 j hlt, Below.rv hw.out (Nat.le_refl _) hv⟩
            clear il ok4 hL hv hbl
            go_wp2_with fail
            have hbA : Below wr.heap.size wr (wr.alloc (Obj.cells #[.int .i64 (l j).k, .int .i64 (l j).n, .string (l j).s, .slice xa xn xc, .slice ya yn yc] 56)) := (Below.refl _ _).alloc (Nat.le_refl _) _
            refine (HV.out.1 _ _ _ (ar + 1) (by omega) (by omega) HV.out.2.1 (Below.rv hbA (Nat.le_refl _) HV.out.2.2)).mono ?_
            rintro e w2 ⟨rfl, hb2⟩
            have hb3 : Hid (Below w0.heap.size w0 w2) := hb.out.trans ((hbA.trans (hb2.mono hbA.size)).mono hb.out.size)
            clear HV hbA hb2 g1 g2 g3 g4 g5
            by_cases he : wk (l j) (ar + 1) = 0
            · rw [he]
              go_wp2
              go_roundw
              case rel => exact ⟨j + 1, by omega, by go_num, hb3, fstE_go hz.out he⟩
              case measure => simp [intOf]; omega
            · have hst := fstE_stop hlt hz.out he
              have hR : R = wk (l j) (ar + 1) := (HX.out _).2 (by rw [if_pos (by rw [hst]; exact he), hst])
              clear hst HX
              generalize wk (l j) (ar + 1) = q at *
              subst hR
              go_wp2
              go_ret
              exact ⟨rfl, hw0.out.trans (hb3.out.mono hw0.out.size)⟩
          · obtain rfl : j = ln := by omega
            have HX2 : Hid (R = fstE (fun i => if keyBad ky i = true then 25 else wk (dv i) (ar + 1)) dn) := (HX.out _).2 (by rw [if_neg (by rw [hz.out]; simp)])
            clear HX
            go_wp2
            clear hz hlt hj ok2
            rename World => w1
            go_loopw [42] (fun i w9 => ∃ j2 : Nat, j2 ≤ dn ∧ i = .int .i64 j2 ∧ Hid (Below w1.heap.size w1 w9) ∧ Hid (fstE (fun i => if keyBad ky i = true then 25 else wk (dv i) (ar + 1)) j2 = 0)) (fun i _ => dn - (intOf i).toNat)
            case atStart => exact ⟨0, Nat.zero_le _, rfl, Below.refl _ _, rfl⟩
            case round =>
              obtain ⟨j2, hj2, rfl, hb9, hz⟩ := hrel
              replace c4 := Below.cellS hb9.out (Nat.le_refl _) c4
              have hw1 := hw
              replace hw : Hid (Below w.heap.size w wr) := hw.out.trans (hb9.out.mono hw.out.size)
              by_cases hlt : j2 < dn
              · obtain ⟨_, id, _, ok5, _, hD⟩ := HI.out
                rcases hD with h | ⟨b, o, rfl, _, hbl, hD⟩
                · omega
                obtain ⟨x1, y1, hv, g0, g1, g2, g3, g4, g5⟩ := hD j2 hlt
                have hpk : ∀ p, p < dn → wr.cell? ⟨b, o + p * 6, none⟩ = some (.string (ky p)) := fun p hp => by
                  obtain ⟨_, _, _, h, _⟩ := hD p hp
                  exact Below.cellS hw.out (Nat.le_refl _) h
                replace g0 := Below.cellS hw.out (Nat.le_refl _) g0
                replace g1 := Below.cellS hw.out (Nat.le_refl _) g1
                replace g2 := Below.cellS hw.out (Nat.le_refl _) g2
                replace g3 := Below.cellS hw.out (Nat.le_refl _) g3
                replace g4 := Below.cellS hw.out (Nat.le_refl _) g4
                replace g5 := Below.cellS hw.out (Nat.le_refl _) g5
                obtain ⟨⟨xa, xn, xc, rfl⟩, ⟨ya, yn, yc, rfl⟩⟩ := hv.slices
                have HV : Hid (WC 45 (dv j2) ∧ (dv j2).ok ∧ RV (fun _ => True) wr (dv j2) (.slice xa xn xc) (.slice ya yn yc)) := ⟨id j2, ok5 j2 hlt, Below.rv hw.out (Nat.le_refl _) hv⟩
                clear id ok5 hD hv hbl
                have c4' := fun ob => cell_alloc_old (o := ob) c4
                have HB : Hid (Below wr.heap.size wr (wr.alloc (Obj.cells #[.string (ky j2), .int .i64 (dv j2).k, .int .i64 (dv j2).n, .string (dv j2).s, .slice xa xn xc, .slice ya yn yc] 59))) := (Below.refl _ _).alloc (Nat.le_refl _) _
                have HG : Hid (∀ q : Int, q = wk (dv j2) (ar + 1) → keyBad ky j2 = false → (q = 0 → fstE (fun i => if keyBad ky i = true then 25 else wk (dv i) (ar + 1)) (j2 + 1) = 0) ∧ (q ≠ 0 → R = q)) := by
                  intro q hq hkb
                  have hf : (fun i => if keyBad ky i = true then (25 : Int) else wk (dv i) (ar + 1)) j2 = q := by simp only [hkb]; simp [hq]
                  exact ⟨fun h => fstE_go hz.out (hf.trans h), fun h => HX2.out.trans ((fstE_stop hlt hz.out (fun hc => h (hf.symm.trans hc))).trans hf)⟩
                have HF : Hid (keyBad ky j2 = true → R = 25) := by
                  intro hkb
                  have hf : (fun i => if keyBad ky i = true then (25 : Int) else wk (dv i) (ar + 1)) j2 = 25 := by simp only [hkb]; simp
                  exact HX2.out.trans ((fstE_stop hlt hz.out (fun hc => absurd (hf.symm.trans hc) (by omega))).trans hf)
                clear hz HX2 c3
                cases j2 with
                | zero =>
                  clear hpk
                  rw [show o + 0 * 6 = o by omega] at g0
                  rw [show o + 0 * 6 + 1 = o + 1 by omega] at g1
                  rw [show o + 0 * 6 + 1 + 1 = o + 2 by omega] at g2
                  rw [show o + 0 * 6 + 1 + 2 = o + 3 by omega] at g3
                  rw [show o + 0 * 6 + 1 + 3 = o + 4 by omega] at g4
                  rw [show o + 0 * 6 + 1 + 4 = o + 5 by omega] at g5
                  have HG2 := HG.out _ rfl rfl
                  have HG3 : Hid _ := HG2
                  clear HF HG HG2
                  go_wp2
                  go_quiet (fail)
                  go_wp2_with fail
                  refine (HV.out.1 _ _ _ (ar + 1) (by omega) (by omega) HV.out.2.1 (Below.rv (below_drewN HB.out nq) (Nat.le_refl _) HV.out.2.2)).mono ?_
                  rintro e w2 ⟨rfl, hb2⟩
                  have hb3 : Hid (Below w1.heap.size w1 w2) := hb9.out.trans ((HB.out.trans ((show Below wr.heap.size _ w2 from ⟨hb2.os, hb2.tape, hb2.output, hb2.size, fun q hq => hb2.block q (Nat.lt_of_lt_of_le hq HB.out.size)⟩))).mono hb9.out.size)
                  clear HV HB hb2 g0 g1 g2 g3 g4 g5 c4 c4'
                  generalize wk (dv 0) (ar + 1) = q at *
                  by_cases he : q = 0
                  · have HG4 : Hid _ := HG3.out.1 he
                    clear HG3
                    subst he
                    go_wp2
                    go_roundw
                    case rel => exact ⟨1, by omega, by go_num, hb3, HG4.out⟩
                    case measure => simp [intOf]; omega
                  · have hR := HG3.out.2 he
                    clear HG3
                    subst hR
                    go_wp2
                    go_ret
                    exact ⟨rfl, hw1.out.trans (hb3.out.mono hw1.out.size)⟩
                | succ p =>
                  have hk1 := hpk p (by omega)
                  have hk1' := fun ob => cell_alloc_old (o := ob) hk1
                  clear hpk
                  have p0 : (0 : Int) ≤ (p : Int) := by omega
                  have p1 : (p : Int) < (dn : Int) := by omega
                  by_cases hkb : keyBad ky (p + 1) = true
                  · have hR : R = 25 := HF.out hkb
                    have hkb' : Op.bytesLess (ky (p + 1)).toList (ky p).toList = true ∨ ((ky (p + 1)).toList == (ky p).toList) = true := by simpa [keyBad] using hkb
                    clear HF HG HV hkb
                    subst hR
                    rcases hkb' with hkb' | hkb'
                    all_goals
                      go_wp2
                      go_quiet (fail)
                      go_wp2
                      go_ret
                      exact ⟨rfl, hw.out.trans ((show Below w.heap.size wr _ from ⟨rfl, rfl, rfl, HB.out.size, fun q hq => HB.out.block q (Nat.lt_of_lt_of_le hq hw.out.size)⟩))⟩
                  · have hkb2 : Op.bytesLess (ky (p + 1)).toList (ky p).toList = false ∧ ((ky (p + 1)).toList == (ky p).toList) = false := by simpa [keyBad] using hkb
                    obtain ⟨hkA, hkB⟩ := hkb2
                    have hkb3 : keyBad ky (p + 1) = false := by simpa using hkb
                    have HG2 := HG.out _ rfl hkb3
                    have HG3 : Hid _ := HG2
                    clear HF HG HG2 hkb hkb3
                    go_wp2
                    go_quiet (fail)
                    go_wp2_with fail
                    refine (HV.out.1 _ _ _ (ar + 1) (by omega) (by omega) HV.out.2.1 (Below.rv (below_drewN HB.out nq) (Nat.le_refl _) HV.out.2.2)).mono ?_
                    rintro e w2 ⟨rfl, hb2⟩
                    have hb3 : Hid (Below w1.heap.size w1 w2) := hb9.out.trans ((HB.out.trans ((show Below wr.heap.size _ w2 from ⟨hb2.os, hb2.tape, hb2.output, hb2.size, fun q hq => hb2.block q (Nat.lt_of_lt_of_le hq HB.out.size)⟩))).mono hb9.out.size)
                    clear HV HB hb2 g0 g1 g2 g3 g4 g5 c4 c4' hk1 hk1' hkA hkB
                    generalize wk (dv (p + 1)) (ar + 1) = q at *
                    by_cases he : q = 0
                    · have HG4 : Hid _ := HG3.out.1 he
                      clear HG3
                      subst he
                      go_wp2
                      go_roundw
                      case rel => exact ⟨p + 1 + 1, by omega, by go_num, hb3, HG4.out⟩
                      case measure => simp [intOf]; omega
                    · have hR := HG3.out.2 he
                      clear HG3
                      subst hR
                      go_wp2
                      go_ret
                      exact ⟨rfl, hw1.out.trans (hb3.out.mono hw1.out.size)⟩
              · obtain rfl : j2 = dn := by omega
                have hR : R = 0 := HX2.out.trans hz.out
                subst hR
                clear hz HX2
                go_wp2
                go_ret
                exact ⟨rfl, hw.out⟩
end Go.Proofs.Ytldkecjfjcnkfaa
