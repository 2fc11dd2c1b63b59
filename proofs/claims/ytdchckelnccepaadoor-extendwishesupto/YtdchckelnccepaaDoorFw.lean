import Derived.Test.YtdchckelnccepaaDoorWt
import Derived.Lib.ItoaLen
import Derived.Test.YtdchckelnccepaaDoorZ9
namespace Go.Proofs.YtdchckelnccepaaDoor.Fw
open Go.RowKit Go.Deep
/-- a sum over the first n -/
def sumN (f : Nat → Nat) : Nat → Nat
  | 0 => 0
  | n + 1 => sumN f n + f n
theorem sumN_ge {f : Nat → Nat} (h : ∀ i, 1 ≤ f i) : ∀ n, n ≤ sumN f n
  | 0 => Nat.le_refl _
  | n + 1 => by have := sumN_ge h n; have := h n; show n + 1 ≤ sumN f n + f n; omega
/-- what the count counts -/
def wt : T → Nat
  | .no => 1
  | .mk _ _ s ln l dn ky dv => 1 + s.size + sumN (fun i => wt (l i)) ln + sumN (fun i => 1 + (ky i).size + wt (dv i)) dn
theorem wt_pos (t : T) : 1 ≤ wt t := by cases t with | no => exact Nat.le_refl _ | mk k n s ln l dn ky dv => show 1 ≤ 1 + s.size + _ + _; omega
/-- what a count leaves -/
def FP (cb : Nat) (m : Int) (p : Prop) (w w' : World) (r : Bool) : Prop :=
  Besides cb w w' ∧ w'.frozen? ⟨cb, 0, none⟩ = false ∧ ∃ m', w'.cell? ⟨cb, 0, none⟩ = some (.int .i64 m') ∧ (r = false → m ≤ m' ∧ m' ≤ 2147483647 ∧ p)
def VC (t : T) : Prop := ∀ (cb : Nat) (m left : Int) (x y : Value) (w : World), 0 ≤ m → m ≤ 2147483647 → 0 ≤ left → left ≤ 65520 → t.ok → RV (fun b => b ≠ cb) w t x y →
  w.cell? ⟨cb, 0, none⟩ = some (.int .i64 m) → w.frozen? ⟨cb, 0, none⟩ = false →
  Calls Tryd.prog 19 #[.pointer (some ⟨cb, 0, none⟩), vv t x y, .int .i64 left] w fun e w' => ∃ r, e = .returned (.bool r) ∧ FP cb (m + (wt t : Int)) t.small w w' r
set_option maxHeartbeats 1000000 in
theorem pairs31 (cb : Nat) (m left : Int) (dn : Nat) (ky : Nat → ByteArray) (dv : Nat → T) (ih : ∀ i, i < dn → VC (dv i)) (y : Value) (w : World) (h0 : 0 ≤ m) (h1 : m ≤ 2147483647) (h2 : 0 ≤ left) (h3 : left ≤ 65520)
    (hok : ∀ i, i < dn → (ky i).size ≤ 140737488351232 ∧ (dv i).ok) (hdn : dn ≤ 140737488351232) (hr : RD (fun b => b ≠ cb) w dn ky dv y) (hc : w.cell? ⟨cb, 0, none⟩ = some (.int .i64 m)) (hf : w.frozen? ⟨cb, 0, none⟩ = false) :
    Calls Tryd.prog 10 #[.pointer (some ⟨cb, 0, none⟩), y, .int .i64 left] w fun e w' => ∃ r, e = .returned (.bool r) ∧ FP cb (m + (sumN (fun i => 1 + (ky i).size + wt (dv i)) dn : Int)) (dn ≤ 2147483647 ∧ ∀ i, i < dn → (dv i).small) w w' r := by
  obtain ⟨a, ca, rfl, hr⟩ := hr
  go_enter Tryd.func10, Tryd.ntmps10
  go_wp2
  go_loopw [7] (fun i wr => ∃ (k : Nat) (m' : Int), k ≤ dn ∧ i = .int .i64 k ∧ Besides cb w wr ∧ wr.frozen? ⟨cb, 0, none⟩ = false ∧ wr.cell? ⟨cb, 0, none⟩ = some (.int .i64 m') ∧ m + (sumN (fun i => 1 + (ky i).size + wt (dv i)) k : Int) ≤ m' ∧ m' ≤ 2147483647 ∧ ∀ j, j < k → (dv j).small) (fun i _ => dn - (intOf i).toNat)
  case atStart => exact ⟨0, m, Nat.zero_le _, rfl, Besides.refl _ _, hf, hc, by show m + ((0 : Nat) : Int) ≤ m; omega, h1, fun j hj => absurd hj (Nat.not_lt_zero _)⟩
  case round =>
    obtain ⟨k, m', hk, rfl, hb, hf', hc', hm, hm', hsm⟩ := hrel
    by_cases hlt : k < dn
    · rcases hr with h | ⟨b, o, rfl, hn, hbl, hr⟩
      · omega
      obtain ⟨x1, y1, hv, g0, g1, g2, g3, g4, g5⟩ := hr k hlt
      obtain ⟨ok1, ok2⟩ := hok k hlt
      have hv' := hb.rv hv
      have e0 := hb.cell (p := ⟨b, o + k * 6, none⟩) hn g0
      have HH : Hid (VC (dv k) ∧ (dv k).ok ∧ RV (fun b => b ≠ cb) _ (dv k) x1 y1 ∧ five _ b (o + k * 6 + 1) (dv k) x1 y1) := ⟨ih k hlt, ok2, hv', hb.cell (p := ⟨b, o + k * 6 + 1, none⟩) hn g1, hb.cell (p := ⟨b, o + k * 6 + 1 + 1, none⟩) hn g2, hb.cell (p := ⟨b, o + k * 6 + 1 + 2, none⟩) hn g3, hb.cell (p := ⟨b, o + k * 6 + 1 + 3, none⟩) hn g4, hb.cell (p := ⟨b, o + k * 6 + 1 + 4, none⟩) hn g5⟩
      clear g0 g1 g2 g3 g4 g5 hr hok ih hv hv' ok2
      go_wp2_with fail
      refine (add30 cb m' (ky k).size _ (by omega) hm' (by omega) (by omega) hc' hf').mono ?_
      rintro e w1 ⟨rfl, hb1, hc1, hf1⟩
      obtain ⟨HV, hk1, hrv, q1, q2, q3, q4, q5⟩ := HH.out
      have r1 := hb1.cell (p := ⟨b, o + k * 6 + 1, none⟩) hn q1
      have r2 := hb1.cell (p := ⟨b, o + k * 6 + 1 + 1, none⟩) hn q2
      have r3 := hb1.cell (p := ⟨b, o + k * 6 + 1 + 2, none⟩) hn q3
      have r4 := hb1.cell (p := ⟨b, o + k * 6 + 1 + 3, none⟩) hn q4
      have r5 := hb1.cell (p := ⟨b, o + k * 6 + 1 + 4, none⟩) hn q5
      have hb2 := hb.trans hb1
      have hrv1 := hb1.rv hrv
      have HJ : Hid (VC (dv k) ∧ (dv k).ok ∧ RV (fun b => b ≠ cb) w1 (dv k) x1 y1 ∧ Besides cb w w1 ∧ ∀ j, j < k → (dv j).small) := ⟨HV, hk1, hrv1, hb2, hsm⟩
      clear HH HV hk1 hrv q1 q2 q3 q4 q5 hb1 hb2 hrv1 hsm hb e0 hf' hc' hc hf
      by_cases hbig : 2147483647 < m' + 1 + ((ky k).size : Int)
      · go_wp2
        go_ret
        exact ⟨true, rfl, HJ.out.2.2.2.1, hf1, _, hc1, fun h => by cases h⟩
      · go_wp2_with fail
        obtain ⟨HV, hk1, hrv, hb2, hsm⟩ := HJ.out
        refine (HV cb (m' + 1 + ((ky k).size : Int)) left x1 y1 w1 (by omega) (by omega) h2 h3 hk1 hrv hc1 hf1).mono ?_
        rintro e w2 ⟨r, rfl, hb3, hf3, m3, hc3, hm3⟩
        cases r with
        | true =>
          go_wp2
          go_ret
          exact ⟨true, rfl, hb2.trans hb3, hf3, _, hc3, fun h => by cases h⟩
        | false =>
          obtain ⟨hm31, hm32, hm33⟩ := hm3 rfl
          have HK : Hid (Besides cb w w2 ∧ (dv k).small ∧ ∀ j, j < k → (dv j).small) := ⟨hb2.trans hb3, hm33, hsm⟩
          clear HJ HV hk1 hrv hb2 hsm hb3 hm3 hm33 r1 r2 r3 r4 r5 hc1 hf1
          go_wp2
          go_roundw
          case rel =>
            obtain ⟨hb4, hs1, hs2⟩ := HK.out
            refine ⟨k + 1, m3, by omega, by go_num, hb4, hf3, hc3, by show m + ((sumN (fun i => 1 + (ky i).size + wt (dv i)) k + (1 + (ky k).size + wt (dv k)) : Nat) : Int) ≤ m3; omega, hm32, fun j hj => ?_⟩
            rcases Nat.lt_succ_iff_lt_or_eq.1 hj with h | rfl
            · exact hs2 j h
            · exact hs1
          case measure => simp [intOf]; omega
    · obtain rfl : k = dn := by omega
      clear hr
      go_wp2
      go_ret
      exact ⟨false, rfl, hb, hf', m', hc', fun _ => ⟨hm, hm', by have := sumN_ge (f := fun i => 1 + (ky i).size + wt (dv i)) (fun i => by omega) k; omega, hsm⟩⟩


set_option maxHeartbeats 1000000 in
theorem value18 (t : T) : VC t := by
  induction t with
  | no => intro cb m left x y w _ _ _ _ _ h; exact h.elim
  | mk k n s ln l dn ky dv il id =>
    intro cb m left x y w h0 h1 h2 h3 hok hr hc hf
    obtain ⟨ok1, ok2, ok3, ok4, ok5⟩ := hok
    have hcb : cb < w.heap.size := World.block_lt_of_cell? w _ hc
    obtain ⟨hL, hD⟩ := hr
    obtain ⟨a, ca, rfl, hL⟩ := hL
    show Calls Tryd.prog 19 #[_, .agg #[.int .i64 k, .int .i64 n, .string s, .slice a ln ca, y], _] w _
    go_enter Tryd.func19, Tryd.ntmps19
    go_wp2_with fail
    refine (add30 cb m s.size _ h0 h1 (by omega) (by omega) (cell_alloc_old hc) ((frozen_alloc_old hc).trans hf)).mono ?_
    rintro e w1 ⟨rfl, hb1, hc1, hf1⟩
    have hvb : w.heap.size ≠ cb := by omega
    have e3 := hb1.cell (p := ⟨w.heap.size, 3, none⟩) (v := .slice a ln ca) hvb (by go_simp)
    have e4 := hb1.cell (p := ⟨w.heap.size, 4, none⟩) (v := y) hvb (by go_simp)
    have HB : Hid (Besides cb w w1) := (Besides.alloc cb w _).trans hb1
    have HI : Hid ((∀ i, VC (l i)) ∧ (∀ i, VC (dv i)) ∧ (∀ i, i < ln → (l i).ok) ∧ (∀ i, i < dn → (ky i).size ≤ 140737488351232 ∧ (dv i).ok) ∧ RD (fun b => b ≠ cb) w dn ky dv y ∧ (ln = 0 ∨ ∃ b o, a = some ⟨b, o, none⟩ ∧ b ≠ cb ∧ b < w.heap.size ∧ ∀ i, i < ln → ∃ x' y', RV (fun b => b ≠ cb) w (l i) x' y' ∧ five w b (o + i * 5) (l i) x' y')) := ⟨il, id, ok4, ok5, hD, hL⟩
    clear il id ok4 ok5 hD hL hb1 hc hf
    generalize hh : w.heap.size = vb at *
    have HH : Hid (w.heap.size = vb) := hh
    clear hh
    by_cases hbig : left = 0 ∨ 2147483647 < m + 1 + (s.size : Int)
    · rcases hbig with h | h
      · subst h
        go_wp2
        go_ret
        exact ⟨true, rfl, HB.out, hf1, _, hc1, fun h => by cases h⟩
      · go_wp2
        all_goals go_ret
        all_goals exact ⟨true, rfl, HB.out, hf1, _, hc1, fun h => by cases h⟩
    have hl0 : 0 < left := by omega
    have hl1 : (left == 0) = false := by simp; omega
    have hnb : m + 1 + (s.size : Int) ≤ 2147483647 := by omega
    clear hbig
    go_wp2
    go_loopw [8] (fun i wr => ∃ (j : Nat) (m' : Int), j ≤ ln ∧ i = .int .i64 j ∧ Hid (Besides cb w wr) ∧ wr.cell? ⟨vb, 3, none⟩ = some (.slice a ln ca) ∧ wr.cell? ⟨vb, 4, none⟩ = some y ∧ wr.frozen? ⟨cb, 0, none⟩ = false ∧ wr.cell? ⟨cb, 0, none⟩ = some (.int .i64 m') ∧ m + 1 + s.size + (sumN (fun i => wt (l i)) j : Int) ≤ m' ∧ m' ≤ 2147483647 ∧ Hid (∀ i, i < j → (l i).small)) (fun i _ => ln - (intOf i).toNat)
    case atStart => exact ⟨0, _, Nat.zero_le _, rfl, HB, e3, e4, hf1, hc1, by show m + 1 + (s.size : Int) + ((0 : Nat) : Int) ≤ _; omega, by omega, fun i hi => absurd hi (Nat.not_lt_zero _)⟩
    case round =>
      clear e3 e4 hf1 hc1 HB
      obtain ⟨j, m', hj, rfl, hb, e3, e4, hf', hc', hm, hm', hsm⟩ := hrel
      obtain ⟨il, id, ok4, ok5, hD, hL⟩ := HI.out
      by_cases hlt : j < ln
      · rcases hL with h | ⟨b, o, rfl, hn, hbl, hL⟩
        · omega
        obtain ⟨x1, y1, hv, g1, g2, g3, g4, g5⟩ := hL j hlt
        have hv' := hb.out.rv hv
        have r1 := hb.out.cell (p := ⟨b, o + j * 5, none⟩) hn g1
        have r2 := hb.out.cell (p := ⟨b, o + j * 5 + 1, none⟩) hn g2
        have r3 := hb.out.cell (p := ⟨b, o + j * 5 + 2, none⟩) hn g3
        have r4 := hb.out.cell (p := ⟨b, o + j * 5 + 3, none⟩) hn g4
        have r5 := hb.out.cell (p := ⟨b, o + j * 5 + 4, none⟩) hn g5
        have HV : Hid (VC (l j) ∧ (l j).ok ∧ RV (fun b => b ≠ cb) _ (l j) x1 y1) := ⟨il j, ok4 j hlt, hv'⟩
        clear il id ok4 ok5 hD hL hv hv' g1 g2 g3 g4 g5
        go_wp2_with fail
        refine (HV.out.1 cb m' (left - 1) x1 y1 _ (by omega) hm' (by omega) (by omega) HV.out.2.1 HV.out.2.2 hc' hf').mono ?_
        rintro e w2 ⟨r, rfl, hb3, hf3, m3, hc3, hm3⟩
        cases r with
        | true =>
          go_wp2
          go_ret
          exact ⟨true, rfl, hb.out.trans hb3, hf3, _, hc3, fun h => by cases h⟩
        | false =>
          obtain ⟨hm31, hm32, hm33⟩ := hm3 rfl
          have e3' := hb3.cell (p := ⟨vb, 3, none⟩) hvb e3
          have e4' := hb3.cell (p := ⟨vb, 4, none⟩) hvb e4
          have HK : Hid (Besides cb w w2 ∧ (l j).small) := ⟨hb.out.trans hb3, hm33⟩
          clear HV hb hb3 hm3 hm33 r1 r2 r3 r4 r5 e3 e4 hf' hc'
          go_wp2
          go_roundw
          case rel =>
            obtain ⟨hb4, hs1⟩ := HK.out
            refine ⟨j + 1, m3, by omega, by go_num, hb4, e3', e4', hf3, hc3, by show m + 1 + (s.size : Int) + ((sumN (fun i => wt (l i)) j + wt (l j) : Nat) : Int) ≤ m3; omega, hm32, fun i hi => ?_⟩
            rcases Nat.lt_succ_iff_lt_or_eq.1 hi with h | rfl
            · exact hsm.out i h
            · exact hs1
          case measure => simp [intOf]; omega
      · obtain rfl : j = ln := by omega
        clear hL
        have HD := RD.keep (fun _ h => h) hb.out.size (fun b hn hbl => hb.out.block b hbl hn) hD
        have HE : Hid ((∀ i, VC (dv i)) ∧ (∀ i, i < dn → (ky i).size ≤ 140737488351232 ∧ (dv i).ok) ∧ RD (fun b => b ≠ cb) _ dn ky dv y) := ⟨id, ok5, HD⟩
        clear il id ok4 ok5 hD HD
        go_wp2_with fail
        refine (pairs31 cb m' (left - 1) dn ky dv (fun i _ => HE.out.1 i) y _ (by omega) hm' (by omega) (by omega) HE.out.2.1 ok3 HE.out.2.2 hc' hf').mono ?_
        rintro e w2 ⟨r, rfl, hb3, hf3, m3, hc3, hm3⟩
        go_wp2
        go_ret
        refine ⟨r, rfl, hb.out.trans hb3, hf3, m3, hc3, fun h => ?_⟩
        obtain ⟨q1, q2, q3, q4⟩ := hm3 h
        exact ⟨by show m + ((1 + s.size + sumN (fun i => wt (l i)) j + sumN (fun i => 1 + (ky i).size + wt (dv i)) dn : Nat) : Int) ≤ m3; omega, q2, by have := sumN_ge (f := fun i => wt (l i)) (fun i => wt_pos _) j; omega, q3, hsm.out, q4⟩
set_option maxHeartbeats 1000000 in
/-- FarPairs: false leaves pairs that are small -/
theorem far14w (dn : Nat) (ky : Nat → ByteArray) (dv : Nat → T) (y : Value) (w : World) (hok : ∀ i, i < dn → (ky i).size ≤ 140737488351232 ∧ (dv i).ok) (hdn : dn ≤ 140737488351232) (hr : RD (fun _ => True) w dn ky dv y) :
    Calls Tryd.prog 4 #[y] w fun e w' => ∃ r, e = .returned (.bool r) ∧ Below w.heap.size w w' ∧ (r = false → (dn ≤ 2147483647 ∧ ∀ i, i < dn → (dv i).small) ∧ sumN (fun i => 1 + (ky i).size + wt (dv i)) dn ≤ 2147483647) := by
  have hb0 : Below w.heap.size w (w.alloc (Obj.cells #[.int .i64 0] 37)) := (Below.refl _ _).alloc (Nat.le_refl _) _
  have HR : Hid (RD (fun b => b ≠ w.heap.size) (w.alloc (Obj.cells #[.int .i64 0] 37)) dn ky dv y) := hr.lift hb0.size (fun b hb => hb0.block b hb) (fun b hb => by omega)
  have HP := Lib.hid (fun h1 h2 => pairs31 w.heap.size 0 65520 dn ky dv (fun i _ => value18 (dv i)) y (w.alloc (Obj.cells #[.int .i64 0] 37)) (by omega) (by omega) (by omega) (by omega) hok hdn HR.out h1 h2)
  obtain ⟨a, ca, rfl, -⟩ := hr
  clear hok
  go_enter Tryd.func4, Tryd.ntmps4
  go_wp2_with fail
  refine (HP.out (by go_simp) (by go_simp)).mono ?_
  rintro e w1 ⟨r, rfl, hb, _, m', _, h⟩
  have HE : Hid (Below w.heap.size w w1 ∧ (r = false → (dn ≤ 2147483647 ∧ ∀ i, i < dn → (dv i).small) ∧ sumN (fun i => 1 + (ky i).size + wt (dv i)) dn ≤ 2147483647)) := by
    refine ⟨⟨hb.os, hb.tape, hb.output, Nat.le_trans (by simp) hb.size, fun k hk => ?_⟩, fun hh => ⟨(h hh).2.2, by have h1 := (h hh).1; have h2 := (h hh).2.1; omega⟩⟩
    rw [hb.block k (by simp; omega) (by omega), Below.heap_alloc _ _ _ hk]
  clear hb h
  go_wp2
  go_ret
  exact ⟨r, rfl, HE.out⟩
theorem catN_sum {f : Nat → List UInt8} {g : Nat → Nat} : ∀ n, (∀ i, i < n → (f i).length ≤ 25 * g i) → (catN f n).length ≤ 25 * sumN g n
  | 0, _ => Nat.le_refl _
  | n + 1, h => by
    have h1 := catN_sum n (fun i hi => h i (by omega))
    have h2 := h n (by omega)
    show (catN f n ++ f n).length ≤ 25 * (sumN g n + g n)
    rw [List.length_append]; omega
theorem wtx_len (s : ByteArray) (h : s.size ≤ 140737488351232) : (wtx s).length ≤ 22 + s.size := by
  have hl := Lib.itoa_length_le s.size (by omega) (by omega)
  have e2 : (wtx s).length = (Lib.itoa (s.size : Int)).length + (s.size + 1) := by
    show (Lib.itoa (s.size : Int) ++ 58 :: s.data.toList).length = _
    rw [List.length_append, List.length_cons, Array.length_toList]; rfl
  omega
/-- a text is at most 25 times as long as what FarValue counts -/
theorem txt_len (t : T) : t.ok → t.rng → (txt t).length ≤ 25 * wt t := by
  induction t with
  | no => intro _ _; exact Nat.zero_le _
  | mk k n s ln l dn ky dv il id =>
    rintro ⟨ok1, ok2, ok3, ok4, ok5⟩ ⟨r1, r2, r3, r4, r5, r6⟩
    have hw : wt (.mk k n s ln l dn ky dv) = 1 + s.size + sumN (fun i => wt (l i)) ln + sumN (fun i => 1 + (ky i).size + wt (dv i)) dn := rfl
    have h1 := Lib.itoa_length_le n r1 r2
    have h2 := wtx_len s ok1
    have h3 := catN_sum (f := fun i => txt (l i)) (g := fun i => wt (l i)) ln (fun i hi => il i (ok4 i hi) (r5 i hi))
    have h4 := catN_sum (f := fun i => wtx (ky i) ++ txt (dv i)) (g := fun i => 1 + (ky i).size + wt (dv i)) dn (fun i hi => by
      have a1 := wtx_len (ky i) (ok5 i hi).1
      have a2 := id i (ok5 i hi).2 (r6 i hi)
      show (wtx (ky i) ++ txt (dv i)).length ≤ _
      rw [List.length_append]; omega)
    rw [hw]
    show (if k = 1 then 105 :: (Lib.itoa n ++ [101]) else if k = 2 then wtx s else if k = 3 then 108 :: (catN (fun i => txt (l i)) ln ++ [101]) else 100 :: (catN (fun i => wtx (ky i) ++ txt (dv i)) dn ++ [101])).length ≤ _
    split
    · simp only [List.length_cons, List.length_append, List.length_nil]; omega
    split
    · omega
    split
    · simp only [List.length_cons, List.length_append, List.length_nil]; omega
    · simp only [List.length_cons, List.length_append, List.length_nil]; omega
end Go.Proofs.YtdchckelnccepaaDoor.Fw
