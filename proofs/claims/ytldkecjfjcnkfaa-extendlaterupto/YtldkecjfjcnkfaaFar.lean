import Derived.Test.YtldkecjfjcnkfaaTree
namespace Go.Proofs.Ytldkecjfjcnkfaa
open Go.RowKit Go.Deep
/-- all but the block cb is as it was -/
structure Besides (cb : Nat) (w w' : World) : Prop where
  os : w'.os = w.os
  tape : w'.tape = w.tape
  output : w'.output = w.output
  size : w.heap.size ≤ w'.heap.size
  block : ∀ k, k < w.heap.size → k ≠ cb → w'.heap[k]? = w.heap[k]?
theorem Besides.refl (cb : Nat) (w : World) : Besides cb w w := ⟨rfl, rfl, rfl, Nat.le_refl _, fun _ _ _ => rfl⟩
theorem Besides.trans {cb : Nat} {a b c : World} (h : Besides cb a b) (g : Besides cb b c) : Besides cb a c :=
  ⟨g.os.trans h.os, g.tape.trans h.tape, g.output.trans h.output, Nat.le_trans h.size g.size, fun k hk hn => (g.block k (Nat.lt_of_lt_of_le hk h.size) hn).trans (h.block k hk hn)⟩
theorem Besides.alloc (cb : Nat) (w : World) (o : Obj) : Besides cb w (w.alloc o) :=
  ⟨rfl, rfl, rfl, by simp, fun k hk _ => Below.heap_alloc _ _ _ hk⟩
theorem Besides.setCell (w : World) (a : Addr) (u : Value) : Besides a.block w (w.setCell a u) :=
  ⟨rfl, rfl, rfl, by simp [World.setCell], fun k _ hn => Below.heap_setCell _ _ _ _ hn⟩
theorem Besides.cell {cb : Nat} {w w' : World} (h : Besides cb w w') {p : Addr} {v : Value} (hp : p.block ≠ cb) (hc : w.cell? p = some v) : w'.cell? p = some v :=
  (World.cell?_of_block (w := w) (h.block p.block (World.block_lt_of_cell? w p hc) hp)).trans hc
theorem Besides.rv {cb : Nat} {w w' : World} (h : Besides cb w w') {t : T} {x y : Value} (g : RV (fun b => b ≠ cb) w t x y) : RV (fun b => b ≠ cb) w' t x y :=
  RV.keep (fun _ h => h) h.size (fun b hn hb => h.block b hb hn) _ _ _ g
set_option maxHeartbeats 400000 in
theorem add30 (cb : Nat) (m n : Int) (w : World) (h0 : 0 ≤ m) (h1 : m ≤ 2147483647) (h2 : 0 ≤ n) (h3 : n ≤ 140737488351232)
    (hc : w.cell? ⟨cb, 0, none⟩ = some (.int .i64 m)) (hf : w.frozen? ⟨cb, 0, none⟩ = false) :
    Calls Try.prog 43 #[.pointer (some ⟨cb, 0, none⟩), .int .i64 n] w fun e w' => e = .returned (.bool (decide (2147483647 < m + 1 + n))) ∧ Besides cb w w' ∧ w'.cell? ⟨cb, 0, none⟩ = some (.int .i64 (m + 1 + n)) ∧ w'.frozen? ⟨cb, 0, none⟩ = false := by
  go_enter Try.func43, Try.ntmps43
  go_wp2
  go_ret
  exact ⟨rfl, Besides.setCell w ⟨cb, 0, none⟩ _, by go_simp, by go_simp⟩
/-- what a count leaves -/
def FP (cb : Nat) (m : Int) (p : Prop) (w w' : World) (r : Bool) : Prop :=
  Besides cb w w' ∧ w'.frozen? ⟨cb, 0, none⟩ = false ∧ ∃ m', w'.cell? ⟨cb, 0, none⟩ = some (.int .i64 m') ∧ (r = false → m ≤ m' ∧ m' ≤ 2147483647 ∧ p)
def VC (t : T) : Prop := ∀ (cb : Nat) (m left : Int) (x y : Value) (w : World), 0 ≤ m → m ≤ 2147483647 → 0 ≤ left → left ≤ 65520 → t.ok → RV (fun b => b ≠ cb) w t x y →
  w.cell? ⟨cb, 0, none⟩ = some (.int .i64 m) → w.frozen? ⟨cb, 0, none⟩ = false →
  Calls Try.prog 44 #[.pointer (some ⟨cb, 0, none⟩), vv t x y, .int .i64 left] w fun e w' => ∃ r, e = .returned (.bool r) ∧ FP cb (m + 1) t.small w w' r
set_option maxHeartbeats 1000000 in
theorem pairs31 (cb : Nat) (m left : Int) (dn : Nat) (ky : Nat → ByteArray) (dv : Nat → T) (ih : ∀ i, i < dn → VC (dv i)) (y : Value) (w : World) (h0 : 0 ≤ m) (h1 : m ≤ 2147483647) (h2 : 0 ≤ left) (h3 : left ≤ 65520)
    (hok : ∀ i, i < dn → (ky i).size ≤ 140737488351232 ∧ (dv i).ok) (hdn : dn ≤ 140737488351232) (hr : RD (fun b => b ≠ cb) w dn ky dv y) (hc : w.cell? ⟨cb, 0, none⟩ = some (.int .i64 m)) (hf : w.frozen? ⟨cb, 0, none⟩ = false) :
    Calls Try.prog 27 #[.pointer (some ⟨cb, 0, none⟩), y, .int .i64 left] w fun e w' => ∃ r, e = .returned (.bool r) ∧ FP cb m (dn ≤ 2147483647 ∧ ∀ i, i < dn → (dv i).small) w w' r := by
  obtain ⟨a, ca, rfl, hr⟩ := hr
  go_enter Try.func27, Try.ntmps27
  go_wp2
  go_loopw [7] (fun i wr => ∃ (k : Nat) (m' : Int), k ≤ dn ∧ i = .int .i64 k ∧ Besides cb w wr ∧ wr.frozen? ⟨cb, 0, none⟩ = false ∧ wr.cell? ⟨cb, 0, none⟩ = some (.int .i64 m') ∧ m + k ≤ m' ∧ m' ≤ 2147483647 ∧ ∀ j, j < k → (dv j).small) (fun i _ => dn - (intOf i).toNat)
  case atStart => exact ⟨0, m, Nat.zero_le _, rfl, Besides.refl _ _, hf, hc, by omega, h1, fun j hj => absurd hj (Nat.not_lt_zero _)⟩
  case round =>
    obtain ⟨k, m', hk, rfl, hb, hf', hc', hm, hm', hsm⟩ := hrel
    by_cases hlt : k < dn
    · rcases hr with h | ⟨b, o, rfl, hn, hbl, hr⟩
      · omega
      obtain ⟨x1, y1, hv, g0, g1, g2, g3, g4, g5⟩ := hr k hlt
      obtain ⟨ok1, ok2⟩ := hok k hlt
      have hv' := hb.rv hv
      have e0 := hb.cell (p := ⟨b, o + k * 6, none⟩) hn g0
      have HH : Hid (VC (dv k) ∧ (dv k).ok ∧ RV (fun b => b ≠ cb) _ (dv k) x1 y1 ∧ five _ b (o + k * 6 + 1) (dv k) x1 y1) := ⟨ih k hlt, ok2, hv', hb.cell (p := ⟨b, o + k * 6 + 1, none⟩) hn g1, hb.cell (p := ⟨b, o + k * 6 + 1 + 1, none⟩) hn g2, hb.cell (p := ⟨b, o + k * 6 + 1 + 2, none⟩) hn g3, hb.cell (p := ⟨b, o + k * 6 + 1 + 3, none⟩) hn g4, hb.cell (p := ⟨b, o + k * 6 + 1 + 4, none⟩) hn g5⟩
      clear g0 g1 g2 g3 g4 g5 hr hok ih hv hv' ok2
      go_wp2_with fail
      refine (add30 cb m' (ky k).size _ (by omega) hm' (by omega) (by omega) hc' hf').mono ?_
      rintro e w1 ⟨rfl, hb1, hc1, hf1⟩
      obtain ⟨HV, hk1, hrv, q1, q2, q3, q4, q5⟩ := HH.out
      have r1 := hb1.cell (p := ⟨b, o + k * 6 + 1, none⟩) hn q1
      have r2 := hb1.cell (p := ⟨b, o + k * 6 + 1 + 1, none⟩) hn q2
      have r3 := hb1.cell (p := ⟨b, o + k * 6 + 1 + 2, none⟩) hn q3
      have r4 := hb1.cell (p := ⟨b, o + k * 6 + 1 + 3, none⟩) hn q4
      have r5 := hb1.cell (p := ⟨b, o + k * 6 + 1 + 4, none⟩) hn q5
      have hb2 := hb.trans hb1
      have hrv1 := hb1.rv hrv
      have HJ : Hid (VC (dv k) ∧ (dv k).ok ∧ RV (fun b => b ≠ cb) w1 (dv k) x1 y1 ∧ Besides cb w w1 ∧ ∀ j, j < k → (dv j).small) := ⟨HV, hk1, hrv1, hb2, hsm⟩
      clear HH HV hk1 hrv q1 q2 q3 q4 q5 hb1 hb2 hrv1 hsm hb e0 hf' hc' hc hf
      by_cases hbig : 2147483647 < m' + 1 + ((ky k).size : Int)
      · go_wp2
        go_ret
        exact ⟨true, rfl, HJ.out.2.2.2.1, hf1, _, hc1, fun h => by cases h⟩
      · go_wp2_with fail
        obtain ⟨HV, hk1, hrv, hb2, hsm⟩ := HJ.out
        refine (HV cb (m' + 1 + ((ky k).size : Int)) left x1 y1 w1 (by omega) (by omega) h2 h3 hk1 hrv hc1 hf1).mono ?_
        rintro e w2 ⟨r, rfl, hb3, hf3, m3, hc3, hm3⟩
        cases r with
        | true =>
          go_wp2
          go_ret
          exact ⟨true, rfl, hb2.trans hb3, hf3, _, hc3, fun h => by cases h⟩
        | false =>
          obtain ⟨hm31, hm32, hm33⟩ := hm3 rfl
          have HK : Hid (Besides cb w w2 ∧ (dv k).small ∧ ∀ j, j < k → (dv j).small) := ⟨hb2.trans hb3, hm33, hsm⟩
          clear HJ HV hk1 hrv hb2 hsm hb3 hm3 hm33 r1 r2 r3 r4 r5 hc1 hf1
          go_wp2
          go_roundw
          case rel =>
            obtain ⟨hb4, hs1, hs2⟩ := HK.out
            refine ⟨k + 1, m3, by omega, by go_num, hb4, hf3, hc3, by omega, hm32, fun j hj => ?_⟩
            rcases Nat.lt_succ_iff_lt_or_eq.1 hj with h | rfl
            · exact hs2 j h
            · exact hs1
          case measure => simp [intOf]; omega
    · obtain rfl : k = dn := by omega
      clear hr
      go_wp2
      go_ret
      exact ⟨false, rfl, hb, hf', m', hc', fun _ => ⟨by omega, hm', by omega, hsm⟩⟩
theorem cell_alloc_old {w : World} {o : Obj} {p : Addr} {v : Value} (h : w.cell? p = some v) : (w.alloc o).cell? p = some v :=
  (World.cell?_of_block (w := w) (Below.heap_alloc w o p.block (World.block_lt_of_cell? w p h))).trans h
theorem frozen_alloc_old {w : World} {o : Obj} {p : Addr} {v : Value} (h : w.cell? p = some v) : (w.alloc o).frozen? p = w.frozen? p :=
  World.frozen?_of_block (w := w) (Below.heap_alloc w o p.block (World.block_lt_of_cell? w p h))
set_option maxHeartbeats 1000000 in
theorem value18 (t : T) : VC t := by
  induction t with
  | no => intro cb m left x y w _ _ _ _ _ h; exact h.elim
  | mk k n s ln l dn ky dv il id =>
    intro cb m left x y w h0 h1 h2 h3 hok hr hc hf
    obtain ⟨ok1, ok2, ok3, ok4, ok5⟩ := hok
    have hcb : cb < w.heap.size := World.block_lt_of_cell? w _ hc
    obtain ⟨hL, hD⟩ := hr
    obtain ⟨a, ca, rfl, hL⟩ := hL
    show Calls Try.prog 44 #[_, .agg #[.int .i64 k, .int .i64 n, .string s, .slice a ln ca, y], _] w _
    go_enter Try.func44, Try.ntmps44
    go_wp2_with fail
    refine (add30 cb m s.size _ h0 h1 (by omega) (by omega) (cell_alloc_old hc) ((frozen_alloc_old hc).trans hf)).mono ?_
    rintro e w1 ⟨rfl, hb1, hc1, hf1⟩
    have hvb : w.heap.size ≠ cb := by omega
    have e3 := hb1.cell (p := ⟨w.heap.size, 3, none⟩) (v := .slice a ln ca) hvb (by go_simp)
    have e4 := hb1.cell (p := ⟨w.heap.size, 4, none⟩) (v := y) hvb (by go_simp)
    have HB : Hid (Besides cb w w1) := (Besides.alloc cb w _).trans hb1
    have HI : Hid ((∀ i, VC (l i)) ∧ (∀ i, VC (dv i)) ∧ (∀ i, i < ln → (l i).ok) ∧ (∀ i, i < dn → (ky i).size ≤ 140737488351232 ∧ (dv i).ok) ∧ RD (fun b => b ≠ cb) w dn ky dv y ∧ (ln = 0 ∨ ∃ b o, a = some ⟨b, o, none⟩ ∧ b ≠ cb ∧ b < w.heap.size ∧ ∀ i, i < ln → ∃ x' y', RV (fun b => b ≠ cb) w (l i) x' y' ∧ five w b (o + i * 5) (l i) x' y')) := ⟨il, id, ok4, ok5, hD, hL⟩
    clear il id ok4 ok5 hD hL hb1 hc hf
    generalize hh : w.heap.size = vb at *
    have HH : Hid (w.heap.size = vb) := hh
    clear hh
    by_cases hbig : left = 0 ∨ 2147483647 < m + 1 + (s.size : Int)
    · rcases hbig with h | h
      · subst h
        go_wp2
        go_ret
        exact ⟨true, rfl, HB.out, hf1, _, hc1, fun h => by cases h⟩
      · go_wp2
        all_goals go_ret
        all_goals exact ⟨true, rfl, HB.out, hf1, _, hc1, fun h => by cases h⟩
    have hl0 : 0 < left := by omega
    have hl1 : (left == 0) = false := by simp; omega
    have hnb : m + 1 + (s.size : Int) ≤ 2147483647 := by omega
    clear hbig
    go_wp2
    go_loopw [8] (fun i wr => ∃ (j : Nat) (m' : Int), j ≤ ln ∧ i = .int .i64 j ∧ Hid (Besides cb w wr) ∧ wr.cell? ⟨vb, 3, none⟩ = some (.slice a ln ca) ∧ wr.cell? ⟨vb, 4, none⟩ = some y ∧ wr.frozen? ⟨cb, 0, none⟩ = false ∧ wr.cell? ⟨cb, 0, none⟩ = some (.int .i64 m') ∧ m + 1 + j ≤ m' ∧ m' ≤ 2147483647 ∧ Hid (∀ i, i < j → (l i).small)) (fun i _ => ln - (intOf i).toNat)
    case atStart => exact ⟨0, _, Nat.zero_le _, rfl, HB, e3, e4, hf1, hc1, by omega, by omega, fun i hi => absurd hi (Nat.not_lt_zero _)⟩
    case round =>
      clear e3 e4 hf1 hc1 HB
      obtain ⟨j, m', hj, rfl, hb, e3, e4, hf', hc', hm, hm', hsm⟩ := hrel
      obtain ⟨il, id, ok4, ok5, hD, hL⟩ := HI.out
      by_cases hlt : j < ln
      · rcases hL with h | ⟨b, o, rfl, hn, hbl, hL⟩
        · omega
        obtain ⟨x1, y1, hv, g1, g2, g3, g4, g5⟩ := hL j hlt
        have hv' := hb.out.rv hv
        have r1 := hb.out.cell (p := ⟨b, o + j * 5, none⟩) hn g1
        have r2 := hb.out.cell (p := ⟨b, o + j * 5 + 1, none⟩) hn g2
        have r3 := hb.out.cell (p := ⟨b, o + j * 5 + 2, none⟩) hn g3
        have r4 := hb.out.cell (p := ⟨b, o + j * 5 + 3, none⟩) hn g4
        have r5 := hb.out.cell (p := ⟨b, o + j * 5 + 4, none⟩) hn g5
        have HV : Hid (VC (l j) ∧ (l j).ok ∧ RV (fun b => b ≠ cb) _ (l j) x1 y1) := ⟨il j, ok4 j hlt, hv'⟩
        clear il id ok4 ok5 hD hL hv hv' g1 g2 g3 g4 g5
        go_wp2_with fail
        refine (HV.out.1 cb m' (left - 1) x1 y1 _ (by omega) hm' (by omega) (by omega) HV.out.2.1 HV.out.2.2 hc' hf').mono ?_
        rintro e w2 ⟨r, rfl, hb3, hf3, m3, hc3, hm3⟩
        cases r with
        | true =>
          go_wp2
          go_ret
          exact ⟨true, rfl, hb.out.trans hb3, hf3, _, hc3, fun h => by cases h⟩
        | false =>
          obtain ⟨hm31, hm32, hm33⟩ := hm3 rfl
          have e3' := hb3.cell (p := ⟨vb, 3, none⟩) hvb e3
          have e4' := hb3.cell (p := ⟨vb, 4, none⟩) hvb e4
          have HK : Hid (Besides cb w w2 ∧ (l j).small) := ⟨hb.out.trans hb3, hm33⟩
          clear HV hb hb3 hm3 hm33 r1 r2 r3 r4 r5 e3 e4 hf' hc'
          go_wp2
          go_roundw
          case rel =>
            obtain ⟨hb4, hs1⟩ := HK.out
            refine ⟨j + 1, m3, by omega, by go_num, hb4, e3', e4', hf3, hc3, by omega, hm32, fun i hi => ?_⟩
            rcases Nat.lt_succ_iff_lt_or_eq.1 hi with h | rfl
            · exact hsm.out i h
            · exact hs1
          case measure => simp [intOf]; omega
      · obtain rfl : j = ln := by omega
        clear hL
        have HD := RD.keep (fun _ h => h) hb.out.size (fun b hn hbl => hb.out.block b hbl hn) hD
        have HE : Hid ((∀ i, VC (dv i)) ∧ (∀ i, i < dn → (ky i).size ≤ 140737488351232 ∧ (dv i).ok) ∧ RD (fun b => b ≠ cb) _ dn ky dv y) := ⟨id, ok5, HD⟩
        clear il id ok4 ok5 hD HD
        go_wp2_with fail
        refine (pairs31 cb m' (left - 1) dn ky dv (fun i _ => HE.out.1 i) y _ (by omega) hm' (by omega) (by omega) HE.out.2.1 ok3 HE.out.2.2 hc' hf').mono ?_
        rintro e w2 ⟨r, rfl, hb3, hf3, m3, hc3, hm3⟩
        go_wp2
        go_ret
        refine ⟨r, rfl, hb.out.trans hb3, hf3, m3, hc3, fun h => ?_⟩
        obtain ⟨q1, q2, q3, q4⟩ := hm3 h
        exact ⟨by omega, q2, by omega, q3, hsm.out, q4⟩

end Go.Proofs.Ytldkecjfjcnkfaa
