import Derived.Test.YtnpcbcfjnhjmmaaGreatDoorV03
import Derived.Deep.RegionHeld3
import Derived.Deep.AppendLies
import Derived.OwnWalk
import Derived.Deep.RegionLaw
namespace Go.Proofs.YtnpcbcfjnhjmmaaGreatDoor
open Go.RowKit Go.Deep
/-- all but the block cb is as it was -/
structure Besides (cb : Nat) (w w' : World) : Prop where
  os : w'.os = w.os
  tape : w'.tape = w.tape
  output : w'.output = w.output
  size : w.heap.size ≤ w'.heap.size
  block : ∀ k, k < w.heap.size → k ≠ cb → w'.heap[k]? = w.heap[k]?
theorem Besides.refl (cb : Nat) (w : World) : Besides cb w w := ⟨rfl, rfl, rfl, Nat.le_refl _, fun _ _ _ => rfl⟩
theorem Besides.trans {cb : Nat} {a b c : World} (h : Besides cb a b) (g : Besides cb b c) : Besides cb a c :=
  ⟨g.os.trans h.os, g.tape.trans h.tape, g.output.trans h.output, Nat.le_trans h.size g.size, fun k hk hn => (g.block k (Nat.lt_of_lt_of_le hk h.size) hn).trans (h.block k hk hn)⟩
theorem Besides.alloc (cb : Nat) (w : World) (o : Obj) : Besides cb w (w.alloc o) :=
  ⟨rfl, rfl, rfl, by simp, fun k hk _ => Below.heap_alloc _ _ _ hk⟩
theorem Besides.setCell (w : World) (a : Addr) (u : Value) : Besides a.block w (w.setCell a u) :=
  ⟨rfl, rfl, rfl, by simp [World.setCell], fun k _ hn => Below.heap_setCell _ _ _ _ hn⟩
theorem Besides.cell {cb : Nat} {w w' : World} (h : Besides cb w w') {p : Addr} {v : Value} (hp : p.block ≠ cb) (hc : w.cell? p = some v) : w'.cell? p = some v :=
  (World.cell?_of_block (w := w) (h.block p.block (World.block_lt_of_cell? w p hc) hp)).trans hc
theorem Besides.rv {cb : Nat} {w w' : World} (h : Besides cb w w') {t : T} {x y : Value} (g : RV (fun b => b ≠ cb) w t x y) : RV (fun b => b ≠ cb) w' t x y :=
  RV.keep (fun _ h => h) h.size (fun b hn hb => h.block b hb hn) _ _ _ g
set_option maxHeartbeats 400000 in
theorem add30 (cb : Nat) (m n : Int) (w : World) (h0 : 0 ≤ m) (h1 : m ≤ 2147483647) (h2 : 0 ≤ n) (h3 : n ≤ 1407374883512320)
    (hc : w.cell? ⟨cb, 0, none⟩ = some (.int .i64 m)) (hf : w.frozen? ⟨cb, 0, none⟩ = false) :
    Calls Tryz.prog 17 #[.pointer (some ⟨cb, 0, none⟩), .int .i64 n] w fun e w' => e = .returned (.bool (decide (2147483647 < m + 1 + n))) ∧ Besides cb w w' ∧ w'.cell? ⟨cb, 0, none⟩ = some (.int .i64 (m + 1 + n)) ∧ w'.frozen? ⟨cb, 0, none⟩ = false := by
  go_enter Tryz.func17, Tryz.ntmps17
  go_wp2
  go_ret
  exact ⟨rfl, Besides.setCell w ⟨cb, 0, none⟩ _, by go_simp, by go_simp⟩
/-- the sum of the first n -/
def sumN (f : Nat → Nat) : Nat → Nat
  | 0 => 0
  | n + 1 => sumN f n + f n
/-- what a count leaves -/
def FP (cb : Nat) (m : Int) (p : Int → Prop) (w w' : World) (r : Bool) : Prop :=
  Besides cb w w' ∧ w'.frozen? ⟨cb, 0, none⟩ = false ∧ ∃ m', w'.cell? ⟨cb, 0, none⟩ = some (.int .i64 m') ∧ (r = false → m ≤ m' ∧ m' ≤ 2147483647 ∧ p m')
def VC (t : T) : Prop := ∀ (cb : Nat) (m left : Int) (x y : Value) (w : World), 0 ≤ m → m ≤ 2147483647 → 0 ≤ left → left ≤ 65520 → t.ok → RV (fun b => b ≠ cb) w t x y →
  w.cell? ⟨cb, 0, none⟩ = some (.int .i64 m) → w.frozen? ⟨cb, 0, none⟩ = false →
  Calls Tryz.prog 33 #[.pointer (some ⟨cb, 0, none⟩), vv t x y, .int .i64 left] w fun e w' => ∃ r, e = .returned (.bool r) ∧ FP cb (m + 1) (fun m' => t.small ∧ m + 1 + (t.s.size : Int) ≤ m') w w' r
set_option maxHeartbeats 1000000 in
theorem pairs31 (cb : Nat) (m left : Int) (dn : Nat) (ky : Nat → ByteArray) (dv : Nat → T) (ih : ∀ i, i < dn → VC (dv i)) (y : Value) (w : World) (h0 : 0 ≤ m) (h1 : m ≤ 2147483647) (h2 : 0 ≤ left) (h3 : left ≤ 65520)
    (hok : ∀ i, i < dn → (ky i).size ≤ 140737488351232 ∧ (dv i).ok) (hdn : dn ≤ 140737488351232) (hr : RD (fun b => b ≠ cb) w dn ky dv y) (hc : w.cell? ⟨cb, 0, none⟩ = some (.int .i64 m)) (hf : w.frozen? ⟨cb, 0, none⟩ = false) :
    Calls Tryz.prog 19 #[.pointer (some ⟨cb, 0, none⟩), y, .int .i64 left] w fun e w' => ∃ r, e = .returned (.bool r) ∧ FP cb m (fun m' => (dn ≤ 2147483647 ∧ ∀ i, i < dn → (dv i).small) ∧ m + (sumN (fun i => (ky i).size + (dv i).s.size) dn : Nat) ≤ m') w w' r := by
  obtain ⟨a, ca, rfl, hr⟩ := hr
  go_enter Tryz.func19, Tryz.ntmps19
  go_wp2
  go_loopw [7] (fun i wr => ∃ (k : Nat) (m' : Int), k ≤ dn ∧ i = .int .i64 k ∧ Besides cb w wr ∧ wr.frozen? ⟨cb, 0, none⟩ = false ∧ wr.cell? ⟨cb, 0, none⟩ = some (.int .i64 m') ∧ m + k ≤ m' ∧ Hid (m + (sumN (fun i => (ky i).size + (dv i).s.size) k : Nat) ≤ m') ∧ m' ≤ 2147483647 ∧ ∀ j, j < k → (dv j).small) (fun i _ => dn - (intOf i).toNat)
  case atStart => exact ⟨0, m, Nat.zero_le _, rfl, Besides.refl _ _, hf, hc, by omega, (show m + ((0 : Nat) : Int) ≤ m by omega), h1, fun j hj => absurd hj (Nat.not_lt_zero _)⟩
  case round =>
    obtain ⟨k, m', hk, rfl, hb, hf', hc', hm, HMS, hm', hsm⟩ := hrel
    by_cases hlt : k < dn
    · rcases hr with h | ⟨b, o, rfl, hn, hbl, hr⟩
      · omega
      obtain ⟨x1, y1, hv, g0, g1, g2, g3, g4, g5⟩ := hr k hlt
      obtain ⟨ok1, ok2⟩ := hok k hlt
      have hv' := hb.rv hv
      have e0 := hb.cell (p := ⟨b, o + k * 6, none⟩) hn g0
      have HH : Hid (VC (dv k) ∧ (dv k).ok ∧ RV (fun b => b ≠ cb) _ (dv k) x1 y1 ∧ five _ b (o + k * 6 + 1) (dv k) x1 y1) := ⟨ih k hlt, ok2, hv', hb.cell (p := ⟨b, o + k * 6 + 1, none⟩) hn g1, hb.cell (p := ⟨b, o + k * 6 + 1 + 1, none⟩) hn g2, hb.cell (p := ⟨b, o + k * 6 + 1 + 2, none⟩) hn g3, hb.cell (p := ⟨b, o + k * 6 + 1 + 3, none⟩) hn g4, hb.cell (p := ⟨b, o + k * 6 + 1 + 4, none⟩) hn g5⟩
      clear g0 g1 g2 g3 g4 g5 hr hok ih hv hv' ok2
      go_wp2_with fail
      refine (add30 cb m' (ky k).size _ (by omega) hm' (by omega) (by omega) hc' hf').mono ?_
      rintro e w1 ⟨rfl, hb1, hc1, hf1⟩
      obtain ⟨HV, hk1, hrv, q1, q2, q3, q4, q5⟩ := HH.out
      have r1 := hb1.cell (p := ⟨b, o + k * 6 + 1, none⟩) hn q1
      have r2 := hb1.cell (p := ⟨b, o + k * 6 + 1 + 1, none⟩) hn q2
      have r3 := hb1.cell (p := ⟨b, o + k * 6 + 1 + 2, none⟩) hn q3
      have r4 := hb1.cell (p := ⟨b, o + k * 6 + 1 + 3, none⟩) hn q4
      have r5 := hb1.cell (p := ⟨b, o + k * 6 + 1 + 4, none⟩) hn q5
      have hb2 := hb.trans hb1
      have hrv1 := hb1.rv hrv
      have HJ : Hid (VC (dv k) ∧ (dv k).ok ∧ RV (fun b => b ≠ cb) w1 (dv k) x1 y1 ∧ Besides cb w w1 ∧ ∀ j, j < k → (dv j).small) := ⟨HV, hk1, hrv1, hb2, hsm⟩
      clear HH HV hk1 hrv q1 q2 q3 q4 q5 hb1 hb2 hrv1 hsm hb e0 hf' hc' hc hf
      by_cases hbig : 2147483647 < m' + 1 + ((ky k).size : Int)
      · go_wp2
        go_ret
        exact ⟨true, rfl, HJ.out.2.2.2.1, hf1, _, hc1, fun h => by cases h⟩
      · go_wp2_with fail
        obtain ⟨HV, hk1, hrv, hb2, hsm⟩ := HJ.out
        refine (HV cb (m' + 1 + ((ky k).size : Int)) left x1 y1 w1 (by omega) (by omega) h2 h3 hk1 hrv hc1 hf1).mono ?_
        rintro e w2 ⟨r, rfl, hb3, hf3, m3, hc3, hm3⟩
        cases r with
        | true =>
          go_wp2
          go_ret
          exact ⟨true, rfl, hb2.trans hb3, hf3, _, hc3, fun h => by cases h⟩
        | false =>
          obtain ⟨hm31, hm32, hm33, hm34⟩ := hm3 rfl
          have HM2 : Hid (m + (sumN (fun i => (ky i).size + (dv i).s.size) (k + 1) : Nat) ≤ m3) := (show m + ((sumN (fun i => (ky i).size + (dv i).s.size) k + ((ky k).size + (dv k).s.size) : Nat) : Int) ≤ m3 by have := HMS.out; omega)
          clear hm34
          have HK : Hid (Besides cb w w2 ∧ (dv k).small ∧ ∀ j, j < k → (dv j).small) := ⟨hb2.trans hb3, hm33, hsm⟩
          clear HJ HV hk1 hrv hb2 hsm hb3 hm3 hm33 r1 r2 r3 r4 r5 hc1 hf1
          go_wp2
          go_roundw
          case rel =>
            obtain ⟨hb4, hs1, hs2⟩ := HK.out
            refine ⟨k + 1, m3, by omega, by go_num, hb4, hf3, hc3, by omega, HM2, hm32, fun j hj => ?_⟩
            rcases Nat.lt_succ_iff_lt_or_eq.1 hj with h | rfl
            · exact hs2 j h
            · exact hs1
          case measure => simp [intOf]; omega
    · obtain rfl : k = dn := by omega
      clear hr
      go_wp2
      go_ret
      exact ⟨false, rfl, hb, hf', m', hc', fun _ => ⟨by omega, hm', ⟨by omega, hsm⟩, HMS.out⟩⟩
theorem cell_alloc_old {w : World} {o : Obj} {p : Addr} {v : Value} (h : w.cell? p = some v) : (w.alloc o).cell? p = some v :=
  (World.cell?_of_block (w := w) (Below.heap_alloc w o p.block (World.block_lt_of_cell? w p h))).trans h
theorem frozen_alloc_old {w : World} {o : Obj} {p : Addr} {v : Value} (h : w.cell? p = some v) : (w.alloc o).frozen? p = w.frozen? p :=
  World.frozen?_of_block (w := w) (Below.heap_alloc w o p.block (World.block_lt_of_cell? w p h))
set_option maxHeartbeats 1000000 in
theorem value18 (t : T) : VC t := by
  induction t with
  | no => intro cb m left x y w _ _ _ _ _ h; exact h.elim
  | mk k n s ln l dn ky dv il id =>
    intro cb m left x y w h0 h1 h2 h3 hok hr hc hf
    obtain ⟨ok1, ok2, ok3, ok4, ok5⟩ := hok
    have hcb : cb < w.heap.size := World.block_lt_of_cell? w _ hc
    obtain ⟨hL, hD⟩ := hr
    obtain ⟨a, ca, rfl, hL⟩ := hL
    show Calls Tryz.prog 33 #[_, .agg #[.int .i64 k, .int .i64 n, .string s, .slice a ln ca, y], _] w _
    go_enter Tryz.func33, Tryz.ntmps33
    go_wp2_with fail
    refine (add30 cb m s.size _ h0 h1 (by omega) (by omega) (cell_alloc_old hc) ((frozen_alloc_old hc).trans hf)).mono ?_
    rintro e w1 ⟨rfl, hb1, hc1, hf1⟩
    have hvb : w.heap.size ≠ cb := by omega
    have e3 := hb1.cell (p := ⟨w.heap.size, 3, none⟩) (v := .slice a ln ca) hvb (by go_simp)
    have e4 := hb1.cell (p := ⟨w.heap.size, 4, none⟩) (v := y) hvb (by go_simp)
    have HB : Hid (Besides cb w w1) := (Besides.alloc cb w _).trans hb1
    have HI : Hid ((∀ i, VC (l i)) ∧ (∀ i, VC (dv i)) ∧ (∀ i, i < ln → (l i).ok) ∧ (∀ i, i < dn → (ky i).size ≤ 140737488351232 ∧ (dv i).ok) ∧ RD (fun b => b ≠ cb) w dn ky dv y ∧ (ln = 0 ∨ ∃ b o, a = some ⟨b, o, none⟩ ∧ b ≠ cb ∧ b < w.heap.size ∧ ∀ i, i < ln → ∃ x' y', RV (fun b => b ≠ cb) w (l i) x' y' ∧ five w b (o + i * 5) (l i) x' y')) := ⟨il, id, ok4, ok5, hD, hL⟩
    clear il id ok4 ok5 hD hL hb1 hc hf
    generalize hh : w.heap.size = vb at *
    have HH : Hid (w.heap.size = vb) := hh
    clear hh
    by_cases hbig : left = 0 ∨ 2147483647 < m + 1 + (s.size : Int)
    · rcases hbig with h | h
      · subst h
        go_wp2
        go_ret
        exact ⟨true, rfl, HB.out, hf1, _, hc1, fun h => by cases h⟩
      · go_wp2
        all_goals go_ret
        all_goals exact ⟨true, rfl, HB.out, hf1, _, hc1, fun h => by cases h⟩
    have hl0 : 0 < left := by omega
    have hl1 : (left == 0) = false := by simp; omega
    have hnb : m + 1 + (s.size : Int) ≤ 2147483647 := by omega
    clear hbig
    go_wp2
    go_loopw [8] (fun i wr => ∃ (j : Nat) (m' : Int), j ≤ ln ∧ i = .int .i64 j ∧ Hid (Besides cb w wr) ∧ wr.cell? ⟨vb, 3, none⟩ = some (.slice a ln ca) ∧ wr.cell? ⟨vb, 4, none⟩ = some y ∧ wr.frozen? ⟨cb, 0, none⟩ = false ∧ wr.cell? ⟨cb, 0, none⟩ = some (.int .i64 m') ∧ m + 1 + (s.size : Int) + j ≤ m' ∧ m' ≤ 2147483647 ∧ Hid (∀ i, i < j → (l i).small)) (fun i _ => ln - (intOf i).toNat)
    case atStart => exact ⟨0, _, Nat.zero_le _, rfl, HB, e3, e4, hf1, hc1, by omega, by omega, fun i hi => absurd hi (Nat.not_lt_zero _)⟩
    case round =>
      clear e3 e4 hf1 hc1 HB
      obtain ⟨j, m', hj, rfl, hb, e3, e4, hf', hc', hm, hm', hsm⟩ := hrel
      obtain ⟨il, id, ok4, ok5, hD, hL⟩ := HI.out
      by_cases hlt : j < ln
      · rcases hL with h | ⟨b, o, rfl, hn, hbl, hL⟩
        · omega
        obtain ⟨x1, y1, hv, g1, g2, g3, g4, g5⟩ := hL j hlt
        have hv' := hb.out.rv hv
        have r1 := hb.out.cell (p := ⟨b, o + j * 5, none⟩) hn g1
        have r2 := hb.out.cell (p := ⟨b, o + j * 5 + 1, none⟩) hn g2
        have r3 := hb.out.cell (p := ⟨b, o + j * 5 + 2, none⟩) hn g3
        have r4 := hb.out.cell (p := ⟨b, o + j * 5 + 3, none⟩) hn g4
        have r5 := hb.out.cell (p := ⟨b, o + j * 5 + 4, none⟩) hn g5
        have HV : Hid (VC (l j) ∧ (l j).ok ∧ RV (fun b => b ≠ cb) _ (l j) x1 y1) := ⟨il j, ok4 j hlt, hv'⟩
        clear il id ok4 ok5 hD hL hv hv' g1 g2 g3 g4 g5
        go_wp2_with fail
        refine (HV.out.1 cb m' (left - 1) x1 y1 _ (by omega) hm' (by omega) (by omega) HV.out.2.1 HV.out.2.2 hc' hf').mono ?_
        rintro e w2 ⟨r, rfl, hb3, hf3, m3, hc3, hm3⟩
        cases r with
        | true =>
          go_wp2
          go_ret
          exact ⟨true, rfl, hb.out.trans hb3, hf3, _, hc3, fun h => by cases h⟩
        | false =>
          obtain ⟨hm31, hm32, hm33, -⟩ := hm3 rfl
          have e3' := hb3.cell (p := ⟨vb, 3, none⟩) hvb e3
          have e4' := hb3.cell (p := ⟨vb, 4, none⟩) hvb e4
          have HK : Hid (Besides cb w w2 ∧ (l j).small) := ⟨hb.out.trans hb3, hm33⟩
          clear HV hb hb3 hm3 hm33 r1 r2 r3 r4 r5 e3 e4 hf' hc'
          go_wp2
          go_roundw
          case rel =>
            obtain ⟨hb4, hs1⟩ := HK.out
            refine ⟨j + 1, m3, by omega, by go_num, hb4, e3', e4', hf3, hc3, by omega, hm32, fun i hi => ?_⟩
            rcases Nat.lt_succ_iff_lt_or_eq.1 hi with h | rfl
            · exact hsm.out i h
            · exact hs1
          case measure => simp [intOf]; omega
      · obtain rfl : j = ln := by omega
        clear hL
        have HD := RD.keep (fun _ h => h) hb.out.size (fun b hn hbl => hb.out.block b hbl hn) hD
        have HE : Hid ((∀ i, VC (dv i)) ∧ (∀ i, i < dn → (ky i).size ≤ 140737488351232 ∧ (dv i).ok) ∧ RD (fun b => b ≠ cb) _ dn ky dv y) := ⟨id, ok5, HD⟩
        clear il id ok4 ok5 hD HD
        go_wp2_with fail
        refine (pairs31 cb m' (left - 1) dn ky dv (fun i _ => HE.out.1 i) y _ (by omega) hm' (by omega) (by omega) HE.out.2.1 ok3 HE.out.2.2 hc' hf').mono ?_
        rintro e w2 ⟨r, rfl, hb3, hf3, m3, hc3, hm3⟩
        go_wp2
        go_ret
        refine ⟨r, rfl, hb.out.trans hb3, hf3, m3, hc3, fun h => ?_⟩
        obtain ⟨q1, q2, ⟨q3, q4⟩, -⟩ := hm3 h
        exact ⟨by omega, q2, ⟨by omega, q3, hsm.out, q4⟩, (show m + 1 + (s.size : Int) ≤ m3 by omega)⟩

end Go.Proofs.YtnpcbcfjnhjmmaaGreatDoor
namespace Go.Proofs.YtnpcbcfjnhjmmaaGreatDoor
open Go.RowKit Go.Deep
theorem Below.cellS {B : Nat} {w w' : World} (h : Below B w w') {p : Addr} {v : Value} (hB : w.heap.size ≤ B) (hc : w.cell? p = some v) : w'.cell? p = some v :=
  (h.cell (Nat.lt_of_lt_of_le (World.block_lt_of_cell? w p hc) hB)).trans hc
theorem Below.rv {B : Nat} {w w' : World} (h : Below B w w') (hB : w.heap.size ≤ B) {S : Nat → Prop} {t : T} {x y : Value} (g : RV S w t x y) : RV (fun _ => True) w' t x y :=
  RV.lift h.size (fun b hb => h.block b (Nat.lt_of_lt_of_le hb hB)) (fun _ _ => trivial) _ _ _ g
def CC (t : T) : Prop := ∀ (x y : Value) (w : World), t.ok → t.small → RV (fun _ => True) w t x y →
  Calls Tryz.prog 42 #[vv t x y] w fun e w' => ∃ x' y', e = .returned (vv t x' y') ∧ RV (fun b => w.heap.size ≤ b) w' t x' y' ∧ Below w.heap.size w w'
/-- the cells of one value -/
def cv (t : T) (x y : Value) : List Value := [.int .i64 t.k, .int .i64 t.n, .string t.s, x, y]
/-- the cells of a row of values -/
def rowL (l : Nat → T) (X Y : Nat → Value) (j : Nat) : List Value := (List.range j).flatMap fun i => cv (l i) (X i) (Y i)
def rowD (ky : Nat → ByteArray) (l : Nat → T) (X Y : Nat → Value) (j : Nat) : List Value := (List.range j).flatMap fun i => .string (ky i) :: cv (l i) (X i) (Y i)
/-- a function turned at one place -/
def upd (X : Nat → Value) (j : Nat) (x : Value) : Nat → Value := fun i => if i = j then x else X i
theorem upd_lt {X : Nat → Value} {j i : Nat} {x : Value} (h : i < j) : upd X j x i = X i := by unfold upd; rw [if_neg (by omega)]
theorem upd_eq {X : Nat → Value} {j : Nat} {x : Value} : upd X j x j = x := by unfold upd; rw [if_pos rfl]
theorem rowL_succ (l : Nat → T) (X Y : Nat → Value) (j : Nat) (x y : Value) : rowL l (upd X j x) (upd Y j y) (j + 1) = rowL l X Y j ++ cv (l j) x y := by
  unfold rowL
  rw [List.range_succ, List.flatMap_append, flatMap_congr_range (g := fun i => cv (l i) (X i) (Y i)) (fun i hi => by rw [upd_lt hi, upd_lt hi])]
  simp [upd_eq]
theorem rowD_succ (ky : Nat → ByteArray) (l : Nat → T) (X Y : Nat → Value) (j : Nat) (x y : Value) : rowD ky l (upd X j x) (upd Y j y) (j + 1) = rowD ky l X Y j ++ (.string (ky j) :: cv (l j) x y) := by
  unfold rowD
  rw [List.range_succ, List.flatMap_append, flatMap_congr_range (g := fun i => .string (ky i) :: cv (l i) (X i) (Y i)) (fun i hi => by rw [upd_lt hi, upd_lt hi])]
  simp [upd_eq]
/-- what a loop of Copy has laid so far -/
def LInv (B : Nat) (wr : World) (l : Nat → T) (j : Nat) (lv : Value) : Prop :=
  ∃ X Y, wr.ownsRow B 39 5 lv j (rowL l X Y j) ∧ ∀ i, i < j → RV (fun b => B ≤ b ∧ lv.ownBlock ≠ some b) wr (l i) (X i) (Y i)
def DInv (B : Nat) (wr : World) (ky : Nat → ByteArray) (l : Nat → T) (j : Nat) (lv : Value) : Prop :=
  ∃ X Y, wr.ownsRow B 41 6 lv j (rowD ky l X Y j) ∧ ∀ i, i < j → RV (fun b => B ≤ b ∧ lv.ownBlock ≠ some b) wr (l i) (X i) (Y i)
/-- a block of five cells -/
def obj (w : World) (b : Nat) (c0 c1 c2 c3 c4 : Value) : Prop := w.heap[b]? = some (.cells #[c0, c1, c2, c3, c4] 39 (0, 0))
theorem obj.cells {w : World} {b : Nat} {c0 c1 c2 c3 c4 : Value} (h : obj w b c0 c1 c2 c3 c4) :
    w.cell? ⟨b, 0, none⟩ = some c0 ∧ w.cell? ⟨b, 1, none⟩ = some c1 ∧ w.cell? ⟨b, 2, none⟩ = some c2 ∧ w.cell? ⟨b, 3, none⟩ = some c3 ∧ w.cell? ⟨b, 4, none⟩ = some c4 := by
  unfold obj at h
  refine ⟨?_, ?_, ?_, ?_, ?_⟩ <;> simp [World.cell?, h]
theorem obj.frozen {w : World} {b : Nat} {c0 c1 c2 c3 c4 : Value} (h : obj w b c0 c1 c2 c3 c4) (i : Nat) : w.frozen? ⟨b, i, none⟩ = false := by
  unfold obj at h
  simp [World.frozen?, h]
theorem obj.set0 {w : World} {b : Nat} {c0 c1 c2 c3 c4 : Value} (h : obj w b c0 c1 c2 c3 c4) (u : Value) : obj (w.setCell ⟨b, 0, none⟩ u) b u c1 c2 c3 c4 := by
  unfold obj at h ⊢
  simp [World.setCell, Array.getElem?_modify, h]
theorem obj.set1 {w : World} {b : Nat} {c0 c1 c2 c3 c4 : Value} (h : obj w b c0 c1 c2 c3 c4) (u : Value) : obj (w.setCell ⟨b, 1, none⟩ u) b c0 u c2 c3 c4 := by
  unfold obj at h ⊢
  simp [World.setCell, Array.getElem?_modify, h]
theorem obj.set2 {w : World} {b : Nat} {c0 c1 c2 c3 c4 : Value} (h : obj w b c0 c1 c2 c3 c4) (u : Value) : obj (w.setCell ⟨b, 2, none⟩ u) b c0 c1 u c3 c4 := by
  unfold obj at h ⊢
  simp [World.setCell, Array.getElem?_modify, h]
theorem obj.set3 {w : World} {b : Nat} {c0 c1 c2 c3 c4 : Value} (h : obj w b c0 c1 c2 c3 c4) (u : Value) : obj (w.setCell ⟨b, 3, none⟩ u) b c0 c1 c2 u c4 := by
  unfold obj at h ⊢
  simp [World.setCell, Array.getElem?_modify, h]
theorem obj.set4 {w : World} {b : Nat} {c0 c1 c2 c3 c4 : Value} (h : obj w b c0 c1 c2 c3 c4) (u : Value) : obj (w.setCell ⟨b, 4, none⟩ u) b c0 c1 c2 c3 u := by
  unfold obj at h ⊢
  simp [World.setCell, Array.getElem?_modify, h]
theorem obj.keep {w w' : World} {b : Nat} {c0 c1 c2 c3 c4 : Value} (h : obj w b c0 c1 c2 c3 c4) (hb : w'.heap[b]? = w.heap[b]?) : obj w' b c0 c1 c2 c3 c4 := hb.trans h
theorem obj.lt {w : World} {b : Nat} {c0 c1 c2 c3 c4 : Value} (h : obj w b c0 c1 c2 c3 c4) : b < w.heap.size := (Array.getElem?_eq_some_iff.1 h).1
theorem info25 : (Tryz.prog.info? 39).map (fun i => (i.zero, i.size, i.bytes)) = some (some (.agg #[.int .i64 0, .int .i64 0, .string ByteArray.empty, .slice none 0 0, .slice none 0 0]), 5, 80) := by kernel_rfl
theorem grown_of_below {w w' : World} (h : Below w.heap.size w w') : w.grownBy w' .none := ⟨h.os, h.tape, h.output, h.size, fun k hk _ => h.block k hk⟩
theorem grown_setCell (w : World) (p : Addr) (u : Value) : w.grownBy (w.setCell p u) (some p.block) := ⟨rfl, rfl, rfl, by simp [World.setCell], fun k _ hn => Below.heap_setCell _ _ _ _ (fun e => hn (by rw [e]))⟩
theorem owns_ne {w : World} {B : Nat} {e : TypeId} {sz : Nat} {v : Value} {n : Nat} {xs : List Value} (h : w.ownsRow B e sz v n xs) {b : Nat} (hb : b < B) : v.ownBlock = Option.none ∨ v.ownBlock ≠ some b := by
  cases hv : v.ownBlock with
  | none => exact .inl rfl
  | some q =>
    refine .inr fun e => ?_
    have e' : q = b := by simpa using e
    have := (h.lt q hv).1
    omega
/-- the elements so far, behind one more -/
theorem rows_step {B : Nat} {wr w2 W w3 : World} {p : Addr} {u lv : Value} {g n cap : Nat} (hB : B ≤ wr.heap.size) (hlv : ∀ k, lv.ownBlock = some k → k < wr.heap.size) (hb2 : Below wr.heap.size wr w2) (hW : Below w2.heap.size w2 W) (hgrow : W.grownBy w3 lv.ownBlock)
    (hat : lv.ownBlock = some g ∨ g = W.heap.size) (hp : p.block < B) :
    (∀ t x y, RV (fun b => B ≤ b ∧ lv.ownBlock ≠ some b) wr t x y → RV (fun b => B ≤ b ∧ (Value.slice (some ⟨g, 0, none⟩) n cap).ownBlock ≠ some b) (w3.setCell p u) t x y) ∧
    (∀ t x y, RV (fun b => wr.heap.size ≤ b) w2 t x y → RV (fun b => B ≤ b ∧ (Value.slice (some ⟨g, 0, none⟩) n cap).ownBlock ≠ some b) (w3.setCell p u) t x y) := by
  have hsz : w2.heap.size ≤ w3.heap.size := Nat.le_trans hW.size hgrow.size
  have hse : (w3.setCell p u).heap.size = w3.heap.size := by simp [World.setCell]
  have e0 : (Value.slice (some ⟨g, 0, none⟩) n cap).ownBlock = some g := rfl
  have blk : ∀ b, B ≤ b → b < w2.heap.size → lv.ownBlock ≠ some b → (w3.setCell p u).heap[b]? = w2.heap[b]? := by
    intro b h1 h2 h3
    rw [Below.heap_setCell _ _ _ _ (by omega), hgrow.block b (Nat.lt_of_lt_of_le h2 hW.size) (fun e => h3 e.symm), hW.block b h2]
  have gne : ∀ b, b < w2.heap.size → lv.ownBlock ≠ some b → (some g : Option Nat) ≠ some b := by
    intro b h1 h2 e
    cases e
    rcases hat with h | h
    · exact h2 h
    · have := hW.size; omega
  constructor
  · intro t x y h
    refine RV.move (fun b hb hl => ⟨hb.1, e0 ▸ gne b (Nat.lt_of_lt_of_le hl hb2.size) hb.2⟩) (hse ▸ Nat.le_trans hb2.size hsz) (fun b hb hl => ?_) t x y h
    rw [blk b hb.1 (Nat.lt_of_lt_of_le hl hb2.size) hb.2, hb2.block b hl]
  · intro t x y h
    have hne : ∀ b, wr.heap.size ≤ b → lv.ownBlock ≠ some b := fun b h1 e => by have := hlv b e; omega
    exact RV.move (fun b hb hl => ⟨Nat.le_trans hB hb, e0 ▸ gne b hl (hne b hb)⟩) (hse ▸ hsz) (fun b hb hl => blk b (Nat.le_trans hB hb) hl (hne b hb)) t x y h
/-- between the calls nothing of it turns -/
theorem LInv.keep {B : Nat} {wr w' : World} {l : Nat → T} {j : Nat} {lv : Value} (h : LInv B wr l j lv) (hb : Below wr.heap.size wr w') : LInv B w' l j lv := by
  obtain ⟨X, Y, h1, h2⟩ := h
  exact ⟨X, Y, h1.kept (grown_of_below hb) (by cases hv : lv.ownBlock with | none => exact .inl rfl | some k => exact .inr (by simp)), fun i hi => RV.move (fun b h _ => h) hb.size (fun b _ hl => hb.block b hl) _ _ _ (h2 i hi)⟩
theorem ownForm {w : World} {B : Nat} {e : TypeId} {sz : Nat} {v : Value} {n : Nat} {xs : List Value} (h : w.ownsRow B e sz v n xs) : ∃ a c, v = .slice a n c := by
  rcases h.2 with ⟨rfl, rfl⟩ | ⟨g, cap, cur, rfl, _⟩
  · exact ⟨_, _, rfl⟩
  · exact ⟨_, _, rfl⟩
theorem heap_new (w : World) (o : Obj) : (w.alloc o).heap[w.heap.size]? = some o := by show (w.heap.push o)[w.heap.size]? = _; simp
theorem grown_cell {W w4 : World} {row : Option Nat} {p : Addr} {v : Value} (hg : W.grownBy w4 row) (hc : W.cell? p = some v) (hne : some p.block ≠ row) : w4.cell? p = some v :=
  (World.cell?_of_block (w := W) (hg.block p.block (World.block_lt_of_cell? W p hc) hne)).trans hc
theorem grown_frozen {W w4 : World} {row : Option Nat} {p : Addr} {v : Value} (hg : W.grownBy w4 row) (hc : W.cell? p = some v) (hf : W.frozen? p = false) (hne : some p.block ≠ row) : w4.frozen? p = false :=
  (World.frozen?_of_block (w := W) (hg.block p.block (World.block_lt_of_cell? W p hc) hne)).trans hf
theorem info42 : (Tryz.prog.info? 41).map (fun i => (i.zero, i.size, i.bytes)) = some (some (.agg #[.string ByteArray.empty, .int .i64 0, .int .i64 0, .string ByteArray.empty, .slice none 0 0, .slice none 0 0]), 6, 96) := by kernel_rfl
theorem rowL_len (l : Nat → T) (X Y : Nat → Value) (j : Nat) : (rowL l X Y j).length = j * 5 := by
  unfold rowL
  induction j with
  | zero => rfl
  | succ j ih => rw [List.range_succ, List.flatMap_append, List.length_append, ih]; simp [cv]; omega
theorem rowD_len (ky : Nat → ByteArray) (l : Nat → T) (X Y : Nat → Value) (j : Nat) : (rowD ky l X Y j).length = j * 6 := by
  unfold rowD
  induction j with
  | zero => rfl
  | succ j ih => rw [List.range_succ, List.flatMap_append, List.length_append, ih]; simp [cv]; omega
theorem rowL_get (l : Nat → T) (X Y : Nat → Value) (i r : Nat) (hr : r < 5) : ∀ j, i < j → (rowL l X Y j)[i * 5 + r]? = (cv (l i) (X i) (Y i))[r]? := by
  intro j
  induction j with
  | zero => intro h; omega
  | succ j ih =>
    intro h
    have e : rowL l X Y (j + 1) = rowL l X Y j ++ cv (l j) (X j) (Y j) := by unfold rowL; rw [List.range_succ, List.flatMap_append]; simp
    rw [e]
    by_cases hij : i = j
    · subst hij
      rw [List.getElem?_append_right (by rw [rowL_len]; omega), rowL_len]
      congr 1; omega
    · rw [List.getElem?_append_left (by rw [rowL_len]; omega)]
      exact ih (by omega)
theorem rowD_get (ky : Nat → ByteArray) (l : Nat → T) (X Y : Nat → Value) (i r : Nat) (hr : r < 6) : ∀ j, i < j → (rowD ky l X Y j)[i * 6 + r]? = (.string (ky i) :: cv (l i) (X i) (Y i))[r]? := by
  intro j
  induction j with
  | zero => intro h; omega
  | succ j ih =>
    intro h
    have e : rowD ky l X Y (j + 1) = rowD ky l X Y j ++ (.string (ky j) :: cv (l j) (X j) (Y j)) := by unfold rowD; rw [List.range_succ, List.flatMap_append]; simp
    rw [e]
    by_cases hij : i = j
    · subst hij
      rw [List.getElem?_append_right (by rw [rowD_len]; omega), rowD_len]
      congr 1; omega
    · rw [List.getElem?_append_left (by rw [rowD_len]; omega)]
      exact ih (by omega)
/-- the finished list reads as it should -/
theorem LInv.rl {B : Nat} {w w' : World} {l : Nat → T} {ln : Nat} {lv : Value} {S : Nat → Prop} (h : LInv B w l ln lv) (hs : w.heap.size ≤ w'.heap.size) (hb : ∀ b, B ≤ b → b < w.heap.size → w'.heap[b]? = w.heap[b]?) (hS : ∀ b, B ≤ b → S b) : RL S w' ln l lv := by
  obtain ⟨X, Y, hown, hel⟩ := h
  rcases hown.2 with ⟨rfl, rfl⟩ | ⟨g, cap, cur, rfl, hg1, hg2, _⟩
  · exact ⟨_, _, rfl, .inl rfl⟩
  have hg : g < w.heap.size := (Array.getElem?_eq_some_iff.1 hg2).1
  refine ⟨_, _, rfl, .inr ⟨g, 0, rfl, hS g hg1, Nat.lt_of_lt_of_le hg hs, fun i hi => ⟨X i, Y i, RV.move (fun b hb' _ => hS b hb'.1) hs (fun b hb' hl => hb b hb'.1 hl) _ _ _ (hel i hi), ?_⟩⟩⟩
  have c : ∀ r, r < 5 → w'.cell? ⟨g, i * 5 + r, none⟩ = (cv (l i) (X i) (Y i))[r]? := fun r hr => by
    rw [World.cell?_of_block (w := w) (a := ⟨g, i * 5 + r, none⟩) (hb g hg1 hg), hown.cellAt (i * 5 + r) (by omega), rowL_get _ _ _ _ _ hr _ hi]
  have c0 := c 0 (by omega)
  have c1 := c 1 (by omega)
  have c2 := c 2 (by omega)
  have c3 := c 3 (by omega)
  have c4 := c 4 (by omega)
  simp only [cv, Nat.add_zero] at c0 c1 c2 c3 c4
  simp only [Nat.zero_add]
  exact ⟨c0, c1, c2, c3, c4⟩
theorem DInv.rd {B : Nat} {w w' : World} {ky : Nat → ByteArray} {l : Nat → T} {dn : Nat} {dl : Value} {S : Nat → Prop} (h : DInv B w ky l dn dl) (hs : w.heap.size ≤ w'.heap.size) (hb : ∀ b, B ≤ b → b < w.heap.size → w'.heap[b]? = w.heap[b]?) (hS : ∀ b, B ≤ b → S b) : RD S w' dn ky l dl := by
  obtain ⟨X, Y, hown, hel⟩ := h
  rcases hown.2 with ⟨rfl, rfl⟩ | ⟨g, cap, cur, rfl, hg1, hg2, _⟩
  · exact ⟨_, _, rfl, .inl rfl⟩
  have hg : g < w.heap.size := (Array.getElem?_eq_some_iff.1 hg2).1
  refine ⟨_, _, rfl, .inr ⟨g, 0, rfl, hS g hg1, Nat.lt_of_lt_of_le hg hs, fun i hi => ⟨X i, Y i, RV.move (fun b hb' _ => hS b hb'.1) hs (fun b hb' hl => hb b hb'.1 hl) _ _ _ (hel i hi), ?_⟩⟩⟩
  have c : ∀ r, r < 6 → w'.cell? ⟨g, i * 6 + r, none⟩ = (.string (ky i) :: cv (l i) (X i) (Y i))[r]? := fun r hr => by
    rw [World.cell?_of_block (w := w) (a := ⟨g, i * 6 + r, none⟩) (hb g hg1 hg), hown.cellAt (i * 6 + r) (by omega), rowD_get _ _ _ _ _ _ hr _ hi]
  have c0 := c 0 (by omega)
  have c1 := c 1 (by omega)
  have c2 := c 2 (by omega)
  have c3 := c 3 (by omega)
  have c4 := c 4 (by omega)
  have c5 := c 5 (by omega)
  simp only [cv, Nat.add_zero] at c0 c1 c2 c3 c4 c5
  simp only [Nat.zero_add]
  exact ⟨c0, c1, c2, c3, c4, c5⟩
theorem info25s : (Tryz.prog.info? 39).map (·.size) = some 5 := by kernel_rfl
theorem besides5 (w : World) (b : Nat) (c0 c1 c2 c3 c4 : Value) : Besides b w (((((w.setCell ⟨b, 0, none⟩ c0).setCell ⟨b, 1, none⟩ c1).setCell ⟨b, 2, none⟩ c2).setCell ⟨b, 3, none⟩ c3).setCell ⟨b, 4, none⟩ c4) :=
  ((((Besides.setCell w ⟨b, 0, none⟩ c0).trans (Besides.setCell _ ⟨b, 1, none⟩ c1)).trans (Besides.setCell _ ⟨b, 2, none⟩ c2)).trans (Besides.setCell _ ⟨b, 3, none⟩ c3)).trans (Besides.setCell _ ⟨b, 4, none⟩ c4)
end Go.Proofs.YtnpcbcfjnhjmmaaGreatDoor
namespace Go.Proofs.YtnpcbcfjnhjmmaaGreatDoor
open Go.RowKit Go.Deep
/-- the elements so far, behind one more -/
theorem rows_step0 {B : Nat} {wr w2 W w3 : World} {lv : Value} {g n cap : Nat} (hB : B ≤ wr.heap.size) (hlv : ∀ k, lv.ownBlock = some k → k < wr.heap.size) (hb2 : Below wr.heap.size wr w2) (hW : Below w2.heap.size w2 W) (hgrow : W.grownBy w3 lv.ownBlock)
    (hat : lv.ownBlock = some g ∨ g = W.heap.size) :
    (∀ t x y, RV (fun b => B ≤ b ∧ lv.ownBlock ≠ some b) wr t x y → RV (fun b => B ≤ b ∧ (Value.slice (some ⟨g, 0, none⟩) n cap).ownBlock ≠ some b) w3 t x y) ∧
    (∀ t x y, RV (fun b => wr.heap.size ≤ b) w2 t x y → RV (fun b => B ≤ b ∧ (Value.slice (some ⟨g, 0, none⟩) n cap).ownBlock ≠ some b) w3 t x y) := by
  have hsz : w2.heap.size ≤ w3.heap.size := Nat.le_trans hW.size hgrow.size
  have e0 : (Value.slice (some ⟨g, 0, none⟩) n cap).ownBlock = some g := rfl
  have blk : ∀ b, B ≤ b → b < w2.heap.size → lv.ownBlock ≠ some b → w3.heap[b]? = w2.heap[b]? := by
    intro b h1 h2 h3
    rw [hgrow.block b (Nat.lt_of_lt_of_le h2 hW.size) (fun e => h3 e.symm), hW.block b h2]
  have gne : ∀ b, b < w2.heap.size → lv.ownBlock ≠ some b → (some g : Option Nat) ≠ some b := by
    intro b h1 h2 e
    cases e
    rcases hat with h | h
    · exact h2 h
    · have := hW.size; omega
  constructor
  · intro t x y h
    refine RV.move (fun b hb hl => ⟨hb.1, e0 ▸ gne b (Nat.lt_of_lt_of_le hl hb2.size) hb.2⟩) (Nat.le_trans hb2.size hsz) (fun b hb hl => ?_) t x y h
    rw [blk b hb.1 (Nat.lt_of_lt_of_le hl hb2.size) hb.2, hb2.block b hl]
  · intro t x y h
    have hne : ∀ b, wr.heap.size ≤ b → lv.ownBlock ≠ some b := fun b h1 e => by have := hlv b e; omega
    exact RV.move (fun b hb hl => ⟨Nat.le_trans hB hb, e0 ▸ gne b hl (hne b hb)⟩) hsz (fun b hb hl => blk b (Nat.le_trans hB hb) hl (hne b hb)) t x y h
set_option maxHeartbeats 2000000 in
theorem pairsTwin (dn : Nat) (ky : Nat → ByteArray) (dv : Nat → T) (ih : ∀ i, i < dn → CC (dv i)) (y : Value) (w : World) (hdn : dn ≤ 2147483647) (hos : ∀ i, i < dn → (dv i).ok ∧ (dv i).small) (hr : RD (fun _ => True) w dn ky dv y) :
    Calls Tryz.prog 24 #[y] w fun e w' => ∃ y', e = .returned y' ∧ RD (fun b => w.heap.size ≤ b) w' dn ky dv y' ∧ Below w.heap.size w w' := by
  obtain ⟨a, ca, rfl, hD⟩ := hr
  obtain ⟨i0, hi, hz0, hz1, hz2⟩ := info_parts info42
  have HI : Hid ((∀ i, i < dn → CC (dv i)) ∧ (∀ i, i < dn → (dv i).ok ∧ (dv i).small) ∧ (dn = 0 ∨ ∃ b o, a = some ⟨b, o, none⟩ ∧ True ∧ b < w.heap.size ∧ ∀ i, i < dn → ∃ x' y', RV (fun _ => True) w (dv i) x' y' ∧ w.cell? ⟨b, o + i * 6, none⟩ = some (.string (ky i)) ∧ five w b (o + i * 6 + 1) (dv i) x' y')) := ⟨ih, hos, hD⟩
  clear ih hos hD
  go_enter Tryz.func24, Tryz.ntmps24
  go_wp2
  go_loopw [3, 4] (fun v i wr => ∃ (j : Nat) (la : Option Addr) (lc : Nat), j ≤ dn ∧ i = .int .i64 j ∧ v = .slice la j lc ∧ Hid (Below w.heap.size w wr ∧ DInv w.heap.size wr ky dv j v)) (fun _ i _ => dn - (intOf i).toNat)
  case atStart => exact ⟨0, none, 0, Nat.zero_le _, rfl, rfl, (⟨Below.refl _ _, fun _ => .slice .none 0 0, fun _ => .slice .none 0 0, World.ownsRow_nil _ _ _ _, fun i hi => absurd hi (Nat.not_lt_zero _)⟩ : Below w.heap.size w _ ∧ DInv w.heap.size _ ky dv 0 _)⟩
  case round =>
    obtain ⟨j2, la, lc, hj2, rfl, rfl, hinv⟩ := hrel
    by_cases hlt2 : j2 < dn
    · obtain ⟨id, ok5, hD⟩ := HI.out
      rcases hD with h | ⟨b, o, rfl, _, hbl, hD⟩
      · omega
      obtain ⟨x1, y1, hv, g0, g1, g2, g3, g4, g5⟩ := hD j2 hlt2
      have hle : w.heap.size ≤ w.heap.size := Nat.le_refl _
      have hc := hinv.out.1
      replace g0 := Below.cellS hc hle g0
      replace g1 := Below.cellS hc hle g1
      replace g2 := Below.cellS hc hle g2
      replace g3 := Below.cellS hc hle g3
      replace g4 := Below.cellS hc hle g4
      replace g5 := Below.cellS hc hle g5
      have HV : Hid (CC (dv j2) ∧ ((dv j2).ok ∧ (dv j2).small) ∧ RV (fun _ => True) wr (dv j2) x1 y1) := ⟨id j2 hlt2, ok5 j2 hlt2, Below.rv hc hle hv⟩
      clear id ok5 hD hv hle hc
      go_wp2_with fail
      refine (HV.out.1 x1 y1 wr HV.out.2.1.1 HV.out.2.1.2 HV.out.2.2).mono ?_
      rintro e w2 ⟨x2, y2, rfl, hrv, hb2⟩
      obtain ⟨hbs, X, Y, hown, hel⟩ := hinv.out
      have g0' := Below.cellS hb2 (Nat.le_refl _) g0
      obtain ⟨⟨xa, xn, xc, rfl⟩, ⟨ya, yn, yc, rfl⟩⟩ := hrv.slices
      have hlt4 : w.heap.size ≤ wr.heap.size := hbs.size
      have hown2 := hown.kept (grown_of_below hb2) (by cases hv : (Value.slice la j2 lc).ownBlock with | none => exact .inl rfl | some q => exact .inr (by simp))
      have HQ : Hid (RV (fun b => wr.heap.size ≤ b) w2 (dv j2) (.slice xa xn xc) (.slice ya yn yc) ∧ Below wr.heap.size wr w2 ∧ Below w.heap.size w wr ∧ ∀ i, i < j2 → RV (fun b => w.heap.size ≤ b ∧ (Value.slice la j2 lc).ownBlock ≠ some b) wr (dv i) (X i) (Y i)) := ⟨hrv, hb2, hbs, hel⟩
      clear hrv hel hinv hbs g0 g1 g2 g3 g4 g5 HV
      have hsz2 := hb2.size
      clear hb2
      unfold vv
      go_wp2_with fail
      have hx : obj (w2.alloc (Obj.cells #[.int .i64 (dv j2).k, .int .i64 (dv j2).n, .string (dv j2).s, .slice xa xn xc, .slice ya yn yc] 39)) w2.heap.size (.int .i64 (dv j2).k) (.int .i64 (dv j2).n) (.string (dv j2).s) (.slice xa xn xc) (.slice ya yn yc) := heap_new _ _
      replace g0' := cell_alloc_old (o := (Obj.cells #[.int .i64 (dv j2).k, .int .i64 (dv j2).n, .string (dv j2).s, .slice xa xn xc, .slice ya yn yc] 39)) g0'
      have hown3 := hown2.alloc (Obj.cells #[.int .i64 (dv j2).k, .int .i64 (dv j2).n, .string (dv j2).s, .slice xa xn xc, .slice ya yn yc] 39)
      have hB3 : Below w2.heap.size w2 (w2.alloc (Obj.cells #[.int .i64 (dv j2).k, .int .i64 (dv j2).n, .string (dv j2).s, .slice xa xn xc, .slice ya yn yc] 39)) := (Below.refl _ _).alloc (Nat.le_refl _) _
      obtain ⟨hx0, hx1, hx2, hx3, hx4⟩ := hx.cells
      generalize w2.alloc (Obj.cells #[.int .i64 (dv j2).k, .int .i64 (dv j2).n, .string (dv j2).s, .slice xa xn xc, .slice ya yn yc] 39) = w3 at *
      clear hx hown2
      have hj0 : (0 : Int) ≤ (j2 : Int) := by omega
      have hj1 : (j2 : Int) < (dn : Int) := by omega
      go_region_law (refine step_append_lies _ (by rfl) (.tmp 18) (.tmp 26) 26 (by rfl) w.heap.size 41 i0 _ 6 96 Tryz.underlying26 hi hz0 hz1 hz2 rfl (by omega) (.slice la j2 lc) j2 (rowD ky dv X Y j2) (by simp [Act.eval]) (by exact (hown3.alloc _)) ⟨w3.heap.size, 0, none⟩ 1 1 (.string (ky j2) :: cv (dv j2) (.slice xa xn xc) (.slice ya yn yc)) (by simp [Act.eval]) rfl (by exact World.news_of_block (B := w3.heap.size) (heap_new w3 _)) (by intro u hu; simp [cv] at hu; rcases hu with rfl | rfl | rfl | rfl | rfl | rfl <;> rfl) (by omega) (by unfold maxLen; omega) (by omega) (by have := hB3.size; simp; omega) (w3.heap.size + 1) (by simp) ?_; intro g cap w4 hown4 hgrow hat hlt4')
      all_goals
        have hWb : Below w2.heap.size w2 (w3.alloc (Obj.cells #[.string (ky j2), .int .i64 (dv j2).k, .int .i64 (dv j2).n, .string (dv j2).s, .slice xa xn xc, .slice ya yn yc] 41)) := hB3.alloc hB3.size _
        have hgr : (w3.alloc (Obj.cells #[.string (ky j2), .int .i64 (dv j2).k, .int .i64 (dv j2).n, .string (dv j2).s, .slice xa xn xc, .slice ya yn yc] 41)).grownBy w4 (Value.slice la j2 lc).ownBlock := ⟨hgrow.os, hgrow.tape, hgrow.output, hgrow.size, hgrow.block⟩
        have HN : Hid (Below w.heap.size w w4 ∧ DInv w.heap.size w4 ky dv (j2 + 1) (.slice (some ⟨g, 0, none⟩) (j2 + 1) cap)) := by
          obtain ⟨hrv, hb2, hbs, hel⟩ := HQ.out
          have hlo := fun q (hq : (Value.slice la j2 lc).ownBlock = some q) => (hown.lt q hq)
          have st := rows_step0 (n := j2 + 1) (cap := cap) hlt4 (fun q hq => (hlo q hq).2) hb2 hWb hgr (by rcases hat with h | h; exact .inl h; exact .inr (by simpa using h))
          have s3 := hWb.size
          have h9 : Below w.heap.size w w4 := (((hbs.trans (hb2.mono hlt4)).trans (hWb.mono (by omega))).grown hgr (by omega) (fun q hq => (hlo q hq).1))
          have h8 : DInv w.heap.size w4 ky dv (j2 + 1) (.slice (some ⟨g, 0, none⟩) (j2 + 1) cap) := by
            refine ⟨upd X j2 (.slice xa xn xc), upd Y j2 (.slice ya yn yc), by rw [rowD_succ]; exact hown4, fun i hi => ?_⟩
            rcases Nat.lt_succ_iff_lt_or_eq.1 hi with h | rfl
            · rw [upd_lt h, upd_lt h]; exact st.1 _ _ _ (hel i h)
            · rw [upd_eq, upd_eq]; exact st.2 _ _ _ hrv
          exact (⟨h9, h8⟩ : Below w.heap.size w w4 ∧ DInv w.heap.size w4 ky dv (j2 + 1) (.slice (some ⟨g, 0, none⟩) (j2 + 1) cap))
        clear HQ hown hown3 hown4 hgrow hgr hat hlt4' hWb hx0 hx1 hx2 hx3 hx4 g0' hB3
        go_wp2
        go_roundw
        case rel => exact ⟨j2 + 1, _, _, by omega, by go_num, rfl, HN⟩
        case measure => simp [intOf]; omega
    · obtain rfl : j2 = dn := by omega
      obtain ⟨hbs, hD⟩ := hinv.out
      have HR : Hid (RD (fun b => w.heap.size ≤ b) wr j2 ky dv (.slice la j2 lc)) := hD.rd (Nat.le_refl _) (fun _ _ _ => rfl) (fun _ h => h)
      have HB : Hid (Below w.heap.size w wr) := hbs
      clear hinv hbs hD
      go_wp2
      go_ret
      exact ⟨_, rfl, HR.out, HB.out⟩
end Go.Proofs.YtnpcbcfjnhjmmaaGreatDoor
