import Derived.Test.YtbnnfpjgjieaeaaDoorCk
import Derived.Deep.Cut
import Derived.Deep.CutRange
namespace Go.Proofs.YtbnnfpjgjieaeaaDoor
open Go.RowKit
def asksB (k : Int) : Bool := k == 6 || k == 8
def queryB (k : Int) : Bool := decide (21 ≤ k) && decide (k ≤ 23)
def numB (n : Int) : Bool := decide (0 ≤ n) && decide (n ≤ 4294967295)
def knownB (k : Int) : Bool := (decide (0 ≤ k) && decide (k ≤ 8)) || (decide (21 ≤ k) && decide (k ≤ 23))
theorem asksT (w : World) (k : Int) : Calls Tryd.prog 40 #[.int .i64 k] w fun e w' => e = .returned (.bool (asksB k)) ∧ w' = w := by
  by_cases h1 : k = 6
  · subst h1
    go_enter Tryd.func40, Tryd.ntmps40
    go_wp2
    go_ret
    exact ⟨rfl, rfl⟩
  · go_enter Tryd.func40, Tryd.ntmps40
    go_wp2
    go_ret
    exact ⟨rfl, rfl⟩
theorem queryT (w : World) (k : Int) : Calls Tryd.prog 42 #[.int .i64 k] w fun e w' => e = .returned (.bool (queryB k)) ∧ w' = w := by
  by_cases h1 : 21 ≤ k
  · rw [show queryB k = decide (k ≤ 23) by simp [queryB, h1]]
    go_enter Tryd.func42, Tryd.ntmps42
    go_wp2
    go_ret
    exact ⟨rfl, rfl⟩
  · rw [show queryB k = false by simp [queryB, h1]]
    go_enter Tryd.func42, Tryd.ntmps42
    go_wp2
    go_ret
    exact ⟨rfl, rfl⟩
theorem numT (w : World) (k : Int) : Calls Tryd.prog 89 #[.int .i64 k] w fun e w' => e = .returned (.bool (numB k)) ∧ w' = w := by
  by_cases h1 : 0 ≤ k
  · rw [show numB k = decide (k ≤ 4294967295) by simp [numB, h1]]
    go_enter Tryd.func89, Tryd.ntmps89
    go_wp2
    go_ret
    exact ⟨rfl, rfl⟩
  · rw [show numB k = false by simp [numB, h1]]
    go_enter Tryd.func89, Tryd.ntmps89
    go_wp2
    go_ret
    exact ⟨rfl, rfl⟩
theorem knownT (w : World) (k : Int) : Calls Tryd.prog 57 #[.int .i64 k] w fun e w' => e = .returned (.bool (knownB k)) ∧ w' = w := by
  by_cases h1 : 0 ≤ k
  · by_cases h2 : k ≤ 8
    · rw [show knownB k = true by simp [knownB, h1, h2]]
      go_enter Tryd.func57, Tryd.ntmps57
      go_wp2
      go_ret
      exact ⟨rfl, rfl⟩
    · by_cases h3 : 21 ≤ k
      · rw [show knownB k = decide (k ≤ 23) by simp [knownB, h2, h3]]
        go_enter Tryd.func57, Tryd.ntmps57
        go_wp2
        go_ret
        exact ⟨rfl, rfl⟩
      · rw [show knownB k = false by simp [knownB, h2, h3]]
        go_enter Tryd.func57, Tryd.ntmps57
        go_wp2
        go_ret
        exact ⟨rfl, rfl⟩
  · have h3 : ¬ 21 ≤ k := by omega
    rw [show knownB k = false by simp [knownB, h1, h3]]
    go_enter Tryd.func57, Tryd.ntmps57
    go_wp2
    go_ret
    exact ⟨rfl, rfl⟩
def fc1 (m : Mv) (A Q : Bool) : Bool := m.i != 0 && m.k != 4 && m.k != 7 && m.k != 1000 && !A && !Q
def fc2 (m : Mv) (A : Bool) : Bool := m.b != 0 && m.k != 7 && !A
def fc3 (m : Mv) (A Q : Bool) : Bool := m.l != 0 && !A && !Q
def fc4 (m : Mv) (nd : Nat) : Bool := decide (0 < nd) && m.k != 5 && m.k != 7 && m.k != 1000
def fc5 (m : Mv) (Q : Bool) : Bool := (m.r != zr 32 || m.ba != 0 || m.pr != 0) && !Q
def fc6 (m : Mv) (nh : Nat) : Bool := decide (0 < nh) && m.k != 22
def fR (m : Mv) : Bool := fc1 m (asksB m.k) (queryB m.k) || fc2 m (asksB m.k) || fc3 m (asksB m.k) (queryB m.k) || fc4 m (sln m.d) || fc5 m (queryB m.k) || fc6 m (sln m.h)
set_option maxHeartbeats 2000000 in
set_option maxRecDepth 100000 in
theorem rforeignT (w : World) (m : Mv) (ok : m.ok) : Calls Tryd.prog 58 #[.agg m.cs] w fun e w' => e = .returned (.bool (fR m)) ∧ Below w.heap.size w w' := by
  have hm : MB (w.alloc (.cells m.cs 47)) w.heap.size m := heapNew w _
  have HB : Hid (Below w.heap.size w (w.alloc (.cells m.cs 47))) := (Below.refl _ _).alloc (Nat.le_refl _) _
  have hA := fun u => asksT u m.k
  have hQ := fun u => queryT u m.k
  obtain ⟨ad, nd, cd, hd⟩ := ok.d
  obtain ⟨ah, nh, ch, hh⟩ := ok.h
  have HR : Hid (fR m = (fc1 m (asksB m.k) (queryB m.k) || fc2 m (asksB m.k) || fc3 m (asksB m.k) (queryB m.k) || fc4 m nd || fc5 m (queryB m.k) || fc6 m nh)) := by
    unfold Hid fR; rw [hd, hh]; rfl
  generalize asksB m.k = bA at *
  generalize queryB m.k = bQ at *
  have c0 := hm.c0
  have c1 := hm.c1
  have c2 := hm.c2
  have c3 := hm.c3
  have c37 := hm.c37 ok
  have c38 := hm.c38 ok
  have c4 := hm.c4
  have c39 := hm.c39 ok
  rw [hd] at c4
  rw [hh] at c39
  have hrt := hm.root
  have hih : (Tryd.prog.info? 44).map (·.size) = some (Lib.byteCells m.r).length := by rw [bcl_len, ok.r]; exact info_hash
  have hne : ∀ u : World, (Op.equalIn 10000 44 (.agg (bc m.r)) (.agg #[Value.int .u8 0, Value.int .u8 0, Value.int .u8 0, Value.int .u8 0, Value.int .u8 0, Value.int .u8 0, Value.int .u8 0, Value.int .u8 0, Value.int .u8 0, Value.int .u8 0, Value.int .u8 0, Value.int .u8 0, Value.int .u8 0, Value.int .u8 0, Value.int .u8 0, Value.int .u8 0, Value.int .u8 0, Value.int .u8 0, Value.int .u8 0, Value.int .u8 0, Value.int .u8 0, Value.int .u8 0, Value.int .u8 0, Value.int .u8 0, Value.int .u8 0, Value.int .u8 0, Value.int .u8 0, Value.int .u8 0, Value.int .u8 0, Value.int .u8 0, Value.int .u8 0, Value.int .u8 0])).run Tryd.prog u = .ok (decide (m.r = zr 32)) u := fun u => equal_hash u 9998 m.r (zr 32) ok.r (zr_len 32)
  change ∀ u : World, (Op.equalIn 10000 44 (.agg (Lib.byteCells m.r).toArray) (.agg #[Value.int .u8 0, Value.int .u8 0, Value.int .u8 0, Value.int .u8 0, Value.int .u8 0, Value.int .u8 0, Value.int .u8 0, Value.int .u8 0, Value.int .u8 0, Value.int .u8 0, Value.int .u8 0, Value.int .u8 0, Value.int .u8 0, Value.int .u8 0, Value.int .u8 0, Value.int .u8 0, Value.int .u8 0, Value.int .u8 0, Value.int .u8 0, Value.int .u8 0, Value.int .u8 0, Value.int .u8 0, Value.int .u8 0, Value.int .u8 0, Value.int .u8 0, Value.int .u8 0, Value.int .u8 0, Value.int .u8 0, Value.int .u8 0, Value.int .u8 0, Value.int .u8 0, Value.int .u8 0])).run Tryd.prog u = .ok (decide (m.r = zr 32)) u at hne
  clear hm hd hh ok
  generalize m.cs = mcs at *
  go_enter Tryd.func58, Tryd.ntmps58
  go_upto_region 2 with fail
  generalize w.alloc (.cells mcs 47) = w0 at *
  go_cut [3, 30] from 4 (fun s3 s wc => s3 = .int .i64 m.k ∧ s = .bool (fc1 m bA bQ) ∧ w0 = wc)
  case first =>
    by_cases q1 : m.i = 0
    · go_wp2_with (first | (go_at_call 40; refine (hA _).mono ?_; rintro e w' ⟨rfl, rfl⟩) | (go_at_call 42; refine (hQ _).mono ?_; rintro e w' ⟨rfl, rfl⟩) | (refine wpList_load_mid rfl 44 _ rfl w.heap.size 5 rfl (Lib.byteCells m.r) _ hrt Tryd.underlying44 rfl hih ?_))
      go_meet
      exact ⟨rfl, by first | (simp [fc1]; done) | simp [fc1, q1], rfl⟩
    · by_cases q2 : m.k = 4
      · go_wp2_with (first | (go_at_call 40; refine (hA _).mono ?_; rintro e w' ⟨rfl, rfl⟩) | (go_at_call 42; refine (hQ _).mono ?_; rintro e w' ⟨rfl, rfl⟩) | (refine wpList_load_mid rfl 44 _ rfl w.heap.size 5 rfl (Lib.byteCells m.r) _ hrt Tryd.underlying44 rfl hih ?_))
        go_meet
        exact ⟨by rw [q2], by first | (simp [fc1]; done) | simp [fc1, q2], rfl⟩
      · by_cases q3 : m.k = 7
        · go_wp2_with (first | (go_at_call 40; refine (hA _).mono ?_; rintro e w' ⟨rfl, rfl⟩) | (go_at_call 42; refine (hQ _).mono ?_; rintro e w' ⟨rfl, rfl⟩) | (refine wpList_load_mid rfl 44 _ rfl w.heap.size 5 rfl (Lib.byteCells m.r) _ hrt Tryd.underlying44 rfl hih ?_))
          go_meet
          exact ⟨by rw [q3], by first | (simp [fc1]; done) | simp [fc1, q3], rfl⟩
        · by_cases q4 : m.k = 1000
          · go_wp2_with (first | (go_at_call 40; refine (hA _).mono ?_; rintro e w' ⟨rfl, rfl⟩) | (go_at_call 42; refine (hQ _).mono ?_; rintro e w' ⟨rfl, rfl⟩) | (refine wpList_load_mid rfl 44 _ rfl w.heap.size 5 rfl (Lib.byteCells m.r) _ hrt Tryd.underlying44 rfl hih ?_))
            go_meet
            exact ⟨by rw [q4], by first | (simp [fc1]; done) | simp [fc1, q4], rfl⟩
          · cases bA
            · cases bQ
              · go_wp2_with (first | (go_at_call 40; refine (hA _).mono ?_; rintro e w' ⟨rfl, rfl⟩) | (go_at_call 42; refine (hQ _).mono ?_; rintro e w' ⟨rfl, rfl⟩) | (refine wpList_load_mid rfl 44 _ rfl w.heap.size 5 rfl (Lib.byteCells m.r) _ hrt Tryd.underlying44 rfl hih ?_))
                go_meet
                exact ⟨rfl, by first | (simp [fc1]; done) | simp [fc1, q1, q2, q3, q4], rfl⟩
              · go_wp2_with (first | (go_at_call 40; refine (hA _).mono ?_; rintro e w' ⟨rfl, rfl⟩) | (go_at_call 42; refine (hQ _).mono ?_; rintro e w' ⟨rfl, rfl⟩) | (refine wpList_load_mid rfl 44 _ rfl w.heap.size 5 rfl (Lib.byteCells m.r) _ hrt Tryd.underlying44 rfl hih ?_))
                go_meet
                exact ⟨rfl, by first | (simp [fc1]; done) | simp [fc1], rfl⟩
            · go_wp2_with (first | (go_at_call 40; refine (hA _).mono ?_; rintro e w' ⟨rfl, rfl⟩) | (go_at_call 42; refine (hQ _).mono ?_; rintro e w' ⟨rfl, rfl⟩) | (refine wpList_load_mid rfl 44 _ rfl w.heap.size 5 rfl (Lib.byteCells m.r) _ hrt Tryd.underlying44 rfl hih ?_))
              go_meet
              exact ⟨rfl, by first | (simp [fc1]; done) | simp [fc1], rfl⟩
  case rest =>
  obtain ⟨rfl, rfl, rfl⟩ := hcut
  cases b2 : fc1 m bA bQ
  case true =>
    go_wp2
    go_ret
    exact ⟨by rw [HR.out, b2]; simp, HB.out⟩
  case false =>
  have B2 : Hid (fc1 m bA bQ = false) := b2
  clear b2
  go_upto_region 4 with fail
  go_cut [3, 42] from 4 (fun s3 s wc => s3 = .int .i64 m.k ∧ s = .bool (fc2 m bA) ∧ w0 = wc)
  case first =>
    by_cases q1 : m.b = 0
    · go_wp2_with (first | (go_at_call 40; refine (hA _).mono ?_; rintro e w' ⟨rfl, rfl⟩) | (go_at_call 42; refine (hQ _).mono ?_; rintro e w' ⟨rfl, rfl⟩) | (refine wpList_load_mid rfl 44 _ rfl w.heap.size 5 rfl (Lib.byteCells m.r) _ hrt Tryd.underlying44 rfl hih ?_))
      go_meet
      exact ⟨rfl, by first | (simp [fc2]; done) | simp [fc2, q1], rfl⟩
    · by_cases q2 : m.k = 7
      · go_wp2_with (first | (go_at_call 40; refine (hA _).mono ?_; rintro e w' ⟨rfl, rfl⟩) | (go_at_call 42; refine (hQ _).mono ?_; rintro e w' ⟨rfl, rfl⟩) | (refine wpList_load_mid rfl 44 _ rfl w.heap.size 5 rfl (Lib.byteCells m.r) _ hrt Tryd.underlying44 rfl hih ?_))
        go_meet
        exact ⟨by rw [q2], by first | (simp [fc2]; done) | simp [fc2, q2], rfl⟩
      · cases bA
        · go_wp2_with (first | (go_at_call 40; refine (hA _).mono ?_; rintro e w' ⟨rfl, rfl⟩) | (go_at_call 42; refine (hQ _).mono ?_; rintro e w' ⟨rfl, rfl⟩) | (refine wpList_load_mid rfl 44 _ rfl w.heap.size 5 rfl (Lib.byteCells m.r) _ hrt Tryd.underlying44 rfl hih ?_))
          go_meet
          exact ⟨rfl, by first | (simp [fc2]; done) | simp [fc2, q1, q2], rfl⟩
        · go_wp2_with (first | (go_at_call 40; refine (hA _).mono ?_; rintro e w' ⟨rfl, rfl⟩) | (go_at_call 42; refine (hQ _).mono ?_; rintro e w' ⟨rfl, rfl⟩) | (refine wpList_load_mid rfl 44 _ rfl w.heap.size 5 rfl (Lib.byteCells m.r) _ hrt Tryd.underlying44 rfl hih ?_))
          go_meet
          exact ⟨rfl, by first | (simp [fc2]; done) | simp [fc2], rfl⟩
  case rest =>
  obtain ⟨rfl, rfl, rfl⟩ := hcut
  cases b4 : fc2 m bA
  case true =>
    go_wp2
    go_ret
    exact ⟨by rw [HR.out, b4]; simp, HB.out⟩
  case false =>
  have B4 : Hid (fc2 m bA = false) := b4
  clear b4
  go_upto_region 6 with fail
  go_cut [3, 55] from 4 (fun s3 s wc => s3 = .int .i64 m.k ∧ s = .bool (fc3 m bA bQ) ∧ w0 = wc)
  case first =>
    by_cases q1 : m.l = 0
    · go_wp2_with (first | (go_at_call 40; refine (hA _).mono ?_; rintro e w' ⟨rfl, rfl⟩) | (go_at_call 42; refine (hQ _).mono ?_; rintro e w' ⟨rfl, rfl⟩) | (refine wpList_load_mid rfl 44 _ rfl w.heap.size 5 rfl (Lib.byteCells m.r) _ hrt Tryd.underlying44 rfl hih ?_))
      go_meet
      exact ⟨rfl, by first | (simp [fc3]; done) | simp [fc3, q1], rfl⟩
    · cases bA
      · cases bQ
        · go_wp2_with (first | (go_at_call 40; refine (hA _).mono ?_; rintro e w' ⟨rfl, rfl⟩) | (go_at_call 42; refine (hQ _).mono ?_; rintro e w' ⟨rfl, rfl⟩) | (refine wpList_load_mid rfl 44 _ rfl w.heap.size 5 rfl (Lib.byteCells m.r) _ hrt Tryd.underlying44 rfl hih ?_))
          go_meet
          exact ⟨rfl, by first | (simp [fc3]; done) | simp [fc3, q1], rfl⟩
        · go_wp2_with (first | (go_at_call 40; refine (hA _).mono ?_; rintro e w' ⟨rfl, rfl⟩) | (go_at_call 42; refine (hQ _).mono ?_; rintro e w' ⟨rfl, rfl⟩) | (refine wpList_load_mid rfl 44 _ rfl w.heap.size 5 rfl (Lib.byteCells m.r) _ hrt Tryd.underlying44 rfl hih ?_))
          go_meet
          exact ⟨rfl, by first | (simp [fc3]; done) | simp [fc3], rfl⟩
      · go_wp2_with (first | (go_at_call 40; refine (hA _).mono ?_; rintro e w' ⟨rfl, rfl⟩) | (go_at_call 42; refine (hQ _).mono ?_; rintro e w' ⟨rfl, rfl⟩) | (refine wpList_load_mid rfl 44 _ rfl w.heap.size 5 rfl (Lib.byteCells m.r) _ hrt Tryd.underlying44 rfl hih ?_))
        go_meet
        exact ⟨rfl, by first | (simp [fc3]; done) | simp [fc3], rfl⟩
  case rest =>
  obtain ⟨rfl, rfl, rfl⟩ := hcut
  cases b6 : fc3 m bA bQ
  case true =>
    go_wp2
    go_ret
    exact ⟨by rw [HR.out, b6]; simp, HB.out⟩
  case false =>
  have B6 : Hid (fc3 m bA bQ = false) := b6
  clear b6
  go_upto_region 8 with fail
  go_cut [3, 71] from 4 (fun s3 s wc => s3 = .int .i64 m.k ∧ s = .bool (fc4 m nd) ∧ w0 = wc)
  case first =>
    by_cases q1 : nd = 0
    · go_wp2_with (first | (go_at_call 40; refine (hA _).mono ?_; rintro e w' ⟨rfl, rfl⟩) | (go_at_call 42; refine (hQ _).mono ?_; rintro e w' ⟨rfl, rfl⟩) | (refine wpList_load_mid rfl 44 _ rfl w.heap.size 5 rfl (Lib.byteCells m.r) _ hrt Tryd.underlying44 rfl hih ?_))
      go_meet
      exact ⟨rfl, by first | (simp [fc4]; done) | simp [fc4, q1], rfl⟩
    · by_cases q2 : m.k = 5
      · go_wp2_with (first | (go_at_call 40; refine (hA _).mono ?_; rintro e w' ⟨rfl, rfl⟩) | (go_at_call 42; refine (hQ _).mono ?_; rintro e w' ⟨rfl, rfl⟩) | (refine wpList_load_mid rfl 44 _ rfl w.heap.size 5 rfl (Lib.byteCells m.r) _ hrt Tryd.underlying44 rfl hih ?_))
        go_meet
        exact ⟨by rw [q2], by first | (simp [fc4]; done) | simp [fc4, q2], rfl⟩
      · by_cases q3 : m.k = 7
        · go_wp2_with (first | (go_at_call 40; refine (hA _).mono ?_; rintro e w' ⟨rfl, rfl⟩) | (go_at_call 42; refine (hQ _).mono ?_; rintro e w' ⟨rfl, rfl⟩) | (refine wpList_load_mid rfl 44 _ rfl w.heap.size 5 rfl (Lib.byteCells m.r) _ hrt Tryd.underlying44 rfl hih ?_))
          go_meet
          exact ⟨by rw [q3], by first | (simp [fc4]; done) | simp [fc4, q3], rfl⟩
        · by_cases q4 : m.k = 1000
          · go_wp2_with (first | (go_at_call 40; refine (hA _).mono ?_; rintro e w' ⟨rfl, rfl⟩) | (go_at_call 42; refine (hQ _).mono ?_; rintro e w' ⟨rfl, rfl⟩) | (refine wpList_load_mid rfl 44 _ rfl w.heap.size 5 rfl (Lib.byteCells m.r) _ hrt Tryd.underlying44 rfl hih ?_))
            go_meet
            exact ⟨by rw [q4], by first | (simp [fc4]; done) | simp [fc4, q4], rfl⟩
          · go_wp2_with (first | (go_at_call 40; refine (hA _).mono ?_; rintro e w' ⟨rfl, rfl⟩) | (go_at_call 42; refine (hQ _).mono ?_; rintro e w' ⟨rfl, rfl⟩) | (refine wpList_load_mid rfl 44 _ rfl w.heap.size 5 rfl (Lib.byteCells m.r) _ hrt Tryd.underlying44 rfl hih ?_))
            go_meet
            exact ⟨rfl, by first | (simp [fc4]; done) | simp [fc4, Nat.pos_of_ne_zero q1], rfl⟩
  case rest =>
  obtain ⟨rfl, rfl, rfl⟩ := hcut
  cases b8 : fc4 m nd
  case true =>
    go_wp2
    go_ret
    exact ⟨by rw [HR.out, b8]; simp, HB.out⟩
  case false =>
  have B8 : Hid (fc4 m nd = false) := b8
  clear b8
  go_upto_region 10 with fail
  go_cut [3, 90] from 4 (fun s3 s wc => s3 = .int .i64 m.k ∧ s = .bool (fc5 m bQ) ∧ w0 = wc)
  case first =>
    by_cases q1 : m.r = zr 32
    · rw [decide_eq_true q1] at hne
      have H1 : Hid (m.r = zr 32) := q1
      clear q1
      by_cases q2 : m.ba = 0
      · by_cases q3 : m.pr = 0
        · go_wp2_with (first | (go_at_call 40; refine (hA _).mono ?_; rintro e w' ⟨rfl, rfl⟩) | (go_at_call 42; refine (hQ _).mono ?_; rintro e w' ⟨rfl, rfl⟩) | (refine wpList_load_mid rfl 44 _ rfl w.heap.size 5 rfl (Lib.byteCells m.r) _ hrt Tryd.underlying44 rfl hih ?_))
          go_meet
          exact ⟨rfl, by first | (simp [fc5]; done) | simp [fc5, H1.out, q2, q3], rfl⟩
        · cases bQ
          · go_wp2_with (first | (go_at_call 40; refine (hA _).mono ?_; rintro e w' ⟨rfl, rfl⟩) | (go_at_call 42; refine (hQ _).mono ?_; rintro e w' ⟨rfl, rfl⟩) | (refine wpList_load_mid rfl 44 _ rfl w.heap.size 5 rfl (Lib.byteCells m.r) _ hrt Tryd.underlying44 rfl hih ?_))
            go_meet
            exact ⟨rfl, by first | (simp [fc5]; done) | simp [fc5, H1.out, q3], rfl⟩
          · go_wp2_with (first | (go_at_call 40; refine (hA _).mono ?_; rintro e w' ⟨rfl, rfl⟩) | (go_at_call 42; refine (hQ _).mono ?_; rintro e w' ⟨rfl, rfl⟩) | (refine wpList_load_mid rfl 44 _ rfl w.heap.size 5 rfl (Lib.byteCells m.r) _ hrt Tryd.underlying44 rfl hih ?_))
            go_meet
            exact ⟨rfl, by first | (simp [fc5]; done) | simp [fc5, H1.out], rfl⟩
      · cases bQ
        · go_wp2_with (first | (go_at_call 40; refine (hA _).mono ?_; rintro e w' ⟨rfl, rfl⟩) | (go_at_call 42; refine (hQ _).mono ?_; rintro e w' ⟨rfl, rfl⟩) | (refine wpList_load_mid rfl 44 _ rfl w.heap.size 5 rfl (Lib.byteCells m.r) _ hrt Tryd.underlying44 rfl hih ?_))
          go_meet
          exact ⟨rfl, by first | (simp [fc5]; done) | simp [fc5, H1.out, q2], rfl⟩
        · go_wp2_with (first | (go_at_call 40; refine (hA _).mono ?_; rintro e w' ⟨rfl, rfl⟩) | (go_at_call 42; refine (hQ _).mono ?_; rintro e w' ⟨rfl, rfl⟩) | (refine wpList_load_mid rfl 44 _ rfl w.heap.size 5 rfl (Lib.byteCells m.r) _ hrt Tryd.underlying44 rfl hih ?_))
          go_meet
          exact ⟨rfl, by first | (simp [fc5]; done) | simp [fc5, H1.out], rfl⟩
    · rw [decide_eq_false q1] at hne
      cases bQ
      · go_wp2_with (first | (go_at_call 40; refine (hA _).mono ?_; rintro e w' ⟨rfl, rfl⟩) | (go_at_call 42; refine (hQ _).mono ?_; rintro e w' ⟨rfl, rfl⟩) | (refine wpList_load_mid rfl 44 _ rfl w.heap.size 5 rfl (Lib.byteCells m.r) _ hrt Tryd.underlying44 rfl hih ?_))
        go_meet
        exact ⟨rfl, by first | (simp [fc5]; done) | simp [fc5, q1], rfl⟩
      · go_wp2_with (first | (go_at_call 40; refine (hA _).mono ?_; rintro e w' ⟨rfl, rfl⟩) | (go_at_call 42; refine (hQ _).mono ?_; rintro e w' ⟨rfl, rfl⟩) | (refine wpList_load_mid rfl 44 _ rfl w.heap.size 5 rfl (Lib.byteCells m.r) _ hrt Tryd.underlying44 rfl hih ?_))
        go_meet
        exact ⟨rfl, by first | (simp [fc5]; done) | simp [fc5, q1], rfl⟩
  case rest =>
  obtain ⟨rfl, rfl, rfl⟩ := hcut
  cases b10 : fc5 m bQ
  case true =>
    go_wp2
    go_ret
    exact ⟨by rw [HR.out, b10]; simp, HB.out⟩
  case false =>
  have B10 : Hid (fc5 m bQ = false) := b10
  clear b10
  have HF : Hid (fR m = (decide (0 < nh) && m.k != 22)) := by
    unfold Hid; rw [HR.out, B2.out, B4.out, B6.out, B8.out, B10.out]; rfl
  by_cases q1 : nh = 0
  · go_wp2
    go_ret
    exact ⟨by rw [HF.out]; simp [q1], HB.out⟩
  · have q1' : 0 < nh := Nat.pos_of_ne_zero q1
    go_wp2
    go_ret
    exact ⟨by rw [HF.out]; simp [q1'], HB.out⟩
end Go.Proofs.YtbnnfpjgjieaeaaDoor
