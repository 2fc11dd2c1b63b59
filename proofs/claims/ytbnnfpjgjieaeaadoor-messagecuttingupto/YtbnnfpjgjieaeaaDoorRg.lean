import Derived.Test.YtbnnfpjgjieaeaaDoorRv
namespace Go.Proofs.YtbnnfpjgjieaeaaDoor
open Go.RowKit
def fd1 (m : Mv) : Bool := !(numB m.i && numB m.b && numB m.l && numB m.ba && numB m.pr)
def fd2 (m : Mv) (A : Bool) : Bool := A && (decide (m.l < 1) || decide (16384 < m.l))
def fd3 (m : Mv) : Bool := m.k != 1000 || (decide (64 ≤ m.i) && decide (m.i ≤ 255))
def fdR (m : Mv) : Bool := !fd1 m && !fd2 m (asksB m.k) && fd3 m
set_option maxHeartbeats 2000000 in
set_option maxRecDepth 100000 in
theorem rfieldsT (w : World) (m : Mv) (ok : m.ok) : Calls Tryd.prog 59 #[.agg m.cs] w fun e w' => e = .returned (.bool (fdR m)) ∧ Below w.heap.size w w' := by
  have hm : MB (w.alloc (.cells m.cs 47)) w.heap.size m := heapNew w _
  have HB : Hid (Below w.heap.size w (w.alloc (.cells m.cs 47))) := (Below.refl _ _).alloc (Nat.le_refl _) _
  have hA := fun u => asksT u m.k
  have HR : Hid (fdR m = (!fd1 m && !fd2 m (asksB m.k) && fd3 m)) := rfl
  generalize asksB m.k = bA at *
  have c0 := hm.c0
  have c1 := hm.c1
  have c2 := hm.c2
  have c3 := hm.c3
  have c37 := hm.c37 ok
  have c38 := hm.c38 ok
  clear hm ok
  generalize m.cs = mcs at *
  go_enter Tryd.func59, Tryd.ntmps59
  go_upto_region 1 with fail
  generalize w.alloc (.cells mcs 47) = w0 at *
  go_cut [30] from 3 (fun s wc => s = .bool (fd1 m) ∧ w0 = wc)
  case first =>
    cases q1 : numB m.i
    · go_wp2_with (first | (go_at_call 40; refine (hA _).mono ?_; rintro e w' ⟨rfl, rfl⟩) | (go_at_call 89; refine (numT _ _).mono ?_; rintro e w' ⟨rfl, rfl⟩))
      go_meet
      exact ⟨by simp [fd1, q1], rfl⟩
    · cases q2 : numB m.b
      · go_wp2_with (first | (go_at_call 40; refine (hA _).mono ?_; rintro e w' ⟨rfl, rfl⟩) | (go_at_call 89; refine (numT _ _).mono ?_; rintro e w' ⟨rfl, rfl⟩))
        go_meet
        exact ⟨by simp [fd1, q2], rfl⟩
      · cases q3 : numB m.l
        · go_wp2_with (first | (go_at_call 40; refine (hA _).mono ?_; rintro e w' ⟨rfl, rfl⟩) | (go_at_call 89; refine (numT _ _).mono ?_; rintro e w' ⟨rfl, rfl⟩))
          go_meet
          exact ⟨by simp [fd1, q3], rfl⟩
        · cases q4 : numB m.ba
          · go_wp2_with (first | (go_at_call 40; refine (hA _).mono ?_; rintro e w' ⟨rfl, rfl⟩) | (go_at_call 89; refine (numT _ _).mono ?_; rintro e w' ⟨rfl, rfl⟩))
            go_meet
            exact ⟨by simp [fd1, q4], rfl⟩
          · cases q5 : numB m.pr
            · go_wp2_with (first | (go_at_call 40; refine (hA _).mono ?_; rintro e w' ⟨rfl, rfl⟩) | (go_at_call 89; refine (numT _ _).mono ?_; rintro e w' ⟨rfl, rfl⟩))
              go_meet
              exact ⟨by simp [fd1, q5], rfl⟩
            · go_wp2_with (first | (go_at_call 40; refine (hA _).mono ?_; rintro e w' ⟨rfl, rfl⟩) | (go_at_call 89; refine (numT _ _).mono ?_; rintro e w' ⟨rfl, rfl⟩))
              go_meet
              exact ⟨by simp [fd1, q1, q2, q3, q4, q5], rfl⟩
  case rest =>
  obtain ⟨rfl, rfl⟩ := hcut
  cases b1 : fd1 m
  case true =>
    go_wp2
    go_ret
    exact ⟨by rw [HR.out, b1]; rfl, HB.out⟩
  case false =>
  have B1 : Hid (fd1 m = false) := b1
  clear b1
  go_upto_region 3 with fail
  go_cut [43] from 3 (fun s wc => s = .bool (fd2 m bA) ∧ w0 = wc)
  case first =>
    cases bA
    · go_wp2_with (first | (go_at_call 40; refine (hA _).mono ?_; rintro e w' ⟨rfl, rfl⟩) | (go_at_call 89; refine (numT _ _).mono ?_; rintro e w' ⟨rfl, rfl⟩))
      go_meet
      exact ⟨by simp [fd2], rfl⟩
    · by_cases q1 : m.l < 1
      · go_wp2_with (first | (go_at_call 40; refine (hA _).mono ?_; rintro e w' ⟨rfl, rfl⟩) | (go_at_call 89; refine (numT _ _).mono ?_; rintro e w' ⟨rfl, rfl⟩))
        go_meet
        exact ⟨by simp [fd2, q1], rfl⟩
      · go_wp2_with (first | (go_at_call 40; refine (hA _).mono ?_; rintro e w' ⟨rfl, rfl⟩) | (go_at_call 89; refine (numT _ _).mono ?_; rintro e w' ⟨rfl, rfl⟩))
        go_meet
        exact ⟨by simp [fd2], rfl⟩
  case rest =>
  obtain ⟨rfl, rfl⟩ := hcut
  cases b2 : fd2 m bA
  case true =>
    go_wp2
    go_ret
    exact ⟨by rw [HR.out, b2]; simp, HB.out⟩
  case false =>
  have HF : Hid (fdR m = (m.k != 1000 || (decide (64 ≤ m.i) && decide (m.i ≤ 255)))) := by
    unfold Hid; rw [HR.out, B1.out, b2]; rfl
  clear b2
  by_cases q1 : m.k = 1000
  · by_cases q2 : 64 ≤ m.i
    · go_wp2_with (first | (go_at_call 40; refine (hA _).mono ?_; rintro e w' ⟨rfl, rfl⟩) | (go_at_call 89; refine (numT _ _).mono ?_; rintro e w' ⟨rfl, rfl⟩))
      go_ret
      exact ⟨by rw [HF.out]; simp [q1, q2], HB.out⟩
    · go_wp2_with (first | (go_at_call 40; refine (hA _).mono ?_; rintro e w' ⟨rfl, rfl⟩) | (go_at_call 89; refine (numT _ _).mono ?_; rintro e w' ⟨rfl, rfl⟩))
      go_ret
      exact ⟨by rw [HF.out]; simp [q1]; omega, HB.out⟩
  · go_wp2_with (first | (go_at_call 40; refine (hA _).mono ?_; rintro e w' ⟨rfl, rfl⟩) | (go_at_call 89; refine (numT _ _).mono ?_; rintro e w' ⟨rfl, rfl⟩))
    go_ret
    exact ⟨by rw [HF.out]; simp [q1], HB.out⟩
def kE (k : Int) : Bool := k != -1 && k != 1000 && !knownB k
def szb (m : Mv) (nd nh : Nat) : Bool := (m.k == 5 && decide (8192 < nd)) || (m.k == 7 && (decide (nd < 1) || decide (16384 < nd))) || (m.k == 1000 && decide (32767 < nd)) || (m.k == 22 && decide (560 < nh))
/-- what the reference says of a message -/
def refE (m : Mv) : Int := if kE m.k then 110 else if fR m then 113 else if fdR m then (if szb m (sln m.d) (sln m.h) then 111 else 0) else 112
set_option maxHeartbeats 2000000 in
set_option maxRecDepth 100000 in
theorem rValidT (w : World) (m : Mv) (ok : m.ok) : Calls Tryd.prog 39 #[.agg m.cs] w fun e w' => e = .returned (.int .i64 (refE m)) ∧ Below w.heap.size w w' := by
  have hm : MB (w.alloc (.cells m.cs 47)) w.heap.size m := heapNew w _
  have hb0 : Below w.heap.size w (w.alloc (.cells m.cs 47)) := (Below.refl _ _).alloc (Nat.le_refl _) _
  have hlt0 : w.heap.size < (w.alloc (.cells m.cs 47)).heap.size := by simp
  have HB : Hid (MB (w.alloc (.cells m.cs 47)) w.heap.size m ∧ m.ok ∧ Below w.heap.size w (w.alloc (.cells m.cs 47)) ∧ w.heap.size < (w.alloc (.cells m.cs 47)).heap.size) := ⟨hm, ok, hb0, hlt0⟩
  obtain ⟨ad, nd, cd, hd⟩ := ok.d
  obtain ⟨ah, nh, ch, hh⟩ := ok.h
  have HR : Hid (refE m = if kE m.k then 110 else if fR m then 113 else if fdR m then (if szb m nd nh then 111 else 0) else 112) := by
    unfold Hid refE; rw [hd, hh]; rfl
  have HD : Hid (m.d = .slice ad nd cd ∧ m.h = .slice ah nh ch) := ⟨hd, hh⟩
  have c0 := hm.c0
  have hmc := hm.cells
  have him := info_msg ok
  clear hm hd hh ok hb0 hlt0
  generalize hmcs : m.cs = mcs at *
  have HC : Hid (m.cs = mcs) := hmcs
  clear hmcs
  go_enter Tryd.func39, Tryd.ntmps39
  go_upto_region 1 with fail
  generalize w.alloc (.cells mcs 47) = w0 at *
  go_cut [17] from 4 (fun s wc => s = .bool (kE m.k) ∧ w0 = wc)
  case first =>
    by_cases q1 : m.k = -1
    · go_wp2
      go_meet
      exact ⟨by simp [kE, q1], rfl⟩
    · by_cases q2 : m.k = 1000
      · go_wp2
        go_meet
        exact ⟨by simp [kE, q2], rfl⟩
      · go_wp2_with (first | (go_at_call 57; refine (knownT _ _).mono ?_; rintro e w' ⟨rfl, rfl⟩))
        go_meet
        exact ⟨by first | (simp [kE]; done) | simp [kE, q1, q2], rfl⟩
  case rest =>
  obtain ⟨rfl, rfl⟩ := hcut
  cases b1 : kE m.k
  case true =>
    go_wp2
    go_ret
    exact ⟨by rw [HR.out, b1]; rfl, HB.out.2.2.1⟩
  case false =>
  have B1 : Hid (kE m.k = false) := b1
  clear b1
  go_wp2_with (first | (refine wpList_load_row rfl 47 _ rfl w.heap.size rfl 47 mcs (0, 0) _ hmc Tryd.underlying47 rfl him ?_))
  rw [← HC.out]
  refine (rforeignT w0 m HB.out.2.1).mono ?_
  rintro e w1 ⟨rfl, x1⟩
  have HX : Hid (MB w1 w.heap.size m ∧ Below w.heap.size w w1 ∧ w.heap.size < w1.heap.size) := ⟨HB.out.1.below x1, HB.out.2.2.1.trans (x1.mono (Nat.le_of_lt HB.out.2.2.2)), Nat.lt_of_lt_of_le HB.out.2.2.2 x1.size⟩
  clear x1 hmc c0
  have hmc := HX.out.1.cells
  cases b2 : fR m
  case true =>
    go_wp2
    go_ret
    exact ⟨by rw [HR.out, B1.out, b2]; rfl, HX.out.2.1⟩
  case false =>
  have B2 : Hid (fR m = false) := b2
  clear b2
  rw [← HC.out] at him
  go_wp2_with (first | (refine wpList_load_row rfl 47 _ rfl w.heap.size rfl 47 m.cs (0, 0) _ hmc Tryd.underlying47 rfl him ?_))
  refine (rfieldsT w1 m HB.out.2.1).mono ?_
  rintro e w2 ⟨rfl, x2⟩
  have HY : Hid (MB w2 w.heap.size m ∧ Below w.heap.size w w2) := ⟨HX.out.1.below x2, HX.out.2.1.trans (x2.mono (Nat.le_of_lt HX.out.2.2))⟩
  clear x2 hmc
  cases b3 : fdR m
  case false =>
    go_wp2
    go_ret
    exact ⟨by rw [HR.out, B1.out, B2.out, b3]; rfl, HY.out.2⟩
  case true =>
  have HF : Hid (refE m = if szb m nd nh then 111 else 0) := by unfold Hid; rw [HR.out, B1.out, B2.out, b3]; rfl
  clear b3
  have c0 := HY.out.1.c0
  have c4 := HY.out.1.c4
  have c39 := HY.out.1.c39 HB.out.2.1
  rw [HD.out.1] at c4
  rw [HD.out.2] at c39
  generalize m.cs = mcs2
  by_cases q5 : m.k = 5
  · by_cases p : 8192 < nd
    · go_wp2
      go_ret
      exact ⟨by rw [HF.out]; simp [szb, q5, p], HY.out.2⟩
    · go_wp2
      go_ret
      exact ⟨by rw [HF.out]; simp [szb, q5, p], HY.out.2⟩
  · by_cases q7 : m.k = 7
    · by_cases p : nd < 1
      · go_wp2
        go_ret
        exact ⟨by rw [HF.out]; simp [szb, q7, p], HY.out.2⟩
      · by_cases p2 : 16384 < nd
        · go_wp2
          go_ret
          exact ⟨by rw [HF.out]; simp [szb, q7, p2], HY.out.2⟩
        · go_wp2
          go_ret
          exact ⟨by rw [HF.out]; simp [szb, q7, p, p2], HY.out.2⟩
    · by_cases q9 : m.k = 1000
      · by_cases p : 32767 < nd
        · go_wp2
          go_ret
          exact ⟨by rw [HF.out]; simp [szb, q9, p], HY.out.2⟩
        · go_wp2
          go_ret
          exact ⟨by rw [HF.out]; simp [szb, q9, p], HY.out.2⟩
      · by_cases q22 : m.k = 22
        · by_cases p : 560 < nh
          · go_wp2
            go_ret
            exact ⟨by rw [HF.out]; simp [szb, q22, p], HY.out.2⟩
          · go_wp2
            go_ret
            exact ⟨by rw [HF.out]; simp [szb, q22, p], HY.out.2⟩
        · go_wp2
          go_ret
          exact ⟨by rw [HF.out]; simp [szb, q5, q7, q9, q22], HY.out.2⟩
end Go.Proofs.YtbnnfpjgjieaeaaDoor
