import Derived.Test.YtoiehkpmemmldaaDoorUw
namespace Go.Proofs.YtoiehkpmemmldaaDoor
open Go.RowKit
/-- a byte that no name has -/
def bb (n : Nat) : Bool := decide (n < 32) || n == 127 || n == 47 || n == 92
theorem bb_yes {n : Nat} (h : n < 32 ∨ n = 127 ∨ n = 47 ∨ n = 92) : bb n = true := by simp [bb]; omega
theorem bb_no {n : Nat} (h : ¬ n < 32) (h1 : n ≠ 127) (h2 : n ≠ 47) (h3 : n ≠ 92) : bb n = false := by simp [bb, h, h1, h2, h3]
def dot1 : ByteArray := ⟨#[46]⟩
def dot2 : ByteArray := ⟨#[46, 46]⟩
def dots (s : ByteArray) : Bool := s.toList == [46] || s.toList == [46, 46]
/-- a byte ahead of k that no name has -/
def hasB (s : ByteArray) (k : Nat) : Prop := ∃ j, j < k ∧ bb (bt s j) = true
instance (s : ByteArray) (k : Nat) : Decidable (hasB s k) := by unfold hasB; infer_instance
/-- the error of a component -/
def ce (s : ByteArray) : Int :=
  if s.size = 0 then 50 else if 255 < s.size then 51 else if ua s 0 ≠ -1 then 52 else if dots s = true then 53 else if hasB s s.size then 54 else 0
theorem iter_below (w : World) (s : ByteArray) (pos : Nat) : Below w.heap.size w (w.iter s pos) := (Below.refl _ _).alloc (Nat.le_refl _) _
set_option maxRecDepth 100000 in
theorem barred28 (r : Nat) (w : World) :
    Calls Tryd.prog 35 #[.int .i32 r] w fun e w' => e = .returned (.bool (bb r)) ∧ w' = w := by
  by_cases h1 : r < 32
  · have H : Hid (bb r = true) := bb_yes (.inl h1)
    go_enter Tryd.func35, Tryd.ntmps35
    go_wp2
    go_ret
    exact ⟨by rw [H.out]; rfl, rfl⟩
  by_cases h2 : r = 127
  · subst h2
    go_enter Tryd.func35, Tryd.ntmps35
    go_wp2
    go_ret
    exact ⟨rfl, rfl⟩
  by_cases h3 : r = 47
  · subst h3
    go_enter Tryd.func35, Tryd.ntmps35
    go_wp2
    go_ret
    exact ⟨rfl, rfl⟩
  by_cases h4 : r = 92
  · subst h4
    go_enter Tryd.func35, Tryd.ntmps35
    go_wp2
    go_ret
    exact ⟨rfl, rfl⟩
  · have H : Hid (bb r = false) := bb_no h1 h2 h3 h4
    have g2 : ¬ (r : Int) = 127 := by omega
    have g3 : ¬ (r : Int) = 47 := by omega
    have g4 : ¬ (r : Int) = 92 := by omega
    go_enter Tryd.func35, Tryd.ntmps35
    go_wp2
    go_ret
    refine ⟨?_, rfl⟩
    rw [H.out]
    have e : (decide ((r : Int) < 32) || (r : Int) == 127 || (r : Int) == 47 || (r : Int) == 92) = false := by simp; omega
    exact congrArg (fun x => Ending.returned (.bool x)) e
theorem hasB_zero (s : ByteArray) : ¬ hasB s 0 := fun ⟨j, h, _⟩ => by omega
theorem hasB_step {s : ByteArray} {k m : Nat} (h : ¬ hasB s k) (hm : ∀ j, k ≤ j → j < m → bb (bt s j) = false) : ¬ hasB s m := fun ⟨j, h1, h2⟩ => by
  by_cases e : j < k
  · exact h ⟨j, e, h2⟩
  · rw [hm j (by omega) h1] at h2; cases h2
theorem bb_high {n : Nat} (h : 128 ≤ n) : bb n = false := bb_no (by omega) (by omega) (by omega) (by omega)
/-- a sign that is not barred: none of its bytes is -/
theorem sign_free {s : ByteArray} {k : Nat} (h : bb (Utf8.decode s k).1 = false) : ∀ j, k ≤ j → j < k + (Utf8.decode s k).2 → bb (bt s j) = false := by
  intro j a b
  by_cases c : (Utf8.decode s k).1 < 128
  · obtain ⟨e1, e2⟩ := (dec_bytes s k).1 c
    rw [e1] at b
    obtain rfl : j = k := by omega
    rw [← e2]; exact h
  · exact bb_high ((dec_bytes s k).2 (by omega) j a b)
theorem sign_bad {s : ByteArray} {k : Nat} (hk : k < s.size) (h : bb (Utf8.decode s k).1 = true) : hasB s s.size := by
  by_cases c : (Utf8.decode s k).1 < 128
  · obtain ⟨e1, e2⟩ := (dec_bytes s k).1 c
    exact ⟨k, hk, by rw [← e2]; exact h⟩
  · rw [bb_high (by omega)] at h; cases h
theorem ce1 {s : ByteArray} (h : s.size = 0) : ce s = 50 := by simp [ce, h]
theorem ce2 {s : ByteArray} (h : 255 < s.size) : ce s = 51 := by unfold ce; rw [if_neg (by omega), if_pos h]
theorem ce3 {s : ByteArray} (h0 : ¬ s.size = 0) (h1 : ¬ 255 < s.size) (h : ¬ ua s 0 = -1) : ce s = 52 := by unfold ce; rw [if_neg h0, if_neg h1, if_pos h]
theorem ce4 {s : ByteArray} (h0 : ¬ s.size = 0) (h1 : ¬ 255 < s.size) (h : ua s 0 = -1) (hd : dots s = true) : ce s = 53 := by unfold ce; rw [if_neg h0, if_neg h1, if_neg (by simp [h]), if_pos hd]
theorem ce5 {s : ByteArray} (h0 : ¬ s.size = 0) (h1 : ¬ 255 < s.size) (h : ua s 0 = -1) (hd : dots s = false) (hb : hasB s s.size) : ce s = 54 := by
  unfold ce; rw [if_neg h0, if_neg h1, if_neg (by simp [h]), if_neg (by simp [hd]), if_pos hb]
theorem ce6 {s : ByteArray} (h0 : ¬ s.size = 0) (h1 : ¬ 255 < s.size) (h : ua s 0 = -1) (hd : dots s = false) (hb : ¬ hasB s s.size) : ce s = 0 := by
  unfold ce; rw [if_neg h0, if_neg h1, if_neg (by simp [h]), if_neg (by simp [hd]), if_neg hb]
theorem nilB {s : ByteArray} (h : s.size = 0) : (s.toList == []) = true := by
  have e : s.data.toList = [] := List.length_eq_zero_iff.1 (by rw [Array.length_toList]; exact h)
  rw [ByteArray.toList_eq, e]; rfl
theorem nilB' {s : ByteArray} (h : ¬ s.size = 0) : (s.toList == []) = false := by
  rw [ByteArray.toList_eq, beq_eq_false_iff_ne]; intro e; exact h (by have := congrArg List.length e; rw [Array.length_toList] at this; exact this)
theorem sized15 {s : ByteArray} (h : s.size ≤ maxLen) : s.size ≤ 9223372036854775807 := h
set_option maxRecDepth 100000 in
set_option maxHeartbeats 1000000 in
theorem component15 (s : ByteArray) (w : World) (hs : s.size ≤ maxLen) :
    Calls Tryd.prog 25 #[.string s] w fun e w' => e = .returned (.int .i64 (ce s)) ∧ Below w.heap.size w w' := by
  have HS : Hid (s.size ≤ maxLen) := hs
  have hs := sized15 hs
  by_cases h0 : s.size = 0
  · have H : Hid (ce s = 50) := ce1 h0
    have n0 := nilB h0
    go_enter Tryd.func25, Tryd.ntmps25
    go_wp2
    go_ret
    exact ⟨ret_i H.out.symm, Below.refl _ _⟩
  have n0 := nilB' h0
  by_cases h1 : 255 < s.size
  · have H : Hid (ce s = 51) := ce2 h1
    go_enter Tryd.func25, Tryd.ntmps25
    go_wp2
    go_ret
    exact ⟨ret_i H.out.symm, Below.refl _ _⟩
  by_cases h2 : ua s 0 = -1
  · have HU : ∀ w, Hid (Calls Tryd.prog 34 #[.string s] w fun e w' => e = .returned (.int .i64 (-1)) ∧ ∃ pos, w' = w.iter s pos) := fun w => by
      have := utf9 s w HS.out; rw [h2] at this; exact this
    cases hd : dots s with
    | true =>
      have H : Hid (ce s = 53) := ce4 h0 h1 h2 hd
      have Hd : Hid (dots s = true) := hd
      have hd2 : (s.toList == [46]) = true ∨ ((s.toList == [46]) = false ∧ (s.toList == [46, 46]) = true) := by
        unfold dots at hd; cases h : (s.toList == [46]) <;> simp_all
      clear h2 hd
      rcases hd2 with hd2 | ⟨hd1, hd2⟩
      · go_enter Tryd.func25, Tryd.ntmps25
        go_wp2_with fail
        refine ((HU _).out).mono ?_
        rintro e w1 ⟨rfl, pos, rfl⟩
        go_wp2
        go_ret
        exact ⟨ret_i H.out.symm, iter_below _ _ _⟩
      · go_enter Tryd.func25, Tryd.ntmps25
        go_wp2_with fail
        refine ((HU _).out).mono ?_
        rintro e w1 ⟨rfl, pos, rfl⟩
        go_wp2
        go_ret
        exact ⟨ret_i H.out.symm, iter_below _ _ _⟩
    | false =>
      have H5 : Hid (hasB s s.size → ce s = 54) := fun h => ce5 h0 h1 h2 hd h
      have H6 : Hid (¬ hasB s s.size → ce s = 0) := fun h => ce6 h0 h1 h2 hd h
      obtain ⟨hd1, hd2⟩ : (s.toList == [46]) = false ∧ (s.toList == [46, 46]) = false := by
        unfold dots at hd; cases h : (s.toList == [46]) <;> simp_all
      clear h2 hd
      go_enter Tryd.func25, Tryd.ntmps25
      go_wp2_with fail
      refine ((HU _).out).mono ?_
      rintro e w1 ⟨rfl, pos1, rfl⟩
      have HB := iter_below w s pos1
      generalize w.iter s pos1 = w1 at *
      go_wp2
      go_loopw [] (fun w' => ∃ (pos : Nat), w' = w1.iter s pos ∧ Hid (¬ hasB s pos) ∧ pos ≤ s.size) (fun w' => s.size - w'.iterPos w1.heap.size)
      case atStart => exact ⟨0, rfl, hasB_zero s, Nat.zero_le _⟩
      case round =>
        obtain ⟨pos, rfl, HP, hb⟩ := hrel
        by_cases hp : pos < s.size
        · have hnx : ∀ ty, (Instr.next (.pointer (some ⟨w1.heap.size, 0, none⟩)) true ty).run Tryd.prog (w1.iter s pos) = _ := fun ty => run_next_any w1 s pos ty hp
          have hw1 := (dec_pos s pos).1
          have hw2 := (dec_pos s pos).2 hp
          have HF : Hid (bb (Utf8.decode s pos).1 = false → ¬ hasB s (pos + (Utf8.decode s pos).2)) := fun h => hasB_step HP.out (sign_free h)
          have HT : Hid (bb (Utf8.decode s pos).1 = true → hasB s s.size) := sign_bad hp
          have hdl := decode_le s pos
          generalize (Utf8.decode s pos).2 = wd2 at *
          generalize (Utf8.decode s pos).1 = r at *
          have HC : ∀ w, Hid (Calls Tryd.prog 35 #[.int .i32 r] w fun e w' => e = .returned (.bool (bb r)) ∧ w' = w) := fun w => barred28 r w
          cases hr : bb r with
          | true =>
            have Hr : Hid (bb r = true) := hr
            rw [hr] at HC
            clear hr
            go_wp2_with fail
            refine ((HC _).out).mono ?_
            rintro e w2 ⟨rfl, rfl⟩
            go_wp2
            go_ret
            exact ⟨ret_i (H5.out (HT.out Hr.out)).symm, HB.trans ((iter_below w1 s _).mono HB.size)⟩
          | false =>
            have Hr : Hid (bb r = false) := hr
            rw [hr] at HC
            clear hr
            go_wp2_with fail
            refine ((HC _).out).mono ?_
            rintro e w2 ⟨rfl, rfl⟩
            go_wp2
            go_roundw
            case rel => exact ⟨_, rfl, HF.out Hr.out, by omega⟩
            case measure => simp; omega
        · have hnx : ∀ ty, (Instr.next (.pointer (some ⟨w1.heap.size, 0, none⟩)) true ty).run Tryd.prog (w1.iter s pos) = _ := fun ty => run_next_end w1 s pos ty hp
          obtain rfl : pos = s.size := by omega
          go_wp2
          go_ret
          exact ⟨ret_i (H6.out HP.out).symm, HB.trans ((iter_below w1 s _).mono HB.size)⟩
  · have H : Hid (ce s = 52) := ce3 h0 h1 h2
    have hp := (ua_neg h2).1
    have HU : ∀ w, Hid (Calls Tryd.prog 34 #[.string s] w fun e w' => e = .returned (.int .i64 (ua s 0)) ∧ ∃ pos, w' = w.iter s pos) := fun w => utf9 s w HS.out
    generalize ua s 0 = u at *
    clear h2
    go_enter Tryd.func25, Tryd.ntmps25
    go_wp2_with fail
    refine ((HU _).out).mono ?_
    rintro e w1 ⟨rfl, pos, rfl⟩
    go_wp2
    go_ret
    exact ⟨ret_i H.out.symm, iter_below _ _ _⟩

end Go.Proofs.YtoiehkpmemmldaaDoor
