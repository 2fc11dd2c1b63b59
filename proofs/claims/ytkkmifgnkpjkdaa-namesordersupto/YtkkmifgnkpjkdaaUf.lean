import Derived.Test.YtkkmifgnkpjkdaaUr
namespace Go.Proofs.Ytkkmifgnkpjkdaa
open Go.RowKit
theorem fmZ_2 {s : ByteArray} {i : Nat} (h : 192 ≤ bt s i ∧ bt s i < 224) (hz : s.size < i + 2) : fm s i = 0 := by
  rw [fm2 h, if_neg (fun c => by have := c.1; omega)]
theorem fmZ_3 {s : ByteArray} {i : Nat} (h : 224 ≤ bt s i ∧ bt s i < 240) (hz : s.size < i + 3) : fm s i = 0 := by
  rw [fm3 h, if_neg (fun c => by have := c.1; omega)]
theorem fmZ_4 {s : ByteArray} {i : Nat} (h : 240 ≤ bt s i ∧ bt s i < 248) (hz : s.size < i + 4) : fm s i = 0 := by
  rw [fm4 h, if_neg (fun c => by have := c.1; omega)]
theorem fmS_2 {s : ByteArray} {i : Nat} {v : Int} (h : 192 ≤ bt s i ∧ bt s i < 224) (hz : i + 2 ≤ s.size) (hg : sgn s i 2 v) : fm s i = if v < 128 ∨ 1114111 < v ∨ (55296 ≤ v ∧ v ≤ 57343) then 0 else 2 := by
  rw [fm2 h]
  rcases hg with ⟨c, rfl⟩ | ⟨c, rfl⟩
  · have c1 := c 1 (by omega) (by omega)
    simp only [sgk, fst, if_true, Nat.zero_add, Nat.reduceSub]
    by_cases k : C2 s i
    · rw [if_pos k]; unfold C2 at k; rw [if_neg (by omega)]
    · rw [if_neg k]; unfold C2 at k; rw [if_pos (by omega)]
  · rw [if_neg, if_pos (by omega)]; intro k; unfold C2 at k
    exact c fun j h1 h2 => by obtain rfl : j = 1 := by omega
                              exact k.2.1
theorem fmS_3 {s : ByteArray} {i : Nat} {v : Int} (h : 224 ≤ bt s i ∧ bt s i < 240) (hz : i + 3 ≤ s.size) (hg : sgn s i 3 v) : fm s i = if v < 2048 ∨ 1114111 < v ∨ (55296 ≤ v ∧ v ≤ 57343) then 0 else 3 := by
  rw [fm3 h]
  rcases hg with ⟨c, rfl⟩ | ⟨c, rfl⟩
  · have c1 := c 1 (by omega) (by omega)
    have c2 := c 2 (by omega) (by omega)
    have e : sgk s i 3 (3 - 1) = (((bt s i : Int) - 224) * 64 + bt s (i + 1) - 128) * 64 + bt s (i + 2) - 128 := rfl
    rw [e]
    by_cases k : C3 s i
    · rw [if_pos k]; unfold C3 at k; rw [if_neg (by omega)]
    · rw [if_neg k]; unfold C3 at k; rw [if_pos (by omega)]
  · rw [if_neg, if_pos (by omega)]; intro k; unfold C3 at k
    exact c fun j h1 h2 => by rcases (by omega : j = 1 ∨ j = 2) with rfl | rfl
                              · exact k.2.1
                              · exact k.2.2.1
theorem fmS_4 {s : ByteArray} {i : Nat} {v : Int} (h : 240 ≤ bt s i ∧ bt s i < 248) (hz : i + 4 ≤ s.size) (hg : sgn s i 4 v) : fm s i = if v < 65536 ∨ 1114111 < v ∨ (55296 ≤ v ∧ v ≤ 57343) then 0 else 4 := by
  rw [fm4 h]
  rcases hg with ⟨c, rfl⟩ | ⟨c, rfl⟩
  · have c1 := c 1 (by omega) (by omega)
    have c2 := c 2 (by omega) (by omega)
    have c3 := c 3 (by omega) (by omega)
    have e : sgk s i 4 (4 - 1) = ((((bt s i : Int) - 240) * 64 + bt s (i + 1) - 128) * 64 + bt s (i + 2) - 128) * 64 + bt s (i + 3) - 128 := rfl
    rw [e]
    by_cases k : C4 s i
    · rw [if_pos k]; unfold C4 at k; rw [if_neg (by omega)]
    · rw [if_neg k]; unfold C4 at k; rw [if_pos (by omega)]
  · rw [if_neg, if_pos (by omega)]; intro k; unfold C4 at k
    exact c fun j h1 h2 => by rcases (by omega : j = 1 ∨ j = 2 ∨ j = 3) with rfl | rfl | rfl
                              · exact k.2.1
                              · exact k.2.2.1
                              · exact k.2.2.2.1
set_option maxRecDepth 100000 in
set_option maxHeartbeats 1000000 in
theorem formed26_2 (s : ByteArray) (i : Nat) (w : World) (hs : s.size ≤ 281474976710656) (hi : i < s.size) (hc1 : 192 ≤ bt s i) (hc2 : bt s i < 224) :
    Calls Try.prog 52 #[.string s, .int .i64 i] w fun e w' => e = .returned (.int .i64 (fm s i)) ∧ Below w.heap.size w w' := by
  have HS : Hid (s.size ≤ maxLen) := Nat.le_trans hs (by decide)
  have Hc : Hid (192 ≤ bt s i ∧ bt s i < 224) := ⟨hc1, hc2⟩
  have hw : wd (bt s i) = 2 := by unfold wd; rw [if_neg (by omega), if_pos (by omega)]
  have HW : ∀ w, Hid (Calls Try.prog 55 #[.int .u8 (bt s i)] w fun e w' => e = .returned (.int .i64 2) ∧ w' = w) := fun w => by
    have := wide36 (bt s i) (bt_lt s i) w; rw [hw] at this; exact this
  have hgt : (s[i]'hi).toNat = bt s i := getE hi
  clear hw
  have hbl := bt_lt s i
  by_cases hz : s.size < i + 2
  · have HF : Hid (fm s i = 0) := fmZ_2 Hc.out hz
    go_enter Try.func52, Try.ntmps52
    go_wp2_with (go_at_call 55; refine ((HW _).out).mono ?_; rintro e w' ⟨rfl, rfl⟩)
    go_ret
    exact ⟨ret_i (by rw [HF.out]; rfl), Below.refl _ _⟩
  · go_enter Try.func52, Try.ntmps52
    go_wp2_with (go_at_call 55; refine ((HW _).out).mono ?_; rintro e w' ⟨rfl, rfl⟩)
    refine (sign37_2 s i _ HS.out (by omega)).mono ?_
    rintro e w1 ⟨⟨v, rfl, hsg⟩, bel⟩
    have HF : Hid (fm s i = if v < 128 ∨ 1114111 < v ∨ (55296 ≤ v ∧ v ≤ 57343) then 0 else 2) := fmS_2 Hc.out (by omega) hsg.out
    by_cases q1 : v < 128
    · go_wp2
      go_ret
      exact ⟨ret_i (by rw [HF.out, if_pos (by omega)]; rfl), bel.alloc bel.size _⟩
    by_cases q2 : 1114111 < v
    · go_wp2
      go_ret
      exact ⟨ret_i (by rw [HF.out, if_pos (by omega)]; rfl), bel.alloc bel.size _⟩
    by_cases q3 : 55296 ≤ v
    · by_cases q4 : v ≤ 57343
      · go_wp2
        go_ret
        exact ⟨ret_i (by rw [HF.out, if_pos (by omega)]; rfl), bel.alloc bel.size _⟩
      · go_wp2
        go_ret
        exact ⟨ret_i (by rw [HF.out, if_neg (by omega)]; rfl), bel.alloc bel.size _⟩
    · go_wp2
      go_ret
      exact ⟨ret_i (by rw [HF.out, if_neg (by omega)]; rfl), bel.alloc bel.size _⟩
set_option maxRecDepth 100000 in
set_option maxHeartbeats 1000000 in
theorem formed26_3 (s : ByteArray) (i : Nat) (w : World) (hs : s.size ≤ 281474976710656) (hi : i < s.size) (hc1 : 224 ≤ bt s i) (hc2 : bt s i < 240) :
    Calls Try.prog 52 #[.string s, .int .i64 i] w fun e w' => e = .returned (.int .i64 (fm s i)) ∧ Below w.heap.size w w' := by
  have HS : Hid (s.size ≤ maxLen) := Nat.le_trans hs (by decide)
  have Hc : Hid (224 ≤ bt s i ∧ bt s i < 240) := ⟨hc1, hc2⟩
  have hw : wd (bt s i) = 3 := by unfold wd; rw [if_neg (by omega), if_neg (by omega), if_pos (by omega)]
  have HW : ∀ w, Hid (Calls Try.prog 55 #[.int .u8 (bt s i)] w fun e w' => e = .returned (.int .i64 3) ∧ w' = w) := fun w => by
    have := wide36 (bt s i) (bt_lt s i) w; rw [hw] at this; exact this
  have hgt : (s[i]'hi).toNat = bt s i := getE hi
  clear hw
  have hbl := bt_lt s i
  by_cases hz : s.size < i + 3
  · have HF : Hid (fm s i = 0) := fmZ_3 Hc.out hz
    go_enter Try.func52, Try.ntmps52
    go_wp2_with (go_at_call 55; refine ((HW _).out).mono ?_; rintro e w' ⟨rfl, rfl⟩)
    go_ret
    exact ⟨ret_i (by rw [HF.out]; rfl), Below.refl _ _⟩
  · go_enter Try.func52, Try.ntmps52
    go_wp2_with (go_at_call 55; refine ((HW _).out).mono ?_; rintro e w' ⟨rfl, rfl⟩)
    refine (sign37_3 s i _ HS.out (by omega)).mono ?_
    rintro e w1 ⟨⟨v, rfl, hsg⟩, bel⟩
    have HF : Hid (fm s i = if v < 2048 ∨ 1114111 < v ∨ (55296 ≤ v ∧ v ≤ 57343) then 0 else 3) := fmS_3 Hc.out (by omega) hsg.out
    by_cases q1 : v < 2048
    · go_wp2
      go_ret
      exact ⟨ret_i (by rw [HF.out, if_pos (by omega)]; rfl), bel.alloc bel.size _⟩
    by_cases q2 : 1114111 < v
    · go_wp2
      go_ret
      exact ⟨ret_i (by rw [HF.out, if_pos (by omega)]; rfl), bel.alloc bel.size _⟩
    by_cases q3 : 55296 ≤ v
    · by_cases q4 : v ≤ 57343
      · go_wp2
        go_ret
        exact ⟨ret_i (by rw [HF.out, if_pos (by omega)]; rfl), bel.alloc bel.size _⟩
      · go_wp2
        go_ret
        exact ⟨ret_i (by rw [HF.out, if_neg (by omega)]; rfl), bel.alloc bel.size _⟩
    · go_wp2
      go_ret
      exact ⟨ret_i (by rw [HF.out, if_neg (by omega)]; rfl), bel.alloc bel.size _⟩
set_option maxRecDepth 100000 in
set_option maxHeartbeats 1000000 in
theorem formed26_4 (s : ByteArray) (i : Nat) (w : World) (hs : s.size ≤ 281474976710656) (hi : i < s.size) (hc1 : 240 ≤ bt s i) (hc2 : bt s i < 248) :
    Calls Try.prog 52 #[.string s, .int .i64 i] w fun e w' => e = .returned (.int .i64 (fm s i)) ∧ Below w.heap.size w w' := by
  have HS : Hid (s.size ≤ maxLen) := Nat.le_trans hs (by decide)
  have Hc : Hid (240 ≤ bt s i ∧ bt s i < 248) := ⟨hc1, hc2⟩
  have hw : wd (bt s i) = 4 := by unfold wd; rw [if_neg (by omega), if_neg (by omega), if_neg (by omega), if_pos (by omega)]
  have HW : ∀ w, Hid (Calls Try.prog 55 #[.int .u8 (bt s i)] w fun e w' => e = .returned (.int .i64 4) ∧ w' = w) := fun w => by
    have := wide36 (bt s i) (bt_lt s i) w; rw [hw] at this; exact this
  have hgt : (s[i]'hi).toNat = bt s i := getE hi
  clear hw
  have hbl := bt_lt s i
  by_cases hz : s.size < i + 4
  · have HF : Hid (fm s i = 0) := fmZ_4 Hc.out hz
    go_enter Try.func52, Try.ntmps52
    go_wp2_with (go_at_call 55; refine ((HW _).out).mono ?_; rintro e w' ⟨rfl, rfl⟩)
    go_ret
    exact ⟨ret_i (by rw [HF.out]; rfl), Below.refl _ _⟩
  · go_enter Try.func52, Try.ntmps52
    go_wp2_with (go_at_call 55; refine ((HW _).out).mono ?_; rintro e w' ⟨rfl, rfl⟩)
    refine (sign37_4 s i _ HS.out (by omega)).mono ?_
    rintro e w1 ⟨⟨v, rfl, hsg⟩, bel⟩
    have HF : Hid (fm s i = if v < 65536 ∨ 1114111 < v ∨ (55296 ≤ v ∧ v ≤ 57343) then 0 else 4) := fmS_4 Hc.out (by omega) hsg.out
    by_cases q1 : v < 65536
    · go_wp2
      go_ret
      exact ⟨ret_i (by rw [HF.out, if_pos (by omega)]; rfl), bel.alloc bel.size _⟩
    by_cases q2 : 1114111 < v
    · go_wp2
      go_ret
      exact ⟨ret_i (by rw [HF.out, if_pos (by omega)]; rfl), bel.alloc bel.size _⟩
    · have q3 : 55296 ≤ v := by omega
      have q4 : ¬ v ≤ 57343 := by omega
      go_wp2
      go_ret
      exact ⟨ret_i (by rw [HF.out, if_neg (by omega)]; rfl), bel.alloc bel.size _⟩
set_option maxRecDepth 100000 in
theorem formed26 (s : ByteArray) (i : Nat) (w : World) (hs : s.size ≤ 281474976710656) (hi : i < s.size) :
    Calls Try.prog 52 #[.string s, .int .i64 i] w fun e w' => e = .returned (.int .i64 (fm s i)) ∧ Below w.heap.size w w' := by
  by_cases h1 : bt s i < 128
  · have HF : Hid (fm s i = 1) := fm1 h1
    have HW : ∀ w, Hid (Calls Try.prog 55 #[.int .u8 (bt s i)] w fun e w' => e = .returned (.int .i64 1) ∧ w' = w) := fun w => by
      have := wide36 (bt s i) (bt_lt s i) w; rw [show wd (bt s i) = 1 from by simp [wd, h1]] at this; exact this
    have hgt : (s[i]'hi).toNat = bt s i := getE hi
    go_enter Try.func52, Try.ntmps52
    go_wp2_with (go_at_call 55; refine ((HW _).out).mono ?_; rintro e w' ⟨rfl, rfl⟩)
    go_ret
    exact ⟨ret_i (by rw [HF.out]; rfl), Below.refl _ _⟩
  by_cases h2 : 192 ≤ bt s i ∧ bt s i < 224
  · exact formed26_2 s i w hs hi h2.1 h2.2
  by_cases h3 : 224 ≤ bt s i ∧ bt s i < 240
  · exact formed26_3 s i w hs hi h3.1 h3.2
  by_cases h4 : 240 ≤ bt s i ∧ bt s i < 248
  · exact formed26_4 s i w hs hi h4.1 h4.2
  · have HF : Hid (fm s i = 0) := fm0 (by omega)
    have HW : ∀ w, Hid (Calls Try.prog 55 #[.int .u8 (bt s i)] w fun e w' => e = .returned (.int .i64 0) ∧ w' = w) := fun w => by
      have := wide36 (bt s i) (bt_lt s i) w; rw [show wd (bt s i) = 0 from by unfold wd; repeat rw [if_neg (by omega)]] at this; exact this
    have hgt : (s[i]'hi).toNat = bt s i := getE hi
    clear h1 h2 h3 h4
    go_enter Try.func52, Try.ntmps52
    go_wp2_with (go_at_call 55; refine ((HW _).out).mono ?_; rintro e w' ⟨rfl, rfl⟩)
    go_ret
    exact ⟨ret_i (by rw [HF.out]; rfl), Below.refl _ _⟩
set_option maxRecDepth 100000 in
set_option maxHeartbeats 1000000 in
theorem utf10 (s : ByteArray) (w : World) (hs : s.size ≤ 281474976710656) :
    Calls Try.prog 45 #[.string s] w fun e w' => e = .returned (.int .i64 (ua s 0)) ∧ Below w.heap.size w w' := by
  go_enter Try.func45, Try.ntmps45
  go_wp2
  go_loopw [3] (fun i wr => Below w.heap.size w wr ∧ ∃ pos : Nat, i = .int .i64 pos ∧ Hid (ua s pos = ua s 0) ∧ pos ≤ s.size) (fun i _ => s.size - (intOf i).toNat)
  case atStart => exact ⟨Below.refl _ _, 0, rfl, rfl, Nat.zero_le _⟩
  case round =>
    obtain ⟨bel, pos, rfl, HU, hb⟩ := hrel
    by_cases hp : pos < s.size
    · have hl := fm_le hp
      by_cases hf : fm s pos = 0
      · have HB : Hid (ua s pos = pos) := ua_bad hp hf
        have HC : ∀ w, Hid (Calls Try.prog 52 #[.string s, .int .i64 pos] w fun e w' => e = .returned (.int .i64 0) ∧ Below w.heap.size w w') := fun w => by
          have := formed26 s pos w hs hp; rw [hf] at this; exact this
        clear hf hl
        go_wp2_with fail
        refine ((HC _).out).mono ?_
        rintro e w1 ⟨rfl, bel1⟩
        go_wp2
        go_ret
        exact ⟨ret_i (by rw [← HU.out, HB.out]), bel.trans (bel1.mono bel.size)⟩
      · have HO : Hid (ua s pos = ua s (pos + fm s pos)) := ua_on hp hf
        have HC : ∀ w, Hid (Calls Try.prog 52 #[.string s, .int .i64 pos] w fun e w' => e = .returned (.int .i64 (fm s pos)) ∧ Below w.heap.size w w') := fun w => formed26 s pos w hs hp
        have hf1 : 1 ≤ fm s pos := by omega
        generalize fm s pos = n at *
        have hf2 : ¬ ((n : Int) = 0) := by omega
        clear hf
        go_wp2_with fail
        refine ((HC _).out).mono ?_
        rintro e w1 ⟨rfl, bel1⟩
        go_wp2
        go_roundw
        case rel => exact ⟨bel.trans (bel1.mono bel.size), pos + n, by go_num, by rw [← HO.out]; exact HU, by omega⟩
        case measure => simp [intOf]; omega
    · have HE : Hid (ua s pos = -1) := ua_end hp
      go_wp2
      go_ret
      exact ⟨ret_i (by rw [← HU.out, HE.out]), bel⟩
end Go.Proofs.Ytkkmifgnkpjkdaa
