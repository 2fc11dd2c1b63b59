import Derived.Test.YtkkmifgnkpjkdaaUw
namespace Go.Proofs.Ytkkmifgnkpjkdaa
open Go.RowKit
set_option maxRecDepth 100000 in
theorem wide36 (c : Nat) (hc : c < 256) (w : World) :
    Calls Try.prog 55 #[.int .u8 c] w fun e w' => e = .returned (.int .i64 (wd c)) ∧ w' = w := by
  by_cases h1 : c < 128
  · have e : wd c = 1 := by simp [wd, h1]
    have H : Hid (wd c = 1) := e
    clear e
    go_enter Try.func55, Try.ntmps55
    go_wp2
    go_ret
    exact ⟨ret_i (by rw [H.out]; rfl), rfl⟩
  by_cases h2 : c < 192
  · have e : wd c = 0 := by unfold wd; repeat rw [if_neg (by omega)]
    have H : Hid (wd c = 0) := e
    clear e
    go_enter Try.func55, Try.ntmps55
    go_wp2
    go_ret
    exact ⟨ret_i (by rw [H.out]; rfl), rfl⟩
  by_cases h3 : c < 224
  · have e : wd c = 2 := by unfold wd; rw [if_neg (by omega), if_pos (by omega)]
    have H : Hid (wd c = 2) := e
    clear e
    go_enter Try.func55, Try.ntmps55
    go_wp2
    go_ret
    exact ⟨ret_i (by rw [H.out]; rfl), rfl⟩
  by_cases h4 : c < 240
  · have e : wd c = 3 := by unfold wd; rw [if_neg (by omega), if_neg (by omega), if_pos (by omega)]
    have H : Hid (wd c = 3) := e
    clear e
    go_enter Try.func55, Try.ntmps55
    go_wp2
    go_ret
    exact ⟨ret_i (by rw [H.out]; rfl), rfl⟩
  by_cases h5 : c < 248
  · have e : wd c = 4 := by unfold wd; rw [if_neg (by omega), if_neg (by omega), if_neg (by omega), if_pos (by omega)]
    have H : Hid (wd c = 4) := e
    clear e
    go_enter Try.func55, Try.ntmps55
    go_wp2
    go_ret
    exact ⟨ret_i (by rw [H.out]; rfl), rfl⟩
  · have e : wd c = 0 := by unfold wd; repeat rw [if_neg (by omega)]
    have H : Hid (wd c = 0) := e
    clear e
    go_enter Try.func55, Try.ntmps55
    go_wp2
    go_ret
    exact ⟨ret_i (by rw [H.out]; rfl), rfl⟩
/-- the number of the first k bytes of a sequence of n -/
def fst (n : Nat) : Int := if n = 2 then 192 else if n = 3 then 224 else 240
def sgk (s : ByteArray) (i n : Nat) : Nat → Int
  | 0 => (bt s i : Int) - fst n
  | k + 1 => sgk s i n k * 64 + bt s (i + (k + 1)) - 128
/-- all later bytes are of the form: up to the k-th -/
def cts (s : ByteArray) (i k : Nat) : Prop := ∀ j, 1 ≤ j → j < k → 128 ≤ bt s (i + j) ∧ bt s (i + j) ≤ 191
def sgn (s : ByteArray) (i n : Nat) (v : Int) : Prop := (cts s i n ∧ v = sgk s i n (n - 1)) ∨ (¬ cts s i n ∧ v = -1)
theorem sgk_bd (s : ByteArray) (i n k : Nat) (hk : k ≤ 3) (h : cts s i (k+1)) : -400 * 64 ^ k + 1 ≤ sgk s i n k ∧ sgk s i n k ≤ 400 * 64 ^ k - 1 := by
  induction k with
  | zero => have := bt_lt s i; simp only [sgk, fst]; split <;> (try split) <;> omega
  | succ k ih =>
    have a := ih (by omega) (fun j h1 h2 => h j h1 (by omega))
    have b := h (k+1) (by omega) (by omega)
    simp only [sgk]
    match k, hk with
    | 0, _ => simp at a b ⊢; omega
    | 1, _ => simp at a b ⊢; omega
    | 2, _ => simp at a b ⊢; omega
theorem getE {s : ByteArray} {i : Nat} (h : i < s.size) : (s[i]'h).toNat = bt s i := by
  unfold bt; congr 1; simp [ByteArray.get!, getElem!_pos, h]; rfl
def SI (s : ByteArray) (i n k : Nat) (x : Int) : Prop := cts s i k ∧ x = sgk s i n (k - 1)
theorem SI.start (s : ByteArray) (i n b0 : Nat) (h : b0 = bt s i) : SI s i n 1 ((b0 : Int) - fst n) :=
  ⟨fun j a b => by omega, by rw [h]; rfl⟩
theorem SI.bd {s : ByteArray} {i n k : Nat} {x : Int} (h : SI s i n k x) (h1 : 1 ≤ k) (h4 : k ≤ 4) : -110000000 ≤ x ∧ x ≤ 110000000 := by
  obtain ⟨a, rfl⟩ := h
  have := sgk_bd s i n (k - 1) (by omega) (by rw [Nat.sub_add_cancel h1]; exact a)
  rcases (by omega : k = 1 ∨ k = 2 ∨ k = 3 ∨ k = 4) with rfl | rfl | rfl | rfl <;> simp at this ⊢ <;> omega
theorem SI.next {s : ByteArray} {i n k bk : Nat} {x : Int} (h : SI s i n k x) (h1 : 1 ≤ k) (hb : bk = bt s (i + k)) (h2 : 128 ≤ bk) (h3 : bk ≤ 191) : SI s i n (k + 1) (x * 64 + bk - 128) := by
  obtain ⟨a, rfl⟩ := h
  refine ⟨fun j u v => ?_, ?_⟩
  · by_cases e : j = k
    · subst e; rw [← hb]; exact ⟨h2, h3⟩
    · exact a j u (by omega)
  · obtain ⟨m, rfl⟩ : ∃ m, k = m + 1 := ⟨k - 1, by omega⟩
    rw [hb]; rfl
theorem sgn_no {s : ByteArray} {i n k bk : Nat} (h1 : 1 ≤ k) (h2 : k < n) (hb : bk = bt s (i + k)) (h : ¬ (128 ≤ bk ∧ bk ≤ 191)) : sgn s i n (-1) :=
  .inr ⟨fun c => h (hb ▸ c k h1 h2), rfl⟩
theorem sgn_end {s : ByteArray} {i n k : Nat} {x : Int} (h : SI s i n k x) (h1 : n ≤ k) (h2 : k ≤ n) : sgn s i n x := by
  obtain rfl : k = n := by omega
  exact .inl h
set_option maxRecDepth 100000 in
set_option maxHeartbeats 1000000 in
theorem sign37_2 (s : ByteArray) (i : Nat) (w : World) (hs : s.size ≤ maxLen) (hi : i + 2 ≤ s.size) :
    Calls Try.prog 56 #[.string s, .int .i64 i, .int .i64 2] w fun e w' => (∃ v, e = .returned (.int .i64 v) ∧ Hid (sgn s i 2 v)) ∧ Below w.heap.size w w' := by
  unfold maxLen at hs
  have hi0 : i < s.size := by omega
  have hbt0 := (s[i]'hi0).toNat_lt
  have hb0 : Hid ((s[i]'hi0).toNat = bt s i) := getE hi0
  generalize hbq : (s[i]'hi0).toNat = b0 at *
  go_enter Try.func56, Try.ntmps56
  go_wp2
  go_quiet (fail)
  go_wp2
  go_loopw [8, 9] (fun v k wr => Below w.heap.size w wr ∧ ∃ (kk : Nat) (x : Int), 1 ≤ kk ∧ kk ≤ 2 ∧ Hid (SI s i 2 kk x) ∧ v = .int .i64 x ∧ k = .int .i64 kk) (fun _ k _ => 2 - (intOf k).toNat)
  case atStart => exact ⟨below_drewN ((Below.refl _ _).alloc (Nat.le_refl _) _) _, 1, (b0 : Int) - 192, by omega, by omega, SI.start s i 2 b0 hb0.out, by go_num, rfl⟩
  case round =>
    obtain ⟨bel, k, x, hk1, hk2, hsi, rfl, rfl⟩ := hrel
    obtain ⟨hx1, hx2⟩ := SI.bd hsi.out hk1 (by omega)
    by_cases hlt : k < 2
    · have hik : i + k < s.size := by omega
      have hbb := (s[i+k]'hik).toNat_lt
      have HB : Hid ((s[i+k]'hik).toNat = bt s (i + k)) := getE hik
      generalize hbk : (s[i+k]'hik).toNat = bk at *
      by_cases h1 : bk < 128
      · go_wp2
        go_ret
        exact ⟨⟨_, rfl, sgn_no hk1 hlt HB.out (by omega)⟩, bel⟩
      · by_cases h2 : 191 < bk
        · go_wp2
          go_ret
          exact ⟨⟨_, rfl, sgn_no hk1 hlt HB.out (by omega)⟩, bel⟩
        · go_wp2
          go_roundw
          case rel => exact ⟨bel, k + 1, _, by omega, by omega, SI.next hsi.out hk1 HB.out (by omega) (by omega), rfl, by go_num⟩
          case measure => simp [intOf]; omega
    · go_wp2
      go_ret
      exact ⟨⟨_, rfl, sgn_end hsi.out (by omega) hk2⟩, bel⟩
set_option maxRecDepth 100000 in
set_option maxHeartbeats 1000000 in
theorem sign37_3 (s : ByteArray) (i : Nat) (w : World) (hs : s.size ≤ maxLen) (hi : i + 3 ≤ s.size) :
    Calls Try.prog 56 #[.string s, .int .i64 i, .int .i64 3] w fun e w' => (∃ v, e = .returned (.int .i64 v) ∧ Hid (sgn s i 3 v)) ∧ Below w.heap.size w w' := by
  unfold maxLen at hs
  have hi0 : i < s.size := by omega
  have hbt0 := (s[i]'hi0).toNat_lt
  have hb0 : Hid ((s[i]'hi0).toNat = bt s i) := getE hi0
  generalize hbq : (s[i]'hi0).toNat = b0 at *
  go_enter Try.func56, Try.ntmps56
  go_wp2
  go_quiet (fail)
  go_wp2
  go_loopw [8, 9] (fun v k wr => Below w.heap.size w wr ∧ ∃ (kk : Nat) (x : Int), 1 ≤ kk ∧ kk ≤ 3 ∧ Hid (SI s i 3 kk x) ∧ v = .int .i64 x ∧ k = .int .i64 kk) (fun _ k _ => 3 - (intOf k).toNat)
  case atStart => exact ⟨below_drewN ((Below.refl _ _).alloc (Nat.le_refl _) _) _, 1, (b0 : Int) - 224, by omega, by omega, SI.start s i 3 b0 hb0.out, by go_num, rfl⟩
  case round =>
    obtain ⟨bel, k, x, hk1, hk2, hsi, rfl, rfl⟩ := hrel
    obtain ⟨hx1, hx2⟩ := SI.bd hsi.out hk1 (by omega)
    by_cases hlt : k < 3
    · have hik : i + k < s.size := by omega
      have hbb := (s[i+k]'hik).toNat_lt
      have HB : Hid ((s[i+k]'hik).toNat = bt s (i + k)) := getE hik
      generalize hbk : (s[i+k]'hik).toNat = bk at *
      by_cases h1 : bk < 128
      · go_wp2
        go_ret
        exact ⟨⟨_, rfl, sgn_no hk1 hlt HB.out (by omega)⟩, bel⟩
      · by_cases h2 : 191 < bk
        · go_wp2
          go_ret
          exact ⟨⟨_, rfl, sgn_no hk1 hlt HB.out (by omega)⟩, bel⟩
        · go_wp2
          go_roundw
          case rel => exact ⟨bel, k + 1, _, by omega, by omega, SI.next hsi.out hk1 HB.out (by omega) (by omega), rfl, by go_num⟩
          case measure => simp [intOf]; omega
    · go_wp2
      go_ret
      exact ⟨⟨_, rfl, sgn_end hsi.out (by omega) hk2⟩, bel⟩
set_option maxRecDepth 100000 in
set_option maxHeartbeats 1000000 in
theorem sign37_4 (s : ByteArray) (i : Nat) (w : World) (hs : s.size ≤ maxLen) (hi : i + 4 ≤ s.size) :
    Calls Try.prog 56 #[.string s, .int .i64 i, .int .i64 4] w fun e w' => (∃ v, e = .returned (.int .i64 v) ∧ Hid (sgn s i 4 v)) ∧ Below w.heap.size w w' := by
  unfold maxLen at hs
  have hi0 : i < s.size := by omega
  have hbt0 := (s[i]'hi0).toNat_lt
  have hb0 : Hid ((s[i]'hi0).toNat = bt s i) := getE hi0
  generalize hbq : (s[i]'hi0).toNat = b0 at *
  go_enter Try.func56, Try.ntmps56
  go_wp2
  go_quiet (fail)
  go_wp2
  go_loopw [8, 9] (fun v k wr => Below w.heap.size w wr ∧ ∃ (kk : Nat) (x : Int), 1 ≤ kk ∧ kk ≤ 4 ∧ Hid (SI s i 4 kk x) ∧ v = .int .i64 x ∧ k = .int .i64 kk) (fun _ k _ => 4 - (intOf k).toNat)
  case atStart => exact ⟨below_drewN ((Below.refl _ _).alloc (Nat.le_refl _) _) _, 1, (b0 : Int) - 240, by omega, by omega, SI.start s i 4 b0 hb0.out, by go_num, rfl⟩
  case round =>
    obtain ⟨bel, k, x, hk1, hk2, hsi, rfl, rfl⟩ := hrel
    obtain ⟨hx1, hx2⟩ := SI.bd hsi.out hk1 (by omega)
    by_cases hlt : k < 4
    · have hik : i + k < s.size := by omega
      have hbb := (s[i+k]'hik).toNat_lt
      have HB : Hid ((s[i+k]'hik).toNat = bt s (i + k)) := getE hik
      generalize hbk : (s[i+k]'hik).toNat = bk at *
      by_cases h1 : bk < 128
      · go_wp2
        go_ret
        exact ⟨⟨_, rfl, sgn_no hk1 hlt HB.out (by omega)⟩, bel⟩
      · by_cases h2 : 191 < bk
        · go_wp2
          go_ret
          exact ⟨⟨_, rfl, sgn_no hk1 hlt HB.out (by omega)⟩, bel⟩
        · go_wp2
          go_roundw
          case rel => exact ⟨bel, k + 1, _, by omega, by omega, SI.next hsi.out hk1 HB.out (by omega) (by omega), rfl, by go_num⟩
          case measure => simp [intOf]; omega
    · go_wp2
      go_ret
      exact ⟨⟨_, rfl, sgn_end hsi.out (by omega) hk2⟩, bel⟩
theorem sign37 (s : ByteArray) (i n : Nat) (w : World) (hs : s.size ≤ maxLen) (hi : i + n ≤ s.size) (hn : n = 2 ∨ n = 3 ∨ n = 4) :
    Calls Try.prog 56 #[.string s, .int .i64 i, .int .i64 n] w fun e w' => (∃ v, e = .returned (.int .i64 v) ∧ Hid (sgn s i n v)) ∧ Below w.heap.size w w' := by
  rcases hn with rfl | rfl | rfl
  · exact sign37_2 s i w hs hi
  · exact sign37_3 s i w hs hi
  · exact sign37_4 s i w hs hi
end Go.Proofs.Ytkkmifgnkpjkdaa
