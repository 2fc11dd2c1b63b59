import Derived.Test.YthleiochiigddaaXa
namespace Go.Proofs.Ythleiochiigddaa
open Go.RowKit
theorem cnt_eq {b n k t : Int} (hb : 64 ≤ b) (hn : 1 ≤ n) (ht : t = k * b) (h1 : n ≤ t) (h2 : k = 0 ∨ t - b < n) : cnt b n = k := by
  unfold cnt
  have h3 : t - b < n := by
    rcases h2 with rfl | h
    · rw [Int.zero_mul] at ht; omega
    · exact h
  have a1 : k - 1 ≤ (n - 1) / b := by
    rw [Int.le_ediv_iff_mul_le (by omega), Int.sub_mul]
    omega
  have a2 : (n - 1) / b < k := by
    rw [Int.ediv_lt_iff_lt_mul (by omega)]
    omega
  omega
theorem kb_bd {b k t : Int} (hb : 64 ≤ b) (ht : t = k * b) (hk : 0 ≤ k) : k ≤ t := by
  rw [ht]
  have := Int.mul_le_mul_of_nonneg_left (show (1 : Int) ≤ b by omega) hk
  omega
set_option maxHeartbeats 1000000 in
theorem rpartsT (b v n : Int) (w : World) : Calls Try.prog 5 #[sc b v, .int .i64 n] w (PE w b v n) := by
  have HS : Hid (BS (w.alloc (.cells #[.int .i64 b, .int .i64 v] 23)) w.heap.size b v) := heapNew _ _
  have b0 : Below w.heap.size w (w.alloc (.cells #[.int .i64 b, .int .i64 v] 23)) := (Below.refl _ _).alloc (Nat.le_refl _) _
  have HR : Hid (Below w.heap.size w (w.alloc (.cells #[.int .i64 b, .int .i64 v] 23))) := b0
  have hl0 := HS.out.c0
  have hl1 := HS.out.c1
  clear b0
  go_enter Try.func5, Try.ntmps5
  go_wp2_with fail
  generalize w.alloc (.cells #[.int .i64 b, .int .i64 v] 23) = w0 at *
  refine (good12 b v w0).mono ?_
  rintro e w1 ⟨rfl, b1⟩
  have H1 : Hid (Below w.heap.size w w1) := HR.out.trans (b1.mono HR.out.size)
  have hl0 := (HS.out.keep b1).c0
  have hl1 := (HS.out.keep b1).c1
  clear b1 HR HS
  rcases gd_two b v with hg | hg
  · rw [hg]
    by_cases hn : n < 1
    · have HP := Lib.hid (pt_bad hg (.inl hn))
      have q : decide (n < 1) = true := decide_eq_true hn
      clear hg
      go_wp2
      go_ret2
      exact PE.mk HP.out H1.out
    by_cases hn2 : 1048576 < n
    · have HP := Lib.hid (pt_bad hg (.inr hn2))
      have q : decide (n < 1) = false := decide_eq_false hn
      clear hg
      go_wp2
      go_ret2
      exact PE.mk HP.out H1.out
    have HP := Lib.hid (pt_yes hg (show ¬ (n < 1 ∨ 1048576 < n) by omega))
    have hbd := pw_bd (gd_ok hg)
    have q : decide (n < 1) = false := decide_eq_false hn
    clear hg
    go_wp2
    go_loop [7, 8] (fun kk tt => ∃ k t : Int, 0 ≤ k ∧ k ≤ t ∧ 0 ≤ t ∧ t ≤ 1064960 ∧ kk = .int .i64 k ∧ tt = .int .i64 t ∧ Hid (t = k * b ∧ (k = 0 ∨ t - b < n))) (fun _ tt => (1064960 - intOf tt).toNat)
    case atStart => exact ⟨0, 0, by omega, by omega, by omega, by omega, rfl, rfl, ⟨by simp, .inl rfl⟩⟩
    case round =>
      obtain ⟨k, t, hk0, hkt, ht0, ht1, rfl, rfl, HT⟩ := hrel
      by_cases hlt : t < n
      · have HT2 : Hid (t + b = (k + 1) * b ∧ (k + 1 = 0 ∨ t + b - b < n)) := ⟨by rw [Int.add_mul, ← HT.out.1]; omega, .inr (by omega)⟩
        clear HT
        go_wp2
        go_round
        case rel => exact ⟨k + 1, t + b, by omega, by omega, by omega, by omega, rfl, rfl, HT2⟩
        case measure => simp [intOf]; omega
      · have hc : cnt b n = k := cnt_eq hbd.1 (by omega) HT.out.1 (by omega) HT.out.2
        have HP2 : Hid (ptN b v n = k ∧ ptE b v n = 0) := ⟨HP.out.1.trans hc, HP.out.2⟩
        clear HT hc HP
        go_wp2
        go_ret2
        exact PE.mk HP2.out H1.out
  · rw [hg]
    have HP := Lib.hid (pt_no (n := n) hg)
    clear hg
    go_wp2
    go_ret2
    exact PE.mk HP.out H1.out
end Go.Proofs.Ythleiochiigddaa
