import Derived.Test.YthleiochiigddaaOnes
import Derived.WalkLawsBesides
namespace Go.Proofs.Ythleiochiigddaa
open Go.RowKit
set_option maxHeartbeats 400000 in
theorem ones64 (x : Int) (_h0 : 0 ≤ x) (_h1 : x ≤ 16384) (w : World) :
    Calls Try.prog 19 #[.int .u64 x] w fun e w' => e = .returned (.int .i64 (oc x)) ∧ w' = w := by
  go_enter Try.func19, Try.ntmps19
  go_wp2
  go_ret
  exact ⟨rfl, rfl⟩
theorem ones (x : Int) (h0 : 0 ≤ x) (h1 : x ≤ 16384) (w : World) :
    Calls Try.prog 17 #[.int .u64 x] w fun e w' => e = .returned (.int .i64 (oc x)) ∧ w' = w := by
  go_enter Try.func17, Try.ntmps17
  go_wp2_with (go_at_call 19; refine (ones64 _ (by omega) (by omega) _).mono ?_; rintro e w' ⟨rfl, rfl⟩)
  go_ret
  exact ⟨rfl, rfl⟩
/-- Good, in numbers -/
def gd (b v : Int) : Int := if pw b = true ∧ 1 ≤ v ∧ v ≤ 32 then 0 else 10
theorem gd_no {b v : Int} (h : pw b = false ∨ v < 1 ∨ 32 < v) : (10 : Int) = gd b v := by
  unfold gd; rw [if_neg]; rintro ⟨a, c, d⟩; rcases h with h | h | h
  · rw [a] at h; cases h
  · omega
  · omega
theorem gd_yes {b v : Int} (h : pw b = true) (h1 : 1 ≤ v) (h2 : v ≤ 32) : (0 : Int) = gd b v := by
  unfold gd; rw [if_pos ⟨h, h1, h2⟩]
theorem pw_low {b : Int} (h : b < 64) : pw b = false := by
  unfold pw; simp only [Bool.or_eq_false_iff, beq_eq_false_iff_ne]; omega
theorem pw_high {b : Int} (h : 16384 < b) : pw b = false := by
  unfold pw; simp only [Bool.or_eq_false_iff, beq_eq_false_iff_ne]; omega
theorem ret_i {a b : Int} (h : a = b) : Ending.returned (.int .i64 a) = .returned (.int .i64 b) := by rw [h]
abbrev sc (b v : Int) : Value := .agg #[.int .i64 b, .int .i64 v]
set_option maxHeartbeats 400000 in
theorem good6 (b v : Int) (w : World) :
    Calls Try.prog 10 #[sc b v] w fun e w' => e = .returned (.int .i64 (gd b v)) ∧ Below w.heap.size w w' := by
  by_cases c1 : b < 64
  · go_enter Try.func10, Try.ntmps10
    go_wp2
    go_ret
    exact ⟨ret_i (gd_no (.inl (pw_low c1))), (Below.refl _ _).alloc (Nat.le_refl _) _⟩
  · by_cases c2 : 16384 < b
    · go_enter Try.func10, Try.ntmps10
      go_wp2
      go_ret
      exact ⟨ret_i (gd_no (.inl (pw_high c2))), (Below.refl _ _).alloc (Nat.le_refl _) _⟩
    · have hp := oc_pow b (by omega) (by omega)
      cases hpw : pw b
      · rw [hpw] at hp
        have H : Hid (pw b = false) := hpw
        clear hpw
        go_enter Try.func10, Try.ntmps10
        go_wp2_with (go_at_call 17; refine (ones _ (by omega) (by omega) _).mono ?_; rintro e w' ⟨rfl, rfl⟩)
        go_ret
        exact ⟨ret_i (gd_no (.inl H.out)), (Below.refl _ _).alloc (Nat.le_refl _) _⟩
      · rw [hpw] at hp
        have H : Hid (pw b = true) := hpw
        clear hpw
        by_cases c3 : v < 1
        · go_enter Try.func10, Try.ntmps10
          go_wp2_with (go_at_call 17; refine (ones _ (by omega) (by omega) _).mono ?_; rintro e w' ⟨rfl, rfl⟩)
          go_ret
          exact ⟨ret_i (gd_no (.inr (.inl c3))), (Below.refl _ _).alloc (Nat.le_refl _) _⟩
        · by_cases c4 : 32 < v
          · go_enter Try.func10, Try.ntmps10
            go_wp2_with (go_at_call 17; refine (ones _ (by omega) (by omega) _).mono ?_; rintro e w' ⟨rfl, rfl⟩)
            go_ret
            exact ⟨ret_i (gd_no (.inr (.inr c4))), (Below.refl _ _).alloc (Nat.le_refl _) _⟩
          · go_enter Try.func10, Try.ntmps10
            go_wp2_with (go_at_call 17; refine (ones _ (by omega) (by omega) _).mono ?_; rintro e w' ⟨rfl, rfl⟩)
            go_ret
            exact ⟨ret_i (gd_yes H.out (by omega) (by omega)), (Below.refl _ _).alloc (Nat.le_refl _) _⟩
end Go.Proofs.Ythleiochiigddaa
