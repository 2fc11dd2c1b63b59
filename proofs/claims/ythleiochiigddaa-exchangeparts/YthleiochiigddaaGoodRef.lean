import Derived.Test.YthleiochiigddaaGood
namespace Go.Proofs.Ythleiochiigddaa
open Go.RowKit
/-- the reference's counter: one of the nine, and none below it is the block -/
def at9 (b t : Int) : Prop := pw t = true ∧ ∀ s : Int, pw s = true → s < t → b ≠ s
theorem pw_cases {t : Int} (h : pw t = true) : t = 64 ∨ t = 128 ∨ t = 256 ∨ t = 512 ∨ t = 1024 ∨ t = 2048 ∨ t = 4096 ∨ t = 8192 ∨ t = 16384 := by
  unfold pw at h; simp only [Bool.or_eq_true, beq_iff_eq] at h; omega
theorem pw_bd {t : Int} (h : pw t = true) : 64 ≤ t ∧ t ≤ 16384 := by have := pw_cases h; omega
theorem pw_mk {t : Int} (h : t = 64 ∨ t = 128 ∨ t = 256 ∨ t = 512 ∨ t = 1024 ∨ t = 2048 ∨ t = 4096 ∨ t = 8192 ∨ t = 16384) : pw t = true := by
  unfold pw; simp only [Bool.or_eq_true, beq_iff_eq]; omega
theorem at9_step {b t : Int} (h : at9 b t) (hne : b ≠ t) (hlt : t < 16384) : at9 b (2 * t) := by
  obtain ⟨h1, h2⟩ := h
  have c := pw_cases h1
  refine ⟨pw_mk (by omega), fun s hs hlt2 => ?_⟩
  have d := pw_cases hs
  by_cases e : s < t
  · exact h2 s hs e
  · have : s = t := by omega
    rw [this]; exact hne
theorem at9_no {b : Int} (h : at9 b 16384) (hne : b ≠ 16384) : pw b = false := by
  cases hb : pw b with
  | false => rfl
  | true =>
    have c := pw_bd hb
    exact absurd rfl (h.2 b hb (by omega))
set_option maxHeartbeats 400000 in
theorem good12 (b v : Int) (w : World) :
    Calls Try.prog 13 #[sc b v] w fun e w' => e = .returned (.int .i64 (gd b v)) ∧ Below w.heap.size w w' := by
  go_enter Try.func13, Try.ntmps13
  go_wp2
  go_loop [3] (fun t => ∃ k : Int, 64 ≤ k ∧ k ≤ 16384 ∧ t = .int .i64 k ∧ Hid (at9 b k)) (fun t => (16384 - intOf t).toNat)
  case atStart => exact ⟨64, by omega, by omega, rfl, (⟨by decide, fun s hs h => absurd (pw_bd hs).1 (by omega)⟩ : at9 b 64)⟩
  case round =>
    obtain ⟨k, hk1, hk2, rfl, hk⟩ := hrel
    by_cases hlt : k < 16384
    · by_cases hb : k = b
      · have hbb : (k != b) = false := by simp [hb]
        have hbb2 : pw b = true := hb ▸ hk.out.1
        have H : Hid (pw b = true) := hbb2
        clear hbb2 hb
        by_cases c3 : v < 1
        · go_wp2
          go_ret
          exact ⟨ret_i (gd_no (.inr (.inl c3))), (Below.refl _ _).alloc (Nat.le_refl _) _⟩
        · by_cases c4 : 32 < v
          · go_wp2
            go_ret
            exact ⟨ret_i (gd_no (.inr (.inr c4))), (Below.refl _ _).alloc (Nat.le_refl _) _⟩
          · go_wp2
            go_ret
            exact ⟨ret_i (gd_yes H.out (by omega) (by omega)), (Below.refl _ _).alloc (Nat.le_refl _) _⟩
      · have hbb : (k != b) = true := by simp [hb]
        have hs := at9_step hk.out (Ne.symm hb) hlt
        have hbd := pw_bd hs.1
        have H : Hid (at9 b (2 * k)) := hs
        clear hs hb hk
        go_wp2
        go_round
        case rel => exact ⟨2 * k, by omega, by omega, rfl, H⟩
        case measure => simp [intOf]; omega
    · have hk3 : k = 16384 := by omega
      subst hk3
      by_cases hb : (16384 : Int) = b
      · have hbb : ((16384 : Int) != b) = false := by simp [hb]
        have hbb2 : pw b = true := hb ▸ hk.out.1
        have H : Hid (pw b = true) := hbb2
        clear hbb2 hb
        by_cases c3 : v < 1
        · go_wp2
          go_ret
          exact ⟨ret_i (gd_no (.inr (.inl c3))), (Below.refl _ _).alloc (Nat.le_refl _) _⟩
        · by_cases c4 : 32 < v
          · go_wp2
            go_ret
            exact ⟨ret_i (gd_no (.inr (.inr c4))), (Below.refl _ _).alloc (Nat.le_refl _) _⟩
          · go_wp2
            go_ret
            exact ⟨ret_i (gd_yes H.out (by omega) (by omega)), (Below.refl _ _).alloc (Nat.le_refl _) _⟩
      · have hbb : ((16384 : Int) != b) = true := by simp [hb]
        have hno := at9_no hk.out (Ne.symm hb)
        have H : Hid (pw b = false) := hno
        clear hno hb hk
        go_wp2
        go_ret
        exact ⟨ret_i (gd_no (.inl H.out)), (Below.refl _ _).alloc (Nat.le_refl _) _⟩
end Go.Proofs.Ythleiochiigddaa
