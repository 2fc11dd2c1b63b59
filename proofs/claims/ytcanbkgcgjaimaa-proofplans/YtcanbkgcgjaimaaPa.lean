import Derived.Test.YtcanbkgcgjaimaaRows
import Derived.Shelf.Small.Bits
import Derived.Shelf.Lay
import Derived.Ground.NamesProg
import Derived.ProofKit
import Derived.OpenShut
import Derived.Lib.SmallJoins
import Derived.WalkLawsBesides
namespace Go.Proofs.Ytcanbkgcgjaimaa
open Go.Shelf Go.RowKit
shelf_lay Lays.n125 Nm 125 at Try as lays125
/-! ### Powers of two, and the reference's power, log, rise -/
def p2 (k : Nat) : Int := ((2 ^ k : Nat) : Int)
theorem p2_zero : p2 0 = 1 := rfl
theorem p2_succ (k : Nat) : p2 (k + 1) = 2 * p2 k := by unfold p2; rw [Nat.pow_succ]; omega
theorem p2_pos (k : Nat) : 1 ≤ p2 k := by have := Nat.one_le_two_pow (n := k); unfold p2; omega
theorem p2_mono {j k : Nat} (h : j ≤ k) : p2 j ≤ p2 k := by have := Nat.pow_le_pow_right (n := 2) (by omega) h; unfold p2; omega
theorem p2_lt {j k : Nat} (h : j < k) : p2 j < p2 k := by have := p2_mono (show j + 1 ≤ k from h); have := p2_succ j; have := p2_pos j; omega
theorem p2_le62 {k : Nat} (h : k ≤ 62) : p2 k ≤ 4611686018427387904 := by have := p2_mono h; have e : p2 62 = 4611686018427387904 := by decide
                                                                          omega
theorem power13 (k : Nat) (hk : k ≤ 62) (w : World) :
    Calls Try.prog 13 #[.int .i64 k] w fun e w' => e = .returned (.int .i64 (p2 k)) ∧ w' = w := by
  go_enter Try.func13, Try.ntmps13
  go_wp2
  go_loop [3, 4] (fun n i => ∃ j : Nat, j ≤ k ∧ n = .int .i64 (p2 j) ∧ i = .int .i64 j) (fun _ i => k - (intOf i).toNat)
  case atStart => exact ⟨0, by omega, by rw [p2_zero], rfl⟩
  case round =>
    obtain ⟨j, hj, rfl, rfl⟩ := hrel
    by_cases hlt : j < k
    · have hb := p2_le62 (show j + 1 ≤ 62 by omega)
      have hs := p2_succ j
      have hp := p2_pos j
      have b1 : p2 j ≤ 2305843009213693952 := by omega
      have e : (2 : Int) * p2 j = p2 (j + 1) := by omega
      clear hs hb
      go_wp2
      go_round
      · exact ⟨j + 1, by omega, by rw [← e], by simp⟩
      · simp [intOf]; omega
    · obtain rfl : j = k := by omega
      go_wp2
      go_ret
      exact ⟨rfl, rfl⟩
/-- the k with l = 2^k, from 1 to 9; 0: there is none -/
def LG (l : Int) (r : Nat) : Prop := (1 ≤ r ∧ r ≤ 9 ∧ l = p2 r) ∨ (r = 0 ∧ ∀ k, 1 ≤ k → k ≤ 9 → l ≠ p2 k)
theorem LG.unique {l : Int} {r s : Nat} (h : LG l r) (g : LG l s) : r = s := by
  rcases h with ⟨h1, h2, h3⟩ | ⟨h1, h2⟩ <;> rcases g with ⟨g1, g2, g3⟩ | ⟨g1, g2⟩
  · rcases Nat.lt_trichotomy r s with h | h | h
    · have := p2_lt h; omega
    · exact h
    · have := p2_lt h; omega
  · exact absurd h3 (g2 r h1 h2)
  · exact absurd g3 (h2 s g1 g2)
  · omega
theorem log18 (l : Int) (w : World) :
    Calls Try.prog 18 #[.int .i64 l] w fun e w' => ∃ r : Nat, e = .returned (.int .i64 r) ∧ LG l r ∧ w' = w := by
  go_enter Try.func18, Try.ntmps18
  go_wp2
  go_loop [3] (fun k => ∃ j : Nat, 1 ≤ j ∧ j ≤ 10 ∧ Hid (∀ i, 1 ≤ i → i < j → l ≠ p2 i) ∧ k = .int .i64 j) (fun k => 10 - (intOf k).toNat)
  case atStart => exact ⟨1, by omega, by omega, fun i h1 h2 => by omega, rfl⟩
  case round =>
    obtain ⟨j, hj1, hj2, H, rfl⟩ := hrel
    have e10 : p2 10 = 1024 := by decide
    have e9 : p2 9 = 512 := by decide
    by_cases hlt : j ≤ 9
    · have hb := p2_mono hlt
      rw [e9] at hb
      clear e9 e10
      by_cases heq : p2 j = l
      · go_wp2_with (go_at_call 13; refine (power13 j (by omega) _).mono ?_; rintro e w' ⟨rfl, rfl⟩)
        go_ret
        exact ⟨j, rfl, .inl ⟨hj1, hlt, heq.symm⟩, rfl⟩
      · go_wp2_with (go_at_call 13; refine (power13 j (by omega) _).mono ?_; rintro e w' ⟨rfl, rfl⟩)
        go_round
        · exact ⟨j + 1, by omega, by omega, fun i h1 h2 => by
            rcases Nat.lt_or_eq_of_le (Nat.le_of_lt_succ h2) with h | h
            · exact H.out i h1 h
            · rw [h]; exact fun e => heq e.symm, by simp⟩
        · simp [intOf]; omega
    · obtain rfl : j = 10 := by omega
      go_wp2_with (go_at_call 13; refine (power13 10 (by omega) _).mono ?_; rintro e w' ⟨rfl, rfl⟩)
      go_ret
      exact ⟨0, rfl, .inr ⟨rfl, fun k h1 h2 => H.out k h1 (by omega)⟩, rfl⟩
/-- the least r with 2^r at least n -/
def RI (n : Int) (r : Nat) : Prop := n ≤ p2 r ∧ ∀ j, j < r → p2 j < n
theorem RI.unique {n : Int} {r s : Nat} (h : RI n r) (g : RI n s) : r = s := by
  rcases Nat.lt_trichotomy r s with e | e | e
  · have := g.2 r e; have := h.1; omega
  · exact e
  · have := h.2 s e; have := g.1; omega
theorem RI.le {n : Int} {r : Nat} (h : RI n r) (hn : n ≤ 1048576) : r ≤ 20 := by
  have e : p2 20 = 1048576 := by decide
  rcases Nat.lt_or_ge 20 r with g | g
  · have := h.2 20 g; omega
  · exact g
theorem rise12 (n : Int) (h0 : 1 ≤ n) (h1 : n ≤ 1048576) (w : World) :
    Calls Try.prog 12 #[.int .i64 n] w fun e w' => ∃ r : Nat, e = .returned (.int .i64 r) ∧ RI n r ∧ w' = w := by
  go_enter Try.func12, Try.ntmps12
  go_wp2
  go_loop [3] (fun h => ∃ j : Nat, j ≤ 20 ∧ Hid (∀ i, i < j → p2 i < n) ∧ h = .int .i64 j) (fun h => 20 - (intOf h).toNat)
  case atStart => exact ⟨0, by omega, fun i h => by omega, rfl⟩
  case round =>
    obtain ⟨j, hj, H, rfl⟩ := hrel
    have e20 : p2 20 = 1048576 := by decide
    by_cases hlt : p2 j < n
    · have hj2 : j < 20 := by
        rcases Nat.lt_or_ge j 20 with g | g
        · exact g
        · have := p2_mono g; omega
      clear e20
      go_wp2_with (go_at_call 13; refine (power13 j (by omega) _).mono ?_; rintro e w' ⟨rfl, rfl⟩)
      go_round
      · exact ⟨j + 1, by omega, fun i h => by
          rcases Nat.lt_or_eq_of_le (Nat.le_of_lt_succ h) with g | g
          · exact H.out i g
          · rw [g]; exact hlt, by simp⟩
      · simp [intOf]; omega
    · clear e20
      go_wp2_with (go_at_call 13; refine (power13 j (by omega) _).mono ?_; rintro e w' ⟨rfl, rfl⟩)
      go_ret
      exact ⟨j, rfl, ⟨by omega, H.out⟩, rfl⟩
end Go.Proofs.Ytcanbkgcgjaimaa
