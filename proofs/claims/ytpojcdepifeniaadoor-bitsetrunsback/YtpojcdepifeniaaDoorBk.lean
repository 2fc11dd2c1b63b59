import Derived.Test.YtpojcdepifeniaaDoorRunG
namespace Go.Proofs.YtpojcdepifeniaaDoor
/-- from the place s on, the runs of the bits below m are r -/
def RSq (l : List UInt8) (m : Nat) : Nat → List (Nat × Nat) → Prop
  | s, [] => s ≤ m ∧ ∀ i, s ≤ i → i < m → bit l i = false
  | s, (a, b) :: r => s ≤ a ∧ 1 ≤ b ∧ a + b ≤ m ∧ (∀ i, s ≤ i → i < a → bit l i = false) ∧ (∀ i, a ≤ i → i < a + b → bit l i = true) ∧ (a + b = m ∨ bit l (a + b) = false) ∧ RSq l m (a + b) r
theorem rsq_no {l : List UInt8} {k : Nat} (hb : bit l k = false) : ∀ (r : List (Nat × Nat)) (s : Nat), RSq l k s r → RSq l (k + 1) s r
  | [], s, h => ⟨by have := h.1; omega, fun i h1 h2 => by
      by_cases hi : i = k
      · rw [hi]; exact hb
      · exact h.2 i h1 (by omega)⟩
  | (a, b) :: r, s, ⟨h1, h2, h3, h4, h5, h6, h7⟩ => ⟨h1, h2, by omega, h4, h5, .inr (by
      rcases h6 with h | h
      · rw [h]; exact hb
      · exact h), rsq_no hb r _ h7⟩
theorem rsq_new {l : List UInt8} {k : Nat} (hb : bit l k = true) (hs : ¬ (0 < k ∧ bit l (k - 1) = true)) : ∀ (r : List (Nat × Nat)) (s : Nat), RSq l k s r → RSq l (k + 1) s (r ++ [(k, 1)])
  | [], s, h => ⟨h.1, by omega, by omega, h.2, fun i h1 h2 => by rw [show i = k by omega]; exact hb, .inl rfl, by omega, fun i h1 h2 => by omega⟩
  | (a, b) :: r, s, ⟨h1, h2, h3, h4, h5, h6, h7⟩ => ⟨h1, h2, by omega, h4, h5, .inr (by
      rcases h6 with h | h
      · exact absurd ⟨by omega, h5 (k - 1) (by omega) (by omega)⟩ hs
      · exact h), rsq_new hb hs r _ h7⟩
theorem rsq_more {l : List UInt8} {k : Nat} (hb : bit l k = true) {a b : Nat} (he : a + b = k) (hb1 : 1 ≤ b) : ∀ (r : List (Nat × Nat)) (s : Nat), RSq l k s (r ++ [(a, b)]) → RSq l (k + 1) s (r ++ [(a, b + 1)])
  | [], s, ⟨h1, h2, h3, h4, h5, h6, h7⟩ => ⟨h1, by omega, by omega, h4, fun i g1 g2 => by
      by_cases hi : i = k
      · rw [hi]; exact hb
      · exact h5 i g1 (by omega), .inl (by omega), by omega, fun i g1 g2 => by omega⟩
  | (a', b') :: r, s, ⟨h1, h2, h3, h4, h5, h6, h7⟩ => ⟨h1, h2, by omega, h4, h5, .inr (by
      rcases h6 with h | h
      · exfalso
        cases r with
        | nil => have := h7.1; omega
        | cons p r =>
          obtain ⟨p1, p2⟩ := p
          have g1 := h7.1
          have g2 := h7.2.1
          have g3 := h7.2.2.1
          omega
      · exact h), rsq_more hb he hb1 r _ h7⟩
theorem rsq_rs (l : List UInt8) (k : Nat) : RSq l k 0 (rs l k) := by
  induction k with
  | zero => exact ⟨Nat.le_refl _, fun i h1 h2 => by omega⟩
  | succ k ih =>
    by_cases hb : bit l k = true
    · by_cases hs : 0 < k ∧ bit l (k - 1) = true
      · obtain ⟨j, rfl⟩ : ∃ j, k = j + 1 := ⟨k - 1, by omega⟩
        obtain ⟨r, a, b, e1, e2⟩ := rs_last (l := l) (k := j) (by simpa using hs.2)
        rw [rs_more hb hs, e1, grow_snoc]
        rw [e1] at ih
        exact rsq_more hb e2 (by omega) r 0 ih
      · rw [rs_new hb hs]
        exact rsq_new hb hs _ 0 ih
    · have hf : bit l k = false := by simpa using hb
      rw [rs_no hf]
      exact rsq_no hf _ 0 ih
end Go.Proofs.YtpojcdepifeniaaDoor
