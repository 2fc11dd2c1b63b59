import Derived.Test.YtegfdeiamnlfhaaDoorSr
namespace Go.Proofs.YtegfdeiamnlfhaaDoor
open Go.RowKit Go.Deep
def kM : ByteArray := ⟨#[109, 115, 103, 95, 116, 121, 112, 101]⟩
def kP : ByteArray := ⟨#[112, 105, 101, 99, 101]⟩
def kT : ByteArray := ⟨#[116, 111, 116, 97, 108, 95, 115, 105, 122, 101]⟩
/-- is a sheet good? -/
def shG (k p t : Int) (n : Nat) : Bool := decide (0 ≤ p ∧ (((k = 0 ∨ k = 2) ∧ t = 0 ∧ n = 0) ∨ (k = 1 ∧ 1 ≤ t ∧ t ≤ 1048576)))
/-- the pairs of a sheet -/
def shP (k p t : Int) : List (ByteArray × Int) := (kM, k) :: (kP, p) :: (if k = 1 then [(kT, t)] else [])
def shO (k p t : Int) : List (Bool × ByteArray × Int) := [(true, kM, k), (true, kP, p), (k == 1, kT, t)]
theorem shO_tl (k p t : Int) : tl (shO k p t) = shP k p t := by
  unfold shO shP tl
  by_cases h : k = 1
  · subst h; simp
  · have : (k == 1) = false := beq_eq_false_iff_ne.2 h
    simp [h, this]
theorem shO_rise (k p t : Int) : RiseO (shO k p t) := by
  intro a b x y hab hx hy
  have hb : b < 3 := by have := (List.getElem?_eq_some_iff.1 hy).1; simpa [shO] using this
  have l1 : Op.bytesLess kM.toList kP.toList = true := by decide +kernel
  have l2 : Op.bytesLess kM.toList kT.toList = true := by decide +kernel
  have l3 : Op.bytesLess kP.toList kT.toList = true := by decide +kernel
  obtain ⟨rfl, rfl⟩ | ⟨rfl, rfl⟩ | ⟨rfl, rfl⟩ : (a = 0 ∧ b = 1) ∨ (a = 0 ∧ b = 2) ∨ (a = 1 ∧ b = 2) := by omega
  all_goals
    simp [shO] at hx hy
    subst hx hy
    assumption
set_option maxHeartbeats 2000000 in
theorem good14 (k p t : Int) (a : Option Addr) (n c : Nat) (w : World) : Calls Tryd.prog 14 #[.agg #[.int .i64 k, .int .i64 p, .int .i64 t, .slice a n c]] w fun e w' => e = .returned (.bool (shG k p t n)) ∧ Below w.heap.size w w' := by
  by_cases hp : p < 0
  · have hR : shG k p t n = false := by unfold shG; simp; omega
    have q1 : decide (p < 0) = true := decide_eq_true hp
    rw [hR]
    clear hR
    go_enter Tryd.func14, Tryd.ntmps14
    go_wp2
    go_ret
    exact ⟨rfl, (Below.refl _ _).alloc (Nat.le_refl _) _⟩
  have q1 : decide (p < 0) = false := decide_eq_false hp
  by_cases k0 : k = 0
  · subst k0
    by_cases ht : t = 0
    · subst ht
      by_cases hn : n = 0
      · subst hn
        have hR : shG 0 p 0 0 = true := by unfold shG; simp; omega
        rw [hR]
        clear hR
        go_enter Tryd.func14, Tryd.ntmps14
        go_wp2
        go_ret
        exact ⟨rfl, (Below.refl _ _).alloc (Nat.le_refl _) _⟩
      · have q3 : ((n : Int) == 0) = false := beq_eq_false_iff_ne.2 (by omega)
        have hR : shG 0 p 0 n = false := by unfold shG; simp; omega
        rw [hR]
        clear hR
        go_enter Tryd.func14, Tryd.ntmps14
        go_wp2
        go_ret
        exact ⟨rfl, (Below.refl _ _).alloc (Nat.le_refl _) _⟩
    · have q2 : (t == 0) = false := beq_eq_false_iff_ne.2 ht
      have hR : shG 0 p t n = false := by unfold shG; simp; omega
      rw [hR]
      clear hR
      go_enter Tryd.func14, Tryd.ntmps14
      go_wp2
      go_ret
      exact ⟨rfl, (Below.refl _ _).alloc (Nat.le_refl _) _⟩
  have e0 : (k == 0) = false := beq_eq_false_iff_ne.2 k0
  by_cases k2 : k = 2
  · subst k2
    by_cases ht : t = 0
    · subst ht
      by_cases hn : n = 0
      · subst hn
        have hR : shG 2 p 0 0 = true := by unfold shG; simp; omega
        rw [hR]
        clear hR
        go_enter Tryd.func14, Tryd.ntmps14
        go_wp2
        go_ret
        exact ⟨rfl, (Below.refl _ _).alloc (Nat.le_refl _) _⟩
      · have q3 : ((n : Int) == 0) = false := beq_eq_false_iff_ne.2 (by omega)
        have hR : shG 2 p 0 n = false := by unfold shG; simp; omega
        rw [hR]
        clear hR
        go_enter Tryd.func14, Tryd.ntmps14
        go_wp2
        go_ret
        exact ⟨rfl, (Below.refl _ _).alloc (Nat.le_refl _) _⟩
    · have q2 : (t == 0) = false := beq_eq_false_iff_ne.2 ht
      have hR : shG 2 p t n = false := by unfold shG; simp; omega
      rw [hR]
      clear hR
      go_enter Tryd.func14, Tryd.ntmps14
      go_wp2
      go_ret
      exact ⟨rfl, (Below.refl _ _).alloc (Nat.le_refl _) _⟩
  have e2 : (k == 2) = false := beq_eq_false_iff_ne.2 k2
  by_cases k1 : k = 1
  · subst k1
    by_cases h1 : 1 ≤ t
    · have q2 : decide (1 ≤ t) = true := decide_eq_true h1
      by_cases h2 : t ≤ 1048576
      · have q3 : decide (t ≤ 1048576) = true := decide_eq_true h2
        have hR : shG 1 p t n = true := by unfold shG; simp; omega
        rw [hR]
        clear hR
        go_enter Tryd.func14, Tryd.ntmps14
        go_wp2
        go_ret
        exact ⟨rfl, (Below.refl _ _).alloc (Nat.le_refl _) _⟩
      · have q3 : decide (t ≤ 1048576) = false := decide_eq_false h2
        have hR : shG 1 p t n = false := by unfold shG; simp; omega
        rw [hR]
        clear hR
        go_enter Tryd.func14, Tryd.ntmps14
        go_wp2
        go_ret
        exact ⟨rfl, (Below.refl _ _).alloc (Nat.le_refl _) _⟩
    · have q2 : decide (1 ≤ t) = false := decide_eq_false h1
      have hR : shG 1 p t n = false := by unfold shG; simp; omega
      rw [hR]
      clear hR
      go_enter Tryd.func14, Tryd.ntmps14
      go_wp2
      go_ret
      exact ⟨rfl, (Below.refl _ _).alloc (Nat.le_refl _) _⟩
  have e1 : (k == 1) = false := beq_eq_false_iff_ne.2 k1
  have hR : shG k p t n = false := by unfold shG; simp; omega
  rw [hR]
  clear hR
  go_enter Tryd.func14, Tryd.ntmps14
  go_wp2
  go_ret
  exact ⟨rfl, (Below.refl _ _).alloc (Nat.le_refl _) _⟩
set_option maxHeartbeats 2000000 in
theorem fine11 (k p t : Int) (a : Option Addr) (n c : Nat) (w : World) : Calls Tryd.prog 11 #[.agg #[.int .i64 k, .int .i64 p, .int .i64 t, .slice a n c]] w fun e w' => e = .returned (.bool (shG k p t n)) ∧ Below w.heap.size w w' := by
  by_cases hp : p < 0
  · have hR : shG k p t n = false := by unfold shG; simp; omega
    have q1 : decide (p < 0) = true := decide_eq_true hp
    rw [hR]
    clear hR
    go_enter Tryd.func11, Tryd.ntmps11
    go_wp2
    go_ret
    exact ⟨rfl, (Below.refl _ _).alloc (Nat.le_refl _) _⟩
  have q1 : decide (p < 0) = false := decide_eq_false hp
  by_cases k0 : k = 0
  · subst k0
    by_cases ht : t = 0
    · subst ht
      by_cases hn : n = 0
      · subst hn
        have hR : shG 0 p 0 0 = true := by unfold shG; simp; omega
        rw [hR]
        clear hR
        go_enter Tryd.func11, Tryd.ntmps11
        go_wp2
        go_ret
        exact ⟨rfl, (Below.refl _ _).alloc (Nat.le_refl _) _⟩
      · have q3 : ((n : Int) == 0) = false := beq_eq_false_iff_ne.2 (by omega)
        have hR : shG 0 p 0 n = false := by unfold shG; simp; omega
        rw [hR]
        clear hR
        go_enter Tryd.func11, Tryd.ntmps11
        go_wp2
        go_ret
        exact ⟨rfl, (Below.refl _ _).alloc (Nat.le_refl _) _⟩
    · have q2 : (t == 0) = false := beq_eq_false_iff_ne.2 ht
      have hR : shG 0 p t n = false := by unfold shG; simp; omega
      rw [hR]
      clear hR
      go_enter Tryd.func11, Tryd.ntmps11
      go_wp2
      go_ret
      exact ⟨rfl, (Below.refl _ _).alloc (Nat.le_refl _) _⟩
  have e0 : (k == 0) = false := beq_eq_false_iff_ne.2 k0
  by_cases k2 : k = 2
  · subst k2
    by_cases ht : t = 0
    · subst ht
      by_cases hn : n = 0
      · subst hn
        have hR : shG 2 p 0 0 = true := by unfold shG; simp; omega
        rw [hR]
        clear hR
        go_enter Tryd.func11, Tryd.ntmps11
        go_wp2
        go_ret
        exact ⟨rfl, (Below.refl _ _).alloc (Nat.le_refl _) _⟩
      · have q3 : ((n : Int) == 0) = false := beq_eq_false_iff_ne.2 (by omega)
        have hR : shG 2 p 0 n = false := by unfold shG; simp; omega
        rw [hR]
        clear hR
        go_enter Tryd.func11, Tryd.ntmps11
        go_wp2
        go_ret
        exact ⟨rfl, (Below.refl _ _).alloc (Nat.le_refl _) _⟩
    · have q2 : (t == 0) = false := beq_eq_false_iff_ne.2 ht
      have hR : shG 2 p t n = false := by unfold shG; simp; omega
      rw [hR]
      clear hR
      go_enter Tryd.func11, Tryd.ntmps11
      go_wp2
      go_ret
      exact ⟨rfl, (Below.refl _ _).alloc (Nat.le_refl _) _⟩
  have e2 : (k == 2) = false := beq_eq_false_iff_ne.2 k2
  by_cases k1 : k = 1
  · subst k1
    by_cases h1 : 1 ≤ t
    · have q2 : decide (1 ≤ t) = true := decide_eq_true h1
      by_cases h2 : t ≤ 1048576
      · have q3 : decide (t ≤ 1048576) = true := decide_eq_true h2
        have hR : shG 1 p t n = true := by unfold shG; simp; omega
        rw [hR]
        clear hR
        go_enter Tryd.func11, Tryd.ntmps11
        go_wp2
        go_ret
        exact ⟨rfl, (Below.refl _ _).alloc (Nat.le_refl _) _⟩
      · have q3 : decide (t ≤ 1048576) = false := decide_eq_false h2
        have hR : shG 1 p t n = false := by unfold shG; simp; omega
        rw [hR]
        clear hR
        go_enter Tryd.func11, Tryd.ntmps11
        go_wp2
        go_ret
        exact ⟨rfl, (Below.refl _ _).alloc (Nat.le_refl _) _⟩
    · have q2 : decide (1 ≤ t) = false := decide_eq_false h1
      have hR : shG 1 p t n = false := by unfold shG; simp; omega
      rw [hR]
      clear hR
      go_enter Tryd.func11, Tryd.ntmps11
      go_wp2
      go_ret
      exact ⟨rfl, (Below.refl _ _).alloc (Nat.le_refl _) _⟩
  have e1 : (k == 1) = false := beq_eq_false_iff_ne.2 k1
  have hR : shG k p t n = false := by unfold shG; simp; omega
  rw [hR]
  clear hR
  go_enter Tryd.func11, Tryd.ntmps11
  go_wp2
  go_ret
  exact ⟨rfl, (Below.refl _ _).alloc (Nat.le_refl _) _⟩
end Go.Proofs.YtegfdeiamnlfhaaDoor
