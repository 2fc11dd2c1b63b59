import Derived.Test.YtkngojddeajelaaDoorCk
import Derived.Deep.Cut
import Derived.Deep.CutRange
namespace Go.Proofs.YtkngojddeajelaaDoor
open Go.RowKit
def asksB (k : Int) : Bool := k == 6 || k == 8
def queryB (k : Int) : Bool := decide (21 ≤ k) && decide (k ≤ 23)
def numB (n : Int) : Bool := decide (0 ≤ n) && decide (n ≤ 4294967295)
def knownB (k : Int) : Bool := (decide (0 ≤ k) && decide (k ≤ 8)) || (decide (21 ≤ k) && decide (k ≤ 23))
theorem asksT (w : World) (k : Int) : Calls Tryd.prog 36 #[.int .i64 k] w fun e w' => e = .returned (.bool (asksB k)) ∧ w' = w := by
  by_cases h1 : k = 6
  · subst h1
    go_enter Tryd.func36, Tryd.ntmps36
    go_wp2
    go_ret
    exact ⟨rfl, rfl⟩
  · go_enter Tryd.func36, Tryd.ntmps36
    go_wp2
    go_ret
    exact ⟨rfl, rfl⟩
theorem queryT (w : World) (k : Int) : Calls Tryd.prog 37 #[.int .i64 k] w fun e w' => e = .returned (.bool (queryB k)) ∧ w' = w := by
  by_cases h1 : 21 ≤ k
  · rw [show queryB k = decide (k ≤ 23) by simp [queryB, h1]]
    go_enter Tryd.func37, Tryd.ntmps37
    go_wp2
    go_ret
    exact ⟨rfl, rfl⟩
  · rw [show queryB k = false by simp [queryB, h1]]
    go_enter Tryd.func37, Tryd.ntmps37
    go_wp2
    go_ret
    exact ⟨rfl, rfl⟩
theorem knownT (w : World) (k : Int) : Calls Tryd.prog 32 #[.int .i64 k] w fun e w' => e = .returned (.bool (knownB k)) ∧ w' = w := by
  by_cases h1 : 0 ≤ k
  · by_cases h2 : k ≤ 8
    · rw [show knownB k = true by simp [knownB, h1, h2]]
      go_enter Tryd.func32, Tryd.ntmps32
      go_wp2
      go_ret
      exact ⟨rfl, rfl⟩
    · by_cases h3 : 21 ≤ k
      · rw [show knownB k = decide (k ≤ 23) by simp [knownB, h2, h3]]
        go_enter Tryd.func32, Tryd.ntmps32
        go_wp2
        go_ret
        exact ⟨rfl, rfl⟩
      · rw [show knownB k = false by simp [knownB, h2, h3]]
        go_enter Tryd.func32, Tryd.ntmps32
        go_wp2
        go_ret
        exact ⟨rfl, rfl⟩
  · have h3 : ¬ 21 ≤ k := by omega
    rw [show knownB k = false by simp [knownB, h1, h3]]
    go_enter Tryd.func32, Tryd.ntmps32
    go_wp2
    go_ret
    exact ⟨rfl, rfl⟩
def fc1 (m : Mv) (A Q : Bool) : Bool := m.i != 0 && m.k != 4 && m.k != 7 && m.k != 1000 && !A && !Q
def fc2 (m : Mv) (A : Bool) : Bool := m.b != 0 && m.k != 7 && !A
def fc3 (m : Mv) (A Q : Bool) : Bool := m.l != 0 && !A && !Q
def fc4 (m : Mv) (nd : Nat) : Bool := decide (0 < nd) && m.k != 5 && m.k != 7 && m.k != 1000
def fc5 (m : Mv) (Q : Bool) : Bool := (m.r != zr 32 || m.ba != 0 || m.pr != 0) && !Q
def fc6 (m : Mv) (nh : Nat) : Bool := decide (0 < nh) && m.k != 22
def fR (m : Mv) : Bool := fc1 m (asksB m.k) (queryB m.k) || fc2 m (asksB m.k) || fc3 m (asksB m.k) (queryB m.k) || fc4 m (sln m.d) || fc5 m (queryB m.k) || fc6 m (sln m.h)
end Go.Proofs.YtkngojddeajelaaDoor
