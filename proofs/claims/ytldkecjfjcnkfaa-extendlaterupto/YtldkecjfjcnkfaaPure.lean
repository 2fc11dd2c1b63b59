import Derived.Test.YtldkecjfjcnkfaaSame
namespace Go.Proofs.Ytldkecjfjcnkfaa
open Go.RowKit Go.Deep
/-- no field of another kind is set -/
def Own (k n : Int) (s : ByteArray) (ln dn : Nat) : Prop := (k = 1 ∨ n = 0) ∧ (k = 2 ∨ s.toList = []) ∧ (k = 3 ∨ ln = 0) ∧ (k = 4 ∨ dn = 0)
def BP (p : Bool → Prop) (w : World) (e : Ending) (w' : World) : Prop := ∃ r, e = .returned (.bool r) ∧ p r ∧ Below w.heap.size w w'
set_option maxHeartbeats 2000000 in
theorem pure32 (k n : Int) (s : ByteArray) (ln dn : Nat) (a a' : Option Addr) (c c' : Nat) (w : World) :
    Calls Try.prog 52 #[.agg #[.int .i64 k, .int .i64 n, .string s, .slice a ln c, .slice a' dn c']] w (BP (fun r => r = true ↔ 1 ≤ k ∧ k ≤ 4 ∧ Own k n s ln dn) w) := by
  go_enter Try.func52, Try.ntmps52
  go_wp2
  all_goals
    go_ret
    refine ⟨_, rfl, ?_, (Below.refl _ _).alloc (Nat.le_refl _) _⟩
    unfold Own
    first
      | (simp_all; done)
      | (simp_all; omega)
set_option maxHeartbeats 2000000 in
theorem foreign33 (k n : Int) (s : ByteArray) (ln dn : Nat) (a a' : Option Addr) (c c' : Nat) (w : World) :
    Calls Try.prog 81 #[.agg #[.int .i64 k, .int .i64 n, .string s, .slice a ln c, .slice a' dn c']] w (BP (fun r => r = false ↔ Own k n s ln dn) w) := by
  go_enter Try.func81, Try.ntmps81
  go_wp2
  all_goals
    go_ret
    refine ⟨_, rfl, ?_, (Below.refl _ _).alloc (Nat.le_refl _) _⟩
    unfold Own
    first
      | (simp_all; done)
      | (simp_all; omega)
end Go.Proofs.Ytldkecjfjcnkfaa
