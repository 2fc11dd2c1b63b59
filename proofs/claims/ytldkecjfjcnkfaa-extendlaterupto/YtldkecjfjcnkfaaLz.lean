import Derived.Test.YtldkecjfjcnkfaaRows
import Derived.WalkKit
import Derived.BigQuiet
import Derived.Lib.Hide
namespace Go.Proofs.Ytldkecjfjcnkfaa
open Go.RowKit
def wiI (v n : Int) : Int := if Int.tmod v n < 0 then Int.tmod v n + n else Int.tmod v n
set_option maxHeartbeats 1000000 in
theorem within31 (v n : Int) (h0 : 0 < n) (h1 : n ≤ 4611686018427387904) (w : World) : Calls Try.prog 31 #[.int .i64 v, .int .i64 n] w fun e w' => e = .returned (.int .i64 (wiI v n)) ∧ w' = w := by
  have hr : -n < Int.tmod v n ∧ Int.tmod v n < n := ⟨Int.lt_tmod_of_pos _ h0, Int.tmod_lt_of_pos _ h0⟩
  have hn : ¬ n = 0 := by omega
  have hn2 : (n == 0) = false := by simpa using hn
  have HR := Lib.hid hr
  have hwr : IntKind.i64.wrap (Int.tmod v n) = Int.tmod v n := by rw [IntKind.wrap_i64]; omega
  by_cases hc : Int.tmod v n < 0
  · have HE : Hid (wiI v n = Int.tmod v n + n) := if_pos hc
    have hwr2 : IntKind.i64.wrap (Int.tmod v n + n) = Int.tmod v n + n := by rw [IntKind.wrap_i64]; omega
    clear hr
    go_enter Try.func31, Try.ntmps31
    go_wp2
    go_ret
    exact ⟨by rw [HE.out]; rfl, rfl⟩
  · have HE : Hid (wiI v n = Int.tmod v n) := if_neg hc
    clear hr
    go_enter Try.func31, Try.ntmps31
    go_wp2
    go_ret
    exact ⟨by rw [HE.out]; rfl, rfl⟩
def laI (a b : Int) : Int := if b = 0 then a else b
theorem last23 (a b : Int) (w : World) : Calls Try.prog 23 #[.int .i64 a, .int .i64 b] w fun e w' => e = .returned (.int .i64 (laI a b)) ∧ w' = w := by
  by_cases h : b = 0
  · have HE : Hid (laI a b = a) := if_pos h
    have hb : (b != 0) = false := by simp [h]
    have h0 : Hid (b = 0) := h
    clear h
    go_enter Try.func23, Try.ntmps23
    go_wp2
    go_ret
    exact ⟨by rw [HE.out]; rfl, rfl⟩
  · have HE : Hid (laI a b = b) := if_neg h
    have hb : (b != 0) = true := by simp [h]
    clear h
    go_enter Try.func23, Try.ntmps23
    go_wp2
    go_ret
    exact ⟨by rw [HE.out]; rfl, rfl⟩
end Go.Proofs.Ytldkecjfjcnkfaa
