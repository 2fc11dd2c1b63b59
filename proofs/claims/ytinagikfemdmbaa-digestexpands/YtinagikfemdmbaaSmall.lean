import Derived.Test.YtinagikfemdmbaaRows
import Derived.WalkKit
import Derived.BigQuiet
import Derived.Deep.QuietTactic
import Derived.WalkLawsBesides
import Derived.WalkSpells
namespace Go.Proofs.Ytinagikfemdmbaa
open Go.RowKit
theorem or_comm' (k : IntKind) (a b : Int) : bits .or k a b = bits .or k b a := by
  unfold bits; simp only [BitVec.or_comm]
theorem ret_u {a b : Int} (h : a = b) : Ending.returned (.int .u32 a) = .returned (.int .u32 b) := by rw [h]
/-- turned round to the right by 7 -/
def rr7 (x : Int) : Int := bits .or .u32 (x / 128) (x * 33554432 % 4294967296)
theorem and7 : bits .and .u64 (IntKind.u64.wrap (-7)) 31 = 25 := by decide +kernel
set_option maxHeartbeats 400000 in
theorem rot33_7 (x : Int) (w : World) (_h0 : 0 ≤ x) (_h1 : x ≤ 4294967295) :
    Calls Try.prog 33 #[.int .u32 x, .int .i64 (-7)] w fun e w' => e = .returned (.int .u32 (rr7 x)) ∧ w' = w := by
  have ha := and7
  go_enter Try.func33, Try.ntmps33
  go_wp2
  go_ret
  exact ⟨ret_u (or_comm' _ _ _), rfl⟩
theorem right32_7 (x : Int) (w : World) (h0 : 0 ≤ x) (h1 : x ≤ 4294967295) :
    Calls Try.prog 32 #[.int .u32 x, .int .i64 7] w fun e w' => e = .returned (.int .u32 (rr7 x)) ∧ w' = w := by
  go_enter Try.func32, Try.ntmps32
  go_wp2_with fail
  refine (rot33_7 x _ h0 h1).mono ?_
  rintro e w' ⟨rfl, rfl⟩
  go_wp2
  go_ret
  exact ⟨rfl, rfl⟩
set_option maxHeartbeats 400000 in
theorem right27_7 (x : Int) (w : World) (_h0 : 0 ≤ x) (_h1 : x ≤ 4294967295) :
    Calls Try.prog 27 #[.int .u32 x, .int .i64 7] w fun e w' => e = .returned (.int .u32 (rr7 x)) ∧ ∃ nq, w' = w.drewN nq := by
  go_enter Try.func27, Try.ntmps27
  go_wp2
  go_quiet (fail)
  go_wp2
  go_ret
  exact ⟨rfl, nq, rfl⟩
/-- turned round to the right by 18 -/
def rr18 (x : Int) : Int := bits .or .u32 (x / 262144) (x * 16384 % 4294967296)
theorem and18 : bits .and .u64 (IntKind.u64.wrap (-18)) 31 = 14 := by decide +kernel
set_option maxHeartbeats 400000 in
theorem rot33_18 (x : Int) (w : World) (_h0 : 0 ≤ x) (_h1 : x ≤ 4294967295) :
    Calls Try.prog 33 #[.int .u32 x, .int .i64 (-18)] w fun e w' => e = .returned (.int .u32 (rr18 x)) ∧ w' = w := by
  have ha := and18
  go_enter Try.func33, Try.ntmps33
  go_wp2
  go_ret
  exact ⟨ret_u (or_comm' _ _ _), rfl⟩
theorem right32_18 (x : Int) (w : World) (h0 : 0 ≤ x) (h1 : x ≤ 4294967295) :
    Calls Try.prog 32 #[.int .u32 x, .int .i64 18] w fun e w' => e = .returned (.int .u32 (rr18 x)) ∧ w' = w := by
  go_enter Try.func32, Try.ntmps32
  go_wp2_with fail
  refine (rot33_18 x _ h0 h1).mono ?_
  rintro e w' ⟨rfl, rfl⟩
  go_wp2
  go_ret
  exact ⟨rfl, rfl⟩
set_option maxHeartbeats 400000 in
theorem right27_18 (x : Int) (w : World) (_h0 : 0 ≤ x) (_h1 : x ≤ 4294967295) :
    Calls Try.prog 27 #[.int .u32 x, .int .i64 18] w fun e w' => e = .returned (.int .u32 (rr18 x)) ∧ ∃ nq, w' = w.drewN nq := by
  go_enter Try.func27, Try.ntmps27
  go_wp2
  go_quiet (fail)
  go_wp2
  go_ret
  exact ⟨rfl, nq, rfl⟩
/-- turned round to the right by 17 -/
def rr17 (x : Int) : Int := bits .or .u32 (x / 131072) (x * 32768 % 4294967296)
theorem and17 : bits .and .u64 (IntKind.u64.wrap (-17)) 31 = 15 := by decide +kernel
set_option maxHeartbeats 400000 in
theorem rot33_17 (x : Int) (w : World) (_h0 : 0 ≤ x) (_h1 : x ≤ 4294967295) :
    Calls Try.prog 33 #[.int .u32 x, .int .i64 (-17)] w fun e w' => e = .returned (.int .u32 (rr17 x)) ∧ w' = w := by
  have ha := and17
  go_enter Try.func33, Try.ntmps33
  go_wp2
  go_ret
  exact ⟨ret_u (or_comm' _ _ _), rfl⟩
theorem right32_17 (x : Int) (w : World) (h0 : 0 ≤ x) (h1 : x ≤ 4294967295) :
    Calls Try.prog 32 #[.int .u32 x, .int .i64 17] w fun e w' => e = .returned (.int .u32 (rr17 x)) ∧ w' = w := by
  go_enter Try.func32, Try.ntmps32
  go_wp2_with fail
  refine (rot33_17 x _ h0 h1).mono ?_
  rintro e w' ⟨rfl, rfl⟩
  go_wp2
  go_ret
  exact ⟨rfl, rfl⟩
set_option maxHeartbeats 400000 in
theorem right27_17 (x : Int) (w : World) (_h0 : 0 ≤ x) (_h1 : x ≤ 4294967295) :
    Calls Try.prog 27 #[.int .u32 x, .int .i64 17] w fun e w' => e = .returned (.int .u32 (rr17 x)) ∧ ∃ nq, w' = w.drewN nq := by
  go_enter Try.func27, Try.ntmps27
  go_wp2
  go_quiet (fail)
  go_wp2
  go_ret
  exact ⟨rfl, nq, rfl⟩
/-- turned round to the right by 19 -/
def rr19 (x : Int) : Int := bits .or .u32 (x / 524288) (x * 8192 % 4294967296)
theorem and19 : bits .and .u64 (IntKind.u64.wrap (-19)) 31 = 13 := by decide +kernel
set_option maxHeartbeats 400000 in
theorem rot33_19 (x : Int) (w : World) (_h0 : 0 ≤ x) (_h1 : x ≤ 4294967295) :
    Calls Try.prog 33 #[.int .u32 x, .int .i64 (-19)] w fun e w' => e = .returned (.int .u32 (rr19 x)) ∧ w' = w := by
  have ha := and19
  go_enter Try.func33, Try.ntmps33
  go_wp2
  go_ret
  exact ⟨ret_u (or_comm' _ _ _), rfl⟩
theorem right32_19 (x : Int) (w : World) (h0 : 0 ≤ x) (h1 : x ≤ 4294967295) :
    Calls Try.prog 32 #[.int .u32 x, .int .i64 19] w fun e w' => e = .returned (.int .u32 (rr19 x)) ∧ w' = w := by
  go_enter Try.func32, Try.ntmps32
  go_wp2_with fail
  refine (rot33_19 x _ h0 h1).mono ?_
  rintro e w' ⟨rfl, rfl⟩
  go_wp2
  go_ret
  exact ⟨rfl, rfl⟩
set_option maxHeartbeats 400000 in
theorem right27_19 (x : Int) (w : World) (_h0 : 0 ≤ x) (_h1 : x ≤ 4294967295) :
    Calls Try.prog 27 #[.int .u32 x, .int .i64 19] w fun e w' => e = .returned (.int .u32 (rr19 x)) ∧ ∃ nq, w' = w.drewN nq := by
  go_enter Try.func27, Try.ntmps27
  go_wp2
  go_quiet (fail)
  go_wp2
  go_ret
  exact ⟨rfl, nq, rfl⟩
def sm0 (x : Int) : Int := bits .xor .u32 (bits .xor .u32 (rr7 x) (rr18 x)) (x / 8)
set_option maxHeartbeats 400000 in
theorem small26 (x : Int) (w : World) (h0 : 0 ≤ x) (h1 : x ≤ 4294967295) :
    Calls Try.prog 26 #[.int .u32 x] w fun e w' => e = .returned (.int .u32 (sm0 x)) ∧ w' = w := by
  go_enter Try.func26, Try.ntmps26
  go_wp2_with fail
  refine (right32_7 x _ h0 h1).mono ?_
  rintro e w1 ⟨rfl, rfl⟩
  go_wp2_with fail
  refine (right32_18 x _ h0 h1).mono ?_
  rintro e w2 ⟨rfl, rfl⟩
  go_wp2
  go_ret
  exact ⟨rfl, rfl⟩
def sm1 (x : Int) : Int := bits .xor .u32 (bits .xor .u32 (rr17 x) (rr19 x)) (x / 1024)
set_option maxHeartbeats 400000 in
theorem small25 (x : Int) (w : World) (h0 : 0 ≤ x) (h1 : x ≤ 4294967295) :
    Calls Try.prog 25 #[.int .u32 x] w fun e w' => e = .returned (.int .u32 (sm1 x)) ∧ w' = w := by
  go_enter Try.func25, Try.ntmps25
  go_wp2_with fail
  refine (right32_17 x _ h0 h1).mono ?_
  rintro e w1 ⟨rfl, rfl⟩
  go_wp2_with fail
  refine (right32_19 x _ h0 h1).mono ?_
  rintro e w2 ⟨rfl, rfl⟩
  go_wp2
  go_ret
  exact ⟨rfl, rfl⟩
end Go.Proofs.Ytinagikfemdmbaa
