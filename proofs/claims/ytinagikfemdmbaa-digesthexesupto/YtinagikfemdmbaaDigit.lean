import Derived.Test.YtinagikfemdmbaaRows
import Derived.WalkKit
import Derived.BigQuiet
import Derived.Deep.QuietTactic
import Derived.WalkLawsBesides
import Derived.WalkSpells
namespace Go.Proofs.Ytinagikfemdmbaa
open Go.RowKit
/-- the digits' bytes -/
def dgS : ByteArray := { data := #[48, 49, 50, 51, 52, 53, 54, 55, 56, 57, 97, 98, 99, 100, 101, 102] }
def dgI (k : Int) : Int := if k < 10 then 48 + k else 87 + k
def dv (c : Int) : Int := if 48 ≤ c ∧ c ≤ 57 then c - 48 else if 97 ≤ c ∧ c ≤ 102 then c - 87 else -1
theorem dg_index (kd : IntKind) (hk : kd = .i64 ∨ kd = .u8) (k : Int) (h0 : 0 ≤ k) (h1 : k < 16) (w : World) :
    (Instr.index 9 (.string { data := #[48, 49, 50, 51, 52, 53, 54, 55, 56, 57, 97, 98, 99, 100, 101, 102] }) (.int kd k)).run Try.prog w = .ok (.int .u8 (dgI k)) w := by
  have : k = 0 ∨ k = 1 ∨ k = 2 ∨ k = 3 ∨ k = 4 ∨ k = 5 ∨ k = 6 ∨ k = 7 ∨ k = 8 ∨ k = 9 ∨ k = 10 ∨ k = 11 ∨ k = 12 ∨ k = 13 ∨ k = 14 ∨ k = 15 := by omega
  rcases hk with rfl | rfl <;> (rcases this with rfl | rfl | rfl | rfl | rfl | rfl | rfl | rfl | rfl | rfl | rfl | rfl | rfl | rfl | rfl | rfl <;> rfl)
theorem ret_i' {a b : Int} (h : a = b) : Ending.returned (.int .i64 a) = .returned (.int .i64 b) := by rw [h]
set_option maxHeartbeats 400000 in
theorem digit28 (c : Int) (w : World) (h0 : 0 ≤ c) (h1 : c ≤ 255) :
    Calls Try.prog 28 #[.int .u8 c] w fun e w' => e = .returned (.int .i64 (dv c)) ∧ w' = w := by
  by_cases c1 : 48 ≤ c
  · by_cases c2 : c ≤ 57
    · go_enter Try.func28, Try.ntmps28
      go_wp2
      go_ret
      exact ⟨ret_i' (by rw [dv, if_pos ⟨c1, c2⟩]), rfl⟩
    · by_cases c3 : 97 ≤ c
      · by_cases c4 : c ≤ 102
        · go_enter Try.func28, Try.ntmps28
          go_wp2
          go_ret
          exact ⟨ret_i' (by rw [dv, if_neg (by omega), if_pos ⟨c3, c4⟩]; omega), rfl⟩
        · go_enter Try.func28, Try.ntmps28
          go_wp2
          go_ret
          exact ⟨ret_i' (by rw [dv, if_neg (by omega), if_neg (by omega)]), rfl⟩
      · go_enter Try.func28, Try.ntmps28
        go_wp2
        go_ret
        exact ⟨ret_i' (by rw [dv, if_neg (by omega), if_neg (by omega)]), rfl⟩
  · have c3 : ¬ 97 ≤ c := by omega
    go_enter Try.func28, Try.ntmps28
    go_wp2
    go_ret
    exact ⟨ret_i' (by rw [dv, if_neg (by omega), if_neg (by omega)]), rfl⟩
def vl (c : Int) : Int := if dv c < 0 then 16 else dv c
theorem vl_of {c k : Int} (h0 : 0 ≤ k) (h1 : k < 16) (h : dgI k = c) : k = vl c := by
  subst h; unfold vl dv dgI; split <;> split <;> omega
theorem vl_no {c : Int} (h : ∀ j : Nat, j < 16 → dgI j ≠ c) : 16 = vl c := by
  unfold vl
  have : dv c = -1 := by
    unfold dv
    rw [if_neg, if_neg]
    · rintro ⟨a, b⟩
      exact h (c - 87).toNat (by omega) (by unfold dgI; split <;> omega)
    · rintro ⟨a, b⟩
      exact h (c - 48).toNat (by omega) (by unfold dgI; split <;> omega)
  rw [this]; rfl
set_option maxHeartbeats 400000 in
theorem value29 (c : Int) (w : World) :
    Calls Try.prog 29 #[.int .u8 c] w fun e w' => e = .returned (.int .i64 (vl c)) ∧ w' = w := by
  go_enter Try.func29, Try.ntmps29
  go_wp2
  go_loop [3] (fun t => ∃ k : Nat, k ≤ 16 ∧ t = .int .i64 k ∧ Hid (∀ j : Nat, j < k → dgI j ≠ c)) (fun t => 16 - (intOf t).toNat)
  case atStart => exact ⟨0, Nat.zero_le _, rfl, (fun e h => by omega : ∀ j : Nat, j < 0 → dgI j ≠ c)⟩
  case round =>
    obtain ⟨k, hk, rfl, hd⟩ := hrel
    by_cases hlt : k < 16
    · have hx := dg_index .i64 (.inl rfl) k (by omega) (by omega)
      by_cases hz : dgI k = c
      · have hzb : (dgI k == c) = true := by simp [hz]
        have Hz : Hid ((k : Int) = vl c) := vl_of (by omega) (by omega) hz
        clear hz hd
        go_wp2
        go_ret
        exact ⟨ret_i' Hz.out, rfl⟩
      · have hzb : (dgI k == c) = false := by simp [hz]
        have Hz : Hid (∀ j : Nat, j < k + 1 → dgI j ≠ c) := fun j h4 => by
          by_cases he : j = k
          · rw [he]; exact hz
          · exact hd.out j (by omega)
        clear hz hd
        go_wp2
        go_round
        case rel => exact ⟨k + 1, by omega, by go_num, Hz⟩
        case measure => simp [intOf]; omega
    · have hk16 : k = 16 := by omega
      subst hk16
      have Hz : Hid ((16 : Int) = vl c) := vl_no hd.out
      clear hd
      go_wp2
      go_ret
      exact ⟨ret_i' Hz.out, rfl⟩
end Go.Proofs.Ytinagikfemdmbaa
