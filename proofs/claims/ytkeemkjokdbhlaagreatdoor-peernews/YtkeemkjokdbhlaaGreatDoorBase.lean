import Derived.Test.YtkeemkjokdbhlaaGreatDoorRows
import Derived.Test.YtkeemkjokdbhlaaGreatDoorBits
import Derived.WalkKit
import Derived.BigQuiet
import Derived.Deep.QuietTactic
import Derived.WalkLawsBesides
import Derived.Lib.Hide
import Derived.Laws.OwnMore
import Derived.Below
namespace Go.Proofs.YtkeemkjokdbhlaaGreatDoor
open Go.RowKit
/-- the slice v of bytes reads as the list l -/
def RB (w : World) (v : Value) (l : List UInt8) : Prop :=
  ∃ a c, v = .slice a l.length c ∧ (l = [] ∨ ∃ g o, a = some ⟨g, o, none⟩ ∧ g < w.heap.size ∧ ∀ i, i < l.length → w.cell? ⟨g, o + i, none⟩ = some (.int .u8 ((byt l i).toNat : Int)))
theorem RB.keep {w w' : World} {v : Value} {l : List UInt8} (h : RB w v l) (hb : Below w.heap.size w w') : RB w' v l := by
  obtain ⟨a, c, rfl, h⟩ := h
  refine ⟨a, c, rfl, ?_⟩
  rcases h with h | ⟨g, o, h1, h2, h3⟩
  · exact .inl h
  · exact .inr ⟨g, o, h1, Nat.lt_of_lt_of_le h2 hb.size, fun i hi => (World.cell?_of_block (w := w) (hb.block g h2)).trans (h3 i hi)⟩
/-- the table of masks -/
def MT (w : World) : Prop := 0 < w.heap.size ∧ ∀ j, j < 8 → w.cell? ⟨0, j, none⟩ = some (.int .u8 (mk j : Int))
theorem MT.keep {w w' : World} (h : MT w) (hb : Below w.heap.size w w') : MT w' :=
  ⟨Nat.lt_of_lt_of_le h.1 hb.size, fun j hj => (World.cell?_of_block (w := w) (hb.block 0 h.1)).trans (h.2 j hj)⟩
theorem belowDrew (w : World) (n : Nat) : Below w.heap.size w (w.drewN n) := ⟨rfl, rfl, rfl, Nat.le_refl _, fun _ _ => rfl⟩
theorem belowN {B : Nat} {a w : World} (h : Below B a w) (n : Nat) : Below B a (w.drewN n) := ⟨h.os, h.tape, h.output, h.size, h.block⟩
set_option maxHeartbeats 400000 in
theorem need27 (n : Nat) (hn : n ≤ 65536) (w : World) : Calls Tryz.prog 34 #[.int .i64 n] w fun e w' => e = .returned (.int .i64 (((n + 7) / 8 : Nat) : Int)) ∧ w = w' := by
  go_enter Tryz.func34, Tryz.ntmps34
  go_wp2
  go_ret
  exact ⟨by go_num, rfl⟩
set_option maxHeartbeats 400000 in
theorem weight30 (i : Nat) (hi : i ≤ 9223372036854775807) (w : World) : Calls Tryz.prog 59 #[.int .i64 i] w fun e w' => e = .returned (.int .i64 (mk (i % 8) : Int)) ∧ w = w' := by
  go_enter Tryz.func59, Tryz.ntmps59
  go_wp2
  go_loop [3, 4] (fun x t => ∃ k : Nat, k ≤ i % 8 ∧ t = .int .i64 k ∧ x = .int .i64 (mk k : Int)) (fun _ t => i % 8 - (intOf t).toNat)
  case atStart => exact ⟨0, Nat.zero_le _, rfl, rfl⟩
  case round =>
    obtain ⟨k, hk, rfl, rfl⟩ := hrel
    by_cases hlt : k < i % 8
    · have e : (mk k : Int) / 2 = (mk (k + 1) : Int) := by
        unfold mk
        have : 7 - k = (7 - (k + 1)) + 1 := by omega
        rw [this, Nat.pow_succ]; omega
      have hp := mk_pos k
      have hq := mk_lt k
      generalize mk k = m at *
      go_wp2
      exact ⟨⟨k + 1, by omega, by go_num, by rw [← e]⟩, by simp [intOf]; omega⟩
    · obtain rfl : k = i % 8 := by omega
      go_wp2
      go_ret
      exact ⟨rfl, rfl⟩
theorem ck_bits {n : Int} (h : n < 0 ∨ 65536 < n) (l : List UInt8) : ck n l = 40 := by unfold ck; rw [if_pos h]
theorem ck_bytes {n : Nat} (h : n ≤ 65536) {l : List UInt8} (hl : l.length ≠ (n + 7) / 8) : ck n l = 41 := by
  unfold ck; rw [if_neg (by omega), if_pos (by omega)]
theorem ck_spare {n : Nat} (h : n ≤ 65536) {l : List UInt8} (hl : l.length = (n + 7) / 8) {k : Nat} (hk : n ≤ k) (hb : bit l k = true) : ck n l = 42 := by
  have hk2 : k < 8 * l.length := by
    rcases Nat.lt_or_ge k (8 * l.length) with h | h
    · exact h
    · rw [bit_beyond l k h] at hb; cases hb
  unfold ck
  rw [if_neg (by omega), if_neg (by omega), if_pos]
  simp only [List.any_eq_true, List.mem_range, Bool.and_eq_true, decide_eq_true_eq]
  exact ⟨k, hk2, by omega, hb⟩
theorem ck_fine {n : Nat} (h : n ≤ 65536) {l : List UInt8} (hl : l.length = (n + 7) / 8) (hb : ∀ k, n ≤ k → k < 8 * l.length → bit l k = false) : ck n l = 0 := by
  unfold ck
  rw [if_neg (by omega), if_neg (by omega), if_neg]
  simp only [List.any_eq_true, List.mem_range, Bool.and_eq_true, decide_eq_true_eq, not_exists, not_and]
  intro k hk hn
  rw [hb k (by omega) hk]; simp
end Go.Proofs.YtkeemkjokdbhlaaGreatDoor
