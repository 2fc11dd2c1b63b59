import Derived.Test.YtjhnkdhbjpddcaaDoorRows
import Derived.Test.YtjhnkdhbjpddcaaDoorBits
import Derived.WalkKit
import Derived.BigQuiet
import Derived.Deep.QuietTactic
import Derived.WalkLawsBesides
import Derived.Lib.Hide
import Derived.Laws.OwnMore
import Derived.Below
namespace Go.Proofs.YtjhnkdhbjpddcaaDoor
open Go.RowKit
/-- the slice v of bytes reads as the list l -/
def RB (w : World) (v : Value) (l : List UInt8) : Prop :=
  ∃ a c, v = .slice a l.length c ∧ (l = [] ∨ ∃ g o, a = some ⟨g, o, none⟩ ∧ g < w.heap.size ∧ ∀ i, i < l.length → w.cell? ⟨g, o + i, none⟩ = some (.int .u8 ((byt l i).toNat : Int)))
theorem RB.keep {w w' : World} {v : Value} {l : List UInt8} (h : RB w v l) (hb : Below w.heap.size w w') : RB w' v l := by
  obtain ⟨a, c, rfl, h⟩ := h
  refine ⟨a, c, rfl, ?_⟩
  rcases h with h | ⟨g, o, h1, h2, h3⟩
  · exact .inl h
  · exact .inr ⟨g, o, h1, Nat.lt_of_lt_of_le h2 hb.size, fun i hi => (World.cell?_of_block (w := w) (hb.block g h2)).trans (h3 i hi)⟩
/-- the table of masks -/
def MT (w : World) : Prop := 0 < w.heap.size ∧ ∀ j, j < 8 → w.cell? ⟨0, j, none⟩ = some (.int .u8 (mk j : Int))
theorem MT.keep {w w' : World} (h : MT w) (hb : Below w.heap.size w w') : MT w' :=
  ⟨Nat.lt_of_lt_of_le h.1 hb.size, fun j hj => (World.cell?_of_block (w := w) (hb.block 0 h.1)).trans (h.2 j hj)⟩
theorem belowDrew (w : World) (n : Nat) : Below w.heap.size w (w.drewN n) := ⟨rfl, rfl, rfl, Nat.le_refl _, fun _ _ => rfl⟩
theorem belowN {B : Nat} {a w : World} (h : Below B a w) (n : Nat) : Below B a (w.drewN n) := ⟨h.os, h.tape, h.output, h.size, h.block⟩
set_option maxHeartbeats 400000 in
theorem need27 (n : Nat) (hn : n ≤ 65536) (w : World) : Calls Tryd.prog 17 #[.int .i64 n] w fun e w' => e = .returned (.int .i64 (((n + 7) / 8 : Nat) : Int)) ∧ w = w' := by
  go_enter Tryd.func17, Tryd.ntmps17
  go_wp2
  go_ret
  exact ⟨by go_num, rfl⟩
set_option maxHeartbeats 400000 in
theorem has28 (v : Value) (l : List UInt8) (i : Nat) (w : World) (hr : RB w v l) (hm : MT w) (hi : i < 8 * l.length) (hl : l.length ≤ 140737488351232) :
    Calls Tryd.prog 18 #[v, .int .i64 i] w fun e w' => e = .returned (.bool (bit l i)) ∧ ∃ n, w' = w.drewN n := by
  obtain ⟨a, c, rfl, hr⟩ := hr
  rcases hr with rfl | ⟨g, o, rfl, hg, hc⟩
  · simp at hi
  have h1 := hc (i / 8) (by omega)
  have h2 := hm.2 (i % 8) (Nat.mod_lt _ (by omega))
  have h3 := u8_and_nat (byt l (i / 8)).toNat (mk (i % 8)) (UInt8.toNat_lt _) (mk_lt _)
  have h4 := and_mk (byt l (i / 8)) (i % 8) (Nat.mod_lt _ (by omega))
  clear hc hm
  go_enter Tryd.func18, Tryd.ntmps18
  go_wp2
  go_region
  go_wp2
  go_ret
  refine ⟨?_, _, rfl⟩
  have h5 : ((((byt l (i / 8)).toNat &&& mk (i % 8) : Nat) : Int) != 0) = bit l i := by
    have : ((((byt l (i / 8)).toNat &&& mk (i % 8) : Nat) : Int) == 0) = (((byt l (i / 8)).toNat &&& mk (i % 8)) == 0) := by
      rw [Bool.eq_iff_iff, beq_iff_eq, beq_iff_eq]; omega
    unfold bne bit
    rw [this, h4]; simp
  rw [h5]; rfl
theorem ck_bits {n : Int} (h : n < 0 ∨ 65536 < n) (l : List UInt8) : ck n l = 40 := by unfold ck; rw [if_pos h]
theorem ck_bytes {n : Nat} (h : n ≤ 65536) {l : List UInt8} (hl : l.length ≠ (n + 7) / 8) : ck n l = 41 := by
  unfold ck; rw [if_neg (by omega), if_pos (by omega)]
theorem ck_spare {n : Nat} (h : n ≤ 65536) {l : List UInt8} (hl : l.length = (n + 7) / 8) {k : Nat} (hk : n ≤ k) (hb : bit l k = true) : ck n l = 42 := by
  have hk2 : k < 8 * l.length := by
    rcases Nat.lt_or_ge k (8 * l.length) with h | h
    · exact h
    · rw [bit_beyond l k h] at hb; cases hb
  unfold ck
  rw [if_neg (by omega), if_neg (by omega), if_pos]
  simp only [List.any_eq_true, List.mem_range, Bool.and_eq_true, decide_eq_true_eq]
  exact ⟨k, hk2, by omega, hb⟩
theorem ck_fine {n : Nat} (h : n ≤ 65536) {l : List UInt8} (hl : l.length = (n + 7) / 8) (hb : ∀ k, n ≤ k → k < 8 * l.length → bit l k = false) : ck n l = 0 := by
  unfold ck
  rw [if_neg (by omega), if_neg (by omega), if_neg]
  simp only [List.any_eq_true, List.mem_range, Bool.and_eq_true, decide_eq_true_eq, not_exists, not_and]
  intro k hk hn
  rw [hb k (by omega) hk]; simp
set_option maxHeartbeats 1000000 in
theorem check10 (n : Int) (h0 : -9223372036854775808 ≤ n) (h1 : n ≤ 9223372036854775807) (v : Value) (l : List UInt8) (w : World) (hr : RB w v l) (hm : MT w) (hl : l.length ≤ 140737488351232) :
    Calls Tryd.prog 8 #[.int .i64 n, v] w fun e w' => e = .returned (.int .i64 (ck n l)) ∧ ∃ nq, w' = w.drewN nq := by
  have HR : Hid (RB w v l ∧ MT w) := ⟨hr, hm⟩
  clear hm
  obtain ⟨a, c, rfl, _⟩ := hr
  by_cases h : n < 0 ∨ 65536 < n
  · rw [ck_bits h]
    rcases h with h | h
    · go_enter Tryd.func8, Tryd.ntmps8
      go_wp2
      go_ret
      exact ⟨rfl, 0, rfl⟩
    · go_enter Tryd.func8, Tryd.ntmps8
      go_wp2
      go_ret
      exact ⟨rfl, 0, rfl⟩
  · obtain ⟨m, rfl⟩ := Int.eq_ofNat_of_zero_le (show 0 ≤ n by omega)
    have hm : m ≤ 65536 := by omega
    clear h h0 h1
    generalize hz : ck m l = z
    have HZ : Hid (ck m l = z) := hz
    clear hz
    by_cases hlen : l.length = (m + 7) / 8
    · go_enter Tryd.func8, Tryd.ntmps8
      go_wp2_with (go_at_call 17; refine (need27 m hm _).mono ?_; rintro e w1 ⟨rfl, rfl⟩)
      go_loopw [5] (fun i wr => ∃ (k nq : Nat), m ≤ k ∧ k ≤ 8 * l.length ∧ i = .int .i64 k ∧ wr = w.drewN nq ∧ ∀ j, m ≤ j → j < k → bit l j = false) (fun i _ => 8 * l.length - (intOf i).toNat)
      case atStart => exact ⟨m, 0, Nat.le_refl _, by omega, rfl, rfl, fun j h1 h2 => absurd h1 (by omega)⟩
      case round =>
        obtain ⟨k, nq, hk1, hk2, rfl, rfl, hb⟩ := hrel
        by_cases hlt : k < 8 * l.length
        · have HC : Hid (Calls Tryd.prog 18 #[.slice a l.length c, .int .i64 k] (w.drewN nq) fun e w' => e = .returned (.bool (bit l k)) ∧ ∃ n, w' = (w.drewN nq).drewN n) :=
            has28 _ l k _ (HR.out.1.keep (belowDrew _ _)) (HR.out.2.keep (belowDrew _ _)) hlt hl
          rw [hlen] at HC
          by_cases hbit : bit l k = true
          · have hz : z = 42 := HZ.out.symm.trans (ck_spare hm hlen hk1 hbit)
            clear hb
            rw [hbit] at HC
            go_wp2_with (go_at_call 18; refine HC.out.mono ?_; rintro e w1 ⟨rfl, nr, rfl⟩)
            go_ret
            exact ⟨by subst hz; rfl, _, rfl⟩
          · have hbf : bit l k = false := by simpa using hbit
            rw [hbf] at HC
            have HB : Hid (∀ j, m ≤ j → j < k → bit l j = false) := hb
            clear hb
            go_wp2_with (go_at_call 18; refine HC.out.mono ?_; rintro e w1 ⟨rfl, nr, rfl⟩)
            go_roundw
            case rel => exact ⟨k + 1, _, by omega, by omega, by go_num, rfl, fun j h1 h2 => by
              by_cases h : j = k
              · rw [h]; exact hbf
              · exact HB.out j h1 (by omega)⟩
            case measure => simp [intOf]; omega
        · obtain rfl : k = 8 * l.length := by omega
          have hz : z = 0 := HZ.out.symm.trans (ck_fine hm hlen hb)
          clear hb
          go_wp2
          go_ret
          exact ⟨by subst hz; rfl, _, rfl⟩
    · have hz : z = 41 := HZ.out.symm.trans (ck_bytes hm hlen)
      have hl2 : ((l.length : Int) != (((m + 7) / 8 : Nat) : Int)) = true := by simp; omega
      go_enter Tryd.func8, Tryd.ntmps8
      go_wp2_with (go_at_call 17; refine (need27 m hm _).mono ?_; rintro e w1 ⟨rfl, rfl⟩)
      go_ret
      exact ⟨by subst hz; rfl, 0, rfl⟩
end Go.Proofs.YtjhnkdhbjpddcaaDoor
