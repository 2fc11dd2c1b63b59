import Derived.Test.YteafkmdgnfbcfaaDoorBase
namespace Go.Proofs.YteafkmdgnfbcfaaDoor
open Go.RowKit
theorem ck_last {m : Nat} (hm : m ≤ 65536) {l : List UInt8} (hl : l.length = (m + 7) / 8) (hr : m % 8 ≠ 0) :
    ck m l = if (byt l (l.length - 1)).toNat % (2 * mk (m % 8)) = 0 then 0 else 42 := by
  have hs := spare_fin ⟨(byt l (l.length - 1)).toNat, UInt8.toNat_lt _⟩ ⟨m % 8, Nat.mod_lt _ (by omega)⟩ (by show 0 < m % 8; omega)
  simp only at hs
  have hd : ∀ k, m ≤ k → k < 8 * l.length → k / 8 = l.length - 1 := by intro k h1 h2; omega
  by_cases h : (byt l (l.length - 1)).toNat % (2 * mk (m % 8)) = 0
  · rw [if_pos h]
    rw [h, beq_self_eq_true] at hs
    have hs' := List.all_eq_true.1 hs.symm
    refine ck_fine hm hl fun k h1 h2 => ?_
    have := hs' (k % 8) (List.mem_range.2 (Nat.mod_lt _ (by omega)))
    have h3 := hd k h1 h2
    have h4 : ¬ k % 8 < m % 8 := by omega
    unfold bit
    rw [h3]
    simpa [h4] using this
  · rw [if_neg h]
    have hf : (List.range 8).all (fun j => decide (j < m % 8) || !((byt l (l.length - 1)).toNat.testBit (7 - j))) = false := by
      rw [← hs]; simpa using h
    rw [List.all_eq_false] at hf
    obtain ⟨j, hj, hb⟩ := hf
    have hj8 : j < 8 := List.mem_range.1 hj
    simp at hb
    refine ck_spare hm hl (k := 8 * (l.length - 1) + j) (by omega) ?_
    unfold bit
    rw [show (8 * (l.length - 1) + j) / 8 = l.length - 1 by omega, show (8 * (l.length - 1) + j) % 8 = j by omega]
    exact hb.2
set_option maxHeartbeats 1000000 in
theorem check11 (n : Int) (h0 : -9223372036854775808 ≤ n) (h1 : n ≤ 9223372036854775807) (v : Value) (l : List UInt8) (w : World) (hr : RB w v l) (hl : l.length ≤ 140737488351232) :
    Calls Tryd.prog 8 #[.int .i64 n, v] w fun e w' => e = .returned (.int .i64 (ck n l)) ∧ ∃ nq, w' = w.drewN nq := by
  obtain ⟨a, c, rfl, hr⟩ := hr
  by_cases h : n < 0 ∨ 65536 < n
  · rw [ck_bits h]
    rcases h with h | h
    · go_enter Tryd.func8, Tryd.ntmps8
      go_wp2
      go_ret
      exact ⟨rfl, 0, rfl⟩
    · go_enter Tryd.func8, Tryd.ntmps8
      go_wp2
      go_ret
      exact ⟨rfl, 0, rfl⟩
  · obtain ⟨m, rfl⟩ := Int.eq_ofNat_of_zero_le (show 0 ≤ n by omega)
    have hm : m ≤ 65536 := by omega
    clear h h0 h1
    generalize hz : ck m l = z
    have HZ : Hid (ck m l = z) := hz
    clear hz
    by_cases hlen : l.length = (m + 7) / 8
    · by_cases h8 : m % 8 = 0
      · have hz : z = 0 := HZ.out.symm.trans (ck_fine hm hlen fun k h1 h2 => absurd h1 (by omega))
        clear hr
        go_enter Tryd.func8, Tryd.ntmps8
        go_wp2_with (go_at_call 14; refine (size29 m hm _).mono ?_; rintro e w1 ⟨rfl, rfl⟩)
        go_ret
        exact ⟨by subst hz; rfl, 0, rfl⟩
      · have hzl := HZ.out.symm.trans (ck_last hm hlen h8)
        rcases hr with rfl | ⟨g, o, rfl, hg, hc⟩
        · simp at hlen; omega
        have hc1 := hc (l.length - 1) (by omega)
        clear hc
        have hmk := mk_lt (m % 8)
        have hmp := mk_pos (m % 8)
        have hx := UInt8.toNat_lt (byt l (l.length - 1))
        rw [hlen] at hc1 hzl hx
        generalize (byt l ((m + 7) / 8 - 1)).toNat = x at hc1 hzl hx
        have hW : Hid (∀ w, Calls Tryd.prog 15 #[.int .i64 m] w fun e w' => e = .returned (.int .i64 (mk (m % 8) : Int)) ∧ w = w') := fun w => weight30 m (by omega) w
        generalize mk (m % 8) = q at *
        clear HZ
        have hcast : (x : Int) % (2 * (q : Int)) = ((x % (2 * q) : Nat) : Int) := by simp
        by_cases hq : x % (2 * q) = 0
        · rw [if_pos hq] at hzl
          have hqi : ((x : Int) % (2 * (q : Int)) != 0) = false := by rw [hcast, hq]; rfl
          clear hcast hq
          go_enter Tryd.func8, Tryd.ntmps8
          go_wp2_with (first | (go_at_call 14; refine (size29 m hm _).mono ?_; rintro e w1 ⟨rfl, rfl⟩) | (go_at_call 15; refine (hW.out _).mono ?_; rintro e w1 ⟨rfl, rfl⟩))
          go_ret
          exact ⟨by subst hzl; rfl, 0, rfl⟩
        · rw [if_neg hq] at hzl
          have hqi : ((x : Int) % (2 * (q : Int)) != 0) = true := by rw [hcast]; simp; omega
          clear hcast hq
          go_enter Tryd.func8, Tryd.ntmps8
          go_wp2_with (first | (go_at_call 14; refine (size29 m hm _).mono ?_; rintro e w1 ⟨rfl, rfl⟩) | (go_at_call 15; refine (hW.out _).mono ?_; rintro e w1 ⟨rfl, rfl⟩))
          go_ret
          exact ⟨by subst hzl; rfl, 0, rfl⟩
    · have hz : z = 41 := HZ.out.symm.trans (ck_bytes hm hlen)
      have hl2 : ((l.length : Int) != (((m + 7) / 8 : Nat) : Int)) = true := by simp; omega
      go_enter Tryd.func8, Tryd.ntmps8
      go_wp2_with (go_at_call 14; refine (size29 m hm _).mono ?_; rintro e w1 ⟨rfl, rfl⟩)
      go_ret
      exact ⟨by subst hz; rfl, 0, rfl⟩
end Go.Proofs.YteafkmdgnfbcfaaDoor
