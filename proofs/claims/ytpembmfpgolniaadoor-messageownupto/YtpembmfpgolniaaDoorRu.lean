import Derived.Test.YtpembmfpgolniaaDoorRt
import Derived.Test.YtpembmfpgolniaaDoorDr
namespace Go.Proofs.YtpembmfpgolniaaDoor
open Go.RowKit
theorem kindB_low {l : List UInt8} {k : Nat} (h0 : 0 < l.length) (hk : (byt l 0).toNat = k) (h : k < 64) : kindB l = (k : Int) := by
  unfold kindB
  rw [if_neg (by intro e; rw [e] at h0; simp at h0), hk, if_neg (by omega)]
theorem kindB_high {l : List UInt8} {k : Nat} (h0 : 0 < l.length) (hk : (byt l 0).toNat = k) (h : 64 ≤ k) : kindB l = 1000 := by
  unfold kindB
  rw [if_neg (by intro e; rw [e] at h0; simp at h0), hk, if_pos h]
theorem lks_of {cs : List Nat} {m : Mv} (h : ∀ c ∈ cs, lk c m = true) : lks cs m = true := List.all_eq_true.2 h
theorem rng_nm (l : List UInt8) : rng 0 4294967295 (nm4 l : Int) = true := by
  have := nm4_lt l
  unfold rng
  exact decide_eq_true ⟨by omega, by omega⟩
/-- what a body of a known kind comes to -/
theorem fit_szd (k : Nat) (n : Nat) (r : Kr) (hn : 1 ≤ n) (hr : rowFor (k : Int) = some r) (hk : k < 64) : r.fit (n : Int) = szdB (k : Int) (n : Int) := by
  obtain ⟨hmem, hkk⟩ := rowFor_mem hr
  simp only [rws, List.mem_cons, List.not_mem_nil, or_false] at hmem
  rcases hmem with rfl | rfl | rfl | rfl | rfl | rfl | rfl | rfl | rfl | rfl | rfl | rfl | rfl | rfl
  · simp only at hkk; omega
  · obtain rfl : k = 0 := by simp only at hkk; omega
    show (decide ((1 : Int) ≤ (n : Int)) && decide ((n : Int) ≤ 1) && (((n : Int) - 1) % 1 == 0)) = ((n : Int) == 1)
    first | rfl | (rw [Bool.eq_iff_iff]; simp; done) | (rw [Bool.eq_iff_iff]; simp; omega)
  · obtain rfl : k = 1 := by simp only at hkk; omega
    show (decide ((1 : Int) ≤ (n : Int)) && decide ((n : Int) ≤ 1) && (((n : Int) - 1) % 1 == 0)) = ((n : Int) == 1)
    first | rfl | (rw [Bool.eq_iff_iff]; simp; done) | (rw [Bool.eq_iff_iff]; simp; omega)
  · obtain rfl : k = 2 := by simp only at hkk; omega
    show (decide ((1 : Int) ≤ (n : Int)) && decide ((n : Int) ≤ 1) && (((n : Int) - 1) % 1 == 0)) = ((n : Int) == 1)
    first | rfl | (rw [Bool.eq_iff_iff]; simp; done) | (rw [Bool.eq_iff_iff]; simp; omega)
  · obtain rfl : k = 3 := by simp only at hkk; omega
    show (decide ((1 : Int) ≤ (n : Int)) && decide ((n : Int) ≤ 1) && (((n : Int) - 1) % 1 == 0)) = ((n : Int) == 1)
    first | rfl | (rw [Bool.eq_iff_iff]; simp; done) | (rw [Bool.eq_iff_iff]; simp; omega)
  · obtain rfl : k = 4 := by simp only at hkk; omega
    show (decide ((5 : Int) ≤ (n : Int)) && decide ((n : Int) ≤ 5) && (((n : Int) - 5) % 1 == 0)) = ((n : Int) == 5)
    first | rfl | (rw [Bool.eq_iff_iff]; simp; done) | (rw [Bool.eq_iff_iff]; simp; omega)
  · obtain rfl : k = 5 := by simp only at hkk; omega
    show (decide ((1 : Int) ≤ (n : Int)) && decide ((n : Int) ≤ 8193) && (((n : Int) - 1) % 1 == 0)) = decide ((n : Int) ≤ 8193)
    first | rfl | (rw [Bool.eq_iff_iff]; simp; done) | (rw [Bool.eq_iff_iff]; simp; omega)
  · obtain rfl : k = 6 := by simp only at hkk; omega
    show (decide ((13 : Int) ≤ (n : Int)) && decide ((n : Int) ≤ 13) && (((n : Int) - 13) % 1 == 0)) = ((n : Int) == 13)
    first | rfl | (rw [Bool.eq_iff_iff]; simp; done) | (rw [Bool.eq_iff_iff]; simp; omega)
  · obtain rfl : k = 7 := by simp only at hkk; omega
    show (decide ((10 : Int) ≤ (n : Int)) && decide ((n : Int) ≤ 16393) && (((n : Int) - 10) % 1 == 0)) = (decide (10 ≤ (n : Int)) && decide ((n : Int) ≤ 16393))
    first | rfl | (rw [Bool.eq_iff_iff]; simp; done) | (rw [Bool.eq_iff_iff]; simp; omega)
  · obtain rfl : k = 8 := by simp only at hkk; omega
    show (decide ((13 : Int) ≤ (n : Int)) && decide ((n : Int) ≤ 13) && (((n : Int) - 13) % 1 == 0)) = ((n : Int) == 13)
    first | rfl | (rw [Bool.eq_iff_iff]; simp; done) | (rw [Bool.eq_iff_iff]; simp; omega)
  · obtain rfl : k = 21 := by simp only at hkk; omega
    show (decide ((49 : Int) ≤ (n : Int)) && decide ((n : Int) ≤ 49) && (((n : Int) - 49) % 1 == 0)) = ((n : Int) == 49)
    first | rfl | (rw [Bool.eq_iff_iff]; simp; done) | (rw [Bool.eq_iff_iff]; simp; omega)
  · obtain rfl : k = 22 := by simp only at hkk; omega
    show (decide ((49 : Int) ≤ (n : Int)) && decide ((n : Int) ≤ 17969) && (((n : Int) - 49) % 32 == 0)) = (decide (49 ≤ (n : Int)) && decide ((n : Int) ≤ 17969) && ((n : Int) - 49) % 32 == 0)
    first | rfl | (rw [Bool.eq_iff_iff]; simp; done) | (rw [Bool.eq_iff_iff]; simp; omega)
  · obtain rfl : k = 23 := by simp only at hkk; omega
    show (decide ((49 : Int) ≤ (n : Int)) && decide ((n : Int) ≤ 49) && (((n : Int) - 49) % 1 == 0)) = ((n : Int) == 49)
    first | rfl | (rw [Bool.eq_iff_iff]; simp; done) | (rw [Bool.eq_iff_iff]; simp; omega)
  · simp only at hkk; omega
end Go.Proofs.YtpembmfpgolniaaDoor
