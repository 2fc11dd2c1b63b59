import Derived.Test.YtjhnkdhbjpddcaaDoorBase
namespace Go.Proofs.YtjhnkdhbjpddcaaDoor
open Go.RowKit
theorem ck_last {m : Nat} (hm : m ≤ 65536) {l : List UInt8} (hl : l.length = (m + 7) / 8) (hr : m % 8 ≠ 0) :
    ck m l = if (byt l (l.length - 1)).toNat % (2 * mk (m % 8)) = 0 then 0 else 42 := by
  have hs := spare_fin ⟨(byt l (l.length - 1)).toNat, UInt8.toNat_lt _⟩ ⟨m % 8, Nat.mod_lt _ (by omega)⟩ (by show 0 < m % 8; omega)
  simp only at hs
  have hd : ∀ k, m ≤ k → k < 8 * l.length → k / 8 = l.length - 1 := by intro k h1 h2; omega
  by_cases h : (byt l (l.length - 1)).toNat % (2 * mk (m % 8)) = 0
  · rw [if_pos h]
    rw [h, beq_self_eq_true] at hs
    have hs' := List.all_eq_true.1 hs.symm
    refine ck_fine hm hl fun k h1 h2 => ?_
    have := hs' (k % 8) (List.mem_range.2 (Nat.mod_lt _ (by omega)))
    have h3 := hd k h1 h2
    have h4 : ¬ k % 8 < m % 8 := by omega
    unfold bit
    rw [h3]
    simpa [h4] using this
  · rw [if_neg h]
    have hf : (List.range 8).all (fun j => decide (j < m % 8) || !((byt l (l.length - 1)).toNat.testBit (7 - j))) = false := by
      rw [← hs]; simpa using h
    rw [List.all_eq_false] at hf
    obtain ⟨j, hj, hb⟩ := hf
    have hj8 : j < 8 := List.mem_range.1 hj
    simp at hb
    refine ck_spare hm hl (k := 8 * (l.length - 1) + j) (by omega) ?_
    unfold bit
    rw [show (8 * (l.length - 1) + j) / 8 = l.length - 1 by omega, show (8 * (l.length - 1) + j) % 8 = j by omega]
    exact hb.2
end Go.Proofs.YtjhnkdhbjpddcaaDoor
