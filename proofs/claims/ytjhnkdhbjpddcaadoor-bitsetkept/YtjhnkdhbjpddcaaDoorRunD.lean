import Derived.Test.YtjhnkdhbjpddcaaDoorRunC
namespace Go.Proofs.YtjhnkdhbjpddcaaDoor
open Go.RowKit Go.Shelf
attribute [local go_sem] Oper.semAt_some
def pls (pre : List Pl) : List Nat := pre.map (·.1)
theorem rp_rs (l : List UInt8) (k : Nat) (hk : k ≤ 65536) : (rp (pls (on1 l k))).1 = rs l k ∧ (rp (pls (on1 l k))).2 ≤ k ∧ ((rp (pls (on1 l k))).2 = k ↔ (0 < k ∧ bit l (k - 1) = true)) := by
  induction k with
  | zero =>
    have : on1 l 0 = [] := List.length_eq_zero_iff.1 (Nat.le_zero.1 (on1_len l 0))
    rw [this]
    exact ⟨rfl, by decide, by simp [pls, rp]⟩
  | succ k ih =>
    obtain ⟨h1, h2, h3⟩ := ih (by omega)
    by_cases hb : bit l k = true
    · have e : pls (on1 l (k + 1)) = pls (on1 l k) ++ [k] := by rw [on1_yes (by omega) hb]; simp [pls]
      rw [e, rp_snoc]
      refine ⟨?_, by simp [stp], ?_⟩
      · unfold stp
        by_cases hs : 0 < k ∧ bit l (k - 1) = true
        · rw [if_pos (h3.2 hs).symm, h1, rs_more hb hs]
        · rw [if_neg (fun e => hs (h3.1 e.symm)), h1, rs_new hb hs]
      · simp [stp, hb]
    · have hf : bit l k = false := by simpa using hb
      rw [on1_no hf, rs_no hf]
      refine ⟨h1, by omega, ?_⟩
      simp [hf]
      omega
end Go.Proofs.YtjhnkdhbjpddcaaDoor
