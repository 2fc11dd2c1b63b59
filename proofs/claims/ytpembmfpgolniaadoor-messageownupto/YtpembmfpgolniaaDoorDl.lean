import Derived.Test.YtpembmfpgolniaaDoorRu
namespace Go.Proofs.YtpembmfpgolniaaDoor
open Go.RowKit
/-- what was read, as a message in memory -/
theorem MM.of_dec {w w' : World} {l : List UInt8} {d h : Value} (hd : OW w.heap.size w' d (decS l).D) (hh : OH w.heap.size w' h (decS l).hb) : MM w' { (decS l).m with d := d, h := h } (decS l).D (decS l).hb := by
  have hl : (decS l).m.r.length = 32 ∧ (decS l).D.length ≤ 32768 ∧ (decS l).hb.length ≤ 32768 := by
    unfold decS
    by_cases hE : decE l = 0
    · rw [if_pos hE]
      unfold decE at hE
      split at hE
      · omega
      · rename_i h1
        cases hr : rowFor (kindB l) with
        | none => rw [hr] at hE; simp at hE
        | some r =>
          rw [hr] at hE
          simp only at hE ⊢
          split at hE
          · rename_i hfit
            have hnds := fit_NDS r (rowFor_mem hr).1 l hfit
            refine ⟨tks_r _ _ (zr_len 32) hnds, ?_⟩
            have key : ∀ (cs : List Nat) (s : Ds), s.l.length ≤ 32768 → s.D.length ≤ 32768 → s.hb.length ≤ 32768 → (Ds.tks cs s).D.length ≤ 32768 ∧ (Ds.tks cs s).hb.length ≤ 32768 := by
              intro cs
              induction cs with
              | nil => intro s _ h2 h3; exact ⟨h2, h3⟩
              | cons c cs ih =>
                intro s h1 h2 h3
                refine ih (Ds.tk c s) (Nat.le_trans (rst_le c s.l) h1) ?_ ?_
                · show (dD c s.l s.D).length ≤ _
                  unfold dD; split <;> assumption
                · show (dH c s.l s.hb).length ≤ _
                  unfold dH; split <;> assumption
            exact key r.cs ⟨zmk r.k, [], [], l⟩ (by simp only; omega) (by simp) (by simp)
          · omega
    · rw [if_neg hE]
      exact ⟨zr_len 32, by simp, by simp⟩
  exact ⟨⟨hl.1, hd.form3, hh.form⟩, hd.rb, hh.rh, by omega, by omega⟩
end Go.Proofs.YtpembmfpgolniaaDoor
