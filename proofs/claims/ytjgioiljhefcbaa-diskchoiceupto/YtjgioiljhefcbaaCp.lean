import Derived.Test.YtjgioiljhefcbaaAn
namespace Go.Proofs.Ytjgioiljhefcbaa
open Go.RowKit
theorem upon_app {d c : List UInt8} {cn : Nat} (hd : d.length = 64) (hcn : cn ≤ 64) (q : Nat) : byt (d.take cn ++ c.drop cn) q = upon d c cn q := by
  have hl : (d.take cn).length = cn := by rw [List.length_take]; omega
  unfold upon byt
  by_cases h : q < cn
  · rw [if_pos h]
    simp [List.getD, List.getElem?_append_left (show q < (d.take cn).length by omega), List.getElem?_take_of_lt h]
  · rw [if_neg h]
    simp only [List.getD]
    rw [List.getElem?_append_right (by omega), hl, List.getElem?_drop]
    congr 2
    omega
/-- a sector that was crashed reads as one that may be -/
theorem good_crS {X : List Wv} {keep : List Bool} {torn t cut : Int} {cn s : Nat} {old : List UInt8} (hcn : cn ≤ 64) (hcc : torn ≠ -1 → cut.toNat = cn) (ht1 : t = -1 ∨ t = torn) (ht2 : ∀ (tn : Nat) (u : Wv), torn = tn → X[tn]? = some u → u.at_ = s → t = torn) :
    ∀ (xs : List (Nat × List UInt8)) (c : List UInt8), (∀ x ∈ xs, ∃ u, X[x.1]? = some u ∧ u.at_ = s ∧ x.2 = fl u.dl) → c.length = 64 → Good c old X s t cut → Good (crS keep torn cn xs c) old X s t cut ∧ (crS keep torn cn xs c).length = 64
  | [], c, _, hc, hg => ⟨hg, hc⟩
  | x :: xs, c, hx, hc, hg => by
    obtain ⟨u, hu, hus, hxd⟩ := hx x (List.mem_cons_self ..)
    have hx64 : x.2.length = 64 := by rw [hxd, fl_len]
    refine good_crS hcn hcc ht1 ht2 xs (crX keep torn cn c x) (fun y hy => hx y (List.mem_cons_of_mem _ hy)) (crX_len hc hx64 hcn) ?_
    unfold crX
    by_cases h1 : (x.1 : Int) = torn
    · rw [if_pos h1]
      have htt := ht2 x.1 u h1.symm hu hus
      have hcut := hcc (by omega)
      obtain ⟨m, hm, h⟩ := hg
      refine ⟨m, hm, .inr ⟨x.1, u, by omega, hu, fun q hq => ?_⟩⟩
      rw [upon_app hx64 hcn q, hxd, hcut]
      rcases h with h | ⟨tn, u', h2, h3, h4⟩
      · rw [h]
      · have he : tn = x.1 := by omega
        subst he
        rw [hu] at h3
        cases h3
        have h5 := h4 q hq
        rw [hcut] at h5
        unfold upon at h5 ⊢
        by_cases hqc : q < cn
        · rw [if_pos hqc, if_pos hqc]
        · rw [if_neg hqc] at h5
          rw [if_neg hqc, if_neg hqc, h5]
    · rw [if_neg h1]
      split
      · refine ⟨x.2, ?_, .inl rfl⟩
        have hlt := (List.getElem?_eq_some_iff.1 hu).1
        refine List.mem_cons_of_mem _ (List.mem_flatMap.2 ⟨x.1, List.mem_range.2 hlt, ?_⟩)
        unfold my1
        rw [hu]
        have h2 : ¬ (x.1 : Int) = t := by rcases ht1 with h | h <;> omega
        simp [hus, h2, hxd]
      · exact hg
theorem sec_crD (keep : List Bool) (torn : Int) (cn : Nat) (last : List UInt8) (ws : List Wt) (s : Nat) (hs : 64 * s + 64 ≤ last.length) (hl : (crS keep torn cn (lv s 0 ws) (sec last s)).length = 64) : sec (crD keep torn cn last ws) s = crS keep torn cn (lv s 0 ws) (sec last s) := by
  refine byt_ext ?_ (fun i hi => ?_)
  · rw [sec_len _ _ (by rw [crD_len]; exact hs), hl]
  · rw [sec_len _ _ (by rw [crD_len]; exact hs)] at hi
    rw [sec_byt _ _ _ hi, crD_eq, lf_byt _ _ _ (by omega)]
    unfold crB
    rw [show (64 * s + i) / 64 = s by omega, show (64 * s + i) % 64 = i by omega]
/-- each sector behind a crash -/
theorem choice {l : List UInt8} {us : List Wv} {keep : List Bool} {torn t cut : Int} {s : Nat} (hc : torn ≠ -1 → 0 ≤ cut ∧ cut ≤ 64) (hs : 64 * s + 64 ≤ (wh l).length) (ht1 : t = -1 ∨ t = torn) (ht2 : ∀ (tn : Nat) (u : Wv), torn = tn → (ins l us)[tn]? = some u → u.at_ = s → t = torn) :
    Good (sec (crD keep torn (if torn = -1 then 0 else cut.toNat) (wh l) ((ins l us).map mkW)) s) (sec (wh l) s) (ins l us) s t cut := by
  have h := good_crS (X := ins l us) (keep := keep) (torn := torn) (t := t) (cut := cut) (cn := if torn = -1 then 0 else cut.toNat) (s := s) (old := sec (wh l) s) (by split; omega; rename_i h; have := hc h; omega) (fun h => by rw [if_neg h]) ht1 ht2 (lv s 0 ((ins l us).map mkW)) (sec (wh l) s) (fun x hx => by
    obtain ⟨i, y, h1, h2, h3, _, h5⟩ := lv_mem hx
    rw [Nat.zero_add] at h1
    rw [List.getElem?_map] at h2
    cases hq : (ins l us)[i]? with
    | none => rw [hq] at h2; cases h2
    | some u =>
      rw [hq] at h2
      cases h2
      refine ⟨u, by rw [h1]; exact hq, ?_, h5.symm⟩
      have h6 := (ins_in l us u (List.mem_of_getElem? hq)).1
      have h7 : u.at_.toNat = s := h3
      omega) (sec_len _ _ hs) ⟨_, List.mem_cons_self .., .inl rfl⟩
  rw [sec_crD _ _ _ _ _ _ hs h.2]
  exact h.1
end Go.Proofs.Ytjgioiljhefcbaa
