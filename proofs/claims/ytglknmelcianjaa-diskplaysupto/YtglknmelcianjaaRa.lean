import Derived.Test.YtglknmelcianjaaCr
import Derived.Test.YtglknmelcianjaaMa
import Derived.Test.YtglknmelcianjaaFz
namespace Go.Proofs.Ytglknmelcianjaa
open Go.RowKit
theorem nw_app (s : Nat) (a b : List Wt) : nw s (a ++ b) = (nw s b).or (nw s a) := by
  induction a with
  | nil => simp [nw]
  | cons x r ih =>
    simp only [List.cons_append, nw, ih]
    cases nw s b with
    | some d => simp
    | none => cases nw s r <;> simp
/-- one more write is laid -/
theorem img_snoc (last : List UInt8) (ws : List Wt) (x : Wt) (hs : 64 * x.at_ + 64 ≤ last.length) (hd : x.data.length = 64) : sp (img last ws) (64 * x.at_) x.data = img last (ws ++ [x]) := by
  unfold img
  rw [sp_lf _ _ _ _ (by omega)]
  apply lf_congr
  intro i hi
  unfold imB
  rw [nw_snoc]
  by_cases h : x.at_ = i / 64
  · rw [if_pos h, if_pos (by omega)]
    simp only
    congr 1
    omega
  · rw [if_neg h, if_neg (by omega)]
theorem crS_sn2 (keep : List Bool) (torn : Int) (cut : Nat) (xs : List (Nat × List UInt8)) (y : Nat × List UInt8) (c : List UInt8) : crS keep torn cut (xs ++ [y]) c = crX keep torn cut (crS keep torn cut xs c) y := by
  unfold crS
  rw [List.foldl_append]
  rfl
theorem crS_ln2 {keep : List Bool} {torn : Int} {cut : Nat} (h : cut ≤ 64) : ∀ (xs : List (Nat × List UInt8)) (c : List UInt8), c.length = 64 → (∀ y ∈ xs, y.2.length = 64) → (crS keep torn cut xs c).length = 64
  | [], c, hc, _ => hc
  | y :: xs, c, hc, hx => crS_ln2 h xs (crX keep torn cut c y) (crX_len hc (hx y (by simp)) h) (fun z hz => hx z (by simp [hz]))
/-- one more write behind a crash -/
def crN (keep : List Bool) (torn : Int) (cut : Nat) (n : Nat) (l : List UInt8) (x : Wt) : List UInt8 :=
  if x.dead = true then l else if (n : Int) = torn then sp l (64 * x.at_) (x.data.take cut) else if keep.getD n false = true then sp l (64 * x.at_) x.data else l
theorem lf_eq {n : Nat} {l : List UInt8} {f : Nat → UInt8} (hl : l.length = n) (h : ∀ i, i < n → byt l i = f i) : l = lf n f := by
  apply byt_ext (by rw [hl, lf_len])
  intro i hi
  rw [hl] at hi
  rw [h i hi, lf_byt _ _ _ hi]
theorem crD_snoc (keep : List Bool) (torn : Int) (cut : Nat) (last : List UInt8) (ws : List Wt) (x : Wt) (hm : last.length % 64 = 0) (hs : 64 * x.at_ + 64 ≤ last.length) (hd : x.data.length = 64) (hw : ∀ y ∈ ws, y.data.length = 64) (hc : cut ≤ 64) : crN keep torn cut ws.length (crD keep torn cut last ws) x = crD keep torn cut last (ws ++ [x]) := by
  have hlen := crD_len keep torn cut last ws
  have hsec : ∀ i, i < last.length → 64 * (i / 64) + 64 ≤ last.length := fun i hi => by omega
  have hS : ∀ s, 64 * s + 64 ≤ last.length → (crS keep torn cut (lv s 0 ws) (sec last s)).length = 64 := fun s h => crS_ln2 hc _ _ (sec_len _ _ h) (fun y hy => by
    obtain ⟨i, z, _, h2, _, _, h5⟩ := lv_mem hy
    rw [← h5]
    exact hw z (List.mem_of_getElem? h2))
  have base : ∀ i, i < last.length → byt (crD keep torn cut last ws) i = byt (crS keep torn cut (lv (i / 64) 0 ws) (sec last (i / 64))) (i % 64) := fun i hi => lf_byt _ _ _ hi
  show _ = lf last.length _
  have tl : ∀ n, n ≤ 64 → (x.data.take n).length = n := fun n hn => by rw [List.length_take]; omega
  unfold crN
  by_cases hdd : x.dead = true
  · rw [if_pos hdd]
    refine lf_eq hlen (fun i hi => ?_)
    rw [base i hi, lv_snoc, if_neg (by simp [hdd]), List.append_nil]
  rw [if_neg hdd]
  have hdf : x.dead = false := by simpa using hdd
  by_cases ht : (ws.length : Int) = torn
  · rw [if_pos ht]
    refine lf_eq (by rw [sp_len _ _ _ (by rw [hlen, tl cut hc]; omega), hlen]) (fun i hi => ?_)
    rw [sp_byt _ _ _ (by rw [hlen, tl cut hc]; omega), tl cut hc]
    by_cases h : x.at_ = i / 64
    · have hv : lv (i / 64) 0 (ws ++ [x]) = lv (i / 64) 0 ws ++ [(ws.length, x.data)] := by rw [lv_snoc, if_pos ⟨h, hdf⟩, Nat.zero_add]
      rw [hv, crS_sn2]
      have hx : crX keep torn cut (crS keep torn cut (lv (i / 64) 0 ws) (sec last (i / 64))) (ws.length, x.data) = x.data.take cut ++ (crS keep torn cut (lv (i / 64) 0 ws) (sec last (i / 64))).drop cut := by
        unfold crX
        rw [if_pos ht]
      rw [hx]
      by_cases hlt : i % 64 < cut
      · rw [if_pos (by omega)]
        have e1 : i - 64 * x.at_ = i % 64 := by omega
        rw [e1]
        unfold byt
        rw [List.getD_eq_getElem?_getD, List.getD_eq_getElem?_getD, List.getElem?_append_left (by rw [tl cut hc]; exact hlt)]
      · rw [if_neg (by omega), base i hi]
        unfold byt
        rw [List.getD_eq_getElem?_getD, List.getD_eq_getElem?_getD, List.getElem?_append_right (by rw [tl cut hc]; omega), tl cut hc, List.getElem?_drop, show cut + (i % 64 - cut) = i % 64 by omega]
    · have hv : lv (i / 64) 0 (ws ++ [x]) = lv (i / 64) 0 ws := by rw [lv_snoc, if_neg (fun e => h e.1), List.append_nil]
      rw [hv, if_neg (by omega), base i hi]
  rw [if_neg ht]
  by_cases hk : keep.getD ws.length false = true
  · rw [if_pos hk]
    refine lf_eq (by rw [sp_len _ _ _ (by rw [hlen, hd]; omega), hlen]) (fun i hi => ?_)
    rw [sp_byt _ _ _ (by rw [hlen, hd]; omega), hd]
    by_cases h : x.at_ = i / 64
    · have hv : lv (i / 64) 0 (ws ++ [x]) = lv (i / 64) 0 ws ++ [(ws.length, x.data)] := by rw [lv_snoc, if_pos ⟨h, hdf⟩, Nat.zero_add]
      rw [hv, crS_sn2, if_pos (by omega)]
      unfold crX
      rw [if_neg ht, if_pos hk]
      congr 1
      omega
    · have hv : lv (i / 64) 0 (ws ++ [x]) = lv (i / 64) 0 ws := by rw [lv_snoc, if_neg (fun e => h e.1), List.append_nil]
      rw [hv, if_neg (by omega), base i hi]
  · rw [if_neg hk]
    refine lf_eq hlen (fun i hi => ?_)
    rw [base i hi, lv_snoc]
    by_cases h : x.at_ = i / 64
    · rw [if_pos ⟨h, hdf⟩, crS_sn2, Nat.zero_add]
      unfold crX
      rw [if_neg ht, if_neg hk]
    · rw [if_neg (fun e => h e.1), List.append_nil]
end Go.Proofs.Ytglknmelcianjaa
