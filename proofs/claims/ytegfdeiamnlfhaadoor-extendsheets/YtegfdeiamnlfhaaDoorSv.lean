import Derived.Test.YtegfdeiamnlfhaaDoorSu
import Derived.Test.YtegfdeiamnlfhaaDoorEncp
namespace Go.Proofs.YtegfdeiamnlfhaaDoor
open Go.RowKit Go.Deep
theorem fstE_all {f : Nat → Int} : ∀ {n : Nat}, (∀ i, i < n → f i = 0) → fstE f n = 0
  | 0, _ => rfl
  | n + 1, h => fstE_go (fstE_all (fun i hi => h i (by omega))) (h n (by omega))
theorem e_toList : (⟨#[]⟩ : ByteArray).toList = [] := by rw [ByteArray.toList_eq]
theorem wk_tn (n ar : Int) : wk (tn n) ar = 0 := by
  unfold tn
  simp [wk, ownB]
theorem wk_tD (ps : List (ByteArray × Int)) (h : ∀ i, i < ps.length → keyBad (kyL ps) i = false) : wk (tD ps) 0 = 0 := by
  unfold tD
  have h1 : ownB 4 0 ⟨#[]⟩ 0 ps.length = true := by simp [ownB]
  have h2 : fstE (fun i => if keyBad (kyL ps) i = true then 25 else wk (dvL ps i) (0 + 1)) ps.length = 0 := fstE_all (fun i hi => by
    rw [if_neg (by rw [h i hi]; decide)]
    exact wk_tn _ _)
  simp only [wk]
  rw [h1, if_neg (by decide), if_neg (by decide), if_neg (by decide), h2]
  simp [fstE]
theorem shP_good (k p t : Int) : ∀ i, i < (shP k p t).length → keyBad (kyL (shP k p t)) i = false := by
  have g1 : (Op.bytesLess kP.toList kM.toList || kP.toList == kM.toList) = false := by decide +kernel
  have g2 : (Op.bytesLess kT.toList kP.toList || kT.toList == kP.toList) = false := by decide +kernel
  have hl : (shP k p t).length ≤ 3 := by unfold shP; split <;> simp
  intro i hi
  obtain rfl | rfl | rfl : i = 0 ∨ i = 1 ∨ i = 2 := by omega
  · rfl
  · exact g1
  · have hk : k = 1 := by
      apply Classical.byContradiction
      intro e
      unfold shP at hi
      rw [if_neg e] at hi
      simp at hi
    subst hk
    exact g2
theorem wk_sh (k p t : Int) : wk (tD (shP k p t)) 0 = 0 := wk_tD _ (shP_good k p t)
def i64 (n : Int) : Prop := -9223372036854775808 ≤ n ∧ n ≤ 9223372036854775807
theorem shP_i64 {k p t : Int} (hk : i64 k) (hp : i64 p) (ht : i64 t) : ∀ x ∈ shP k p t, i64 x.2 ∧ x.1.size ≤ 10 := by
  intro x hx
  unfold shP at hx
  split at hx
  · simp at hx
    rcases hx with rfl | rfl | rfl
    · exact ⟨hk, show kM.size ≤ 10 by decide⟩
    · exact ⟨hp, show kP.size ≤ 10 by decide⟩
    · exact ⟨ht, show kT.size ≤ 10 by decide⟩
  · simp at hx
    rcases hx with rfl | rfl
    · exact ⟨hk, show kM.size ≤ 10 by decide⟩
    · exact ⟨hp, show kP.size ≤ 10 by decide⟩
theorem getD_mem {ps : List (ByteArray × Int)} {i : Nat} (hi : i < ps.length) : ps.getD i (⟨#[]⟩, 0) ∈ ps := by
  rw [show ps.getD i (⟨#[]⟩, 0) = ps[i] by simp [List.getD, hi]]
  exact List.getElem_mem _
theorem tn_ok (n : Int) : (tn n).ok := ⟨by show (⟨#[]⟩ : ByteArray).size ≤ _; decide, by omega, by omega, fun i hi => absurd hi (Nat.not_lt_zero _), fun i hi => absurd hi (Nat.not_lt_zero _)⟩
theorem tn_small (n : Int) : (tn n).small := ⟨by omega, by omega, fun i hi => absurd hi (Nat.not_lt_zero _), fun i hi => absurd hi (Nat.not_lt_zero _)⟩
theorem tn_rng {n : Int} (h : i64 n) : (tn n).rng := ⟨h.1, h.2, by omega, by omega, fun i hi => absurd hi (Nat.not_lt_zero _), fun i hi => absurd hi (Nat.not_lt_zero _)⟩
theorem catN_len {f : Nat → List UInt8} {m : Nat} : ∀ {n : Nat}, (∀ i, i < n → (f i).length ≤ m) → (catN f n).length ≤ n * m
  | 0, _ => by simp [catN]
  | n + 1, h => by
    have h1 := catN_len (fun i hi => h i (Nat.lt_succ_of_lt hi)) (n := n)
    have h2 := h n (Nat.lt_succ_self _)
    rw [show catN f (n + 1) = catN f n ++ f n from rfl, List.length_append, Nat.succ_mul]
    omega
section
variable {ps : List (ByteArray × Int)} (hl : ps.length ≤ 3) (hx : ∀ x ∈ ps, i64 x.2 ∧ x.1.size ≤ 10)
include hl hx
theorem tD_ok : (tD ps).ok := ⟨by show (⟨#[]⟩ : ByteArray).size ≤ _; decide, by omega, by omega, fun i hi => absurd hi (Nat.not_lt_zero _), fun i hi => ⟨by have := (hx _ (getD_mem hi)).2; show (ps.getD i (⟨#[]⟩, 0)).1.size ≤ _; omega, tn_ok _⟩⟩
omit hx in
theorem tD_small : (tD ps).small := ⟨by omega, by omega, fun i hi => absurd hi (Nat.not_lt_zero _), fun i hi => tn_small _⟩
theorem tD_rng : (tD ps).rng := ⟨by omega, by omega, by omega, by omega, fun i hi => absurd hi (Nat.not_lt_zero _), fun i hi => tn_rng (hx _ (getD_mem hi)).1⟩
theorem tD_txt : (txt (tD ps)).length ≤ 300 := by
  have h1 : (catN (fun i => wtx (kyL ps i) ++ txt (dvL ps i)) ps.length).length ≤ ps.length * 80 := catN_len (fun i hi => by
    have hm := hx _ (getD_mem hi)
    have a1 := Lib.itoa_length_le ((ps.getD i (⟨#[]⟩, 0)).1.size : Int) (by omega) (by omega)
    have a2 := Lib.itoa_length_le (ps.getD i (⟨#[]⟩, 0)).2 hm.1.1 hm.1.2
    have e1 : (wtx (kyL ps i)).length = (Lib.itoa ((ps.getD i (⟨#[]⟩, 0)).1.size : Int)).length + 1 + (ps.getD i (⟨#[]⟩, 0)).1.size := by
      unfold wtx kyL
      rw [List.length_append, List.length_cons, Array.length_toList]
      show _ + ((ps.getD i (⟨#[]⟩, 0)).1.size + 1) = _
      omega
    have e2 : (txt (dvL ps i)).length = (Lib.itoa (ps.getD i (⟨#[]⟩, 0)).2).length + 2 := by
      unfold dvL tn
      simp [txt]
    rw [List.length_append, e1, e2]
    omega)
  unfold tD
  simp only [txt]
  rw [if_neg (by decide), if_neg (by decide), if_neg (by decide)]
  rw [List.length_cons, List.length_append]
  simp only [List.length_singleton]
  omega
end
theorem NR.rv {B : Nat} {w : World} {v : Value} {ps : List (ByteArray × Int)} (h : NR B w v ps) : RV (fun _ => True) w (tD ps) (.slice none 0 0) v := ⟨⟨none, 0, rfl, .inl rfl⟩, h.rd⟩
end Go.Proofs.YtegfdeiamnlfhaaDoor
