import Derived.Test.YtegdlkbilgkfoaaDoorSearch
namespace Go.Proofs.YtegdlkbilgkfoaaDoor
open Go.RowKit Go.Deep
set_option maxRecDepth 20000
/-- the keys and the values of a dictionary with one pair set -/
def nk (ky : Nat → ByteArray) (key : ByteArray) (at' : Nat) (f : Bool) : Nat → ByteArray := fun i => if i < at' then ky i else if i = at' then key else if f = true then ky i else ky (i - 1)
def nv (dv : Nat → T) (x : T) (at' : Nat) (f : Bool) : Nat → T := fun i => if i < at' then dv i else if i = at' then x else if f = true then dv i else dv (i - 1)
def nn (dn : Nat) (f : Bool) : Nat := if f = true then dn else dn + 1
def withT (dn : Nat) (ky : Nat → ByteArray) (dv : Nat → T) (key : ByteArray) (x : T) (at' : Nat) (f : Bool) : T :=
  .mk 4 0 { data := #[] } 0 (fun _ => .no) (nn dn f) (nk ky key at' f) (nv dv x at' f)
theorem nk_lt {ky : Nat → ByteArray} {key : ByteArray} {at' i : Nat} {f : Bool} (h : i < at') : nk ky key at' f i = ky i := if_pos h
theorem nk_at {ky : Nat → ByteArray} {key : ByteArray} {at' : Nat} {f : Bool} : nk ky key at' f at' = key := by unfold nk; rw [if_neg (by omega), if_pos rfl]
theorem nk_gt {ky : Nat → ByteArray} {key : ByteArray} {at' i : Nat} {f : Bool} (h : at' < i) : nk ky key at' f i = if f = true then ky i else ky (i - 1) := by unfold nk; rw [if_neg (by omega), if_neg (by omega)]
theorem nv_lt {dv : Nat → T} {x : T} {at' i : Nat} {f : Bool} (h : i < at') : nv dv x at' f i = dv i := if_pos h
theorem nv_at {dv : Nat → T} {x : T} {at' : Nat} {f : Bool} : nv dv x at' f at' = x := by unfold nv; rw [if_neg (by omega), if_pos rfl]
theorem nv_gt {dv : Nat → T} {x : T} {at' i : Nat} {f : Bool} (h : at' < i) : nv dv x at' f i = if f = true then dv i else dv (i - 1) := by unfold nv; rw [if_neg (by omega), if_neg (by omega)]
/-- what the search says: At, and found just if the key stands there -/
def Fd (ky : Nat → ByteArray) (dn : Nat) (key : ByteArray) (at' : Nat) (f : Bool) : Prop := At ky dn key at' ∧ (f = true ↔ at' < dn ∧ (ky at').toList = key.toList)
/-- behind the place the keys are greater -/
theorem key_gt {ky : Nat → ByteArray} {dn at' i : Nat} {key : ByteArray} {f : Bool} (hri : Rise ky dn) (h : Fd ky dn key at' f) (hi : i < dn) (h1 : at' ≤ i) (h2 : f = true → at' < i) : Op.bytesLess key.toList (ky i).toList = true := by
  obtain ⟨⟨_, _, h3⟩, hf⟩ := h
  have hnl := h3 i h1 hi
  have tri := bytes_tri (ky i).toList key.toList
  have hne : ((ky i).toList == key.toList) = false := by
    cases hc : ((ky i).toList == key.toList) with
    | false => rfl
    | true =>
      have he : (ky i).toList = key.toList := by simpa using hc
      by_cases e : at' = i
      · subst e
        have := h2 (hf.2 ⟨hi, he⟩)
        omega
      · have := h3 at' (Nat.le_refl _) (by omega)
        rw [← he, hri at' i (by omega) hi] at this
        cases this
  rw [hnl, hne] at tri
  simpa using tri
/-- the keys of the new dictionary rise -/
theorem nk_good {ky : Nat → ByteArray} {dn at' : Nat} {key : ByteArray} {f : Bool} (hri : Rise ky dn) (h : Fd ky dn key at' f) : ∀ i, i < nn dn f → keyBad (nk ky key at' f) i = false := by
  have good : ∀ a b : ByteArray, Op.bytesLess a.toList b.toList = true → (Op.bytesLess b.toList a.toList || b.toList == a.toList) = false := fun a b hab => by
    rw [← bytes_tri, hab]; rfl
  intro i hi
  cases i with
  | zero => rfl
  | succ p =>
    show (Op.bytesLess (nk ky key at' f (p + 1)).toList (nk ky key at' f p).toList || (nk ky key at' f (p + 1)).toList == (nk ky key at' f p).toList) = false
    refine good _ _ ?_
    have hle := h.1.1
    unfold nn at hi
    by_cases e1 : p + 1 < at'
    · rw [nk_lt e1, nk_lt (by omega)]
      exact hri p (p + 1) (by omega) (by omega)
    by_cases e2 : p + 1 = at'
    · rw [e2, nk_at, nk_lt (by omega)]
      exact h.1.2.1 p (by omega)
    by_cases e3 : p = at'
    · rw [e3, nk_at, nk_gt (by omega)]
      by_cases hf : f = true
      · rw [if_pos hf] at hi ⊢
        exact key_gt hri h (by omega) (by omega) (fun _ => by omega)
      · rw [if_neg hf] at hi ⊢
        exact key_gt hri h (by omega) (by omega) (fun hc => absurd hc hf)
    · rw [nk_gt (by omega), nk_gt (by omega)]
      by_cases hf : f = true
      · rw [if_pos hf] at hi
        rw [if_pos hf, if_pos hf]
        exact hri p (p + 1) (by omega) (by omega)
      · rw [if_neg hf] at hi
        rw [if_neg hf, if_neg hf]
        exact hri (p - 1) (p + 1 - 1) (by omega) (by omega)

theorem fstE_each {f : Nat → Int} {n : Nat} (h : ∀ i, i < n → f i = 0) : fstE f n = 0 := by
  induction n with
  | zero => rfl
  | succ n ih => exact fstE_go (ih fun i hi => h i (by omega)) (h n (by omega))
theorem wk_with {ky : Nat → ByteArray} {dn at' : Nat} {key : ByteArray} {f : Bool} {dv : Nat → T} {x : T} (hri : Rise ky dn) (h : Fd ky dn key at' f) (hv : ∀ i, i < dn → wk (dv i) 1 = 0) : wk (withT dn ky dv key x at' f) 0 = wk x 1 := by
  unfold withT
  rw [wk]
  dsimp only
  rw [if_neg (by simp [ownB, ByteArray.toList_eq]), if_neg (by omega), if_neg (by omega)]
  rw [show fstE (fun i => wk ((fun _ => T.no) i) (0 + 1)) 0 = 0 from rfl, if_neg (by simp)]
  have hle := h.1.1
  have hat : at' < nn dn f := by
    unfold nn
    by_cases hf : f = true
    · rw [if_pos hf]; exact (h.2.1 hf).1
    · rw [if_neg hf]; omega
  have val : ∀ i, i < nn dn f → i ≠ at' → wk (nv dv x at' f i) (0 + 1) = 0 := fun i hi hne => by
    unfold nn at hi
    by_cases e1 : i < at'
    · rw [nv_lt e1]; exact hv i (by omega)
    · rw [nv_gt (by omega)]
      by_cases hf : f = true
      · rw [if_pos hf] at hi ⊢; exact hv i hi
      · rw [if_neg hf] at hi ⊢; exact hv (i - 1) (by omega)
  have hfn : ∀ i, i < nn dn f → (fun i => if keyBad (nk ky key at' f) i = true then (25 : Int) else wk (nv dv x at' f i) (0 + 1)) i = wk (nv dv x at' f i) (0 + 1) := fun i hi => by
    show (if keyBad (nk ky key at' f) i = true then (25 : Int) else wk (nv dv x at' f i) (0 + 1)) = _
    rw [if_neg (by rw [nk_good hri h i hi]; simp)]
  by_cases hx : wk x (0 + 1) = 0
  · have : wk x 1 = 0 := hx
    rw [this]
    refine fstE_each fun i hi => (hfn i hi).trans ?_
    by_cases e : i = at'
    · subst e; rw [nv_at]; exact hx
    · exact val i hi e
  · have h0 : fstE (fun i => if keyBad (nk ky key at' f) i = true then (25 : Int) else wk (nv dv x at' f i) (0 + 1)) at' = 0 := fstE_each fun i hi => (hfn i (by omega)).trans (val i (by omega) (by omega))
    have h1 := (hfn at' hat).trans (by rw [nv_at] : wk (nv dv x at' f at') (0 + 1) = wk x (0 + 1))
    exact (fstE_stop hat h0 (fun hc => hx (h1.symm.trans hc))).trans h1
end Go.Proofs.YtegdlkbilgkfoaaDoor
