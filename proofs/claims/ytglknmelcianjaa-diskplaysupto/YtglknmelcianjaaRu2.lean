import Derived.Test.YtglknmelcianjaaRs2
namespace Go.Proofs.Ytglknmelcianjaa
open Go.RowKit
theorem PD.sub {Sa Sb Ta Tb : Nat → Prop} {w : World} {va vb : Value} {o : Option Dk} (h : PD Sa Sb w va vb o) (ha : ∀ k, k < w.heap.size → Sa k → Ta k) (hb : ∀ k, k < w.heap.size → Sb k → Tb k) : PD Ta Tb w va vb o := PD.mk (h.a.sub ha) (h.b.sub hb)
theorem PD.fr {Sa Sb S : Nat → Prop} {w w' : World} {va vb : Value} {o : Option Dk} (h : PD Sa Sb w va vb o) (hf : Fr S w w') (ha : ∀ k, Sa k → S k) (hb : ∀ k, Sb k → S k) : PD Sa Sb w' va vb o := PD.mk (h.a.fr (hf.mono (fun k _ h => ha k h))) (h.b.fr (hf.mono (fun k _ h => hb k h)))
/-- the law's memory: three places of both sides; lab tells whose a block is (0: no disk's) -/
structure LW (w0 : World) (lab : Nat → Nat) (ga gb : Nat) (va vb : Nat → Value) (oo : Nat → Option Dk) (N : Nat) (w : World) : Prop where
  pd : ∀ i, i < 3 → PD (fun k => lab k = 2 * i + 1) (fun k => lab k = 2 * i + 2) w (va i) (vb i) (oo i)
  ba : w.heap[ga]? = some (.cells #[va 0, va 1, va 2] 24 (0, 0))
  bb : w.heap[gb]? = some (.cells #[vb 0, vb 1, vb 2] 26 (0, 0))
  la : lab ga = 0
  lb : lab gb = 0
  ne : ga ≠ gb
  ga0 : w0.heap.size ≤ ga
  gb0 : w0.heap.size ≤ gb
  bd : ∀ k, lab k ≠ 0 → w0.heap.size ≤ k ∧ k < w.heap.size
  nw : ∀ i, i < 3 → nW (oo i) ≤ N
  fr : Below w0.heap.size w0 w
section
variable {w0 w w' : World} {lab : Nat → Nat} {ga gb : Nat} {va vb : Nat → Value} {oo : Nat → Option Dk} {N : Nat}
theorem LW.below (h : LW w0 lab ga gb va vb oo N w) (b : Below w.heap.size w w') : LW w0 lab ga gb va vb oo N w' :=
  { h with
    pd := fun i hi => (h.pd i hi).below b
    ba := (b.block ga (Array.getElem?_eq_some_iff.1 h.ba).1).trans h.ba
    bb := (b.block gb (Array.getElem?_eq_some_iff.1 h.bb).1).trans h.bb
    bd := fun k hk => ⟨(h.bd k hk).1, Nat.lt_of_lt_of_le (h.bd k hk).2 b.size⟩
    fr := h.fr.trans (b.mono h.fr.size) }
theorem LW.up (h : LW w0 lab ga gb va vb oo N w) : LW w0 lab ga gb va vb oo (N + 1) w := { h with nw := fun i hi => Nat.le_succ_of_le (h.nw i hi) }
/-- the labels behind an act on place i -/
def lab2 (lab : Nat → Nat) (n m z i : Nat) (k : Nat) : Nat := if k < n then lab k else if k < m then 2 * i + 1 else if k < z then 2 * i + 2 else 0
theorem LW.acted (h : LW w0 lab ga gb va vb oo N w) {i : Nat} (hi : i < 3) {o' : Option Dk} (hp : PE (fun k => lab k = 2 * i + 1) (fun k => lab k = 2 * i + 2) w (va i) (vb i) o' w') (hn : nW o' ≤ N + 1) : ∃ lab', LW w0 lab' ga gb va vb (fun j => if j = i then o' else oo j) (N + 1) w' := by
  obtain ⟨m, h1, h2, h3, h4⟩ := hp
  have hga := (Array.getElem?_eq_some_iff.1 h.ba).1
  have hgb := (Array.getElem?_eq_some_iff.1 h.bb).1
  have z := h4.size
  refine ⟨lab2 lab w.heap.size m w'.heap.size i, ?_⟩
  have hlow : ∀ k, k < w.heap.size → lab2 lab w.heap.size m w'.heap.size i k = lab k := fun k hk => by unfold lab2; rw [if_pos hk]
  refine ⟨fun j hj => ?_, ?_, ?_, by rw [hlow _ hga]; exact h.la, by rw [hlow _ hgb]; exact h.lb, h.ne, h.ga0, h.gb0, fun k hk => ?_, fun j hj => ?_, ?_⟩
  · by_cases e : j = i
    · subst e
      simp only [if_true]
      refine h3.sub (fun k hk hs => ?_) (fun k hk hs => ?_)
      · rcases hs with hs | hs
        · rw [hlow k (h.bd k (by omega)).2]; exact hs
        · unfold lab2; rw [if_neg (by omega), if_pos hs.2]
      · rcases hs with hs | hs
        · rw [hlow k (h.bd k (by omega)).2]; exact hs
        · unfold lab2; rw [if_neg (by omega), if_neg (by omega), if_pos hk]
    · simp only [e, if_false]
      refine ((h.pd j hj).fr h4 (fun k hs => ⟨by omega, by omega⟩) (fun k hs => ⟨by omega, by omega⟩)).sub (fun k _ hs => ?_) (fun k _ hs => ?_)
      · rw [hlow k (h.bd k (by omega)).2]; exact hs
      · rw [hlow k (h.bd k (by omega)).2]; exact hs
  · exact (h4.block ga hga ⟨fun e => by have := h.la; omega, fun e => by have := h.la; omega⟩).trans h.ba
  · exact (h4.block gb hgb ⟨fun e => by have := h.lb; omega, fun e => by have := h.lb; omega⟩).trans h.bb
  · by_cases hk1 : k < w.heap.size
    · rw [hlow k hk1] at hk
      exact ⟨(h.bd k hk).1, by omega⟩
    · have := h.fr.size
      refine ⟨by omega, ?_⟩
      unfold lab2 at hk
      rw [if_neg hk1] at hk
      split at hk
      · omega
      · split at hk
        · omega
        · exact absurd rfl hk
  · by_cases e : j = i
    · simp only [e, if_true]; exact hn
    · simp only [e, if_false]; exact Nat.le_succ_of_le (h.nw j hj)
  · have z0 := h.fr.size
    refine h.fr.trans ⟨h4.os, h4.tape, h4.output, h4.size, fun k hk => h4.block k (by omega) ⟨fun e => ?_, fun e => ?_⟩⟩
    · have := (h.bd k (by omega)).1; omega
    · have := (h.bd k (by omega)).1; omega
end
end Go.Proofs.Ytglknmelcianjaa
