import Derived.Test.YtglknmelcianjaaRu2
namespace Go.Proofs.Ytglknmelcianjaa
open Go.RowKit
def upd {α : Type} (f : Nat → α) (i : Nat) (x : α) (j : Nat) : α := if j = i then x else f j
theorem upd_same {α : Type} (f : Nat → α) (i : Nat) (x : α) : upd f i x i = x := if_pos rfl
theorem upd_ne {α : Type} (f : Nat → α) (i : Nat) (x : α) {j : Nat} (h : j ≠ i) : upd f i x j = f j := if_neg h
theorem upd3 (f : Nat → Value) (i : Nat) (hi : i < 3) (x : Value) : (#[f 0, f 1, f 2] : Array Value).setIfInBounds i x = #[upd f i x 0, upd f i x 1, upd f i x 2] := by
  obtain rfl | rfl | rfl : i = 0 ∨ i = 1 ∨ i = 2 := by omega
  all_goals rfl
/-- the labels where place i has a new disk -/
def lab3 (lab : Nat → Nat) (n m z i : Nat) (k : Nat) : Nat := if k < n then (if lab k = 2 * i + 1 ∨ lab k = 2 * i + 2 then 0 else lab k) else if k < m then 2 * i + 1 else if k < z then 2 * i + 2 else 0
section
variable {w0 w w1 w2 w3 : World} {lab : Nat → Nat} {ga gb : Nat} {va vb : Nat → Value} {oo : Nat → Option Dk} {N : Nat}
theorem LW.put (h : LW w0 lab ga gb va vb oo N w) {i : Nat} (hi : i < 3) {o' : Option Dk} {pa pb : Value} (b1 : Below w.heap.size w w1) (hA : PA (fun k => w.heap.size ≤ k) w1 pa o') (b2 : Below w1.heap.size w1 w2) (hB : PB (fun k => w1.heap.size ≤ k) w2 pb o') (hn : nW o' ≤ N + 1) :
    ∃ lab', LW w0 lab' ga gb (upd va i pa) (upd vb i pb) (upd oo i o') (N + 1) ((w2.setCell ⟨ga, i, none⟩ pa).setCell ⟨gb, i, none⟩ pb) := by
  have hga := (Array.getElem?_eq_some_iff.1 h.ba).1
  have hgb := (Array.getElem?_eq_some_iff.1 h.bb).1
  have z1 := b1.size
  have z2 := b2.size
  have z0 := h.fr.size
  have b12 : Below w.heap.size w w2 := b1.trans (b2.mono b1.size)
  have a2 : w2.heap[ga]? = _ := (b12.block ga hga).trans h.ba
  have c2 : w2.heap[gb]? = _ := (b12.block gb hgb).trans h.bb
  have fs : Fr (fun k => k ≠ ga ∧ k ≠ gb) w2 ((w2.setCell ⟨ga, i, none⟩ pa).setCell ⟨gb, i, none⟩ pb) := ((Fr.refl _ w2).setCell ga i pa (fun _ e => e.1 rfl)).setCell gb i pb (fun _ e => e.2 rfl)
  have a3 : (w2.setCell ⟨ga, i, none⟩ pa).heap[ga]? = some (.cells #[upd va i pa 0, upd va i pa 1, upd va i pa 2] 24 (0, 0)) := by
    rw [setCell_eq_setRow w2 ga i _ _ _ _ a2, setRow_heap w2 ga _ _ _ _ a2, upd3 va i hi pa]
  have a4 : ((w2.setCell ⟨ga, i, none⟩ pa).setCell ⟨gb, i, none⟩ pb).heap[ga]? = some (.cells #[upd va i pa 0, upd va i pa 1, upd va i pa 2] 24 (0, 0)) := (setCell_other h.ne).trans a3
  have c3 : (w2.setCell ⟨ga, i, none⟩ pa).heap[gb]? = some (.cells #[vb 0, vb 1, vb 2] 26 (0, 0)) := (setCell_other h.ne.symm).trans c2
  have c4 : ((w2.setCell ⟨ga, i, none⟩ pa).setCell ⟨gb, i, none⟩ pb).heap[gb]? = some (.cells #[upd vb i pb 0, upd vb i pb 1, upd vb i pb 2] 26 (0, 0)) := by
    rw [setCell_eq_setRow _ gb i _ _ _ _ c3, setRow_heap _ gb _ _ _ _ c3, upd3 vb i hi pb]
  have sz : ((w2.setCell ⟨ga, i, none⟩ pa).setCell ⟨gb, i, none⟩ pb).heap.size = w2.heap.size := by simp
  refine ⟨lab3 lab w.heap.size w1.heap.size w2.heap.size i, fun j hj => ?_, a4, c4, ?_, ?_, h.ne, h.ga0, h.gb0, fun k hk => ?_, fun j hj => ?_, ?_⟩
  · by_cases e : j = i
    · subst e
      rw [upd_same, upd_same, upd_same]
      have hp : PD (fun k => w.heap.size ≤ k ∧ k < w1.heap.size) (fun k => w1.heap.size ≤ k ∧ k < w2.heap.size) w2 pa pb o' := PD.mk ((hA.sub (T := fun k => w.heap.size ≤ k ∧ k < w1.heap.size) (fun k hk hs => ⟨hs, hk⟩)).fr (Fr.of_below b2)) (hB.sub (fun k hk hs => ⟨hs, hk⟩))
      refine (hp.fr fs (fun k hs => ⟨by omega, by omega⟩) (fun k hs => ⟨by omega, by omega⟩)).sub (fun k _ hs => ?_) (fun k _ hs => ?_)
      · show lab3 _ _ _ _ _ k = _
        unfold lab3
        rw [if_neg (by omega), if_pos hs.2]
      · show lab3 _ _ _ _ _ k = _
        unfold lab3
        rw [if_neg (by omega), if_neg (by omega), if_pos hs.2]
    · rw [upd_ne _ _ _ e, upd_ne _ _ _ e, upd_ne _ _ _ e]
      have hp := (h.pd j hj).below b12
      refine (hp.fr fs (fun k hs => ⟨fun e => ?_, fun e => ?_⟩) (fun k hs => ⟨fun e => ?_, fun e => ?_⟩)).sub (fun k _ hs => ?_) (fun k _ hs => ?_)
      · have := h.la; rw [← e] at this; omega
      · have := h.lb; rw [← e] at this; omega
      · have := h.la; rw [← e] at this; omega
      · have := h.lb; rw [← e] at this; omega
      · show lab3 _ _ _ _ _ k = _
        unfold lab3
        rw [if_pos (h.bd k (by omega)).2, if_neg (by omega)]
        exact hs
      · show lab3 _ _ _ _ _ k = _
        unfold lab3
        rw [if_pos (h.bd k (by omega)).2, if_neg (by omega)]
        exact hs
  · unfold lab3
    rw [if_pos hga, h.la]
    split <;> rfl
  · unfold lab3
    rw [if_pos hgb, h.lb]
    split <;> rfl
  · rw [sz]
    unfold lab3 at hk
    split at hk
    · split at hk
      · exact absurd rfl hk
      · exact ⟨(h.bd k hk).1, by omega⟩
    · split at hk
      · exact ⟨by omega, by omega⟩
      · split at hk
        · exact ⟨by omega, by omega⟩
        · exact absurd rfl hk
  · by_cases e : j = i
    · subst e; rw [upd_same]; exact hn
    · rw [upd_ne _ _ _ e]; exact Nat.le_succ_of_le (h.nw j hj)
  · have g0 := h.ga0
    have g1 := h.gb0
    exact (h.fr.trans (b12.mono z0)).trans ⟨fs.os, fs.tape, fs.output, fs.size, fun k hk => fs.block k (by omega) ⟨by omega, by omega⟩⟩
end
end Go.Proofs.Ytglknmelcianjaa
