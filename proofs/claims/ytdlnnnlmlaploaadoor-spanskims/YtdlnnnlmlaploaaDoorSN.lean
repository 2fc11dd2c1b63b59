import Derived.Test.YtdlnnnlmlaploaaDoorSM
namespace Go.Proofs.YtdlnnnlmlaploaaDoor
open Go.RowKit Go.Deep
/-! ### The reference's walk: plain lists, and its frame -/
theorem txt_ge {k n : Int} {s : ByteArray} {ln : Nat} {l : Nat → T} {dn : Nat} {ky : Nat → ByteArray} {dv : Nat → T} (h : VT (.mk k n s ln l dn ky dv)) :
    1 + (catN (fun i => txt (l i)) ln).length + (catN (fun i => wtx (ky i) ++ txt (dv i)) dn).length ≤ (txt (.mk k n s ln l dn ky dv)).length := by
  obtain ⟨o1, o2, o3, o4, o5, o6⟩ : 1 ≤ k ∧ k ≤ 4 ∧ (k = 1 ∨ n = 0) ∧ (k = 2 ∨ s.toList = []) ∧ (k = 3 ∨ ln = 0) ∧ (k = 4 ∨ dn = 0) := of_decide_eq_true h.1
  by_cases hk1 : k = 1
  · obtain rfl : ln = 0 := by omega
    obtain rfl : dn = 0 := by omega
    have e : txt (.mk k n s 0 l 0 ky dv) = 105 :: (Lib.itoa n ++ [101]) := if_pos hk1
    rw [e]; simp [catN]
  by_cases hk2 : k = 2
  · obtain rfl : ln = 0 := by omega
    obtain rfl : dn = 0 := by omega
    have e : txt (.mk k n s 0 l 0 ky dv) = wtx s := (if_neg hk1).trans (if_pos hk2)
    have := wtx_size s
    rw [e]; simp [catN]; omega
  by_cases hk3 : k = 3
  · obtain rfl : dn = 0 := by omega
    have e : txt (.mk k n s ln l 0 ky dv) = 108 :: (catN (fun i => txt (l i)) ln ++ [101]) := (if_neg hk1).trans ((if_neg hk2).trans (if_pos hk3))
    rw [e]; simp [catN]; omega
  · obtain rfl : ln = 0 := by omega
    have e : txt (.mk k n s 0 l dn ky dv) = 100 :: (catN (fun i => wtx (ky i) ++ txt (dv i)) dn ++ [101]) := (if_neg hk1).trans ((if_neg hk2).trans (if_neg hk3))
    rw [e]; simp [catN]; omega
theorem kids_len {g : Nat → Nat → List Sp} {c : Nat → List UInt8} : ∀ {n : Nat}, (∀ i m, i < n → (g i m).length ≤ (c i).length) → (kids g n).length ≤ (catN c n).length
  | 0, _ => Nat.le_refl _
  | n + 1, h => by
    show (kids g n ++ g n _).length ≤ (catN c n ++ c n).length
    rw [List.length_append, List.length_append]
    have := kids_len (n := n) (fun i m hi => h i m (by omega))
    have := h n (kids g n).length (by omega)
    omega
theorem walk_len : ∀ (t : T) (here : Nat) (sp : Sp), VT t → (walkT t here sp).length ≤ (txt t).length := by
  intro t
  induction t with
  | no => intro _ _ _; exact Nat.le_refl _
  | mk k n s ln l dn ky dv il id =>
    intro here sp h
    have hg := txt_ge h
    unfold walkT
    rw [List.length_cons, List.length_append]
    have h1 := kids_len (g := fun i m => walkT (l i) (here + 1 + m) { fr := sp.fr + 1 + (catN (fun i => txt (l i)) i).length, dep := sp.dep + 1, up := here, nth := i }) (c := fun i => txt (l i)) (n := ln) (fun i m hi => il i _ _ (h.2.1 i hi))
    have h2 := kids_len (g := fun i m => walkT (dv i) (here + 1 + (kids (fun i m => walkT (l i) (here + 1 + m) { fr := sp.fr + 1 + (catN (fun i => txt (l i)) i).length, dep := sp.dep + 1, up := here, nth := i }) ln).length + m)
         { fr := sp.fr + 1 + (catN (fun i => txt (l i)) ln).length + (catN (fun i => wtx (ky i) ++ txt (dv i)) i).length + (wtx (ky i)).length, dep := sp.dep + 1, up := here, nth := i, key := ky i }) (c := fun i => wtx (ky i) ++ txt (dv i)) (n := dn) (fun i m hi => by
      have := id i (here + 1 + (kids (fun i m => walkT (l i) (here + 1 + m) { fr := sp.fr + 1 + (catN (fun i => txt (l i)) i).length, dep := sp.dep + 1, up := here, nth := i }) ln).length + m) { fr := sp.fr + 1 + (catN (fun i => txt (l i)) ln).length + (catN (fun i => wtx (ky i) ++ txt (dv i)) i).length + (wtx (ky i)).length, dep := sp.dep + 1, up := here, nth := i, key := ky i } (h.2.2 i hi).2
      rw [List.length_append]
      omega)
    omega
/-- a row has grown: nothing else that was there has changed -/
structure NR (lv lv' : Value) (w w' : World) : Prop where
  os : w'.os = w.os
  tape : w'.tape = w.tape
  output : w'.output = w.output
  size : w.heap.size ≤ w'.heap.size
  block : ∀ k, k < w.heap.size → lv.ownBlock ≠ some k → w'.heap[k]? = w.heap[k]?
  own : lv'.ownBlock = lv.ownBlock ∨ ∃ g, lv'.ownBlock = some g ∧ w.heap.size ≤ g
theorem NR.refl (lv : Value) (w : World) : NR lv lv w w := ⟨rfl, rfl, rfl, Nat.le_refl _, fun _ _ _ => rfl, .inl rfl⟩
theorem NR.trans {lv lv1 lv2 : Value} {w w1 w2 : World} (h : NR lv lv1 w w1) (g : NR lv1 lv2 w1 w2) : NR lv lv2 w w2 where
  os := g.os.trans h.os
  tape := g.tape.trans h.tape
  output := g.output.trans h.output
  size := Nat.le_trans h.size g.size
  block := fun k hk hn => (g.block k (Nat.lt_of_lt_of_le hk h.size) (fun e => by
    rcases h.own with e1 | ⟨x, e1, hx⟩
    · exact hn (e1 ▸ e)
    · rw [e1] at e; injection e with e; omega)).trans (h.block k hk hn)
  own := by
    have hs := h.size
    rcases g.own with e | ⟨x, e, hx⟩
    · rw [e]; exact h.own
    · exact .inr ⟨x, e, by omega⟩
theorem NR.of_below {lv : Value} {w w' : World} (h : Below w.heap.size w w') : NR lv lv w w' := ⟨h.os, h.tape, h.output, h.size, fun k hk _ => h.block k hk, .inl rfl⟩
theorem NR.below {B k : Nat} {us : List Value} {lv lv' : Value} {w w' : World} (h : NR lv lv' w w') (ho : w.ownsRow B 45 7 lv k us) (hB : B ≤ w.heap.size) : Below B w w' :=
  ⟨h.os, h.tape, h.output, h.size, fun x hx => h.block x (by omega) (fun e => by have := (own_lt ho e).1; omega)⟩
/-- a span's cells -/
abbrev Sp.cs (s : Sp) : Array Value := #[.int .i64 s.kind, .int .i64 s.fr, .int .i64 s.to, .int .i64 s.dep, .int .i64 s.up, .int .i64 s.nth, .string s.key]
def KC (t : T) : Prop := ∀ (x y : Value) (w : World) (B here : Nat) (lv : Value) (us : List Value) (sp : Sp), RV (fun k => k < B) w t x y → t.rng → VT t → TB B w → sp.fr + (txt t).length ≤ 1048576 → sp.dep + (txt t).length ≤ 1048577 → here + (txt t).length ≤ 1048577 → w.ownsRow B 45 7 lv here us → B ≤ w.heap.size →
  Calls Tryd.prog 29 #[lv, vv t x y, .agg (Sp.cs sp)] w fun e w' => ∃ lv', e = .returned lv' ∧ w'.ownsRow B 45 7 lv' (here + (walkT t here sp).length) (us ++ spW ((walkT t here sp).map Sp.v)) ∧ NR lv lv' w w'
end Go.Proofs.YtdlnnnlmlaploaaDoor
