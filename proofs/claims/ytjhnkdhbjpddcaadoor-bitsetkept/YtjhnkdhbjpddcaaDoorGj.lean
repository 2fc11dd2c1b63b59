import Derived.Test.YtjhnkdhbjpddcaaDoorGi
namespace Go.Proofs.YtjhnkdhbjpddcaaDoor
open Go.RowKit
theorem getD_last {α : Type} (l : List α) (x d : α) (n : Nat) (h : l.length = n) : (l ++ [x]).getD n d = x := by
  rw [List.getD_eq_getElem?_getD, List.getElem?_append_right (by omega), h]; simp
theorem getD_old {α : Type} (l : List α) (x d : α) (n : Nat) (h : n < l.length) : (l ++ [x]).getD n d = l.getD n d := by
  rw [List.getD_eq_getElem?_getD, List.getElem?_append_left h, ← List.getD_eq_getElem?_getD]
theorem grownFr {w w' : World} {row : Option Nat} (h : w.grownBy w' row) : Fr (fun k => some k ≠ row) w w' := ⟨h.os, h.tape, h.output, h.size, fun k hk hs => h.block k hk hs⟩
/-- the tags part the rows of lists from the lists -/
theorem OW.row {B B' : Nat} {w w' : World} {u sv : Value} {l : List UInt8} {n : Nat} {xs : List Value} (h : OW B w u l) (hr : w.ownsRow B' 22 1 sv n xs) (hg : w.grownBy w' sv.ownBlock) : OW B w' u l :=
  h.fr (grownFr hg) (fun k hk he => by
    obtain ⟨_, ht⟩ := (ownsRow_lt hr k he.symm).2
    obtain ⟨_, ht'⟩ := h.tag k hk
    exact tag_ne ht ht' (by decide) rfl)
/-- the answers and their copies, as they are laid one by one -/
structure KP (w3 : World) (m : Nat) (l r : List UInt8) (i : Int) (av : Value) (vs : List Value) (kv : Value) (us : List Value) (L : List (List UInt8)) (k q : Nat) (wr : World) : Prop where
  al : OL w3.heap.size wr av vs L
  len : L.length = k
  kr : wr.ownsRow w3.heap.size 22 1 kv q us
  kl : us.length = q
  ke : ∀ j, j < q → OW w3.heap.size wr (us.getD j nv) (L.getD j [])
  ca : ∀ j, j < k → CA (j % 8) m l r i (L.getD j [])
  dis : ∀ j p g, j < k → p < q → (vs.getD j nv).ownBlock = some g → (us.getD p nv).ownBlock ≠ some g
  ak : ∀ g, av.ownBlock = some g → kv.ownBlock ≠ some g
  bel : Below w3.heap.size w3 wr
  qk : q ≤ k
theorem KP.start (w3 : World) (m : Nat) (l r : List UInt8) (i : Int) : KP w3 m l r i (.slice none 0 0) [] (.slice none 0 0) [] [] 0 0 w3 :=
  ⟨⟨World.ownsRow_nil _ _ _ _, rfl, fun j hj => absurd hj (Nat.not_lt_zero _), fun i j g hi => absurd hi (Nat.not_lt_zero _)⟩, rfl, World.ownsRow_nil _ _ _ _, rfl, fun j hj => absurd hj (Nat.not_lt_zero _), fun j hj => absurd hj (Nat.not_lt_zero _), fun j p g hj => absurd hj (Nat.not_lt_zero _), fun g hg => by simp [Value.ownBlock] at hg, Below.refl _ _, Nat.le_refl _⟩
theorem KP.keep {w3 : World} {m : Nat} {l r : List UInt8} {i : Int} {av : Value} {vs : List Value} {kv : Value} {us : List Value} {L : List (List UInt8)} {k q : Nat} {wr w' : World} (h : KP w3 m l r i av vs kv us L k q wr) (hb : Below wr.heap.size wr w') : KP w3 m l r i av vs kv us L k q w' :=
  have f : Fr (fun _ => True) wr w' := Fr.of_below hb
  ⟨h.al.below hb, h.len, ownsRow_fr h.kr f (fun _ _ => trivial), h.kl, fun j hj => (h.ke j hj).fr f (fun _ _ => trivial), h.ca, h.dis, h.ak, h.bel.trans (hb.mono h.bel.size), h.qk⟩
/-- one more answer -/
theorem KP.addA {w3 : World} {m : Nat} {l r : List UInt8} {i : Int} {av av' p : Value} {vs : List Value} {kv : Value} {us : List Value} {L : List (List UInt8)} {k : Nat} {wr w5 w6 : World} {o : List UInt8} (h : KP w3 m l r i av vs kv us L k k wr)
    (hb : Below wr.heap.size wr w5) (hp : OW wr.heap.size w5 p o) (hc : CA (k % 8) m l r i o)
    (h1 : w6.ownsRow w3.heap.size 22 1 av' (k + 1) (vs ++ [p])) (h2 : w5.grownBy w6 av.ownBlock) (h3 : av'.ownBlock = av.ownBlock ∨ ∀ g, av'.ownBlock = some g → w5.heap.size ≤ g) :
    KP w3 m l r i av' (vs ++ [p]) kv us (L ++ [o]) (k + 1) k w6 ∧ OW wr.heap.size w6 p o := by
  have h5 := h.keep hb
  have hvl : vs.length = k := h.al.len.trans h.len
  have hp6 := hp.row h5.al.row h2
  have hold : ∀ j g, j < k → (vs.getD j nv).ownBlock = some g → g < wr.heap.size := fun j g hj hg => ((h.al.each j (by rw [h.len]; exact hj)).blk g hg).2
  have holdk : ∀ j g, j < k → (us.getD j nv).ownBlock = some g → g < wr.heap.size := fun j g hj hg => ((h.ke j hj).blk g hg).2
  refine ⟨⟨⟨by rw [List.length_append, h.len]; exact h1, by rw [List.length_append, List.length_append, h.al.len]; rfl, fun j hj => ?_, fun a b g ha hb' hab => ?_⟩, by rw [List.length_append, h.len]; rfl, ?_, h.kl, fun j hj => ?_, fun j hj => ?_, fun j q g hj hq hg => ?_, fun g hg hgk => ?_, ?_, Nat.le_succ _⟩, hp6⟩
  · rw [List.length_append, h.len] at hj
    by_cases hjk : j = k
    · subst hjk
      rw [getD_last vs p nv j hvl, getD_last L o [] j h.len]
      exact OW.mono hp6 h.bel.size
    · have hj' : j < k := by simp at hj; omega
      rw [getD_old vs p nv j (by omega), getD_old L o [] j (by rw [h.len]; exact hj')]
      exact (h5.al.each j (by rw [h.len]; exact hj')).row h5.al.row h2
  · rw [List.length_append, h.len] at ha hb'
    simp at ha hb'
    by_cases hak : a = k
    · subst hak
      have hb2 : b < a := by omega
      rw [getD_last vs p nv a hvl, getD_old vs p nv b (by omega)]
      intro hg hg'
      have := hold b g hb2 hg'
      have := (hp.blk g hg).1
      omega
    · have ha2 : a < k := by omega
      rw [getD_old vs p nv a (by omega)]
      by_cases hbk : b = k
      · subst hbk
        rw [getD_last vs p nv b hvl]
        intro hg hg'
        have := hold a g ha2 hg
        have := (hp.blk g hg').1
        omega
      · rw [getD_old vs p nv b (by omega)]
        exact h.al.ap a b g (by rw [h.len]; exact ha2) (by rw [h.len]; omega) hab
  · exact ownsRow_fr h5.kr (grownFr h2) (fun g hg he => h.ak g he.symm hg)
  · rw [getD_old L o [] j (by rw [h.len]; exact hj)]
    exact (h5.ke j hj).row h5.al.row h2
  · by_cases hjk : j = k
    · subst hjk
      rw [getD_last L o [] j h.len]; exact hc
    · rw [getD_old L o [] j (by rw [h.len]; omega)]; exact h.ca j (by omega)
  · by_cases hjk : j = k
    · subst hjk
      rw [getD_last vs p nv j hvl] at hg
      intro hg'
      have := holdk q g hq hg'
      have := (hp.blk g hg).1
      omega
    · rw [getD_old vs p nv j (by omega)] at hg
      exact h.dis j q g (by omega) hq hg
  · rcases h3 with e | e
    · exact h.ak g (by rw [← e]; exact hg) hgk
    · have h6 := e g hg
      have h7 := (World.ownsRow.lt h.kr g hgk).2
      have := hb.size
      omega
  · have b5 : Below w3.heap.size w3 w5 := h5.bel
    exact b5.grown h2 b5.size (fun g hg => (World.ownsRow.lt h5.al.row g hg).1)
/-- and its copy -/
theorem KP.addK {w3 : World} {m : Nat} {l r : List UInt8} {i : Int} {av c : Value} {vs : List Value} {kv kv' : Value} {us : List Value} {L : List (List UInt8)} {k : Nat} {w6 w7 w8 : World} {o : List UInt8} (h : KP w3 m l r i av vs kv us (L ++ [o]) (k + 1) k w6)
    (hb : Below w6.heap.size w6 w7) (hc : OW w6.heap.size w7 c o)
    (h1 : w8.ownsRow w3.heap.size 22 1 kv' (k + 1) (us ++ [c])) (h2 : w7.grownBy w8 kv.ownBlock) (h3 : kv'.ownBlock = kv.ownBlock ∨ ∀ g, kv'.ownBlock = some g → w7.heap.size ≤ g) :
    KP w3 m l r i av vs kv' (us ++ [c]) (L ++ [o]) (k + 1) (k + 1) w8 := by
  have h7 := h.keep hb
  have hL : L.length = k := by have := h.len; rw [List.length_append] at this; simpa using this
  have hc8 := hc.row h7.kr h2
  have hold : ∀ j g, j < k + 1 → (vs.getD j nv).ownBlock = some g → g < w6.heap.size := fun j g hj hg => ((h.al.each j (by rw [h.len]; exact hj)).blk g hg).2
  refine ⟨⟨?_, h.al.len, fun j hj => (h7.al.each j hj).row h7.kr h2, h.al.ap⟩, h.len, h1, by rw [List.length_append, h.kl]; rfl, fun j hj => ?_, h.ca, fun j p g hj hp hg => ?_, fun g hg hgk => ?_, h7.bel.grown h2 h7.bel.size (fun g hg => (World.ownsRow.lt h7.kr g hg).1), Nat.le_refl _⟩
  · exact ownsRow_fr h7.al.row (grownFr h2) (fun g hg he => h.ak g hg he.symm)
  · by_cases hjk : j = k
    · subst hjk
      rw [getD_last us c nv j h.kl, getD_last L o [] j hL]
      exact OW.mono hc8 h.bel.size
    · rw [getD_old us c nv j (by rw [h.kl]; omega)]
      exact (h7.ke j (by omega)).row h7.kr h2
  · by_cases hpk : p = k
    · subst hpk
      rw [getD_last us c nv p h.kl]
      intro hg'
      have := hold j g hj hg
      have := (hc.blk g hg').1
      omega
    · rw [getD_old us c nv p (by rw [h.kl]; omega)]
      exact h.dis j p g hj (by omega) hg
  · rcases h3 with e | e
    · exact h.ak g hg (by rw [← e]; exact hgk)
    · have h5 := e g hgk
      have h6 := (World.ownsRow.lt h.al.row g hg).2
      have := hb.size
      omega
end Go.Proofs.YtjhnkdhbjpddcaaDoor
