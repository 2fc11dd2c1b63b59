import Derived.Test.YtjhnkdhbjpddcaaDoorGf
namespace Go.Proofs.YtjhnkdhbjpddcaaDoor
open Go.RowKit
/-- a list of numbers and a list of runs that are written over and gone on with -/
structure LR (w8 : World) (B : Nat) (lv0 rv0 lv : Value) (n : Nat) (rv : Value) (q : Nat) (wr : World) : Prop where
  l : ∃ xs, wr.ownsRow B 3 1 lv n xs
  r : ∃ xs, wr.ownsRow B 55 2 rv q xs
  ll : ∀ k, lv.ownBlock = some k → lv0.ownBlock = some k ∨ w8.heap.size ≤ k
  rl : ∀ k, rv.ownBlock = some k → rv0.ownBlock = some k ∨ w8.heap.size ≤ k
  fr : Fr (fun k => lv0.ownBlock ≠ some k ∧ rv0.ownBlock ≠ some k) w8 wr
theorem LR.start {w8 : World} {B : Nat} {lv rv : Value} {zs : List Int} {rr : List (Nat × Nat)} (h1 : OZ B w8 lv zs) (h2 : OU B w8 rv rr) : LR w8 B lv rv lv zs.length rv rr.length w8 :=
  ⟨⟨_, h1⟩, ⟨_, h2⟩, fun _ h => .inl h, fun _ h => .inl h, Fr.refl _ _⟩
theorem LR.keep {w8 : World} {B : Nat} {lv0 rv0 lv rv : Value} {n q : Nat} {wr w' : World} (h : LR w8 B lv0 rv0 lv n rv q wr) (hb : Below wr.heap.size wr w') : LR w8 B lv0 rv0 lv n rv q w' := by
  have f : Fr (fun _ => True) wr w' := Fr.of_below hb
  obtain ⟨xs, hx⟩ := h.l
  obtain ⟨ys, hy⟩ := h.r
  exact ⟨⟨xs, ownsRow_fr hx f (fun _ _ => trivial)⟩, ⟨ys, ownsRow_fr hy f (fun _ _ => trivial)⟩, h.ll, h.rl, h.fr.trans f (fun _ _ _ => trivial)⟩
theorem LR.setL {w8 : World} {B : Nat} {lv0 rv0 rv : Value} {a : Option Addr} {n c q : Nat} {wr : World} (h : LR w8 B lv0 rv0 (.slice a n c) n rv q wr) (i : Nat) (hi : i < n) :
    ∃ g x, a = some ⟨g, 0, none⟩ ∧ wr.cell? ⟨g, i, none⟩ = some x ∧ wr.frozen? ⟨g, i, none⟩ = false ∧ ∀ y : Value, LR w8 B lv0 rv0 (.slice a n c) n rv q (wr.setCell ⟨g, i, none⟩ y) := by
  obtain ⟨xs, hx⟩ := h.l
  obtain ⟨ys, hy⟩ := h.r
  rcases hx.2 with ⟨_, h0⟩ | ⟨g, cap, cur, e, hg, hcur, _⟩
  · omega
  simp only [Value.slice.injEq] at e
  obtain ⟨rfl, _, rfl⟩ := e
  have hlen : i < xs.length := by rw [hx.1]; omega
  have hc := World.ownsRow.cellAt hx i (by omega)
  refine ⟨g, xs[i], rfl, by rw [hc]; simp [hlen], own_frozen hx, fun y => ⟨⟨_, own_setR hx (by omega)⟩, ⟨ys, ?_⟩, h.ll, h.rl, h.fr.setCell g i y (fun hlt => ?_)⟩⟩
  · refine ownsRow_fr (S := fun k => k ≠ g) hy ((Fr.refl _ _).setCell g i y (fun _ x => x rfl)) (fun k hk => ?_)
    obtain ⟨cs', ht'⟩ := (ownsRow_lt hy k hk).2
    exact tag_ne ht' hcur (by decide)
  · intro hs
    rcases h.ll g rfl with e | e
    · exact hs.1 e
    · omega
theorem LR.setR {w8 : World} {B : Nat} {lv0 rv0 lv : Value} {a : Option Addr} {n c q : Nat} {wr : World} (h : LR w8 B lv0 rv0 lv n (.slice a q c) q wr) (i : Nat) (hi : i < q * 2) :
    ∃ g x, a = some ⟨g, 0, none⟩ ∧ wr.cell? ⟨g, i, none⟩ = some x ∧ wr.frozen? ⟨g, i, none⟩ = false ∧ ∀ y : Value, LR w8 B lv0 rv0 lv n (.slice a q c) q (wr.setCell ⟨g, i, none⟩ y) := by
  obtain ⟨xs, hx⟩ := h.l
  obtain ⟨ys, hy⟩ := h.r
  rcases hy.2 with ⟨_, h0⟩ | ⟨g, cap, cur, e, hg, hcur, _⟩
  · omega
  simp only [Value.slice.injEq] at e
  obtain ⟨rfl, _, rfl⟩ := e
  have hlen : i < ys.length := by rw [hy.1]; omega
  have hc := World.ownsRow.cellAt hy i (by omega)
  refine ⟨g, ys[i], rfl, by rw [hc]; simp [hlen], own_frozen hy, fun y => ⟨⟨xs, ?_⟩, ⟨_, own_setR hy hi⟩, h.ll, h.rl, h.fr.setCell g i y (fun hlt => ?_)⟩⟩
  · refine ownsRow_fr (S := fun k => k ≠ g) hx ((Fr.refl _ _).setCell g i y (fun _ x => x rfl)) (fun k hk => ?_)
    obtain ⟨cs', ht'⟩ := (ownsRow_lt hx k hk).2
    exact tag_ne ht' hcur (by decide)
  · intro hs
    rcases h.rl g rfl with e | e
    · exact hs.2 e
    · omega
theorem LR.appL {w8 : World} {B : Nat} {lv0 rv0 lv rv lv' : Value} {n q : Nat} {wr w' : World} {xs : List Value} (h : LR w8 B lv0 rv0 lv n rv q wr) (h1 : w'.ownsRow B 3 1 lv' (n + 1) xs) (h2 : wr.grownBy w' lv.ownBlock) (h3 : lv'.ownBlock = lv.ownBlock ∨ ∀ g, lv'.ownBlock = some g → wr.heap.size ≤ g) :
    LR w8 B lv0 rv0 lv' (n + 1) rv q w' := by
  obtain ⟨ys, hy⟩ := h.r
  obtain ⟨zs, hz⟩ := h.l
  refine ⟨⟨xs, h1⟩, ⟨ys, ?_⟩, fun k hk => ?_, h.rl, h.fr.grown h2 (fun k hk hlt hs => ?_)⟩
  · refine ownsRow_fr (S := fun k => some k ≠ lv.ownBlock) hy ⟨h2.os, h2.tape, h2.output, h2.size, fun k hk hs => h2.block k hk hs⟩ (fun k hk he => ?_)
    obtain ⟨_, ht⟩ := (ownsRow_lt hz k he.symm).2
    obtain ⟨_, ht'⟩ := (ownsRow_lt hy k hk).2
    exact tag_ne ht ht' (by decide) rfl
  · rcases h3 with e | e
    · exact h.ll k (by rw [← e]; exact hk)
    · exact .inr (Nat.le_trans h.fr.size (e k hk))
  · rcases h.ll k hk with e | e
    · exact hs.1 e
    · omega
theorem LR.appR {w8 : World} {B : Nat} {lv0 rv0 lv rv rv' : Value} {n q : Nat} {wr w' : World} {xs : List Value} (h : LR w8 B lv0 rv0 lv n rv q wr) (h1 : w'.ownsRow B 55 2 rv' (q + 1) xs) (h2 : wr.grownBy w' rv.ownBlock) (h3 : rv'.ownBlock = rv.ownBlock ∨ ∀ g, rv'.ownBlock = some g → wr.heap.size ≤ g) :
    LR w8 B lv0 rv0 lv n rv' (q + 1) w' := by
  obtain ⟨ys, hy⟩ := h.r
  obtain ⟨zs, hz⟩ := h.l
  refine ⟨⟨zs, ?_⟩, ⟨xs, h1⟩, h.ll, fun k hk => ?_, h.fr.grown h2 (fun k hk hlt hs => ?_)⟩
  · refine ownsRow_fr (S := fun k => some k ≠ rv.ownBlock) hz ⟨h2.os, h2.tape, h2.output, h2.size, fun k hk hs => h2.block k hk hs⟩ (fun k hk he => ?_)
    obtain ⟨_, ht⟩ := (ownsRow_lt hy k he.symm).2
    obtain ⟨_, ht'⟩ := (ownsRow_lt hz k hk).2
    exact tag_ne ht ht' (by decide) rfl
  · rcases h3 with e | e
    · exact h.rl k (by rw [← e]; exact hk)
    · exact .inr (Nat.le_trans h.fr.size (e k hk))
  · rcases h.rl k hk with e | e
    · exact hs.2 e
    · omega
/-- none of these answers lies in either block -/
def Off (lv rv : Value) (fs : List Fc) : Prop := ∀ f, f ∈ fs → ∀ g, f.val.ownBlock = some g → lv.ownBlock ≠ some g ∧ rv.ownBlock ≠ some g
theorem All.lr {w8 : World} {B B' : Nat} {lv0 rv0 lv rv : Value} {n q : Nat} {wr : World} {fs : List Fc} (h : LR w8 B lv0 rv0 lv n rv q wr) (ha : All B' w8 fs) (ho : Off lv0 rv0 fs) : All B' wr fs := fun f hf => Fc.fr (ha f hf) h.fr (fun g hg => ho f hf g hg)
end Go.Proofs.YtjhnkdhbjpddcaaDoor
