import Derived.Test.YtkagcefboahgkaaOz
namespace Go.Proofs.Ytkagcefboahgkaa
open Go.RowKit
def LLu (w : World) (B : Nat) (v : Value) (i : Nat) (us : List Value) (P : Nat → Nat → List UInt8 → Prop) : Prop := us.length = i ∧ w.ownsRow B 22 1 v i us ∧ ∀ j, j < i → ∃ g cap l, us[j]? = some (.slice (some ⟨g, 0, none⟩) 64 cap) ∧ l.length = 64 ∧ OW B w (.slice (some ⟨g, 0, none⟩) 64 cap) l ∧ P j g l
theorem LLu.lls {w : World} {B i : Nat} {v : Value} {us : List Value} {P : Nat → Nat → List UInt8 → Prop} (h : LLu w B v i us P) : LLs w B v i P := ⟨us, h⟩
theorem LLu.below {w w' : World} {B i : Nat} {v : Value} {us : List Value} {P : Nat → Nat → List UInt8 → Prop} (h : LLu w B v i us P) (hb : Below w.heap.size w w') : LLu w' B v i us P :=
  ⟨h.1, ownsRow_fr (S := fun _ => True) h.2.1 (Fr.of_below hb) (fun _ _ => trivial), fun j hj => by
    obtain ⟨g, cap, l, a1, a2, a3, a4⟩ := h.2.2 j hj
    exact ⟨g, cap, l, a1, a2, a3.grow hb, a4⟩⟩
theorem LLu.frk {w w' : World} {B B' i m : Nat} {v x : Value} {us zs : List Value} {P : Nat → Nat → List UInt8 → Prop} (h : LLu w B v i us P) (g : w.grownBy w' x.ownBlock) (hx : w.ownsRow B' 22 1 x m zs) (hne : ∀ g, v.ownBlock = some g → x.ownBlock ≠ some g) : LLu w' B v i us P := by
  have f : Fr (fun k => x.ownBlock ≠ some k) w w' := ⟨g.os, g.tape, g.output, g.size, fun k hk hs => g.block k hk (fun e => hs e.symm)⟩
  refine ⟨h.1, ownsRow_fr h.2.1 f hne, fun j hj => ?_⟩
  obtain ⟨g, cap, l, a1, a2, a3, a4⟩ := h.2.2 j hj
  exact ⟨g, cap, l, a1, a2, ownsRow_fr a3 f (kind_ne a3 hx (by decide)), a4⟩
theorem LLu.mono {w : World} {B i : Nat} {v : Value} {us : List Value} {P Q : Nat → Nat → List UInt8 → Prop} (h : LLu w B v i us P) (hq : ∀ j g l, P j g l → g < w.heap.size → Q j g l) : LLu w B v i us Q :=
  ⟨h.1, h.2.1, fun j hj => by
    obtain ⟨g, cap, l, a1, a2, a3, a4⟩ := h.2.2 j hj
    exact ⟨g, cap, l, a1, a2, a3, hq j g l a4 (a3.blk g rfl).2⟩⟩
theorem LLu.app {w w' : World} {B i : Nat} {v v' : Value} {us : List Value} {P : Nat → Nat → List UInt8 → Prop} {g cap : Nat} {l : List UInt8} (h : LLu w B v i us P) (hl : l.length = 64) (ho : OW B w (.slice (some ⟨g, 0, none⟩) 64 cap) l) (hp : P i g l) (q1 : w'.ownsRow B 22 1 v' (i + 1) (us ++ [.slice (some ⟨g, 0, none⟩) 64 cap])) (q3 : w.grownBy w' v.ownBlock) : LLu w' B v' (i + 1) (us ++ [.slice (some ⟨g, 0, none⟩) 64 cap]) P := by
  have f : Fr (fun k => v.ownBlock ≠ some k) w w' := ⟨q3.os, q3.tape, q3.output, q3.size, fun k hk hs => q3.block k hk (fun e => hs e.symm)⟩
  have hk : ∀ {g cap : Nat} {l : List UInt8}, OW B w (.slice (some ⟨g, 0, none⟩) 64 cap) l → OW B w' (.slice (some ⟨g, 0, none⟩) 64 cap) l := fun h' => ownsRow_fr h' f (kind_ne h' h.2.1 (by decide))
  refine ⟨by rw [List.length_append, h.1]; rfl, q1, fun j hj => ?_⟩
  by_cases hji : j < i
  · obtain ⟨g, cap, l, a1, a2, a3, a4⟩ := h.2.2 j hji
    exact ⟨g, cap, l, by rw [List.getElem?_append_left (by rw [h.1]; exact hji)]; exact a1, a2, hk a3, a4⟩
  · obtain rfl : j = i := by omega
    exact ⟨g, cap, l, by rw [List.getElem?_append_right (by rw [h.1]; exact Nat.le_refl _), h.1]; simp, hl, hk ho, hp⟩
structure RIu (w0 : World) (D : Dk) (rv sv : Value) (i : Nat) (Z : Nat → Prop) (ur us : List Value) (wr : World) : Prop where
  zl : ∀ g, Z g → w0.heap.size ≤ g ∧ g < wr.heap.size
  rs : LLu wr w0.heap.size rv i ur (fun j g l => ¬ Z g ∧ l = seen D j)
  ss : LLu wr w0.heap.size sv i us (fun _ g _ => Z g)
  bl : Below w0.heap.size w0 wr
  ne : ∀ g, rv.ownBlock = some g → sv.ownBlock ≠ some g
theorem RIu.start (w : World) (D : Dk) : RIu w D (.slice none 0 0) (.slice none 0 0) 0 (fun _ => False) [] [] w :=
  ⟨fun _ h => h.elim, ⟨rfl, World.ownsRow_nil _ _ _ _, fun j hj => by omega⟩, ⟨rfl, World.ownsRow_nil _ _ _ _, fun j hj => by omega⟩, Below.refl _ _, fun g hg => by cases hg⟩
/-- both readings of one more sector are laid behind -/
theorem RIu.step {w0 wr wa wb wx wc wy wd : World} {D : Dk} {rv sv rv' sv' : Value} {i rg rc sg sc : Nat} {Z : Nat → Prop} {ur us : List Value} {l' : List UInt8} (h : RIu w0 D rv sv i Z ur us wr)
    (or_ : OW wr.heap.size wa (.slice (some ⟨rg, 0, none⟩) 64 rc) (seen D i)) (hsl : (seen D i).length = 64) (ba : Below wr.heap.size wr wa) (os_ : OW wa.heap.size wb (.slice (some ⟨sg, 0, none⟩) 64 sc) l') (hl' : l'.length = 64) (bb : Below wa.heap.size wa wb) (bx : Below wb.heap.size wb wx)
    (q1 : wc.ownsRow w0.heap.size 22 1 rv' (i + 1) (ur ++ [.slice (some ⟨rg, 0, none⟩) 64 rc])) (q3 : wx.grownBy wc rv.ownBlock) (q4 : rv'.ownBlock = rv.ownBlock ∨ ∀ g, rv'.ownBlock = some g → wx.heap.size ≤ g) (byy : Below wc.heap.size wc wy)
    (p1 : wd.ownsRow w0.heap.size 22 1 sv' (i + 1) (us ++ [.slice (some ⟨sg, 0, none⟩) 64 sc])) (p3 : wy.grownBy wd sv.ownBlock) (p4 : sv'.ownBlock = sv.ownBlock ∨ ∀ g, sv'.ownBlock = some g → wy.heap.size ≤ g) :
    RIu w0 D rv' sv' (i + 1) (fun g => Z g ∨ g = sg) (ur ++ [.slice (some ⟨rg, 0, none⟩) 64 rc]) (us ++ [.slice (some ⟨sg, 0, none⟩) 64 sc]) wd := by
  have s0 := h.bl.size
  have s1 := ba.size
  have s2 := bb.size
  have s3 := bx.size
  have s4 := q3.size
  have s5 := byy.size
  have s6 := p3.size
  have hrg := or_.blk rg rfl
  have hsg := os_.blk sg rfl
  have bwx : Below wr.heap.size wr wx := ba.trans ((bb.trans (bx.mono s2)).mono s1)
  have rsx := h.rs.below bwx
  have ssx := h.ss.below bwx
  have hrvl : ∀ g, rv.ownBlock = some g → g < wr.heap.size := fun g hg => (World.ownsRow.lt h.rs.2.1 g hg).2
  have hsvl : ∀ g, sv.ownBlock = some g → g < wr.heap.size := fun g hg => (World.ownsRow.lt h.ss.2.1 g hg).2
  have rsx' : LLu wx w0.heap.size rv i ur (fun j g l => ¬ (Z g ∨ g = sg) ∧ l = seen D j) := by
    have h1 := h.rs.mono (Q := fun j g l => ¬ (Z g ∨ g = sg) ∧ l = seen D j) (fun j g l hp hg => ⟨fun e => by
      rcases e with e | e
      · exact hp.1 e
      · omega, hp.2⟩)
    exact h1.below bwx
  have ssx' : LLu wx w0.heap.size sv i us (fun _ g _ => Z g ∨ g = sg) := (h.ss.mono (fun _ _ _ hp _ => .inl hp)).below bwx
  have orx : OW w0.heap.size wx (.slice (some ⟨rg, 0, none⟩) 64 rc) (seen D i) := (or_.grow (bb.trans (bx.mono s2))).mono s0
  have osx : OW w0.heap.size wx (.slice (some ⟨sg, 0, none⟩) 64 sc) l' := (os_.grow bx).mono (by omega)
  have rsc := rsx'.app hsl orx ⟨fun e => by
    rcases e with e | e
    · have := (h.zl rg e).2; omega
    · omega, rfl⟩ q1 q3
  have ssc := ssx'.frk q3 rsx.2.1 (fun g hg e => h.ne g e hg)
  have osc : OW w0.heap.size wc (.slice (some ⟨sg, 0, none⟩) 64 sc) l' := by
    refine ownsRow_fr (S := fun k => rv.ownBlock ≠ some k) osx ⟨q3.os, q3.tape, q3.output, q3.size, fun k hk hs => q3.block k hk (fun e => hs e.symm)⟩ (fun g hg e => ?_)
    have e1 : sg = g := by simpa [Value.ownBlock] using hg
    have := hrvl g e
    omega
  have hne' : ∀ g, rv'.ownBlock = some g → sv.ownBlock ≠ some g := fun g hg e => by
    rcases q4 with e4 | e4
    · rw [e4] at hg; exact h.ne g hg e
    · have := e4 g hg; have := hsvl g e; omega
  refine ⟨fun g hg => ?_, (rsc.below byy).frk p3 (ssc.below byy).2.1 hne', (ssc.below byy).app hl' (osc.grow byy) (.inr rfl) p1 p3, ?_, fun g hg e => ?_⟩
  · rcases hg with hg | rfl
    · have := h.zl g hg; omega
    · omega
  · have f1 : Fr (fun k => k < w0.heap.size) wr wx := Fr.of_below bwx
    have f2 : Fr (fun k => k < w0.heap.size) wr wc := f1.trans (T := fun k => rv.ownBlock ≠ some k) ⟨q3.os, q3.tape, q3.output, q3.size, fun k hk hs => q3.block k hk (fun e => hs e.symm)⟩ (fun k hk hs e => by have := (World.ownsRow.lt h.rs.2.1 k e).1; omega)
    have f3 : Fr (fun k => k < w0.heap.size) wr wy := f2.trans (T := fun _ => True) (Fr.of_below byy) (fun _ _ _ => trivial)
    have f4 : Fr (fun k => k < w0.heap.size) wr wd := f3.trans (T := fun k => sv.ownBlock ≠ some k) ⟨p3.os, p3.tape, p3.output, p3.size, fun k hk hs => p3.block k hk (fun e => hs e.symm)⟩ (fun k hk hs e => by have := (World.ownsRow.lt h.ss.2.1 k e).1; omega)
    exact Below.of_fr h.bl f4 (fun k hk => hk) (Nat.le_refl _)
  · rcases p4 with e4 | e4
    · rw [e4] at e; exact hne' g hg e
    · have h1 := e4 g e
      have h2 := (World.ownsRow.lt q1 g hg).2
      omega
/-- a reading is being written over -/
structure RZ (w0 : World) (D : Dk) (rv sv : Value) (m : Nat) (Z : Nat → Prop) (wr : World) : Prop where
  zl : ∀ g, Z g → w0.heap.size ≤ g
  rs : LLs wr w0.heap.size rv m (fun j g l => ¬ Z g ∧ l = seen D j)
  ss : LLs wr w0.heap.size sv m (fun _ g _ => Z g)
  bl : Below w0.heap.size w0 wr
theorem RIu.rz {w0 wr : World} {D : Dk} {rv sv : Value} {i : Nat} {Z : Nat → Prop} {ur us : List Value} (h : RIu w0 D rv sv i Z ur us wr) : RZ w0 D rv sv i Z wr := ⟨fun g hg => (h.zl g hg).1, h.rs.lls, h.ss.lls, h.bl⟩
theorem RZ.drew {w0 wr : World} {D : Dk} {rv sv : Value} {m : Nat} {Z : Nat → Prop} (h : RZ w0 D rv sv m Z wr) (n : Nat) : RZ w0 D rv sv m Z (wr.drewN n) :=
  ⟨h.zl, h.rs.fr (T := fun _ => True) (Fr.of_below (belowDrew _ _)) (fun _ _ => trivial) (fun _ _ _ _ _ _ => trivial), h.ss.fr (T := fun _ => True) (Fr.of_below (belowDrew _ _)) (fun _ _ => trivial) (fun _ _ _ _ _ _ => trivial), h.bl.trans ((belowDrew _ _).mono h.bl.size)⟩
theorem RZ.drew0 {w0 wr : World} {D : Dk} {rv sv : Value} {m : Nat} {Z : Nat → Prop} (h : RZ w0 D rv sv m Z wr) : RZ w0 D rv sv m Z wr.drew := h.drew 1
theorem u8w (x : Int) : IntKind.u8.wrap x = x % 256 := by simp [IntKind.wrap, IntKind.signed, IntKind.bits]
theorem RZ.at {w0 wr : World} {D : Dk} {rv : Value} {a : Option Addr} {m c m' : Nat} {Z : Nat → Prop} (h : RZ w0 D rv (.slice a m' c) m Z wr) (j : Nat) (hj : j < m) : ∃ g0 g cap, a = some ⟨g0, 0, none⟩ ∧ g0 ≠ g ∧ wr.cell? ⟨g0, j, none⟩ = some (.slice (some ⟨g, 0, none⟩) 64 cap) ∧ 64 ≤ cap ∧ ∀ k, k < 64 → ∃ x : Int, 0 ≤ x ∧ x < 256 ∧ wr.cell? ⟨g, k, none⟩ = some (.int .u8 x) ∧ wr.frozen? ⟨g, k, none⟩ = false ∧ ∀ z : Int, 0 ≤ z → z < 256 → RZ w0 D rv (.slice a m' c) m Z (wr.setCell ⟨g, k, none⟩ (.int .u8 z)) := by
  obtain ⟨g0, g, cap, l, e, hc, hl, ho, hz⟩ := h.ss.at j hj
  have hg0 : g0 ≠ g := by
    obtain ⟨us, e1, e2, e3⟩ := h.ss
    subst e
    exact fun eq => kind_ne e2 ho (by decide) g0 rfl (by rw [eq]; rfl)
  refine ⟨g0, g, cap, e, hg0, hc, ?_, fun k hk => ?_⟩
  · obtain ⟨_, _, e', h', _⟩ := ho.rb
    simp only [Value.slice.injEq] at e'
    omega
  obtain ⟨p1, p2⟩ := ho.at k (by omega)
  refine ⟨_, by omega, by have := (byt l k).toNat_lt; omega, p1, p2, fun z h0 h1 => ?_⟩
  have hk5 : ∃ cs, wr.heap[g]? = some (.cells cs 5 (0, 0)) := (ownsRow_lt ho g rfl).2
  have f : Fr (fun j => j ≠ g) wr (wr.setCell ⟨g, k, none⟩ (.int .u8 z)) := (Fr.refl _ wr).setCell g k _ (fun _ x => x rfl)
  have hkind : ∀ {v : Value} {i : Nat} {us : List Value} {B : Nat}, wr.ownsRow B 22 1 v i us → ∀ q, v.ownBlock = some q → q ≠ g := fun h' q hq e => by
    obtain ⟨_, cs, q1⟩ := ownsRow_lt h' q hq
    obtain ⟨cs', q2⟩ := hk5
    rw [e, q2] at q1
    simp at q1
  refine ⟨h.zl, ?_, ?_, ?_⟩
  · refine h.rs.fr f (fun q hq => ?_) (fun j q l hp _ _ e => hp.1 (by rw [e]; exact hz))
    obtain ⟨us, _, e2, _⟩ := h.rs
    exact hkind e2 q hq
  · obtain ⟨us, e1, e2, e3⟩ := h.ss
    refine ⟨us, e1, ownsRow_fr e2 f (hkind e2), fun j' hj' => ?_⟩
    obtain ⟨g', cap', l', a1, a2, a3, a4⟩ := e3 j' hj'
    by_cases eg : g' = g
    · subst eg
      obtain ⟨m2, b1, b2⟩ := a3.putz k h0 h1
      exact ⟨g', cap', m2, a1, by omega, b2, a4⟩
    · exact ⟨g', cap', l', a1, a2, a3.other (blk_ne eg), a4⟩
  · exact Below.of_fr h.bl f (fun q hq e => by have := h.zl g hz; omega) (Nat.le_refl _)
end Go.Proofs.Ytkagcefboahgkaa
