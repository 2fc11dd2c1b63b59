import Derived.Test.YtmfeelkjbpjhdaaKf
namespace Go.Proofs.Ytmfeelkjbpjhdaa
open Go.RowKit
theorem copiedN {w : World} {v : Value} {l : List UInt8} (h : RB w v l) (hn : l = [] → v = .slice none 0 0) (hl : l.length ≤ 140737488351232) :
    Calls Try.prog 4 #[v] w fun e w' => ∃ v', e = .returned v' ∧ OW w.heap.size w' v' l ∧ Below w.heap.size w w' ∧ (l = [] → v' = .slice none 0 0) := by
  by_cases e : l = []
  · rw [hn e, e]
    refine (copied_nil 0 w).mono ?_
    rintro en w' ⟨rfl, rfl⟩
    exact ⟨_, rfl, World.ownsRow_nil _ _ _ _, Below.refl _ _, fun _ => rfl⟩
  · refine (copied h hl).mono ?_
    rintro en w' ⟨v', rfl, h1, h2⟩
    exact ⟨v', rfl, h1, h2, fun e' => absurd e' e⟩
/-- bodies that wait, and where their row lies -/
def PB (w : World) (lo hi : Nat) (v : Value) (S : Nat → Prop) (bs : List (List UInt8)) : Prop := OB lo S w v bs ∧ ∀ k, v.ownBlock = some k → k < hi
theorem PB.keep {w w' : World} {lo hi : Nat} {v : Value} {S : Nat → Prop} {bs : List (List UInt8)} (h : PB w lo hi v S bs) (hb : Below w.heap.size w w') : PB w' lo hi v S bs := by
  obtain ⟨⟨us, h1, h2, h3⟩, h4⟩ := h
  exact ⟨⟨us, h1, ownsRow_one h2 (fun k hk => hb.block k (World.ownsRow.lt h2 k hk).2), fun i hi => (h3 i hi).keep (fun k _ hl _ => hb.block k hl) (fun _ x _ => x)⟩, h4⟩
/-- bodies stay under all that leaves their blocks alone -/
theorem PB.fr {w w' : World} {lo lo' hi' : Nat} {v : Value} {S S' T : Nat → Prop} {bs : List (List UInt8)} (h : OB lo S w v bs) (hf : Fr T w w') (hlo : lo' ≤ lo) (hhi : w.heap.size ≤ hi') (ht : ∀ k, lo ≤ k → k < w.heap.size → T k) (hs : ∀ g, S g → g < w.heap.size → S' g ∧ T g) : PB w' lo' hi' v S' bs := by
  obtain ⟨us, h1, h2, h3⟩ := h
  refine ⟨⟨us, h1, ownsRow_mono (ownsRow_one h2 (fun k hk => ?_)) hlo, fun i hi => (h3 i hi).keep (fun k hk hl _ => hf.block k hl (hs k hk hl).2) (fun g x hl => (hs g x hl).1)⟩, fun k hk => ?_⟩
  · have := World.ownsRow.lt h2 k hk
    exact hf.block k this.2 (ht k this.1 this.2)
  · have := World.ownsRow.lt h2 k hk
    omega
theorem PB.tag {w w' : World} {lo hi : Nat} {v x : Value} {S : Nat → Prop} {bs : List (List UInt8)} {B2 size n : Nat} {xs : List Value} (h : PB w lo hi v S bs) (hg : w.grownBy w' x.ownBlock) (hr : w.ownsRow B2 28 size x n xs) (hx : ∀ k, x.ownBlock = some k → k < lo ∨ hi ≤ k) : PB w' lo hi v S bs := by
  obtain ⟨⟨us, h1, h2, h3⟩, h4⟩ := h
  refine ⟨⟨us, h1, ownsRow_one h2 (fun k hk => hg.block k (World.ownsRow.lt h2 k hk).2 (fun e => ?_)), fun i hi => (h3 i hi).tag hg hr⟩, h4⟩
  have := (World.ownsRow.lt h2 k hk).1
  have := h4 k hk
  have := hx k e.symm
  omega
/-- all, while the others are appended -/
structure KA (W : World) (D : Nat → Prop) (AL : List (List UInt8)) (P lo hi : Nat) (av : Value) (wz : World) : Prop where
  al : OB W.heap.size (fun g => (W.heap.size ≤ g ∧ ¬ D g) ∧ g < P) wz av AL
  ab : ∀ k, av.ownBlock = some k → k < lo ∨ hi ≤ k
  bel : Below W.heap.size W wz
  hi_ : hi ≤ wz.heap.size
theorem KA.keep {W : World} {D : Nat → Prop} {AL : List (List UInt8)} {P lo hi : Nat} {av : Value} {wz w' : World} (h : KA W D AL P lo hi av wz) (hb : Below wz.heap.size wz w') : KA W D AL P lo hi av w' :=
  ⟨h.al.keep (fun k _ hl => hb.block k hl) (fun _ x => x.1.1) (fun _ x _ => x), h.ab, h.bel.trans (hb.mono h.bel.size), Nat.le_trans h.hi_ hb.size⟩
/-- what an append onto all keeps -/
structure KK (lo hi : Nat) (w w' : World) : Prop where
  pb : ∀ (v : Value) (S : Nat → Prop) (bs : List (List UInt8)), PB w lo hi v S bs → PB w' lo hi v S bs
  cells : ∀ (k t : Nat) (cs : Array Value) (f : Nat × Nat), w.heap[k]? = some (.cells cs t f) → t ≠ 28 → w'.heap[k]? = some (.cells cs t f)
theorem KK.ow {lo hi B : Nat} {w w' : World} {v : Value} {l : List UInt8} (h : KK lo hi w w') (ho : OW B w v l) : OW B w' v l := ow_keep ho (fun k cs f hk => h.cells k 5 cs f hk (by decide))
theorem KK.bk {lo hi : Nat} {w w' : World} {S : Nat → Prop} {v : Value} {l : List UInt8} (h : KK lo hi w w') (ho : BK S w v l) : BK S w' v l := ho.keep (fun k _ _ hex => by obtain ⟨cs, f, hc⟩ := hex; rw [hc]; exact h.cells k 5 cs f hc (by decide)) (fun _ x _ => x)
section
variable {ops : Array Oper} {rest : List Oper} {o : Oper} {a : Act} {Q : Exit → Act → World → Prop} {w W : World} {D : Nat → Prop} {AL : List (List UInt8)} {P lo hi : Nat} {av : Value}
theorem KA.next {w' : World} {v' : Value} {AL' : List (List UInt8)} {P' : Nat} (h : KA W D AL P lo hi av w) (k1 : OB W.heap.size (fun g => (W.heap.size ≤ g ∧ ¬ D g) ∧ g < P') w' v' AL') (k2 : w.grownBy w' av.ownBlock) (k3 : v'.ownBlock = av.ownBlock ∨ v'.ownBlock = some w.heap.size) : KA W D AL' P' lo hi v' w' ∧ KK lo hi w w' := by
  obtain ⟨us, hr⟩ := h.al.row
  refine ⟨⟨k1, fun k hk => ?_, bel_grown h.bel k2 hr h.bel.size, Nat.le_trans h.hi_ k2.size⟩, ⟨fun v S bs hp => hp.tag k2 hr h.ab, fun k t cs f hk ht => gb_keep k2 hr hk ht⟩⟩
  rcases k3 with e | e
  · exact h.ab k (by rw [← e]; exact hk)
  · rw [e] at hk
    simp at hk
    have := h.hi_
    omega
theorem append_p (hgd : o.guard = none) (s x : Operand) (ho : o.op = .call { callee := .builtin .append, args := #[s, x], argTypes := #[26, 26] }) (hs : a.eval s = av) (h : KA W D AL P lo hi av w) (bk : Nat) (u : Value) (l : List UInt8) (hx : a.eval x = .slice (some ⟨bk, 0, none⟩) 1 1)
    (hc : w.cell? ⟨bk, 0, none⟩ = some u) {P' : Nat} (hu : BK (fun g => ((W.heap.size ≤ g ∧ ¬ D g) ∧ P ≤ g) ∧ g < P') w u l) (hP : P ≤ P') (hlim : AL.length < 1073741824)
    (k : ∀ v' w', KA W D (AL ++ [l]) P' lo hi v' w' → KK lo hi w w' → wpList Try.prog ops Q rest (a.put o.dst v') w') : wpList Try.prog ops Q (o :: rest) a w := by
  have hu' := hu
  obtain ⟨gf, sf, ef, _⟩ := hu'
  refine append_bodyA (S := fun g => (W.heap.size ≤ g ∧ ¬ D g) ∧ g < P') hgd s x ho hs h.al (fun g x => ⟨x.1, by have := x.2; omega⟩) bk u (fun g n m x e => ?_) l hx hc (hu.keep (fun _ _ _ _ => rfl) (fun g x _ => ⟨x.1.1, x.2⟩)) h.bel.size hlim (fun v' w' k1 k2 k3 => ?_)
  · rw [ef] at e
    injection e with e1
    injection e1 with e2
    injection e2 with e3
    have := x.2
    have := sf.1.2
    omega
  · obtain ⟨q1, q2⟩ := h.next k1 k2 k3
    exact k v' w' q1 q2
theorem append_o (hgd : o.guard = none) (s x : Operand) (ho : o.op = .call { callee := .builtin .append, args := #[s, x], argTypes := #[26, 26] }) (hs : a.eval s = av) (h : KA W D AL P lo hi av w) {xv : Value} (hx : a.eval x = xv) {S2 : Nat → Prop} {bs2 : List (List UInt8)} (hx2 : PB w lo hi xv S2 bs2) {P' : Nat} (hS : ∀ g, S2 g → ((W.heap.size ≤ g ∧ ¬ D g) ∧ P ≤ g) ∧ g < P') (hP : P ≤ P') (hlo : W.heap.size ≤ lo) (hlim : AL.length + bs2.length < 1073741824)
    (k : ∀ v' w', KA W D (AL ++ bs2) P' lo hi v' w' → KK lo hi w w' → wpList Try.prog ops Q rest (a.put o.dst v') w') : wpList Try.prog ops Q (o :: rest) a w :=
  append_bodiesA (S := fun g => (W.heap.size ≤ g ∧ ¬ D g) ∧ g < P') hgd s x ho hs h.al hx (hx2.1.weak hlo (fun _ y => y)) (fun g x => ⟨x.1, by have := x.2; omega⟩) (fun g y => ⟨(hS g y).1.1, (hS g y).2⟩) (fun g x y => absurd x.2 (by have := (hS g y).1.2; omega)) h.bel.size hlim (fun v' w' k1 k2 k3 => by
    obtain ⟨q1, q2⟩ := h.next k1 k2 k3
    exact k v' w' q1 q2)
end
/-- all that stands when the readers have read -/
structure KZ (W : World) (l : List UInt8) (BS : List (List UInt8)) (m1 m2 m3 m4 m5 X Y : Nat) (bv sv av b1 b2 xv yv mx my : Value) (wz : World) : Prop where
  kj : KJ W l BS (dbl BS) m1 bv sv av wz
  o1 : PB wz m1 m5 b1 (fun g => m1 ≤ g ∧ g < m2) BS
  o2 : PB wz m1 m5 b2 (fun g => m2 ≤ g ∧ g < m3) BS
  ox : PB wz m1 m5 xv (fun g => m3 ≤ g ∧ g < m4) BS
  oy : PB wz m1 m5 yv (fun g => m4 ≤ g ∧ g < m5) BS
  bx : wz.heap[X]? = some (.cells #[mx, xv, .int .i64 0] 41 (0, 0))
  by_ : wz.heap[Y]? = some (.cells #[my, yv, .int .i64 0] 41 (0, 0))
  bb : ∀ k, bv.ownBlock = some k → k < m1
  ab : ∀ k, av.ownBlock = some k → k < m1
  ord : W.heap.size ≤ m1 ∧ m1 ≤ m2 ∧ m2 ≤ m3 ∧ m3 ≤ m4 ∧ m4 ≤ m5 ∧ m5 ≤ wz.heap.size
theorem KZ.keep {W : World} {l : List UInt8} {BS : List (List UInt8)} {m1 m2 m3 m4 m5 X Y : Nat} {bv sv av b1 b2 xv yv mx my : Value} {wz w' : World} (h : KZ W l BS m1 m2 m3 m4 m5 X Y bv sv av b1 b2 xv yv mx my wz) (hb : Below wz.heap.size wz w') : KZ W l BS m1 m2 m3 m4 m5 X Y bv sv av b1 b2 xv yv mx my w' :=
  ⟨h.kj.keep hb, h.o1.keep hb, h.o2.keep hb, h.ox.keep hb, h.oy.keep hb, (hb.block X (Array.getElem?_eq_some_iff.1 h.bx).1).trans h.bx, (hb.block Y (Array.getElem?_eq_some_iff.1 h.by_).1).trans h.by_, h.bb, h.ab, by have := h.ord; have := hb.size; omega⟩
end Go.Proofs.Ytmfeelkjbpjhdaa
