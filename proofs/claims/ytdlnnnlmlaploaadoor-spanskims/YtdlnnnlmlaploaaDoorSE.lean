import Derived.Test.YtdlnnnlmlaploaaDoorSD
namespace Go.Proofs.YtdlnnnlmlaploaaDoor
open Go.RowKit Go.Deep
/-! ### Reader and visitor side by side in memory -/
theorem SR.only {A B rb : Nat} {w w' : World} {a : Option Addr} {c : Nat} {b : List UInt8} {i n : Nat} {ov : Value} {k : Nat} {us : List Value} (h : SR B rb w a c b i n ov k us) {X : Nat → Prop}
    (hb : ∀ x, x < w.heap.size → ¬ X x → w'.heap[x]? = w.heap[x]?) (hx : ∀ x, X x → x ≠ rb ∧ ov.ownBlock ≠ some x ∧ A ≤ x) (hA : b = [] ∨ ∀ g o, a = some ⟨g, o, none⟩ → g < A) (h4 : 4 < A) : SR B rb w' a c b i n ov k us where
  bk := h.bk.keep (hb rb h.bk.lt (fun hr => (hx rb hr).1 rfl))
  own := by
    refine ⟨h.own.1, ?_⟩
    rcases h.own.2 with e | ⟨g, cap, cur, q1, q2, q3, q4⟩
    · exact .inl e
    · exact .inr ⟨g, cap, cur, q1, q2, (hb g (Array.getElem?_eq_some_iff.1 q3).1 (fun hg => (hx g hg).2.1 (by rw [q1]; rfl))).trans q3, q4⟩
  low := h.low
  ne := h.ne
  le := h.le
  lim := h.lim
  cap := h.cap
  tx := by
    rcases h.tx with e | ⟨g, o, h1, h2, h3⟩
    · exact .inl e
    · rcases hA with hA | hA
      · exact .inl hA
      · exact .inr ⟨g, o, h1, h2, fun j hj => (World.cell?_of_block (w := w) (hb g (World.block_lt_of_cell? w _ (h3 j hj)) (fun hg => by have := (hx g hg).2.2; have := hA g o h1; omega))).trans (h3 j hj)⟩
  ev := by
    obtain ⟨⟨t, p, h1⟩, ⟨t', p', h2⟩⟩ := h.ev
    exact ⟨⟨t, p, (World.cell?_of_block (w := w) (hb 3 (World.block_lt_of_cell? w _ h1) (fun hg => by have := (hx 3 hg).2.2; omega))).trans h1⟩, ⟨t', p', (World.cell?_of_block (w := w) (hb 4 (World.block_lt_of_cell? w _ h2) (fun hg => by have := (hx 4 hg).2.2; omega))).trans h2⟩⟩
  evB := h.evB
/-- what a visitor's call leaves as it was -/
structure FV (w w' : World) (S S' : Nat → Prop) : Prop where
  os : w'.os = w.os
  tape : w'.tape = w.tape
  output : w'.output = w.output
  size : w.heap.size ≤ w'.heap.size
  block : ∀ k, k < w.heap.size → ¬ S k → w'.heap[k]? = w.heap[k]?
  sub : ∀ k, S' k → S k ∨ w.heap.size ≤ k
/-- what the reader shows next, having shown h -/
def Nx (b : List UInt8) (go : List Vi → Bool) (h : List Vi) (v : Vi) : Prop :=
  (∃ ls i n ls' i', Rch b go h (.val ls i n) ∧ VG b ls i n v ls' i') ∨ ∃ l r i n, Rch b go h (.mid (l :: r) i n) ∧ i < b.length ∧ byt b i = 101 ∧ v = endV l i
/-- a visitor: what it keeps (J), in blocks of its own; what it answers (go) -/
structure Vis (b : List UInt8) (fn : Nat) (caps : Array Value) (go : List Vi → Bool) (J : List Vi → World → (Nat → Prop) → Prop) (A : Nat) : Prop where
  keep : ∀ h w w' S, J h w S → w.heap.size ≤ w'.heap.size → (∀ k, S k → w'.heap[k]? = w.heap[k]?) → J h w' S
  own : ∀ h w S, J h w S → ∀ k, S k → A ≤ k ∧ ∃ cs ty fr, w.heap[k]? = some (.cells cs ty fr) ∧ ty ≠ 94 ∧ ty ≠ 76
  enter : ∀ (args : Array Value) (w : World), (callFunc fn args).run Tryd.prog w = .ok (.enter fn args) w
  call : ∀ h w S v, J h w S → Nx b go h v → Calls Tryd.prog fn (#[.agg (Vi.cs v)] ++ caps) w fun e w' => e = .returned (.bool (go (h ++ [v]))) ∧ ∃ S', J (h ++ [v]) w' S' ∧ FV w w' S S'
/-- reader and visitor: where they stand; what is as it was at the beginning -/
structure RV2 (A : Nat) (J : List Vi → World → (Nat → Prop) → Prop) (w0 : World) (S0 : Nat → Prop) (rb : Nat) (a : Option Addr) (c : Nat) (b : List UInt8) (h : List Vi) (ls : List Lv) (i n : Nat) (ov : Value) (w : World) (S : Nat → Prop) : Prop where
  sr : SR w0.heap.size rb w a c b i n ov ls.length (usW ls)
  j : J h w S
  fv : FV w0 w S0 S
theorem FV.refl (w : World) (S : Nat → Prop) : FV w w S S := ⟨rfl, rfl, rfl, Nat.le_refl _, fun _ _ _ => rfl, fun _ h => .inl h⟩
theorem FV.trans {w w1 w2 : World} {S S1 S2 : Nat → Prop} (h : FV w w1 S S1) (g : FV w1 w2 S1 S2) : FV w w2 S S2 where
  os := g.os.trans h.os
  tape := g.tape.trans h.tape
  output := g.output.trans h.output
  size := Nat.le_trans h.size g.size
  block := fun k hk hn => (g.block k (Nat.lt_of_lt_of_le hk h.size) (fun hs => by rcases h.sub k hs with e | e; exact hn e; omega)).trans (h.block k hk hn)
  sub := fun k hk => by
    rcases g.sub k hk with e | e
    · exact h.sub k e
    · have := h.size; exact .inr (by omega)
/-- a step of the reader -/
theorem FV.near {w0 w w' : World} {S0 S : Nat → Prop} {rb : Nat} {ov : Value} (h : FV w0 w S0 S) (g : Near rb ov w w') (hr : w0.heap.size ≤ rb) (ho : ∀ x, ov.ownBlock = some x → w0.heap.size ≤ x) : FV w0 w' S0 S where
  os := g.os.trans h.os
  tape := g.tape.trans h.tape
  output := g.output.trans h.output
  size := Nat.le_trans h.size g.size
  block := fun k hk hn => (g.block k (Nat.lt_of_lt_of_le hk h.size) (by omega) (fun e => by have := ho k e; omega)).trans (h.block k hk hn)
  sub := h.sub
section
variable {A : Nat} {J : List Vi → World → (Nat → Prop) → Prop} {w0 : World} {S0 : Nat → Prop} {rb : Nat} {a : Option Addr} {c : Nat} {b : List UInt8} {fn : Nat} {caps : Array Value} {go : List Vi → Bool} {h : List Vi} {ls : List Lv} {i n : Nat} {ov : Value} {w w' : World} {S : Nat → Prop}
theorem RV2.own_ge (R : RV2 A J w0 S0 rb a c b h ls i n ov w S) : ∀ x, ov.ownBlock = some x → w0.heap.size ≤ x := fun _ e => (own_lt R.sr.own e).1
theorem own_obj {B k : Nat} {us : List Value} (h : w.ownsRow B 94 12 ov k us) {x : Nat} (hx : ov.ownBlock = some x) : ∃ cs, w.heap[x]? = some (Obj.cells cs 94 (0, 0)) := by
  rcases h.2 with ⟨rfl, _⟩ | ⟨g, cap, cur, rfl, h2, h3, _⟩
  · cases hx
  · cases hx; exact ⟨_, h3⟩
/-- the visitor's blocks are not the reader's -/
theorem RV2.apart (V : Vis b fn caps go J A) (R : RV2 A J w0 S0 rb a c b h ls i n ov w S) : ∀ x, S x → x ≠ rb ∧ ov.ownBlock ≠ some x ∧ A ≤ x ∧ x < w.heap.size := fun x hx => by
  obtain ⟨h1, cs, ty, fr, h2, h3, h4⟩ := V.own h w S R.j x hx
  refine ⟨fun e => ?_, fun e => ?_, h1, (Array.getElem?_eq_some_iff.1 h2).1⟩
  · have := R.sr.bk
    unfold blk at this
    rw [← e, h2] at this
    injection this with this
    injection this with e1 e2 e3
    exact h4 e2
  · obtain ⟨cs', h5⟩ := own_obj R.sr.own e
    rw [h2] at h5
    injection h5 with h5
    injection h5 with e1 e2 e3
    exact h3 e2
/-- nothing old has changed -/
theorem RV2.below (V : Vis b fn caps go J A) (R : RV2 A J w0 S0 rb a c b h ls i n ov w S) (hb : Below w.heap.size w w') : RV2 A J w0 S0 rb a c b h ls i n ov w' S where
  sr := R.sr.keep hb
  j := V.keep h w w' S R.j hb.size (fun k hk => hb.block k (R.apart V k hk).2.2.2)
  fv := ⟨hb.os.trans R.fv.os, hb.tape.trans R.fv.tape, hb.output.trans R.fv.output, Nat.le_trans R.fv.size hb.size, fun k hk hn => (hb.block k (Nat.lt_of_lt_of_le hk R.fv.size)).trans (R.fv.block k hk hn), R.fv.sub⟩
/-- a step of the reader -/
theorem RV2.step (V : Vis b fn caps go J A) (R : RV2 A J w0 S0 rb a c b h ls i n ov w S) {ls' : List Lv} {i' n' : Nat} {ov' : Value} (hs : SR w0.heap.size rb w' a c b i' n' ov' ls'.length (usW ls')) (hn : Near rb ov w w') : RV2 A J w0 S0 rb a c b h ls' i' n' ov' w' S where
  sr := hs
  j := V.keep h w w' S R.j hn.size (fun k hk => hn.block k (R.apart V k hk).2.2.2 (R.apart V k hk).1 (R.apart V k hk).2.1)
  fv := R.fv.near hn R.sr.low R.own_ge
/-- a call of the visitor -/
theorem RV2.vis (V : Vis b fn caps go J A) (R : RV2 A J w0 S0 rb a c b h ls i n ov w S) {h' : List Vi} {S' : Nat → Prop} (hj : J h' w' S') (hf : FV w w' S S') (hA : b = [] ∨ ∀ g o, a = some ⟨g, o, none⟩ → g < A) (h4 : 4 < A) : RV2 A J w0 S0 rb a c b h' ls i n ov w' S' where
  sr := R.sr.only (X := S) (A := A) hf.block (fun x hx => ⟨(R.apart V x hx).1, (R.apart V x hx).2.1, (R.apart V x hx).2.2.1⟩) hA h4
  j := hj
  fv := R.fv.trans hf
/-- a block that is neither's has changed -/
theorem RV2.far (V : Vis b fn caps go J A) (R : RV2 A J w0 S0 rb a c b h ls i n ov w S) {g : Nat} (hb : Besides g w w') (g1 : g ≠ rb) (g2 : ov.ownBlock ≠ some g) (g3 : ¬ S g) (g0 : w0.heap.size ≤ g) (hAw : A ≤ w0.heap.size) (hA : b = [] ∨ ∀ g o, a = some ⟨g, o, none⟩ → g < A) (h4 : 4 < A) : RV2 A J w0 S0 rb a c b h ls i n ov w' S where
  sr := R.sr.only (X := fun x => x = g) (A := A) (fun x hx hn => hb.block x hx hn) (fun x hx => by subst hx; exact ⟨g1, g2, by omega⟩) hA h4
  j := V.keep h w w' S R.j hb.size (fun k hk => hb.block k (R.apart V k hk).2.2.2 (fun e => g3 (e ▸ hk)))
  fv := ⟨hb.os.trans R.fv.os, hb.tape.trans R.fv.tape, hb.output.trans R.fv.output, Nat.le_trans R.fv.size hb.size, fun k hk hn => (hb.block k (Nat.lt_of_lt_of_le hk R.fv.size) (by omega)).trans (R.fv.block k hk hn), R.fv.sub⟩
/-- the beginning -/
theorem RV2.start (V : Vis b fn caps go J A) (hlim : b.length ≤ 1048576) (hc : b.length ≤ c) (h4 : 4 < A) (hAw : A ≤ w.heap.size) (hev : EVw w)
    (htx : b = [] ∨ ∃ g o, a = some ⟨g, o, none⟩ ∧ g < w.heap.size ∧ ∀ j, j < b.length → w.cell? ⟨g, o + j, none⟩ = some (.int .u8 ((byt b j).toNat : Int))) (hJ : J [] w S0) :
    RV2 A J w S0 w.heap.size a c b [] [] 0 0 (.slice none 0 0) (w.alloc (Obj.cells #[.slice a b.length c, .int .i64 0, .int .i64 0, .slice none 0 0] 76)) S0 where
  sr := {
    bk := heap_new w _
    own := World.ownsRow_nil _ _ _ _
    low := Nat.le_refl _
    ne := by simp [Value.ownBlock]
    le := by omega
    lim := hlim
    cap := hc
    tx := by
      rcases htx with e | ⟨g, o, h1, h2, h3⟩
      · exact .inl e
      · exact .inr ⟨g, o, h1, h2, fun j hj => (((Below.refl _ _).alloc (Nat.le_refl _) _ : Below w.heap.size w _).cell h2).trans (h3 j hj)⟩
    ev := hev.keep ((Below.refl _ _).alloc (Nat.le_refl _) _)
    evB := by omega }
  j := V.keep [] w _ S0 hJ (by simp) (fun k hk => by
    obtain ⟨_, cs, ty, fr, h2, _⟩ := V.own [] w S0 hJ k hk
    exact ((Below.refl _ _).alloc (Nat.le_refl _) _ : Below w.heap.size w _).block k (Array.getElem?_eq_some_iff.1 h2).1)
  fv := by
    have hb : Below w.heap.size w (w.alloc (Obj.cells #[.slice a b.length c, .int .i64 0, .int .i64 0, .slice none 0 0] 76)) := (Below.refl _ _).alloc (Nat.le_refl _) _
    exact ⟨hb.os, hb.tape, hb.output, hb.size, fun k hk _ => hb.block k hk, fun k hk => .inl hk⟩
end
theorem besides_row (w : World) (g : Nat) (cs : Array Value) : Besides g w (w.setRow g cs) where
  os := rfl
  tape := rfl
  output := rfl
  size := by simp [World.setRow]
  block := fun k _ hn => by simp [World.setRow, Array.getElem?_modify, Ne.symm hn]
theorem blk_row {w : World} {g : Nat} {ty : TypeId} {cs : Array Value} (h : blk w g ty cs) (cs' : Array Value) : blk (w.setRow g cs') g ty cs' := by
  unfold blk at h ⊢
  simp [World.setRow, Array.getElem?_modify, h]
end Go.Proofs.YtdlnnnlmlaploaaDoor
