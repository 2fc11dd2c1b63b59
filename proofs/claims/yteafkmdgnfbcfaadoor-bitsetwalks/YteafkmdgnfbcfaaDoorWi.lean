import Derived.Test.YteafkmdgnfbcfaaDoorOnesR
namespace Go.Proofs.YteafkmdgnfbcfaaDoor
open Go.RowKit Go.Shelf
attribute [local go_sem] Oper.semAt_some
/-- all blocks of A lie as they lay, but for ex -/
structure KB (ex : Nat → Prop) (A W : World) : Prop where
  os : W.os = A.os
  tape : W.tape = A.tape
  output : W.output = A.output
  size : A.heap.size ≤ W.heap.size
  block : ∀ k, k < A.heap.size → ¬ ex k → W.heap[k]? = A.heap[k]?
theorem KB.refl (ex : Nat → Prop) (A : World) : KB ex A A := ⟨rfl, rfl, rfl, Nat.le_refl _, fun _ _ _ => rfl⟩
theorem KB.grown {ex : Nat → Prop} {A W W' : World} {row : Option Nat} (h : KB ex A W) (hg : W.grownBy W' row) (hr : ∀ r, row = some r → A.heap.size ≤ r ∨ ex r) : KB ex A W' :=
  ⟨hg.os.trans h.os, hg.tape.trans h.tape, hg.output.trans h.output, Nat.le_trans h.size hg.size, fun k hk hx => (hg.block k (Nat.lt_of_lt_of_le hk h.size) (fun e => by
    rcases hr k e.symm with h1 | h1
    · omega
    · exact hx h1)).trans (h.block k hk hx)⟩
theorem KB.alloc {ex : Nat → Prop} {A W : World} (h : KB ex A W) (o : Obj) : KB ex A (W.alloc o) := h.grown (World.grownBy_alloc W o none) (fun r e => by cases e)
theorem KB.set {ex : Nat → Prop} {A W : World} (h : KB ex A W) {b : Nat} (hb : A.heap.size ≤ b ∨ ex b) (v : Value) : KB ex A (W.setCell ⟨b, 0, none⟩ v) := h.grown (grownBy_setCell' W b v) (fun r e => by cases e; exact hb)
theorem KB.own {β : Type} {B : Nat} {ex : Nat → Prop} {A : World} (hB : A.heap.size ≤ B) : OwnFrom B (fun (_ : β) W => KB ex A W) := fun _ _ _ _ hs hg hr => hs.grown hg (fun r e => .inl (Nat.le_trans hB (hr r e).1))
theorem KB.below {ex : Nat → Prop} {A W w : World} (h : KB ex A W) (hb : Below w.heap.size w A) (hx : ∀ k, k < w.heap.size → ¬ ex k) : Below w.heap.size w W :=
  ⟨h.os.trans hb.os, h.tape.trans hb.tape, h.output.trans hb.output, Nat.le_trans hb.size h.size, fun k hk => (h.block k (Nat.lt_of_lt_of_le hk hb.size) (hx k hk)).trans (hb.block k hk)⟩
theorem KB.cell {ex : Nat → Prop} {A W : World} (h : KB ex A W) {b o : Nat} {v : Value} (hx : ¬ ex b) (hc : A.cell? ⟨b, o, none⟩ = some v) : W.cell? ⟨b, o, none⟩ = some v :=
  (World.cell?_of_block (w := A) (h.block b (World.block_lt_of_cell? A _ hc) hx)).trans hc
theorem KB.boxed {ex : Nat → Prop} {A W : World} (h : KB ex A W) {b : Nat} {t : TypeId} {v : Value} (hx : ¬ ex b) (hc : Boxed A b t v) : Boxed W b t v := (h.block b hc.lt hx).trans hc
theorem own_block {β : Type} {B b : Nat} (o : Obj) (hb : b < B) : OwnFrom B (fun (_ : β) W => W.heap[b]? = some o) := fun _ _ _ _ hs hg hr =>
  (hg.block b (Array.getElem?_eq_some_iff.1 hs).1 (fun e => by have := (hr b e.symm).1; omega)).trans hs
theorem KG.of {g : Nat} {W W' : World} (hz : W.heap.size ≤ W'.heap.size) (h : ∀ k, (k = 0 ∨ k = g) → W'.heap[k]? = W.heap[k]?) : KG g W W' := ⟨hz, fun k hk _ => h k hk⟩
theorem KG.set' {g C : Nat} {W : World} (v : Value) (h0 : C ≠ 0) (hg : C ≠ g) : KG g W (W.setCell ⟨C, 0, none⟩ v) :=
  ⟨by simp [World.setCell], fun k hk _ => Below.heap_setCell _ _ _ _ (by rcases hk with rfl | rfl <;> (intro e; first | exact h0 e.symm | exact hg e.symm))⟩
theorem KG.alloc' {g : Nat} {W : World} (o : Obj) : KG g W (W.alloc o) := ⟨by simp, fun k _ hl => Below.heap_alloc W o k hl⟩
set_option maxRecDepth 100000 in
set_option maxHeartbeats 2000000 in
theorem iter33 (F : Fence) (n : Nat) (hF : F.fn 11) (hro : F.round = none) (lp : Nat) (J : List Pl → World → Prop) (W : World) (h0 : J [] W) :
    CallsIn F n Tryd.prog 11 #[.func (.yield lp) #[] #[]] W fun e W' => (∃ v, e = .returned v) ∧ J [] W' := by
  refine callsIn_of_wp Tryd.func11 rfl hF ?_ hro
  simp only [Tryd.ntmps11, List.size_toArray, List.length_cons, List.length_nil, Nat.reduceAdd, Nat.reduceSub, Array.replicate_succ, Array.replicate_zero, List.push_toArray, List.append_toArray, List.nil_append, List.cons_append]
  gi_wp2
  go_end0
  exact ⟨⟨_, rfl⟩, h0⟩
/-- the function value gives the places O, reading the blocks 0 and g and Bs -/
def IT (w : World) (fv : Value) (O : List Pl) (Bs g : Nat) : Prop :=
  (fv = .func (.func 11) #[] #[] ∧ O = [] ∧ g = 0 ∧ Bs = 0) ∨
  ∃ v l, fv = .func (.func 13) #[] #[.pointer (some ⟨Bs, 0, none⟩)] ∧ O = on1 l (8 * l.length) ∧ l.length ≤ 8192 ∧ Bs < w.heap.size ∧ g < w.heap.size ∧ w.cell? ⟨Bs, 0, none⟩ = some v ∧
    (∃ a c, v = .slice a l.length c ∧ (l = [] ∨ a = some ⟨g, 0, none⟩ ∧ g < w.heap.size ∧ ∀ i, i < l.length → w.cell? ⟨g, i, none⟩ = some (.int .u8 ((byt l i).toNat : Int)))) ∧ MT w
theorem IT.keep {w w' : World} {fv : Value} {O : List Pl} {Bs g : Nat} (h : IT w fv O Bs g) (hz : w.heap.size ≤ w'.heap.size) (hk : ∀ b, b = 0 ∨ b = g ∨ b = Bs → b < w.heap.size → w'.heap[b]? = w.heap[b]?) : IT w' fv O Bs g := by
  rcases h with h | ⟨v, l, h1, h2, h3, h4, h5, h6, ⟨a, c, h7, h8⟩, h9⟩
  · exact .inl h
  · have hc : ∀ b o, b = 0 ∨ b = g ∨ b = Bs → b < w.heap.size → w'.cell? ⟨b, o, none⟩ = w.cell? ⟨b, o, none⟩ := fun b o hb hl => World.cell?_of_block (w := w) (hk b hb hl)
    refine .inr ⟨v, l, h1, h2, h3, by omega, by omega, (hc _ _ (.inr (.inr rfl)) h4).trans h6, ⟨a, c, h7, ?_⟩, by have := h9.1; omega, fun j hj => (hc _ _ (.inl rfl) h9.1).trans (h9.2 j hj)⟩
    rcases h8 with h8 | ⟨h8, h10, h11⟩
    · exact .inl h8
    · exact .inr ⟨h8, by omega, fun i hi => (hc _ _ (.inr (.inl rfl)) h10).trans (h11 i hi)⟩
/-- what the law on loops wants of it -/
theorem IT.seq {w : World} {fv : Value} {O : List Pl} {Bs g : Nat} (h : IT w fv O Bs g) : ∃ gf lb, fv = .func (.func gf) #[] lb ∧ (∀ args w, (callFunc gf args).run Tryd.prog w = .ok (.enter gf args) w) ∧
    ∀ n, 1 ≤ n → SeqStopsK Fence.wide n Tryd.prog gf lb (fun x : Pl => #[Value.int .i64 (x.1 : Int)]) (KG g) (fun ys => ys = O) (fun pre => pre <+: O) 65536 w := by
  rcases h with ⟨rfl, rfl, rfl, _⟩ | ⟨v, l, rfl, rfl, h3, h4, h5, h6, h7, h9⟩
  · refine ⟨11, #[], rfl, enters_of Tryd.func11 (by kernel_rfl) rfl, fun n hn lp J Jx W hW _ _ hY h0 => ?_⟩
    exact (iter33 Fence.wide n trivial rfl lp J W h0).mono fun e W' ⟨he, hj⟩ => ⟨he, .inl ⟨_, rfl, hj⟩⟩
  · exact ⟨13, _, rfl, enters_of Tryd.func13 (by kernel_rfl) rfl, fun n hn => iter35_stops Fence.wide n trivial rfl hn Bs g v l h3 w h4 h6 h7 h9⟩
theorem IT.form {w : World} {fv : Value} {O : List Pl} {Bs g : Nat} (h : IT w fv O Bs g) : fv = .func (.func 11) #[] #[] ∨ fv = .func (.func 13) #[] #[.pointer (some ⟨Bs, 0, none⟩)] := by
  rcases h with ⟨h, _⟩ | ⟨v, l, h, _⟩
  · exact .inl h
  · exact .inr h
theorem IT.lt {w : World} {fv : Value} {O : List Pl} {Bs g : Nat} (h : IT w fv O Bs g) (h0 : 0 < w.heap.size) : g < w.heap.size ∧ Bs < w.heap.size := by
  rcases h with ⟨_, _, rfl, rfl⟩ | ⟨v, l, _, _, _, h1, h2, _⟩
  · exact ⟨h0, h0⟩
  · exact ⟨h2, h1⟩
end Go.Proofs.YteafkmdgnfbcfaaDoor
