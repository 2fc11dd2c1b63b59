import Derived.Test.YteafkmdgnfbcfaaDoorWi
namespace Go.Proofs.YteafkmdgnfbcfaaDoor
open Go.RowKit Go.Shelf
attribute [local go_sem] Oper.semAt_some
def OO (n : Int) (l : List UInt8) : List Pl := if ck n l = 0 then on1 l (8 * l.length) else []
def OOZ (O : List Pl) : List Int := O.map (fun x => (x.1 : Int))
theorem on_ooz {n : Int} {l : List UInt8} {zs : List Int} {er : Int} (h : ON n l zs er) : zs = OOZ (OO n l) := by
  rcases h with ⟨h1, rfl, _⟩ | ⟨h1, rfl, _⟩
  · unfold OO; rw [if_neg h1]; rfl
  · unfold OO; rw [if_pos h1]; rfl
theorem walkIT (n : Int) (h0 : -9223372036854775808 ≤ n) (h1 : n ≤ 9223372036854775807) (v : Value) (l : List UInt8) (w : World) (hr : RB w v l) (hm : MT w) (hl : l.length ≤ 140737488351232) :
    Calls Tryd.prog 6 #[.int .i64 n, v] w fun e w' => ∃ r Bs g, e = .returned r ∧ IT w' r (OO n l) Bs g ∧ (Bs = 0 ∨ w.heap.size ≤ Bs) ∧ (g = 0 ∨ w.heap.size ≤ g) ∧ Below w.heap.size w w' := by
  by_cases hck : ck n l = 0
  · refine (walk26 n h0 h1 v l w hr hm hl hck).mono ?_
    rintro e w' ⟨r, rfl, ⟨Bs, v2, rfl, hB1, hB2, hcell, how⟩, hb⟩
    obtain ⟨g, hv, hgB, hgl⟩ := how.split hB1 hB2
    have hl8 : l.length ≤ 8192 := by have := ck_ok hck; omega
    exact ⟨_, Bs, g, rfl, .inr ⟨v2, l, rfl, by unfold OO; rw [if_pos hck], hl8, hB2, hgl, hcell, hv, hm.keep hb⟩, .inr hB1, .inr hgB, hb⟩
  · refine (walk26_no n h0 h1 v l w hr hm hl hck).mono ?_
    rintro e w' ⟨rfl, nq, rfl⟩
    exact ⟨_, 0, 0, rfl, .inl ⟨rfl, by unfold OO; rw [if_neg hck], rfl, rfl⟩, .inl rfl, .inl rfl, belowDrew _ _⟩
theorem oo_len (n : Int) (l : List UInt8) : (OO n l).length ≤ 65536 := by
  unfold OO
  split
  · rename_i h
    have := on1_len l (8 * l.length)
    have := ck_ok h
    omega
  · simp
theorem eqN (gf : Nat) (lb : Array Value) (u : World) : Sem.run Tryd.prog (binOp BinOp.eql 29 (Value.func (Fn.func gf) #[] lb) Value.nilFunc) u = .ok (.bool false) u := by
  first | rfl | kernel_rfl | (simp [binOp, go_sem, Tryd.underlying29])
/-- a row of bytes that may be written -/
def GB (W : World) (ga : Option Addr) (n : Nat) : Prop := n = 0 ∨ ∃ g cs, ga = some ⟨g, 0, none⟩ ∧ W.heap[g]? = some (.cells cs 5 (0, 0)) ∧ n ≤ cs.size
theorem OW.gb {B : Nat} {w : World} {a : Option Addr} {c : Nat} {l : List UInt8} (h : OW B w (.slice a l.length c) l) : GB w a l.length := by
  rcases h.2 with ⟨_, h2⟩ | ⟨g, cap, cur, h1, h2, h3, h4, h5, h6, _⟩
  · exact .inl h2
  · simp only [Value.slice.injEq] at h1
    exact .inr ⟨g, cur, h1.1, h3, by omega⟩
theorem GB.at {W : World} {ga : Option Addr} {n q : Nat} (h : GB W ga n) (hq : q < n) : ∃ g x, ga = some ⟨g, 0, none⟩ ∧ W.cell? ⟨g, q, none⟩ = some x ∧ W.frozen? ⟨g, q, none⟩ = false ∧ ∀ v, GB (W.setCell ⟨g, q, none⟩ v) ga n := by
  rcases h with rfl | ⟨g, cs, h1, h2, h3⟩
  · omega
  · refine ⟨g, cs[q]'(by omega), h1, by simp [World.cell?, h2, show q < cs.size by omega], by simp [World.frozen?, h2], fun v => .inr ⟨g, cs.setIfInBounds q v, h1, heap_setCell_same _ _ _ _ _ _ h2, by simpa using h3⟩⟩
theorem KB.setG {ex : Nat → Prop} {A W : World} (h : KB ex A W) {b o : Nat} (hb : ex b) (v : Value) : KB ex A (W.setCell ⟨b, o, none⟩ v) :=
  h.grown (row := some b) ⟨rfl, rfl, rfl, by simp [World.setCell], fun k _ hne => Below.heap_setCell _ _ _ _ (fun e => hne (by rw [e]))⟩ (fun r e => by cases e; exact .inr hb)
theorem boxKeep {W W' : World} {B : Nat} {t : TypeId} {v : Value} (h : Boxed W B t v) (hb : Below W.heap.size W W') : Boxed W' B t v := (hb.block B h.lt).trans h
/-- a row of numbers, in a block from lo on and below hi -/
def RW (W : World) (s : Value) (zs : List Int) (lo hi : Nat) : Prop := hi ≤ W.heap.size ∧ ∃ a c, s = .slice a zs.length c ∧ (zs = [] ∨ ∃ g, a = some ⟨g, 0, none⟩ ∧ lo ≤ g ∧ g < hi ∧ ∀ i, i < zs.length → W.cell? ⟨g, i, none⟩ = some (.int .i64 (iz zs i)))
theorem OZ.rw {B : Nat} {w : World} {v : Value} {zs : List Int} (h : OZ B w v zs) : RW w v zs B w.heap.size := by
  have h' := h.rz.form
  refine ⟨Nat.le_refl _, ?_⟩
  obtain ⟨a, c, rfl, h1⟩ := h'
  refine ⟨a, c, rfl, ?_⟩
  rcases h1 with h1 | ⟨g, o, rfl, hg, hc⟩
  · exact .inl h1
  · rcases h.2 with ⟨e, _⟩ | ⟨g', cap, cur, e, hB, _⟩
    · cases e
    · simp only [Value.slice.injEq, Option.some.injEq, Addr.mk.injEq] at e
      obtain ⟨⟨rfl, rfl, _⟩, _, _⟩ := e
      exact .inr ⟨g, rfl, hB, hg, fun i hi => by have := hc i hi; rwa [Nat.zero_add] at this⟩
theorem RW.keep {W W' : World} {s : Value} {zs : List Int} {lo hi : Nat} (h : RW W s zs lo hi) (hz : W.heap.size ≤ W'.heap.size) (hk : ∀ b, lo ≤ b → b < hi → W'.heap[b]? = W.heap[b]?) : RW W' s zs lo hi := by
  obtain ⟨h0, a, c, h1, h2⟩ := h
  refine ⟨by omega, a, c, h1, ?_⟩
  rcases h2 with h2 | ⟨g, e, h3, h4, h5⟩
  · exact .inl h2
  · exact .inr ⟨g, e, h3, h4, fun i hi => (World.cell?_of_block (w := W) (hk g h3 h4)).trans (h5 i hi)⟩
theorem RW.below {W W' : World} {s : Value} {zs : List Int} {lo hi : Nat} (h : RW W s zs lo hi) (hb : Below W.heap.size W W') : RW W' s zs lo hi := h.keep hb.size (fun b _ h2 => hb.block b (Nat.lt_of_lt_of_le h2 h.1))
theorem IT.below {W W' : World} {fv : Value} {O : List Pl} {Bs g : Nat} (h : IT W fv O Bs g) (hb : Below W.heap.size W W') : IT W' fv O Bs g := h.keep hb.size (fun b _ hl => hb.block b hl)
theorem ooz_len (O : List Pl) : (OOZ O).length = O.length := by simp [OOZ]
theorem ooz_inj : ∀ {A B : List Pl}, OOZ A = OOZ B → A = B
  | [], [], _ => rfl
  | [], _ :: _, h => by simp [OOZ] at h
  | _ :: _, [], h => by simp [OOZ] at h
  | a :: A, b :: B, h => by
    simp [OOZ] at h
    have h2 : A = B := ooz_inj (by simpa [OOZ] using h.2)
    have h1 : a = b := Subtype.ext (by omega)
    rw [h1, h2]
theorem pre_step {O pre : List Pl} {x : Pl} (h : OOZ pre = (OOZ O).take pre.length) (hl : pre.length < O.length) (hx : (x.1 : Int) = iz (OOZ O) pre.length) : OOZ (pre ++ [x]) = (OOZ O).take (pre ++ [x]).length ∧ (pre ++ [x]).length ≤ O.length := by
  have hl' : pre.length < (OOZ O).length := by rw [ooz_len]; exact hl
  refine ⟨?_, by simp; omega⟩
  rw [List.length_append, List.length_singleton, List.take_succ_eq_append_getElem hl', ← h]
  have : iz (OOZ O) pre.length = (OOZ O)[pre.length] := by unfold iz; simp [List.getD, List.getElem?_eq_getElem hl']
  rw [← this, ← hx]
  simp [OOZ]
theorem pre_bad {O pre : List Pl} {x : Pl} (hx : ¬ (x.1 : Int) = iz (OOZ O) pre.length) : ¬ (pre ++ [x]) <+: O := fun h => by
  obtain ⟨r, rfl⟩ := h
  refine hx ?_
  unfold iz
  have hl : pre.length < (OOZ (pre ++ [x] ++ r)).length := by rw [ooz_len]; simp
  rw [List.getD_eq_getElem?_getD, List.getElem?_eq_getElem hl]
  simp [OOZ]
theorem pre_long {O pre : List Pl} {x : Pl} (h : O.length ≤ pre.length) : ¬ (pre ++ [x]) <+: O := fun h' => by
  have := h'.length_le
  simp at this
  omega
theorem pre_all {O pre : List Pl} (h : OOZ pre = (OOZ O).take pre.length) : pre <+: O := by
  have : pre = O.take pre.length := ooz_inj (by rw [h]; simp [OOZ, List.map_take])
  rw [this]; exact List.take_prefix _ _
theorem own_KG {β : Type} {B g : Nat} {A : World} (hB : A.heap.size ≤ B) : OwnFrom B (fun (_ : β) W => KG g A W) := fun _ X Y row hs hg hr => ⟨Nat.le_trans hs.1 hg.size, fun k hk hl => (hg.block k (Nat.lt_of_lt_of_le hl hs.1) (fun e => by have := (hr k e.symm).1; omega)).trans (hs.2 k hk hl)⟩
/-- all that the loops read, at the world W; b: the heap's size at the call -/
structure GS (b : Nat) (W : World) (st : Int) (s1 s2 : Value) (O1 O2 : List Pl) (f1 f2 : Value) (Bo Bt Bw Bs1 g1 Bs2 g2 : Nat) : Prop where
  bst : Boxed W b 3 (.int .i64 st)
  bo : Boxed W Bo 23 s1
  bt : Boxed W Bt 23 s2
  bw : Boxed W Bw 29 f1
  r1 : RW W s1 (OOZ O1) (b + 2) Bo
  r2 : RW W s2 (OOZ O2) (Bo + 1) Bt
  i1 : IT W f1 O1 Bs1 g1
  i2 : IT W f2 O2 Bs2 g2
  o0 : 0 < b
  o1 : b + 2 ≤ Bo
  o2 : Bo + 1 ≤ Bt
  o3 : Bt < Bw
  o4 : Bs1 = 0 ∨ Bt < Bs1
  o5 : g1 = 0 ∨ Bt < g1
  o6 : Bs2 = 0 ∨ Bt < Bs2
  o7 : g2 = 0 ∨ Bt < g2
theorem GS.keep {b : Nat} {W W' : World} {st s1 s2 O1 O2 f1 f2 Bo Bt Bw Bs1 g1 Bs2 g2} (h : GS b W st s1 s2 O1 O2 f1 f2 Bo Bt Bw Bs1 g1 Bs2 g2) (hz : W.heap.size ≤ W'.heap.size)
    (hk : ∀ k, k < W.heap.size → (k ≤ Bt ∧ k ≠ b + 1 ∨ k = Bw ∨ k = Bs1 ∨ k = g1 ∨ k = Bs2 ∨ k = g2) → W'.heap[k]? = W.heap[k]?) : GS b W' st s1 s2 O1 O2 f1 f2 Bo Bt Bw Bs1 g1 Bs2 g2 where
  bst := (hk _ h.bst.lt (.inl ⟨by have := h.o1; have := h.o2; omega, by omega⟩)).trans h.bst
  bo := (hk _ h.bo.lt (.inl ⟨by have := h.o2; omega, by have := h.o1; omega⟩)).trans h.bo
  bt := (hk _ h.bt.lt (.inl ⟨Nat.le_refl _, by have := h.o1; have := h.o2; omega⟩)).trans h.bt
  bw := (hk _ h.bw.lt (.inr (.inl rfl))).trans h.bw
  r1 := h.r1.keep hz (fun k h1 h2 => hk k (by have := h.r1.1; omega) (.inl ⟨by have := h.o2; omega, by omega⟩))
  r2 := h.r2.keep hz (fun k h1 h2 => hk k (by have := h.r2.1; omega) (.inl ⟨by omega, by have := h.o1; omega⟩))
  i1 := h.i1.keep hz (fun k h1 h2 => hk k h2 (by rcases h1 with rfl | rfl | rfl; exact .inl ⟨by omega, by omega⟩; exact .inr (.inr (.inr (.inl rfl))); exact .inr (.inr (.inl rfl))))
  i2 := h.i2.keep hz (fun k h1 h2 => hk k h2 (by rcases h1 with rfl | rfl | rfl; exact .inl ⟨by omega, by omega⟩; exact .inr (.inr (.inr (.inr (.inr rfl)))); exact .inr (.inr (.inr (.inr (.inl rfl))))))
  o0 := h.o0
  o1 := h.o1
  o2 := h.o2
  o3 := h.o3
  o4 := h.o4
  o5 := h.o5
  o6 := h.o6
  o7 := h.o7
set_option maxRecDepth 100000 in
set_option maxHeartbeats 4000000 in
theorem walks3 (n st : Int) (h0 : -9223372036854775808 ≤ n) (h1 : n ≤ 9223372036854775807) (v1 v2 : Value) (l1 l2 : List UInt8) (w : World) (hr1 : RB w v1 l1) (hr2 : RB w v2 l2) (hm : MT w) (hl1 : l1.length ≤ 140737488351232) (hl2 : l2.length ≤ 140737488351232) :
    Calls Tryd.prog 3 #[.int .i64 n, v1, v2, .int .i64 st] w fun e w' => e = .returned (.bool true) ∧ Below w.heap.size w w' := by
  refine (callsIn_wide (n := 12)).1 ?_
  have HR : Hid (RB w v1 l1 ∧ RB w v2 l2 ∧ MT w) := ⟨hr1, hr2, hm⟩
  obtain ⟨a1, c1, rfl, _⟩ := hr1
  obtain ⟨a2, c2, rfl, _⟩ := hr2
  clear hm
  refine callsIn_of_wp_marks Tryd.func3 rfl trivial ?_ rfl
  simp only [Tryd.ntmps3, List.size_toArray, List.length_cons, List.length_nil, Nat.reduceAdd, Nat.reduceSub, Array.replicate_succ, Array.replicate_zero, List.push_toArray, List.append_toArray, List.nil_append, List.cons_append]
  gi_wp2
  refine ⟨trivial, ?_⟩
  have B0 : Below w.heap.size w ((w.alloc (.cells #[.int .i64 st] 3)).alloc (.cells #[.bool false] 4)) := ((Below.refl _ _).alloc (Nat.le_refl _) _).alloc (by simp) _
  have HA : Hid (Below w.heap.size w ((w.alloc (.cells #[.int .i64 st] 3)).alloc (.cells #[.bool false] 4)) ∧ Boxed ((w.alloc (.cells #[.int .i64 st] 3)).alloc (.cells #[.bool false] 4)) w.heap.size 3 (.int .i64 st) ∧ Boxed ((w.alloc (.cells #[.int .i64 st] 3)).alloc (.cells #[.bool false] 4)) (w.heap.size + 1) 4 (.bool false)) :=
    ⟨B0, (Boxed.new w 3 _).alloc _, by have := Boxed.new (w.alloc (.cells #[.int .i64 st] 3)) 4 (.bool false); simpa using this⟩
  clear B0
  generalize (w.alloc (.cells #[.int .i64 st] 3)).alloc (.cells #[.bool false] 4) = wa at *
  refine (callsIn_wide.2 (ones24 n h0 h1 _ l1 wa (HR.out.1.keep HA.out.1) hl1)).mono ?_
  rintro e w1 ⟨va, zs1, er1, rfl, hz1, hon1, hb1⟩
  obtain ⟨x1, d1, rfl⟩ := hz1.form
  obtain rfl := on_ooz hon1
  have HB : Hid (Below w.heap.size w (w1.alloc (.cells #[.slice x1 (OOZ (OO n l1)).length d1] 23)) ∧ Boxed (w1.alloc (.cells #[.slice x1 (OOZ (OO n l1)).length d1] 23)) w.heap.size 3 (.int .i64 st) ∧ Boxed (w1.alloc (.cells #[.slice x1 (OOZ (OO n l1)).length d1] 23)) (w.heap.size + 1) 4 (.bool false) ∧ Boxed (w1.alloc (.cells #[.slice x1 (OOZ (OO n l1)).length d1] 23)) w1.heap.size 23 (.slice x1 (OOZ (OO n l1)).length d1) ∧ RW (w1.alloc (.cells #[.slice x1 (OOZ (OO n l1)).length d1] 23)) (.slice x1 (OOZ (OO n l1)).length d1) (OOZ (OO n l1)) (w.heap.size + 2) w1.heap.size ∧ w.heap.size + 2 ≤ w1.heap.size) := by
    have hbx : Below w1.heap.size w1 (w1.alloc (.cells #[.slice x1 (OOZ (OO n l1)).length d1] 23)) := (Below.refl _ _).alloc (Nat.le_refl _) _
    have hwa : w.heap.size + 2 ≤ wa.heap.size := by have := HA.out.2.2.lt; omega
    have hw1 : wa.heap.size ≤ w1.heap.size := hb1.size
    refine ⟨HA.out.1.trans ((hb1.trans (hbx.mono hb1.size)).mono HA.out.1.size), boxKeep (boxKeep HA.out.2.1 hb1) hbx, boxKeep (boxKeep HA.out.2.2 hb1) hbx, Boxed.new w1 23 _, ?_, by omega⟩
    have := hz1.rw.below hbx
    exact ⟨this.1, by
      obtain ⟨_, a, c, e1, e2⟩ := this
      refine ⟨a, c, e1, ?_⟩
      rcases e2 with e2 | ⟨g, q1, q2, q3, q4⟩
      · exact .inl e2
      · exact .inr ⟨g, q1, by omega, q3, q4⟩⟩
  clear hz1 hb1 hon1 HA
  gi_wp2
  refine ⟨trivial, ?_⟩
  generalize w1.alloc (.cells #[.slice x1 (OOZ (OO n l1)).length d1] 23) = wb at *
  generalize w1.heap.size = Bo at *
  refine (callsIn_wide.2 (ones24 n h0 h1 _ l2 wb (HR.out.2.1.keep HB.out.1) hl2)).mono ?_
  rintro e w2 ⟨vb, zs2, er2, rfl, hz2, hon2, hb2⟩
  obtain ⟨x2, d2, rfl⟩ := hz2.form
  obtain rfl := on_ooz hon2
  have HC : Hid (Below w.heap.size w (w2.alloc (.cells #[.slice x2 (OOZ (OO n l2)).length d2] 23)) ∧ Boxed (w2.alloc (.cells #[.slice x2 (OOZ (OO n l2)).length d2] 23)) w.heap.size 3 (.int .i64 st) ∧ Boxed (w2.alloc (.cells #[.slice x2 (OOZ (OO n l2)).length d2] 23)) (w.heap.size + 1) 4 (.bool false) ∧ Boxed (w2.alloc (.cells #[.slice x2 (OOZ (OO n l2)).length d2] 23)) Bo 23 (.slice x1 (OOZ (OO n l1)).length d1) ∧ RW (w2.alloc (.cells #[.slice x2 (OOZ (OO n l2)).length d2] 23)) (.slice x1 (OOZ (OO n l1)).length d1) (OOZ (OO n l1)) (w.heap.size + 2) Bo ∧ w.heap.size + 2 ≤ Bo ∧ Boxed (w2.alloc (.cells #[.slice x2 (OOZ (OO n l2)).length d2] 23)) w2.heap.size 23 (.slice x2 (OOZ (OO n l2)).length d2) ∧ RW (w2.alloc (.cells #[.slice x2 (OOZ (OO n l2)).length d2] 23)) (.slice x2 (OOZ (OO n l2)).length d2) (OOZ (OO n l2)) (Bo + 1) w2.heap.size ∧ Bo + 1 ≤ w2.heap.size) := by
    have hbx : Below w2.heap.size w2 (w2.alloc (.cells #[.slice x2 (OOZ (OO n l2)).length d2] 23)) := (Below.refl _ _).alloc (Nat.le_refl _) _
    have hbb := hb2.trans (hbx.mono hb2.size)
    have hwb : Bo + 1 ≤ wb.heap.size := HB.out.2.2.2.1.lt
    have hw2 : wb.heap.size ≤ w2.heap.size := hb2.size
    refine ⟨HB.out.1.trans (hbb.mono HB.out.1.size), boxKeep HB.out.2.1 hbb, boxKeep HB.out.2.2.1 hbb, boxKeep HB.out.2.2.2.1 hbb, HB.out.2.2.2.2.1.below hbb, HB.out.2.2.2.2.2, Boxed.new w2 23 _, ?_, by omega⟩
    have := hz2.rw.below hbx
    exact ⟨this.1, by
      obtain ⟨_, a, c, e1, e2⟩ := this
      refine ⟨a, c, e1, ?_⟩
      rcases e2 with e2 | ⟨g, q1, q2, q3, q4⟩
      · exact .inl e2
      · exact .inr ⟨g, q1, by omega, q3, q4⟩⟩
  clear hz2 hb2 hon2 HB
  gi_wp2
  refine ⟨trivial, ?_⟩
  generalize w2.alloc (.cells #[.slice x2 (OOZ (OO n l2)).length d2] 23) = wc at *
  generalize w2.heap.size = Bt at *
  refine (callsIn_wide.2 (copied9 (HR.out.1.keep HC.out.1) hl1)).mono ?_
  rintro e w3 ⟨gv, rfl, hgv, hb3⟩
  obtain ⟨ga, gc, rfl⟩ := hgv.form
  gi_wp2
  refine ⟨trivial, ?_⟩
  refine (callsIn_wide.2 (walkIT n h0 h1 _ l1 w3 hgv.rb ((HR.out.2.2.keep HC.out.1).keep hb3) hl1)).mono ?_
  rintro e w4 ⟨fw, Bs1, g1, rfl, hit1, hs1, hg1, hb4⟩
  obtain ⟨gf1, lb1, rfl⟩ : ∃ gf lb, fw = .func (.func gf) #[] lb := by rcases hit1.form with h | h <;> exact ⟨_, _, h⟩
  have hbx : Below w4.heap.size w4 (w4.alloc (.cells #[.func (.func gf1) #[] lb1] 29)) := (Below.refl _ _).alloc (Nat.le_refl _) _
  have hbb : Below wc.heap.size wc (w4.alloc (.cells #[.func (.func gf1) #[] lb1] 29)) := hb3.trans ((hb4.trans (hbx.mono hb4.size)).mono hb3.size)
  have HD : Hid (Below wc.heap.size wc (w4.alloc (.cells #[.func (.func gf1) #[] lb1] 29)) ∧ Boxed (w4.alloc (.cells #[.func (.func gf1) #[] lb1] 29)) w4.heap.size 29 (.func (.func gf1) #[] lb1) ∧ IT (w4.alloc (.cells #[.func (.func gf1) #[] lb1] 29)) (.func (.func gf1) #[] lb1) (OO n l1) Bs1 g1 ∧ (Bs1 = 0 ∨ w3.heap.size ≤ Bs1) ∧ (g1 = 0 ∨ w3.heap.size ≤ g1) ∧ OW wc.heap.size (w4.alloc (.cells #[.func (.func gf1) #[] lb1] 29)) (.slice ga l1.length gc) l1 ∧ w3.heap.size ≤ w4.heap.size ∧ wc.heap.size ≤ w3.heap.size ∧ (∀ g, ga = some ⟨g, 0, none⟩ → wc.heap.size ≤ g ∧ g < w3.heap.size)) := by
    refine ⟨hbb, Boxed.new w4 29 _, hit1.below hbx, hs1, hg1, (hgv.grow hb4).grow hbx, hb4.size, hb3.size, fun g hg => ?_⟩
    rcases hgv.2 with ⟨e, _⟩ | ⟨g', cap, cur, e, q1, q2, _⟩
    · simp [hg] at e
    · simp [hg] at e
      rw [e.1]; exact ⟨q1, (Array.getElem?_eq_some_iff.1 q2).1⟩
  clear hbx hbb hit1 hs1 hg1 hb4 hgv hb3
  have hst := fun (a : Addr) (m : Mode) (u : World) => run_store Tryd.prog u a (.func (.func gf1) #[] lb1) m rfl
  gi_wp2
  clear hst
  refine ⟨trivial, ?_⟩
  generalize w4.alloc (.cells #[.func (.func gf1) #[] lb1] 29) = wd at *
  generalize w4.heap.size = Bw at *
  generalize w3.heap.size = z3 at *
  refine (callsIn_wide.2 (copied9 ((HR.out.2.1.keep HC.out.1).keep HD.out.1) hl2)).mono ?_
  rintro e w5 ⟨bv, rfl, hbv, hb5⟩
  obtain ⟨ba, bc, rfl⟩ := hbv.form
  gi_wp2
  refine ⟨trivial, ?_⟩
  refine (callsIn_wide.2 (walkIT n h0 h1 _ l2 w5 hbv.rb (((HR.out.2.2.keep HC.out.1).keep HD.out.1).keep hb5) hl2)).mono ?_
  rintro e w6 ⟨fo, Bs2, g2, rfl, hit2, hs2, hg2, hb6⟩
  obtain ⟨gf2, lb2, rfl⟩ : ∃ gf lb, fo = .func (.func gf) #[] lb := by rcases hit2.form with h | h <;> exact ⟨_, _, h⟩
  have hbb : Below wd.heap.size wd w6 := hb5.trans (hb6.mono hb5.size)
  have HE : Hid (Below wc.heap.size wc w6 ∧ Boxed w6 Bw 29 (.func (.func gf1) #[] lb1) ∧ IT w6 (.func (.func gf1) #[] lb1) (OO n l1) Bs1 g1 ∧ (Bs1 = 0 ∨ z3 ≤ Bs1) ∧ (g1 = 0 ∨ z3 ≤ g1) ∧ OW wc.heap.size w6 (.slice ga l1.length gc) l1 ∧ z3 ≤ Bw ∧ wc.heap.size ≤ z3 ∧ (∀ g, ga = some ⟨g, 0, none⟩ → wc.heap.size ≤ g ∧ g < z3) ∧ IT w6 (.func (.func gf2) #[] lb2) (OO n l2) Bs2 g2 ∧ (Bs2 = 0 ∨ Bw < Bs2) ∧ (g2 = 0 ∨ Bw < g2)) := by
    obtain ⟨q1, q2, q3, q4, q5, q6, q7, q8, q9⟩ := HD.out
    have := q2.lt
    have := hb5.size
    exact ⟨q1.trans (hbb.mono q1.size), boxKeep q2 hbb, q3.below hbb, q4, q5, q6.grow hbb, q7, q8, q9, hit2, hs2.imp id (fun h => by omega), hg2.imp id (fun h => by omega)⟩
  have cbw := HE.out.2.1.cell
  clear hbb hit2 hs2 hg2 hb6 hb5 hbv HD
  have HS : Hid (Calls Tryd.prog 7 #[.slice ga l1.length gc, .slice a1 l1.length c1] w6 fun e w' => e = .returned (.bool true) ∧ ∃ n, w' = w6.drewN n) := same12 _ _ l1 w6 hl1 HE.out.2.2.2.2.2.1.rb ((HR.out.1.keep HC.out.1).keep HE.out.1)
  have hq1 := eqN gf1 lb1
  have hq2 := eqN gf2 lb2
  gi_wp2
  refine ⟨trivial, ?_⟩
  refine (callsIn_wide.2 HS.out).mono ?_
  rintro e w7 ⟨rfl, nd, rfl⟩
  clear HS hq1 hq2 cbw
  have HE7 : Hid (Below wc.heap.size wc (w6.drewN nd) ∧ Boxed (w6.drewN nd) Bw 29 (.func (.func gf1) #[] lb1) ∧ IT (w6.drewN nd) (.func (.func gf1) #[] lb1) (OO n l1) Bs1 g1 ∧ (Bs1 = 0 ∨ z3 ≤ Bs1) ∧ (g1 = 0 ∨ z3 ≤ g1) ∧ OW wc.heap.size (w6.drewN nd) (.slice ga l1.length gc) l1 ∧ z3 ≤ Bw ∧ wc.heap.size ≤ z3 ∧ (∀ g, ga = some ⟨g, 0, none⟩ → wc.heap.size ≤ g ∧ g < z3) ∧ IT (w6.drewN nd) (.func (.func gf2) #[] lb2) (OO n l2) Bs2 g2 ∧ (Bs2 = 0 ∨ Bw < Bs2) ∧ (g2 = 0 ∨ Bw < g2)) := by
    obtain ⟨q1, q2, q3, q4, q5, q6, q7, q8, q9, q10, q11, q12⟩ := HE.out
    exact ⟨q1.trans ((belowDrew _ _).mono q1.size), q2, q3.below (belowDrew _ _), q4, q5, q6.grow (belowDrew _ _), q7, q8, q9, q10.below (belowDrew _ _), q11, q12⟩
  clear HE
  generalize w6.drewN nd = w8 at *
  gi_wp2
  gi_loopw [16] (fun i wr => ∃ (q : Nat), q ≤ l1.length ∧ i = .int .i64 q ∧ Hid (GB wr ga l1.length ∧ KB (fun k => ga = some ⟨k, 0, none⟩) w8 wr)) (fun i _ => l1.length - (intOf i).toNat)
  case atStart => exact ⟨0, Nat.zero_le _, rfl, HE7.out.2.2.2.2.2.1.gb, KB.refl _ _⟩
  case round =>
    obtain ⟨q, hq, rfl, HL⟩ := hrel
    by_cases hlt : q < l1.length
    · obtain ⟨g, x, rfl, f1, f2, f3⟩ := HL.out.1.at hlt
      have HF3 : Hid (∀ v, GB (wr.setCell ⟨g, q, none⟩ v) (some ⟨g, 0, none⟩) l1.length ∧ KB (fun k => some (⟨g, 0, none⟩ : Addr) = some ⟨k, 0, none⟩) w8 (wr.setCell ⟨g, q, none⟩ v)) := fun v => ⟨f3 v, HL.out.2.setG rfl v⟩
      clear f3 HL
      gi_wp2
      go_roundw
      case rel => exact ⟨q + 1, by omega, by go_num, HF3.out _⟩
      case measure => simp [intOf]; omega
    · obtain rfl : q = l1.length := by omega
      have HG : Hid (GS w.heap.size (wr.alloc (.cells #[.int .i64 0] 3)) st (.slice x1 (OOZ (OO n l1)).length d1) (.slice x2 (OOZ (OO n l2)).length d2) (OO n l1) (OO n l2) (.func (.func gf1) #[] lb1) (.func (.func gf2) #[] lb2) Bo Bt Bw Bs1 g1 Bs2 g2 ∧ Boxed (wr.alloc (.cells #[.int .i64 0] 3)) (w.heap.size + 1) 4 (.bool false) ∧ Boxed (wr.alloc (.cells #[.int .i64 0] 3)) wr.heap.size 3 (.int .i64 0) ∧ Below w.heap.size w (wr.alloc (.cells #[.int .i64 0] 3)) ∧ Bw < wr.heap.size ∧ Bs1 < wr.heap.size ∧ g1 < wr.heap.size ∧ Bs2 < wr.heap.size ∧ g2 < wr.heap.size) := by
        obtain ⟨p1, p2, p3, p4, p5, p6, p7, p8, p9⟩ := HC.out
        obtain ⟨q1, q2, q3, q4, q5, q6, q7, q8, q9, q10, q11, q12⟩ := HE7.out
        obtain ⟨_, hkb⟩ := HL.out
        have hBt := p7.lt
        have g0 : GS w.heap.size w8 st (.slice x1 (OOZ (OO n l1)).length d1) (.slice x2 (OOZ (OO n l2)).length d2) (OO n l1) (OO n l2) (.func (.func gf1) #[] lb1) (.func (.func gf2) #[] lb2) Bo Bt Bw Bs1 g1 Bs2 g2 :=
          ⟨boxKeep p2 q1, boxKeep p4 q1, boxKeep p7 q1, q2, p5.below q1, p8.below q1, q3, q10, HR.out.2.2.1, p6, p9, by omega, q4.imp id (fun h => by omega), q5.imp id (fun h => by omega), q11.imp id (fun h => by omega), q12.imp id (fun h => by omega)⟩
        have hex : ∀ k, ga = some ⟨k, 0, none⟩ → wc.heap.size ≤ k ∧ k < z3 := q9
        have gw : GS w.heap.size wr st (.slice x1 (OOZ (OO n l1)).length d1) (.slice x2 (OOZ (OO n l2)).length d2) (OO n l1) (OO n l2) (.func (.func gf1) #[] lb1) (.func (.func gf2) #[] lb2) Bo Bt Bw Bs1 g1 Bs2 g2 :=
          g0.keep hkb.size (fun k hk hc => hkb.block k hk (fun e => by have := hex k e; omega))
        have h0w : 0 < wr.heap.size := by have := hkb.size; have := gw.bw.lt; omega
        have hbr : Boxed wr (w.heap.size + 1) 4 (.bool false) := hkb.boxed (fun e => by have := hex _ e; have := p3.lt; omega) (boxKeep p3 q1)
        have hbw : Below w.heap.size w wr := hkb.below (p1.trans (q1.mono p1.size)) (fun k hk e => by have := hex _ e; have := p1.size; omega)
        have ha : Below wr.heap.size wr (wr.alloc (.cells #[.int .i64 0] 3)) := (Below.refl _ _).alloc (Nat.le_refl _) _
        exact ⟨gw.keep ha.size (fun k hk _ => ha.block k hk), boxKeep hbr ha, Boxed.new wr 3 _, hbw.trans (ha.mono hbw.size), gw.bw.lt, (gw.i1.lt h0w).2, (gw.i1.lt h0w).1, (gw.i2.lt h0w).2, (gw.i2.lt h0w).1⟩
      have cbw := HG.out.1.bw.cell
      clear HC HE7 HL
      gi_wp2
      obtain ⟨gf, lb, e1, eg1, hseq1⟩ := HG.out.1.i1.seq
      simp only [Value.func.injEq, Fn.func.injEq, true_and] at e1
      obtain ⟨rfl, rfl⟩ := e1
      have hsz : (wr.alloc (.cells #[.int .i64 0] 3)).heap.size = wr.heap.size + 1 := by simp
      generalize wr.alloc (.cells #[.int .i64 0] 3) = W0 at *
      generalize hBk : wr.heap.size = Bk at *
      clear hBk cbw
      obtain ⟨gs, br0, bk0, hbw0, l1', l2', l3', l4', l5'⟩ := HG.out
      have o0 := gs.o0
      have o1 := gs.o1
      have o2 := gs.o2
      have o3 := gs.o3
      have hexo : ∀ k, k ≤ Bt ∧ k ≠ w.heap.size + 1 ∨ k = Bw ∨ k = Bs1 ∨ k = g1 ∨ k = Bs2 ∨ k = g2 → ¬ (k = w.heap.size + 1 ∨ k = Bk) := fun k hk e => by
        have o4 := gs.o4
        have o5 := gs.o5
        have o6 := gs.o6
        have o7 := gs.o7
        omega
      clear HG
      refine wpIn_rangeFunc_ownH rfl (by omega) (gf := gf1) (lb := lb1) rfl trivial eg1 (hseq1 11 (by omega)) KG.trans (KG.put (by omega) (by omega)) (Below.refl _ _) (fun _ => rfl)
        (fun pre W => ((OOZ pre = (OOZ (OO n l1)).take pre.length ∧ pre.length ≤ (OO n l1).length) ∧ Boxed W Bk 3 (.int .i64 (pre.length : Int))) ∧ (Boxed W (w.heap.size + 1) 4 (.bool false) ∧ KB (fun k => k = w.heap.size + 1 ∨ k = Bk) W0 W))
        (fun c pre W => (c = .exit 2 ∧ (∃ kk, Boxed W Bk 3 kk) ∧ Boxed W (w.heap.size + 1) 4 (.bool false) ∧ KB (fun k => k = w.heap.size + 1 ∨ k = Bk) W0 W) ∨ (c = .ret ∧ ¬ pre <+: OO n l1))
        (OwnFrom.and (OwnFrom.and (ownFrom_pure _ _) (Own.from (boxed_own _ _ _) _)) (OwnFrom.and (Own.from (boxed_own _ _ _) _) (KB.own (Nat.le_refl _))))
        (fun c s X Y row hs hg hr => hs.imp (fun ⟨e, ⟨kk, q1⟩, q2, q3⟩ => ⟨e, ⟨kk, boxed_own Bk 3 (fun (_ : Unit) => kk) () X Y row q1 hg (fun r e => (hr r e).2)⟩, boxed_own (w.heap.size + 1) 4 (fun (_ : Unit) => Value.bool false) () X Y row q2 hg (fun r e => (hr r e).2), KB.own (Nat.le_refl _) () X Y row q3 hg hr⟩) id)
        ⟨⟨⟨by simp [OOZ], by simp⟩, bk0⟩, br0, KB.refl _ _⟩
        (fun x a' _ => a' = { tmps := #[Value.int IntKind.i64 n, Value.slice a1 l1.length c1, Value.slice a2 l2.length c2, Value.int IntKind.i64 st, undef, undef, undef, Value.pointer (some ⟨w.heap.size, 0, none⟩), Value.pointer (some ⟨w.heap.size + 1, 0, none⟩), Value.pointer (some ⟨Bo, 0, none⟩), Value.int IntKind.i64 er1, Value.pointer (some ⟨Bt, 0, none⟩), Value.int IntKind.i64 er2, Value.slice ga l1.length gc, Value.pointer (some ⟨Bw, 0, none⟩), Value.func (Fn.func gf2) #[] lb2, Value.int IntKind.i64 (l1.length : Int), Value.pointer (some ⟨Bk, 0, none⟩), .int .i64 (x.1 : Int), undef, undef, undef, undef, undef, Value.tuple #[Value.slice x1 (OOZ (OO n l1)).length d1, Value.int IntKind.i64 er1], Value.int IntKind.i64 n, Value.slice a1 l1.length c1, Value.tuple #[Value.slice x1 (OOZ (OO n l1)).length d1, Value.int IntKind.i64 er1], Value.slice x1 (OOZ (OO n l1)).length d1, Value.int IntKind.i64 er1, Value.tuple #[Value.slice x2 (OOZ (OO n l2)).length d2, Value.int IntKind.i64 er2], Value.int IntKind.i64 n, Value.slice a2 l2.length c2, Value.tuple #[Value.slice x2 (OOZ (OO n l2)).length d2, Value.int IntKind.i64 er2], Value.slice x2 (OOZ (OO n l2)).length d2, Value.int IntKind.i64 er2, Value.slice a1 l1.length c1, Value.slice ga l1.length gc, Value.int IntKind.i64 n, Value.slice ga l1.length gc, Value.func (Fn.func gf1) #[] lb1, Value.int IntKind.i64 n, Value.slice a2 l2.length c2, Value.slice ba l2.length bc, Value.func (Fn.func gf2) #[] lb2, Value.func (Fn.func gf1) #[] lb1, Value.bool false, Value.bool false, Value.func (Fn.func gf2) #[] lb2, Value.bool false, Value.bool false, Value.bool false, Value.slice ga l1.length gc, Value.slice a1 l1.length c1, Value.bool true, Value.bool false, Value.bool false, Value.int IntKind.i64 (l1.length : Int), Value.slice ga l1.length gc, Value.int IntKind.i64 (l1.length : Int), Value.bool false, u61, u62, u63, u64, u65, u66, u67, u68, u69, Value.func (Fn.func gf1) #[] lb1, .int .i64 (x.1 : Int), undef, undef, undef, undef, undef, undef, undef, undef, undef, undef, undef, undef, undef, undef, undef, undef, undef, undef, undef, undef, undef, undef, undef, undef, undef, undef, undef, undef, undef, undef, undef, undef, undef, undef, undef, undef, undef, undef, undef, undef, undef, undef, undef, undef, undef, undef, undef, undef, undef, undef, undef, undef, undef, undef, undef, undef, undef, undef, undef, undef, undef, undef, undef, undef, undef, undef, undef, undef, undef, undef, undef, undef, undef, undef, undef, undef, undef, undef, undef, undef, undef, undef], defers := [] })
        (fun _ _ _ _ _ _ hs _ _ => hs)
        ?assign ?body ?done ?stop
      case assign =>
        rintro lp pre x W K hi hK
        gi_wp2
        exact hK _ _ (KeepsFrom.refl _ _) (KG.refl _ _) hi rfl
      case body =>
        rintro lp pre x a' W hlp hrec ⟨⟨⟨hp, hpl⟩, bk⟩, br, kb⟩ rfl hlt
        have ck := bk.cell
        have fk := bk.frozen
        have cr := br.cell
        have fr := br.frozen
        have cst := (kb.boxed (hexo _ (.inl ⟨by omega, by omega⟩)) gs.bst).cell
        have co := (kb.boxed (hexo _ (.inl ⟨by omega, by omega⟩)) gs.bo).cell
        have hw : IntKind.i64.wrap ((pre.length : Int) + 1) = (pre.length : Int) + 1 := by
          rw [show (pre.length : Int) + 1 = ((pre.length + 1 : Nat) : Int) by omega]; simp [IntKind.wrap, IntKind.bits, IntKind.signed]; omega
        have HP : Hid (OOZ pre = (OOZ (OO n l1)).take pre.length) := hp
        clear hp
        by_cases hst : (pre.length : Int) = st
        · have hsb : ((pre.length : Int) == st) = true := by simp [hst]
          clear hst
          gi_wp2
          exact ⟨KeepsFrom.refl _ _, .inl ⟨rfl, ⟨_, bk⟩, br, kb⟩⟩
        · have hsb : ((pre.length : Int) == st) = false := by simp [hst]
          clear hst
          by_cases hge : (OOZ (OO n l1)).length ≤ pre.length
          · gi_wp2
            exact ⟨KeepsFrom.refl _ _, .inl ⟨rfl, ⟨_, bk⟩, br, kb⟩⟩
          · obtain ⟨_, ra, rc, re, hrow⟩ := gs.r1
            simp only [Value.slice.injEq, true_and] at re
            obtain ⟨rfl, rfl⟩ := re
            rcases hrow with hnil | ⟨g, rfl, glo, ghi, hcell⟩
            · rw [hnil] at hge; simp at hge
            have cz := kb.cell (hexo g (.inl ⟨by omega, by omega⟩)) (hcell pre.length (by omega))
            have hlO : pre.length < (OO n l1).length := by rw [ooz_len] at hge; omega
            by_cases hx : (x.1 : Int) = iz (OOZ (OO n l1)) pre.length
            · have HS := pre_step HP.out hlO hx
              rw [← hx] at cz
              have HB : Hid (Boxed (W.setCell ⟨Bk, 0, none⟩ (.int .i64 ((pre.length : Int) + 1))) Bk 3 (.int .i64 ((pre ++ [x]).length : Int)) ∧ Boxed (W.setCell ⟨Bk, 0, none⟩ (.int .i64 ((pre.length : Int) + 1))) (w.heap.size + 1) 4 (.bool false)) := ⟨by have := bk.set (.int .i64 ((pre.length : Int) + 1)); simpa using this, br.other (by omega) _⟩
              clear hx hcell
              gi_wp2
              exact ⟨(KeepsOthers.setCell _ _ _).from _, KG.set' _ (by omega) (by omega), ⟨HS, HB.out.1⟩, HB.out.2, kb.set (.inr (.inr rfl)) _⟩
            · have HN := pre_bad hx
              have hxb : ((x.1 : Int) == iz (OOZ (OO n l1)) pre.length) = false := by simp [hx]
              clear hx hcell
              gi_wp2
              exact ⟨(KeepsOthers.setCell _ _ _).from _, .inr ⟨rfl, HN⟩⟩
      case done =>
        rintro D ys W hD rfl ⟨⟨-, bk⟩, br, kb⟩ hK
        have ck := bk.cell
        have fk := bk.frozen
        have bk1 : Boxed (W.setCell ⟨Bk, 0, none⟩ (.int .i64 0)) Bk 3 (.int .i64 0) := bk.set _
        have br1 : Boxed (W.setCell ⟨Bk, 0, none⟩ (.int .i64 0)) (w.heap.size + 1) 4 (.bool false) := br.other (by omega) _
        have kb1 : KB (fun k => k = w.heap.size + 1 ∨ k = Bk) W0 (W.setCell ⟨Bk, 0, none⟩ (.int .i64 0)) := kb.set (.inr (.inr rfl)) _
        have hK1 := (KeepsOthers.setCell W ⟨Bk, 0, none⟩ (.int .i64 0)).same D _ hK rfl
        have cbw := (kb1.boxed (hexo _ (.inr (.inl rfl))) gs.bw).cell
        gi_wp2
        obtain ⟨W1, hW1⟩ : ∃ W1, W.setCell ⟨Bk, 0, none⟩ (.int .i64 0) = W1 := ⟨_, rfl⟩
        rw [hW1] at bk1 br1 kb1 hK1 cbw ⊢
        clear hW1 ck fk bk br kb hK cbw
        have hsz1 := kb1.size
        have hDl : D < W1.heap.size := (Array.getElem?_eq_some_iff.1 hK1).1
        have it1 : IT W1 (.func (.func gf1) #[] lb1) (OO n l1) Bs1 g1 := gs.i1.keep kb1.size (fun k hk hl => kb1.block k hl (hexo k (by rcases hk with rfl | rfl | rfl; exact .inl ⟨by omega, by omega⟩; exact .inr (.inr (.inr (.inl rfl))); exact .inr (.inr (.inl rfl)))))
        obtain ⟨gf', lb', e1', _, hseqB⟩ := it1.seq
        simp only [Value.func.injEq, Fn.func.injEq, true_and] at e1'
        obtain ⟨rfl, rfl⟩ := e1'
        refine wpIn_rangeFunc_ownH rfl (by omega) (gf := gf1) (lb := lb1) rfl trivial eg1 (hseqB 11 (by omega)) KG.trans (KG.put (by omega) (by omega)) (Below.refl _ _) (fun _ => rfl)
          (fun pre W => ((OOZ pre = (OOZ (OO n l1)).take pre.length ∧ pre.length ≤ (OO n l1).length) ∧ Boxed W Bk 3 (.int .i64 (pre.length : Int))) ∧ (Boxed W (w.heap.size + 1) 4 (.bool false) ∧ (KB (fun k => k = w.heap.size + 1 ∨ k = Bk) W0 W ∧ W.heap[D]? = some (.deferred (some [])))))
          (fun c pre _ => c = .ret ∧ ¬ pre <+: OO n l1)
          (OwnFrom.and (OwnFrom.and (ownFrom_pure _ _) (Own.from (boxed_own _ _ _) _)) (OwnFrom.and (Own.from (boxed_own _ _ _) _) (OwnFrom.and (KB.own hsz1) (own_block _ hDl))))
          (fun c s X Y row hs _ _ => hs)
          ⟨⟨⟨by simp [OOZ], by simp⟩, bk1⟩, br1, kb1, hK1⟩
          (fun x a' _ => a' = { tmps := #[Value.int IntKind.i64 n, Value.slice a1 l1.length c1, Value.slice a2 l2.length c2, Value.int IntKind.i64 st, undef, undef, undef, Value.pointer (some ⟨w.heap.size, 0, none⟩), Value.pointer (some ⟨w.heap.size + 1, 0, none⟩), Value.pointer (some ⟨Bo, 0, none⟩), Value.int IntKind.i64 er1, Value.pointer (some ⟨Bt, 0, none⟩), Value.int IntKind.i64 er2, Value.slice ga l1.length gc, Value.pointer (some ⟨Bw, 0, none⟩), Value.func (Fn.func gf2) #[] lb2, Value.int IntKind.i64 (l1.length : Int), Value.pointer (some ⟨Bk, 0, none⟩), undef, .int .i64 (x.1 : Int), undef, undef, undef, undef, Value.tuple #[Value.slice x1 (OOZ (OO n l1)).length d1, Value.int IntKind.i64 er1], Value.int IntKind.i64 n, Value.slice a1 l1.length c1, Value.tuple #[Value.slice x1 (OOZ (OO n l1)).length d1, Value.int IntKind.i64 er1], Value.slice x1 (OOZ (OO n l1)).length d1, Value.int IntKind.i64 er1, Value.tuple #[Value.slice x2 (OOZ (OO n l2)).length d2, Value.int IntKind.i64 er2], Value.int IntKind.i64 n, Value.slice a2 l2.length c2, Value.tuple #[Value.slice x2 (OOZ (OO n l2)).length d2, Value.int IntKind.i64 er2], Value.slice x2 (OOZ (OO n l2)).length d2, Value.int IntKind.i64 er2, Value.slice a1 l1.length c1, Value.slice ga l1.length gc, Value.int IntKind.i64 n, Value.slice ga l1.length gc, Value.func (Fn.func gf1) #[] lb1, Value.int IntKind.i64 n, Value.slice a2 l2.length c2, Value.slice ba l2.length bc, Value.func (Fn.func gf2) #[] lb2, Value.func (Fn.func gf1) #[] lb1, Value.bool false, Value.bool false, Value.func (Fn.func gf2) #[] lb2, Value.bool false, Value.bool false, Value.bool false, Value.slice ga l1.length gc, Value.slice a1 l1.length c1, Value.bool true, Value.bool false, Value.bool false, Value.int IntKind.i64 (l1.length : Int), Value.slice ga l1.length gc, Value.int IntKind.i64 (l1.length : Int), Value.bool false, u61, u62, u63, u64, u65, u66, u67, u68, u69, Value.func (Fn.func gf1) #[] lb1, undef, undef, undef, undef, undef, undef, undef, undef, undef, undef, undef, undef, undef, undef, undef, undef, undef, undef, .func (.func gf1) #[] lb1, .int .i64 (x.1 : Int), undef, undef, undef, undef, undef, undef, undef, undef, undef, undef, undef, undef, undef, undef, undef, undef, undef, undef, undef, undef, undef, undef, undef, undef, undef, undef, undef, undef, undef, undef, undef, undef, undef, undef, undef, undef, undef, undef, undef, undef, undef, undef, undef, undef, undef, undef, undef, undef, undef, undef, undef, undef, undef, undef, undef, undef, undef, undef, undef, undef, undef, undef, undef], defers := [] })
          (fun _ _ _ _ _ _ hs _ _ => hs)
          ?assign2 ?body2 ?done2 ?stop2
        case assign2 =>
          rintro lp pre x W K hi hK
          gi_wp2
          exact hK _ _ (KeepsFrom.refl _ _) (KG.refl _ _) hi rfl
        case body2 =>
          rintro lp pre x a' W hlp ⟨rl, hrl⟩ ⟨⟨⟨hp, hpl⟩, bk⟩, br, kb, hDk⟩ rfl hlt
          have ck := bk.cell
          have fk := bk.frozen
          have cr := br.cell
          have fr := br.frozen
          have cst := (kb.boxed (hexo _ (.inl ⟨by omega, by omega⟩)) gs.bst).cell
          have co := (kb.boxed (hexo _ (.inl ⟨by omega, by omega⟩)) gs.bo).cell
          have bwW := kb.boxed (hexo _ (.inr (.inl rfl))) gs.bw
          have hw : IntKind.i64.wrap ((pre.length : Int) + 1) = (pre.length : Int) + 1 := by
            rw [show (pre.length : Int) + 1 = ((pre.length + 1 : Nat) : Int) by omega]; simp [IntKind.wrap, IntKind.bits, IntKind.signed]; omega
          have HP : Hid (OOZ pre = (OOZ (OO n l1)).take pre.length) := hp
          clear hp
          by_cases hge : (OOZ (OO n l1)).length ≤ pre.length
          · have HN : ¬ (pre ++ [x]) <+: OO n l1 := pre_long (by rw [ooz_len] at hge; exact hge)
            gi_wp2
            exact ⟨(KeepsOthers.setCell _ _ _).from _, rfl, HN⟩
          · obtain ⟨_, ra, rc, re, hrow⟩ := gs.r1
            simp only [Value.slice.injEq, true_and] at re
            obtain ⟨rfl, rfl⟩ := re
            rcases hrow with hnil | ⟨g, rfl, glo, ghi, hcell⟩
            · rw [hnil] at hge; simp at hge
            have cz := kb.cell (hexo g (.inl ⟨by omega, by omega⟩)) (hcell pre.length (by omega))
            have hlO : pre.length < (OO n l1).length := by rw [ooz_len] at hge; omega
            by_cases hx : (x.1 : Int) = iz (OOZ (OO n l1)) pre.length
            · have HS := pre_step HP.out hlO hx
              rw [← hx] at cz
              by_cases h3 : pre.length < 3
              · have bm0 := Boxed.new W 3 (.int .i64 0)
                have aw := (bwW.alloc (.cells #[.int .i64 0] 3)).cell
                have HCL : Hid (∀ i, i < (OOZ (OO n l1)).length → W0.cell? ⟨g, i, none⟩ = some (.int .i64 (iz (OOZ (OO n l1)) i))) := hcell
                clear hx hcell
                gi_wp2
                have bkA := bk.alloc (.cells #[.int .i64 0] 3)
                have brA := br.alloc (.cells #[.int .i64 0] 3)
                have kbA := kb.alloc (.cells #[.int .i64 0] 3)
                have hDA : (W.alloc (.cells #[.int .i64 0] 3)).heap[D]? = some (.deferred (some [])) := (Below.heap_alloc W _ D (Array.getElem?_eq_some_iff.1 hDk).1).trans hDk
                have hrA : (W.alloc (.cells #[.int .i64 0] 3)).heap[lp]? = some (.loop rl) := (Below.heap_alloc W _ lp (Array.getElem?_eq_some_iff.1 hrl).1).trans hrl
                have kgA : KG g1 W (W.alloc (.cells #[.int .i64 0] 3)) := KG.alloc' _
                have kfA : KeepsFrom W1.heap.size W (W.alloc (.cells #[.int .i64 0] 3)) := (KeepsOthers.alloc _ _).from _
                have hszW : (W.alloc (.cells #[.int .i64 0] 3)).heap.size = W.heap.size + 1 := by simp
                have hW0W := kb.size
                have hBkW := bk.lt
                have hDW : D < W.heap.size := (Array.getElem?_eq_some_iff.1 hDk).1
                generalize W.alloc (.cells #[.int .i64 0] 3) = Wm at *
                obtain ⟨Bm, hBm⟩ : ∃ Bm, W.heap.size = Bm := ⟨_, rfl⟩
                have hBm' : Hid (W.heap.size = Bm) := hBm
                rw [hBm] at bm0 hszW hW0W hBkW hDW ⊢
                clear hBm
                clear ck fk cr fr cst co bwW cz aw bk br kb hDk hrl hge
                have itm : IT Wm (.func (.func gf1) #[] lb1) (OO n l1) Bs1 g1 := gs.i1.keep kbA.size (fun k hk hl => kbA.block k hl (hexo k (by rcases hk with rfl | rfl | rfl; exact .inl ⟨by omega, by omega⟩; exact .inr (.inr (.inr (.inl rfl))); exact .inr (.inr (.inl rfl)))))
                obtain ⟨gf', lb', e1', _, hseqC⟩ := itm.seq
                simp only [Value.func.injEq, Fn.func.injEq, true_and] at e1'
                obtain ⟨rfl, rfl⟩ := e1'
                refine wpIn_rangeFunc_ownN (l₀ := lp) (r₀ := rl) rfl hrA (by omega) (gf := gf1) (lb := lb1) rfl trivial eg1 ((hseqC (12 - 1 - 1 - 1) (by omega)).inRound lp) KG.trans (KG.put (by omega) (by omega)) (Below.refl _ _) (fun _ => rfl)
                  (fun pre' W' => ((OOZ pre' = (OOZ (OO n l1)).take pre'.length ∧ pre'.length ≤ (OO n l1).length) ∧ Boxed W' Bm 3 (.int .i64 (pre'.length : Int))) ∧ (Boxed W' (w.heap.size + 1) 4 (.bool false) ∧ (Boxed W' Bk 3 (.int .i64 (pre.length : Int)) ∧ ((KB (fun k => k = w.heap.size + 1 ∨ k = Bk) W0 W' ∧ W'.heap[D]? = some (.deferred (some []))) ∧ (KG g1 W W' ∧ KeepsFrom W1.heap.size W W')))))
                  (fun c pre' W' => (c = .exit 6 ∧ (Boxed W' (w.heap.size + 1) 4 (.bool false) ∧ (Boxed W' Bk 3 (.int .i64 (pre.length : Int)) ∧ ((KB (fun k => k = w.heap.size + 1 ∨ k = Bk) W0 W' ∧ W'.heap[D]? = some (.deferred (some []))) ∧ (KG g1 W W' ∧ KeepsFrom W1.heap.size W W'))))) ∨ (c = .ret ∧ ¬ pre' <+: OO n l1))
                  (OwnFrom.and (OwnFrom.and (ownFrom_pure _ _) (Own.from (boxed_own _ _ _) _)) (OwnFrom.and (Own.from (boxed_own _ _ _) _) (OwnFrom.and (Own.from (boxed_own _ _ _) _) (OwnFrom.and (OwnFrom.and (KB.own (by omega)) (own_block _ (by omega))) (OwnFrom.and (own_KG (by have := hBm'.out; omega)) (ownFrom_keepsFrom (by have := hBm'.out; omega)))))))
                  (fun c s X Y row hs hg hr => hs.imp (fun ⟨e, q⟩ => ⟨e, (OwnFrom.and (Own.from (boxed_own (w.heap.size + 1) 4 (fun (_ : Unit) => Value.bool false)) _) (OwnFrom.and (Own.from (boxed_own Bk 3 (fun (_ : Unit) => Value.int .i64 (pre.length : Int))) _) (OwnFrom.and (OwnFrom.and (KB.own (by omega)) (own_block _ (by omega))) (OwnFrom.and (own_KG (by have := hBm'.out; omega)) (ownFrom_keepsFrom (by have := hBm'.out; omega)))))) () X Y row q hg hr⟩) id)
                  ⟨⟨⟨by simp [OOZ], by simp⟩, bm0⟩, brA, bkA, ⟨kbA, hDA⟩, kgA, kfA⟩
                  (fun y a'' _ => a'' = { tmps := #[Value.int IntKind.i64 n, Value.slice a1 l1.length c1, Value.slice a2 l2.length c2, Value.int IntKind.i64 st, undef, undef, undef, Value.pointer (some ⟨w.heap.size, 0, none⟩), Value.pointer (some ⟨w.heap.size + 1, 0, none⟩), Value.pointer (some ⟨Bo, 0, none⟩), Value.int IntKind.i64 er1, Value.pointer (some ⟨Bt, 0, none⟩), Value.int IntKind.i64 er2, Value.slice ga l1.length gc, Value.pointer (some ⟨Bw, 0, none⟩), Value.func (Fn.func gf2) #[] lb2, Value.int IntKind.i64 (l1.length : Int), Value.pointer (some ⟨Bk, 0, none⟩), undef, Value.int .i64 (x.1 : Int), Value.pointer (some ⟨Bm, 0, none⟩), .int .i64 (y.1 : Int), undef, undef, Value.tuple #[Value.slice (some ⟨g, 0, none⟩) (OOZ (OO n l1)).length d1, Value.int IntKind.i64 er1], Value.int IntKind.i64 n, Value.slice a1 l1.length c1, Value.tuple #[Value.slice (some ⟨g, 0, none⟩) (OOZ (OO n l1)).length d1, Value.int IntKind.i64 er1], Value.slice (some ⟨g, 0, none⟩) (OOZ (OO n l1)).length d1, Value.int IntKind.i64 er1, Value.tuple #[Value.slice x2 (OOZ (OO n l2)).length d2, Value.int IntKind.i64 er2], Value.int IntKind.i64 n, Value.slice a2 l2.length c2, Value.tuple #[Value.slice x2 (OOZ (OO n l2)).length d2, Value.int IntKind.i64 er2], Value.slice x2 (OOZ (OO n l2)).length d2, Value.int IntKind.i64 er2, Value.slice a1 l1.length c1, Value.slice ga l1.length gc, Value.int IntKind.i64 n, Value.slice ga l1.length gc, Value.func (Fn.func gf1) #[] lb1, Value.int IntKind.i64 n, Value.slice a2 l2.length c2, Value.slice ba l2.length bc, Value.func (Fn.func gf2) #[] lb2, Value.func (Fn.func gf1) #[] lb1, Value.bool false, Value.bool false, Value.func (Fn.func gf2) #[] lb2, Value.bool false, Value.bool false, Value.bool false, Value.slice ga l1.length gc, Value.slice a1 l1.length c1, Value.bool true, Value.bool false, Value.bool false, Value.int IntKind.i64 (l1.length : Int), Value.slice ga l1.length gc, Value.int IntKind.i64 (l1.length : Int), Value.bool false, u61, u62, u63, u64, u65, u66, u67, u68, u69, Value.func (Fn.func gf1) #[] lb1, undef, undef, undef, undef, undef, undef, undef, undef, undef, undef, undef, undef, undef, undef, undef, undef, undef, undef, Value.func (Fn.func gf1) #[] lb1, Value.int .i64 (x.1 : Int), Value.int IntKind.i64 (pre.length : Int), Value.slice (some ⟨g, 0, none⟩) (OOZ (OO n l1)).length d1, Value.int IntKind.i64 ((OOZ (OO n l1)).length : Int), Value.bool false, Value.bool false, Value.int .i64 (x.1 : Int), Value.slice (some ⟨g, 0, none⟩) (OOZ (OO n l1)).length d1, Value.int IntKind.i64 (pre.length : Int), Value.pointer (some ⟨g, pre.length, none⟩), Value.int .i64 (x.1 : Int), Value.bool false, Value.bool false, Value.int IntKind.i64 (pre.length : Int), Value.bool (decide ((pre.length : Int) < 3)), Value.func (Fn.func gf1) #[] lb1, .int .i64 (y.1 : Int), undef, undef, undef, undef, undef, undef, undef, undef, undef, undef, undef, undef, undef, undef, undef, undef, undef, undef, undef, undef, undef, undef, undef, undef, undef, undef, undef, undef, undef, undef, undef, undef, undef, undef, undef, undef, undef, undef, undef, undef, undef, undef, undef, undef, undef, undef, undef], defers := [] })
                  (fun _ _ _ _ _ _ hs _ _ => hs)
                  ?assign3 ?body3 ?done3 ?stop3
                case assign3 =>
                  clear hDA hrA
                  rintro lp2 pre' y W' K hi hK
                  gi_wp2
                  exact hK _ _ (KeepsFrom.refl _ _) (KG.refl _ _) hi (by first | rfl | (simp; done) | (simp; omega))
                case body3 =>
                  rintro lp2 pre' y a'' W' - - ⟨⟨⟨hp', hpl'⟩, bm⟩, br, bk, ⟨kb, hDk⟩, kg, kf⟩ rfl hlt'
                  have cm := bm.cell
                  have fm := bm.frozen
                  have ck := bk.cell
                  have cr := br.cell
                  have fr := br.frozen
                  have cst := (kb.boxed (hexo _ (.inl ⟨by omega, by omega⟩)) gs.bst).cell
                  have co := (kb.boxed (hexo _ (.inl ⟨by omega, by omega⟩)) gs.bo).cell
                  have hw' : IntKind.i64.wrap ((pre'.length : Int) + 1) = (pre'.length : Int) + 1 := by
                    rw [show (pre'.length : Int) + 1 = ((pre'.length + 1 : Nat) : Int) by omega]; simp [IntKind.wrap, IntKind.bits, IntKind.signed]; omega
                  have HP' : Hid (OOZ pre' = (OOZ (OO n l1)).take pre'.length) := hp'
                  clear hp'
                  by_cases hge : (OOZ (OO n l1)).length ≤ pre'.length
                  · have HN : ¬ (pre' ++ [y]) <+: OO n l1 := pre_long (by rw [ooz_len] at hge; exact hge)
                    gi_wp2
                    exact ⟨(KeepsOthers.setCell _ _ _).from _, .inr ⟨rfl, HN⟩⟩
                  · have cz := kb.cell (hexo g (.inl ⟨by omega, by omega⟩)) (HCL.out pre'.length (by omega))
                    have hlO' : pre'.length < (OO n l1).length := by rw [ooz_len] at hge; omega
                    by_cases hy : (y.1 : Int) = iz (OOZ (OO n l1)) pre'.length
                    · have HS' := pre_step HP'.out hlO' hy
                      rw [← hy] at cz
                      clear hy
                      have bmS := bm.set (.int .i64 ((pre'.length : Int) + 1))
                      have HB : Hid (Boxed (W'.setCell ⟨Bm, 0, none⟩ (.int .i64 ((pre'.length : Int) + 1))) Bm 3 (.int .i64 ((pre' ++ [y]).length : Int)) ∧ Boxed (W'.setCell ⟨Bm, 0, none⟩ (.int .i64 ((pre'.length : Int) + 1))) (w.heap.size + 1) 4 (.bool false) ∧ Boxed (W'.setCell ⟨Bm, 0, none⟩ (.int .i64 ((pre'.length : Int) + 1))) Bk 3 (.int .i64 (pre.length : Int)) ∧ (KB (fun k => k = w.heap.size + 1 ∨ k = Bk) W0 (W'.setCell ⟨Bm, 0, none⟩ (.int .i64 ((pre'.length : Int) + 1))) ∧ (W'.setCell ⟨Bm, 0, none⟩ (.int .i64 ((pre'.length : Int) + 1))).heap[D]? = some (.deferred (some []))) ∧ KG g1 W (W'.setCell ⟨Bm, 0, none⟩ (.int .i64 ((pre'.length : Int) + 1))) ∧ KeepsFrom W1.heap.size W (W'.setCell ⟨Bm, 0, none⟩ (.int .i64 ((pre'.length : Int) + 1)))) :=
                        ⟨by simpa using bmS, br.other (by omega) _, bk.other (by omega) _, ⟨kb.set (.inl (by omega)) _, (KeepsOthers.setCell W' ⟨Bm, 0, none⟩ _).same D _ hDk rfl⟩, KG.trans kg (KG.set' _ (by omega) (by omega)), kf.trans ((KeepsOthers.setCell _ _ _).from _)⟩
                      have cmS := bmS.cell
                      have ckS := HB.out.2.2.1.cell
                      have cstS := (HB.out.2.2.2.1.1.boxed (hexo _ (.inl ⟨by omega, by omega⟩)) gs.bst).cell
                      clear bmS
                      gi_wp2
                      all_goals first
                        | exact ⟨(KeepsOthers.setCell _ _ _).from _, .inl ⟨rfl, HB.out.2⟩⟩
                        | exact ⟨(KeepsOthers.setCell _ _ _).from _, KG.set' _ (by omega) (by omega), ⟨HS', HB.out.1⟩, HB.out.2⟩
                    · have HN := pre_bad hy
                      have hyb : ((y.1 : Int) == iz (OOZ (OO n l1)) pre'.length) = false := by simp [hy]
                      clear hy
                      gi_wp2
                      exact ⟨(KeepsOthers.setCell _ _ _).from _, .inr ⟨rfl, HN⟩⟩
                case done3 =>
                  rintro ys' W' rfl ⟨⟨-, bm⟩, br, bk, ⟨kb, hDk⟩, kg, kf⟩
                  have ck := bk.cell
                  have fk := bk.frozen
                  have HB : Hid (Boxed (W'.setCell ⟨Bk, 0, none⟩ (.int .i64 ((pre.length : Int) + 1))) Bk 3 (.int .i64 ((pre ++ [x]).length : Int)) ∧ Boxed (W'.setCell ⟨Bk, 0, none⟩ (.int .i64 ((pre.length : Int) + 1))) (w.heap.size + 1) 4 (.bool false)) := ⟨by have := bk.set (.int .i64 ((pre.length : Int) + 1)); simpa using this, br.other (by omega) _⟩
                  gi_wp2
                  exact ⟨kf.trans ((KeepsOthers.setCell _ _ _).from _), KG.trans kg (KG.set' _ (by omega) (by omega)), ⟨HS, HB.out.1⟩, HB.out.2, kb.set (.inr (.inr rfl)) _, (KeepsOthers.setCell W' ⟨Bk, 0, none⟩ _).same D _ hDk rfl⟩
                case stop3 =>
                  rintro c pre' W' hpre' (⟨rfl, br, bk, ⟨kb, hDk⟩, kg, kf⟩ | ⟨rfl, hno⟩)
                  · skip
                    have ck := bk.cell
                    have fk := bk.frozen
                    have HB : Hid (Boxed (W'.setCell ⟨Bk, 0, none⟩ (.int .i64 ((pre.length : Int) + 1))) Bk 3 (.int .i64 ((pre ++ [x]).length : Int)) ∧ Boxed (W'.setCell ⟨Bk, 0, none⟩ (.int .i64 ((pre.length : Int) + 1))) (w.heap.size + 1) 4 (.bool false)) := ⟨by have := bk.set (.int .i64 ((pre.length : Int) + 1)); simpa using this, br.other (by omega) _⟩
                    gi_wp2
                    exact ⟨kf.trans ((KeepsOthers.setCell _ _ _).from _), KG.trans kg (KG.set' _ (by omega) (by omega)), ⟨HS, HB.out.1⟩, HB.out.2, kb.set (.inr (.inr rfl)) _, (KeepsOthers.setCell W' ⟨Bk, 0, none⟩ _).same D _ hDk rfl⟩
                  · exact absurd hpre' hno
              · have HB : Hid (Boxed (W.setCell ⟨Bk, 0, none⟩ (.int .i64 ((pre.length : Int) + 1))) Bk 3 (.int .i64 ((pre ++ [x]).length : Int)) ∧ Boxed (W.setCell ⟨Bk, 0, none⟩ (.int .i64 ((pre.length : Int) + 1))) (w.heap.size + 1) 4 (.bool false)) := ⟨by have := bk.set (.int .i64 ((pre.length : Int) + 1)); simpa using this, br.other (by omega) _⟩
                clear hx hcell
                gi_wp2
                exact ⟨(KeepsOthers.setCell _ _ _).from _, KG.set' _ (by omega) (by omega), ⟨HS, HB.out.1⟩, HB.out.2, kb.set (.inr (.inr rfl)) _, (KeepsOthers.setCell W ⟨Bk, 0, none⟩ _).same D _ hDk rfl⟩
            · have HN := pre_bad hx
              have hxb : ((x.1 : Int) == iz (OOZ (OO n l1)) pre.length) = false := by simp [hx]
              clear hx hcell
              gi_wp2
              exact ⟨(KeepsOthers.setCell _ _ _).from _, rfl, HN⟩
        case done2 =>
          rintro D2 ys W hD2 rfl ⟨⟨-, bk⟩, br, kb, hDk⟩ hK2
          have bn0 := Boxed.new W 3 (.int .i64 0)
          gi_wp2
          have bkA := bk.alloc (.cells #[.int .i64 0] 3)
          have brA := br.alloc (.cells #[.int .i64 0] 3)
          have kbA := kb.alloc (.cells #[.int .i64 0] 3)
          have hDA : (W.alloc (.cells #[.int .i64 0] 3)).heap[D]? = some (.deferred (some [])) := (Below.heap_alloc W _ D (Array.getElem?_eq_some_iff.1 hDk).1).trans hDk
          have hD2A : (W.alloc (.cells #[.int .i64 0] 3)).heap[D2]? = some (.deferred (some [])) := (Below.heap_alloc W _ D2 (Array.getElem?_eq_some_iff.1 hK2).1).trans hK2
          have hszW : (W.alloc (.cells #[.int .i64 0] 3)).heap.size = W.heap.size + 1 := by simp
          have hW0W := kb.size
          have hBkW := bk.lt
          have hDW : D < W.heap.size := (Array.getElem?_eq_some_iff.1 hDk).1
          have hD2W : D2 < W.heap.size := (Array.getElem?_eq_some_iff.1 hK2).1
          generalize W.alloc (.cells #[.int .i64 0] 3) = Wn at *
          generalize W.heap.size = Bn at *
          clear bk br kb hDk hK2
          have itn : IT Wn (.func (.func gf2) #[] lb2) (OO n l2) Bs2 g2 := gs.i2.keep kbA.size (fun k hk hl => kbA.block k hl (hexo k (by rcases hk with rfl | rfl | rfl; exact .inl ⟨by omega, by omega⟩; exact .inr (.inr (.inr (.inr (.inr rfl)))); exact .inr (.inr (.inr (.inr (.inl rfl)))))))
          obtain ⟨gf', lb', e1', eg2, hseqD⟩ := itn.seq
          simp only [Value.func.injEq, Fn.func.injEq, true_and] at e1'
          obtain ⟨rfl, rfl⟩ := e1'
          refine wpIn_rangeFunc_ownH rfl (by omega) (gf := gf2) (lb := lb2) rfl trivial eg2 (hseqD 11 (by omega)) KG.trans (KG.put (by omega) (by omega)) (Below.refl _ _) (fun _ => rfl)
            (fun pre W => ((OOZ pre = (OOZ (OO n l2)).take pre.length ∧ pre.length ≤ (OO n l2).length) ∧ Boxed W Bn 3 (.int .i64 (pre.length : Int))) ∧ (Boxed W (w.heap.size + 1) 4 (.bool false) ∧ (Boxed W Bk 3 (.int .i64 ((OO n l1).length : Int)) ∧ (KB (fun k => k = w.heap.size + 1 ∨ k = Bk) W0 W ∧ (W.heap[D]? = some (.deferred (some [])) ∧ W.heap[D2]? = some (.deferred (some [])))))))
            (fun c pre _ => c = .ret ∧ ¬ pre <+: OO n l2)
            (OwnFrom.and (OwnFrom.and (ownFrom_pure _ _) (Own.from (boxed_own _ _ _) _)) (OwnFrom.and (Own.from (boxed_own _ _ _) _) (OwnFrom.and (Own.from (boxed_own _ _ _) _) (OwnFrom.and (KB.own (by omega)) (OwnFrom.and (own_block _ (by omega)) (own_block _ (by omega)))))))
            (fun c s X Y row hs _ _ => hs)
            ⟨⟨⟨by simp [OOZ], by simp⟩, bn0⟩, brA, bkA, kbA, hDA, hD2A⟩
            (fun x a' _ => a' = { tmps := #[Value.int IntKind.i64 n, Value.slice a1 l1.length c1, Value.slice a2 l2.length c2, Value.int IntKind.i64 st, undef, undef, undef, Value.pointer (some ⟨w.heap.size, 0, none⟩), Value.pointer (some ⟨w.heap.size + 1, 0, none⟩), Value.pointer (some ⟨Bo, 0, none⟩), Value.int IntKind.i64 er1, Value.pointer (some ⟨Bt, 0, none⟩), Value.int IntKind.i64 er2, Value.slice ga l1.length gc, Value.pointer (some ⟨Bw, 0, none⟩), Value.func (Fn.func gf2) #[] lb2, Value.int IntKind.i64 (l1.length : Int), Value.pointer (some ⟨Bk, 0, none⟩), undef, undef, undef, undef, .pointer (some ⟨Bn, 0, none⟩), .int .i64 (x.1 : Int), Value.tuple #[Value.slice x1 (OOZ (OO n l1)).length d1, Value.int IntKind.i64 er1], Value.int IntKind.i64 n, Value.slice a1 l1.length c1, Value.tuple #[Value.slice x1 (OOZ (OO n l1)).length d1, Value.int IntKind.i64 er1], Value.slice x1 (OOZ (OO n l1)).length d1, Value.int IntKind.i64 er1, Value.tuple #[Value.slice x2 (OOZ (OO n l2)).length d2, Value.int IntKind.i64 er2], Value.int IntKind.i64 n, Value.slice a2 l2.length c2, Value.tuple #[Value.slice x2 (OOZ (OO n l2)).length d2, Value.int IntKind.i64 er2], Value.slice x2 (OOZ (OO n l2)).length d2, Value.int IntKind.i64 er2, Value.slice a1 l1.length c1, Value.slice ga l1.length gc, Value.int IntKind.i64 n, Value.slice ga l1.length gc, Value.func (Fn.func gf1) #[] lb1, Value.int IntKind.i64 n, Value.slice a2 l2.length c2, Value.slice ba l2.length bc, Value.func (Fn.func gf2) #[] lb2, Value.func (Fn.func gf1) #[] lb1, Value.bool false, Value.bool false, Value.func (Fn.func gf2) #[] lb2, Value.bool false, Value.bool false, Value.bool false, Value.slice ga l1.length gc, Value.slice a1 l1.length c1, Value.bool true, Value.bool false, Value.bool false, Value.int IntKind.i64 (l1.length : Int), Value.slice ga l1.length gc, Value.int IntKind.i64 (l1.length : Int), Value.bool false, u61, u62, u63, u64, u65, u66, u67, u68, u69, Value.func (Fn.func gf1) #[] lb1, undef, undef, undef, undef, undef, undef, undef, undef, undef, undef, undef, undef, undef, undef, undef, undef, undef, undef, .func (.func gf1) #[] lb1, undef, undef, undef, undef, undef, undef, undef, undef, undef, undef, undef, undef, undef, undef, undef, undef, undef, undef, undef, undef, undef, undef, undef, undef, undef, undef, undef, undef, undef, undef, undef, undef, undef, undef, undef, undef, undef, undef, .func (.func gf2) #[] lb2, .int .i64 (x.1 : Int), undef, undef, undef, undef, undef, undef, undef, undef, undef, undef, undef, undef, undef, undef, undef, undef, undef, undef, undef, undef, undef, undef, undef, undef], defers := [] })
            (fun _ _ _ _ _ _ hs _ _ => hs)
            ?assign4 ?body4 ?done4 ?stop4
          case assign4 =>
            rintro lp pre x W K hi hK
            gi_wp2
            exact hK _ _ (KeepsFrom.refl _ _) (KG.refl _ _) hi (by first | rfl | (simp; done) | (simp; omega))
          case body4 =>
            rintro lp pre x a' W hlp - ⟨⟨⟨hp, hpl⟩, bm⟩, br, bk, kb, hDk, hD2k⟩ rfl hlt
            have cm := bm.cell
            have fm := bm.frozen
            have cr := br.cell
            have fr := br.frozen
            have co := (kb.boxed (hexo _ (.inl ⟨by omega, by omega⟩)) gs.bt).cell
            have hw : IntKind.i64.wrap ((pre.length : Int) + 1) = (pre.length : Int) + 1 := by
              rw [show (pre.length : Int) + 1 = ((pre.length + 1 : Nat) : Int) by omega]; simp [IntKind.wrap, IntKind.bits, IntKind.signed]; omega
            have HP : Hid (OOZ pre = (OOZ (OO n l2)).take pre.length) := hp
            clear hp
            by_cases hge : (OOZ (OO n l2)).length ≤ pre.length
            · have HN : ¬ (pre ++ [x]) <+: OO n l2 := pre_long (by rw [ooz_len] at hge; exact hge)
              gi_wp2
              exact ⟨(KeepsOthers.setCell _ _ _).from _, rfl, HN⟩
            · obtain ⟨_, ra, rc, re, hrow⟩ := gs.r2
              simp only [Value.slice.injEq, true_and] at re
              obtain ⟨rfl, rfl⟩ := re
              rcases hrow with hnil | ⟨g, rfl, glo, ghi, hcell⟩
              · rw [hnil] at hge; simp at hge
              have cz := kb.cell (hexo g (.inl ⟨by omega, by omega⟩)) (hcell pre.length (by omega))
              have hlO : pre.length < (OO n l2).length := by rw [ooz_len] at hge; omega
              by_cases hx : (x.1 : Int) = iz (OOZ (OO n l2)) pre.length
              · have HS := pre_step HP.out hlO hx
                rw [← hx] at cz
                have HB : Hid (Boxed (W.setCell ⟨Bn, 0, none⟩ (.int .i64 ((pre.length : Int) + 1))) Bn 3 (.int .i64 ((pre ++ [x]).length : Int))) := by have := bm.set (.int .i64 ((pre.length : Int) + 1)); show Boxed _ _ _ _; simpa using this
                clear hx hcell
                gi_wp2
                exact ⟨(KeepsOthers.setCell _ _ _).from _, KG.set' _ (by omega) (by omega), ⟨HS, HB.out⟩, br.other (by omega) _, bk.other (by omega) _, kb.set (.inl (by omega)) _, (KeepsOthers.setCell W ⟨Bn, 0, none⟩ _).same D _ hDk rfl, (KeepsOthers.setCell W ⟨Bn, 0, none⟩ _).same D2 _ hD2k rfl⟩
              · have HN := pre_bad hx
                have hxb : ((x.1 : Int) == iz (OOZ (OO n l2)) pre.length) = false := by simp [hx]
                clear hx hcell
                gi_wp2
                exact ⟨(KeepsOthers.setCell _ _ _).from _, rfl, HN⟩
          case done4 =>
            rintro D4 ys W hD4 rfl ⟨⟨-, bm⟩, br, bk, kb, hDk, hD2k⟩ hK4
            have cm := bm.cell
            have ck := bk.cell
            have cr := br.cell
            have fr := br.frozen
            have co := (kb.boxed (hexo _ (.inl ⟨by omega, by omega⟩)) gs.bo).cell
            have ct := (kb.boxed (hexo _ (.inl ⟨by omega, by omega⟩)) gs.bt).cell
            have e1 : (OOZ (OO n l1)).length = (OO n l1).length := ooz_len _
            have e2 : (OOZ (OO n l2)).length = (OO n l2).length := ooz_len _
            gi_wp2
            have hK4' := (KeepsOthers.setCell W ⟨w.heap.size + 1, 0, none⟩ (.bool true)).same D4 _ hK4 rfl
            have hK2' := (KeepsOthers.setCell W ⟨w.heap.size + 1, 0, none⟩ (.bool true)).same D2 _ hD2k rfl
            have hKD' := (KeepsOthers.setCell W ⟨w.heap.size + 1, 0, none⟩ (.bool true)).same D _ hDk rfl
            have brF := br.set (.bool true)
            have kbF := kb.set (b := w.heap.size + 1) (.inr (.inl rfl)) (.bool true)
            generalize W.setCell ⟨w.heap.size + 1, 0, none⟩ (.bool true) = WF at *
            have hK2'' : (WF.putObj D4 (.deferred none)).heap[D2]? = some (.deferred (some [])) := (World.putObj_heap_other (by omega)).trans hK2'
            have hKD'' : ((WF.putObj D4 (.deferred none)).putObj D2 (.deferred none)).heap[D]? = some (.deferred (some [])) := (World.putObj_heap_other (by omega)).trans ((World.putObj_heap_other (by omega)).trans hKD')
            have brF3 : Boxed (((WF.putObj D4 (.deferred none)).putObj D2 (.deferred none)).putObj D (.deferred none)) (w.heap.size + 1) 4 (.bool true) := (World.putObj_heap_other (by omega)).trans ((World.putObj_heap_other (by omega)).trans ((World.putObj_heap_other (by omega)).trans brF))
            have kbF3 := ((kbF.grown (grownBy_putObj' _ D4 (.deferred none)) (fun r e => by cases e; exact .inl (by omega))).grown (grownBy_putObj' _ D2 (.deferred none)) (fun r e => by cases e; exact .inl (by omega))).grown (grownBy_putObj' _ D (.deferred none)) (fun r e => by cases e; exact .inl (by omega))
            refine ⟨by simp, .inl ⟨_, _, rfl, run_takeDeferred hK4', by simp, .inl ⟨_, _, rfl, run_takeDeferred hK2'', by simp, .inl ⟨_, _, rfl, run_takeDeferred hKD'', ?_⟩⟩⟩⟩
            refine ⟨.bool true, ?_, rfl, kbF3.below hbw0 (fun k hk e => by omega)⟩
            have hc5 := brF3.cell
            simp [results, Tryd.f3, go_sem, hc5]
          case stop4 =>
            rintro D4 c pre W hD4 hpre ⟨rfl, hno⟩ hK
            exact absurd hpre hno
        case stop2 =>
          rintro D2 c pre W hD2 hpre ⟨rfl, hno⟩ hK
          exact absurd hpre hno
      case stop =>
        rintro D c pre W hD hpre (⟨rfl, ⟨kk, bk⟩, br, kb⟩ | ⟨rfl, hno⟩) hK
        · have ck := bk.cell
          have fk := bk.frozen
          have bk1 : Boxed (W.setCell ⟨Bk, 0, none⟩ (.int .i64 0)) Bk 3 (.int .i64 0) := bk.set _
          have br1 : Boxed (W.setCell ⟨Bk, 0, none⟩ (.int .i64 0)) (w.heap.size + 1) 4 (.bool false) := br.other (by omega) _
          have kb1 : KB (fun k => k = w.heap.size + 1 ∨ k = Bk) W0 (W.setCell ⟨Bk, 0, none⟩ (.int .i64 0)) := kb.set (.inr (.inr rfl)) _
          have hK1 := (KeepsOthers.setCell W ⟨Bk, 0, none⟩ (.int .i64 0)).same D _ hK rfl
          have cbw := (kb1.boxed (hexo _ (.inr (.inl rfl))) gs.bw).cell
          gi_wp2
          obtain ⟨W1, hW1⟩ : ∃ W1, W.setCell ⟨Bk, 0, none⟩ (.int .i64 0) = W1 := ⟨_, rfl⟩
          rw [hW1] at bk1 br1 kb1 hK1 cbw ⊢
          clear hW1 ck fk bk br kb hK cbw
          have hsz1 := kb1.size
          have hDl : D < W1.heap.size := (Array.getElem?_eq_some_iff.1 hK1).1
          have it1 : IT W1 (.func (.func gf1) #[] lb1) (OO n l1) Bs1 g1 := gs.i1.keep kb1.size (fun k hk hl => kb1.block k hl (hexo k (by rcases hk with rfl | rfl | rfl; exact .inl ⟨by omega, by omega⟩; exact .inr (.inr (.inr (.inl rfl))); exact .inr (.inr (.inl rfl)))))
          obtain ⟨gf', lb', e1', _, hseqB⟩ := it1.seq
          simp only [Value.func.injEq, Fn.func.injEq, true_and] at e1'
          obtain ⟨rfl, rfl⟩ := e1'
          refine wpIn_rangeFunc_ownH rfl (by omega) (gf := gf1) (lb := lb1) rfl trivial eg1 (hseqB 11 (by omega)) KG.trans (KG.put (by omega) (by omega)) (Below.refl _ _) (fun _ => rfl)
            (fun pre W => ((OOZ pre = (OOZ (OO n l1)).take pre.length ∧ pre.length ≤ (OO n l1).length) ∧ Boxed W Bk 3 (.int .i64 (pre.length : Int))) ∧ (Boxed W (w.heap.size + 1) 4 (.bool false) ∧ (KB (fun k => k = w.heap.size + 1 ∨ k = Bk) W0 W ∧ W.heap[D]? = some (.deferred (some [])))))
            (fun c pre _ => c = .ret ∧ ¬ pre <+: OO n l1)
            (OwnFrom.and (OwnFrom.and (ownFrom_pure _ _) (Own.from (boxed_own _ _ _) _)) (OwnFrom.and (Own.from (boxed_own _ _ _) _) (OwnFrom.and (KB.own hsz1) (own_block _ hDl))))
            (fun c s X Y row hs _ _ => hs)
            ⟨⟨⟨by simp [OOZ], by simp⟩, bk1⟩, br1, kb1, hK1⟩
            (fun x a' _ => a' = { tmps := #[Value.int IntKind.i64 n, Value.slice a1 l1.length c1, Value.slice a2 l2.length c2, Value.int IntKind.i64 st, undef, undef, undef, Value.pointer (some ⟨w.heap.size, 0, none⟩), Value.pointer (some ⟨w.heap.size + 1, 0, none⟩), Value.pointer (some ⟨Bo, 0, none⟩), Value.int IntKind.i64 er1, Value.pointer (some ⟨Bt, 0, none⟩), Value.int IntKind.i64 er2, Value.slice ga l1.length gc, Value.pointer (some ⟨Bw, 0, none⟩), Value.func (Fn.func gf2) #[] lb2, Value.int IntKind.i64 (l1.length : Int), Value.pointer (some ⟨Bk, 0, none⟩), undef, .int .i64 (x.1 : Int), undef, undef, undef, undef, Value.tuple #[Value.slice x1 (OOZ (OO n l1)).length d1, Value.int IntKind.i64 er1], Value.int IntKind.i64 n, Value.slice a1 l1.length c1, Value.tuple #[Value.slice x1 (OOZ (OO n l1)).length d1, Value.int IntKind.i64 er1], Value.slice x1 (OOZ (OO n l1)).length d1, Value.int IntKind.i64 er1, Value.tuple #[Value.slice x2 (OOZ (OO n l2)).length d2, Value.int IntKind.i64 er2], Value.int IntKind.i64 n, Value.slice a2 l2.length c2, Value.tuple #[Value.slice x2 (OOZ (OO n l2)).length d2, Value.int IntKind.i64 er2], Value.slice x2 (OOZ (OO n l2)).length d2, Value.int IntKind.i64 er2, Value.slice a1 l1.length c1, Value.slice ga l1.length gc, Value.int IntKind.i64 n, Value.slice ga l1.length gc, Value.func (Fn.func gf1) #[] lb1, Value.int IntKind.i64 n, Value.slice a2 l2.length c2, Value.slice ba l2.length bc, Value.func (Fn.func gf2) #[] lb2, Value.func (Fn.func gf1) #[] lb1, Value.bool false, Value.bool false, Value.func (Fn.func gf2) #[] lb2, Value.bool false, Value.bool false, Value.bool false, Value.slice ga l1.length gc, Value.slice a1 l1.length c1, Value.bool true, Value.bool false, Value.bool false, Value.int IntKind.i64 (l1.length : Int), Value.slice ga l1.length gc, Value.int IntKind.i64 (l1.length : Int), Value.bool false, u61, u62, u63, u64, u65, u66, u67, u68, u69, Value.func (Fn.func gf1) #[] lb1, undef, undef, undef, undef, undef, undef, undef, undef, undef, undef, undef, undef, undef, undef, undef, undef, undef, undef, .func (.func gf1) #[] lb1, .int .i64 (x.1 : Int), undef, undef, undef, undef, undef, undef, undef, undef, undef, undef, undef, undef, undef, undef, undef, undef, undef, undef, undef, undef, undef, undef, undef, undef, undef, undef, undef, undef, undef, undef, undef, undef, undef, undef, undef, undef, undef, undef, undef, undef, undef, undef, undef, undef, undef, undef, undef, undef, undef, undef, undef, undef, undef, undef, undef, undef, undef, undef, undef, undef, undef, undef, undef], defers := [] })
            (fun _ _ _ _ _ _ hs _ _ => hs)
            ?assign2 ?body2 ?done2 ?stop2
          case assign2 =>
            rintro lp pre x W K hi hK
            gi_wp2
            exact hK _ _ (KeepsFrom.refl _ _) (KG.refl _ _) hi rfl
          case body2 =>
            rintro lp pre x a' W hlp ⟨rl, hrl⟩ ⟨⟨⟨hp, hpl⟩, bk⟩, br, kb, hDk⟩ rfl hlt
            have ck := bk.cell
            have fk := bk.frozen
            have cr := br.cell
            have fr := br.frozen
            have cst := (kb.boxed (hexo _ (.inl ⟨by omega, by omega⟩)) gs.bst).cell
            have co := (kb.boxed (hexo _ (.inl ⟨by omega, by omega⟩)) gs.bo).cell
            have bwW := kb.boxed (hexo _ (.inr (.inl rfl))) gs.bw
            have hw : IntKind.i64.wrap ((pre.length : Int) + 1) = (pre.length : Int) + 1 := by
              rw [show (pre.length : Int) + 1 = ((pre.length + 1 : Nat) : Int) by omega]; simp [IntKind.wrap, IntKind.bits, IntKind.signed]; omega
            have HP : Hid (OOZ pre = (OOZ (OO n l1)).take pre.length) := hp
            clear hp
            by_cases hge : (OOZ (OO n l1)).length ≤ pre.length
            · have HN : ¬ (pre ++ [x]) <+: OO n l1 := pre_long (by rw [ooz_len] at hge; exact hge)
              gi_wp2
              exact ⟨(KeepsOthers.setCell _ _ _).from _, rfl, HN⟩
            · obtain ⟨_, ra, rc, re, hrow⟩ := gs.r1
              simp only [Value.slice.injEq, true_and] at re
              obtain ⟨rfl, rfl⟩ := re
              rcases hrow with hnil | ⟨g, rfl, glo, ghi, hcell⟩
              · rw [hnil] at hge; simp at hge
              have cz := kb.cell (hexo g (.inl ⟨by omega, by omega⟩)) (hcell pre.length (by omega))
              have hlO : pre.length < (OO n l1).length := by rw [ooz_len] at hge; omega
              by_cases hx : (x.1 : Int) = iz (OOZ (OO n l1)) pre.length
              · have HS := pre_step HP.out hlO hx
                rw [← hx] at cz
                by_cases h3 : pre.length < 3
                · have bm0 := Boxed.new W 3 (.int .i64 0)
                  have aw := (bwW.alloc (.cells #[.int .i64 0] 3)).cell
                  have HCL : Hid (∀ i, i < (OOZ (OO n l1)).length → W0.cell? ⟨g, i, none⟩ = some (.int .i64 (iz (OOZ (OO n l1)) i))) := hcell
                  clear hx hcell
                  gi_wp2
                  have bkA := bk.alloc (.cells #[.int .i64 0] 3)
                  have brA := br.alloc (.cells #[.int .i64 0] 3)
                  have kbA := kb.alloc (.cells #[.int .i64 0] 3)
                  have hDA : (W.alloc (.cells #[.int .i64 0] 3)).heap[D]? = some (.deferred (some [])) := (Below.heap_alloc W _ D (Array.getElem?_eq_some_iff.1 hDk).1).trans hDk
                  have hrA : (W.alloc (.cells #[.int .i64 0] 3)).heap[lp]? = some (.loop rl) := (Below.heap_alloc W _ lp (Array.getElem?_eq_some_iff.1 hrl).1).trans hrl
                  have kgA : KG g1 W (W.alloc (.cells #[.int .i64 0] 3)) := KG.alloc' _
                  have kfA : KeepsFrom W1.heap.size W (W.alloc (.cells #[.int .i64 0] 3)) := (KeepsOthers.alloc _ _).from _
                  have hszW : (W.alloc (.cells #[.int .i64 0] 3)).heap.size = W.heap.size + 1 := by simp
                  have hW0W := kb.size
                  have hBkW := bk.lt
                  have hDW : D < W.heap.size := (Array.getElem?_eq_some_iff.1 hDk).1
                  generalize W.alloc (.cells #[.int .i64 0] 3) = Wm at *
                  obtain ⟨Bm, hBm⟩ : ∃ Bm, W.heap.size = Bm := ⟨_, rfl⟩
                  have hBm' : Hid (W.heap.size = Bm) := hBm
                  rw [hBm] at bm0 hszW hW0W hBkW hDW ⊢
                  clear hBm
                  clear ck fk cr fr cst co bwW cz aw bk br kb hDk hrl hge
                  have itm : IT Wm (.func (.func gf1) #[] lb1) (OO n l1) Bs1 g1 := gs.i1.keep kbA.size (fun k hk hl => kbA.block k hl (hexo k (by rcases hk with rfl | rfl | rfl; exact .inl ⟨by omega, by omega⟩; exact .inr (.inr (.inr (.inl rfl))); exact .inr (.inr (.inl rfl)))))
                  obtain ⟨gf', lb', e1', _, hseqC⟩ := itm.seq
                  simp only [Value.func.injEq, Fn.func.injEq, true_and] at e1'
                  obtain ⟨rfl, rfl⟩ := e1'
                  refine wpIn_rangeFunc_ownN (l₀ := lp) (r₀ := rl) rfl hrA (by omega) (gf := gf1) (lb := lb1) rfl trivial eg1 ((hseqC (12 - 1 - 1 - 1) (by omega)).inRound lp) KG.trans (KG.put (by omega) (by omega)) (Below.refl _ _) (fun _ => rfl)
                    (fun pre' W' => ((OOZ pre' = (OOZ (OO n l1)).take pre'.length ∧ pre'.length ≤ (OO n l1).length) ∧ Boxed W' Bm 3 (.int .i64 (pre'.length : Int))) ∧ (Boxed W' (w.heap.size + 1) 4 (.bool false) ∧ (Boxed W' Bk 3 (.int .i64 (pre.length : Int)) ∧ ((KB (fun k => k = w.heap.size + 1 ∨ k = Bk) W0 W' ∧ W'.heap[D]? = some (.deferred (some []))) ∧ (KG g1 W W' ∧ KeepsFrom W1.heap.size W W')))))
                    (fun c pre' W' => (c = .exit 6 ∧ (Boxed W' (w.heap.size + 1) 4 (.bool false) ∧ (Boxed W' Bk 3 (.int .i64 (pre.length : Int)) ∧ ((KB (fun k => k = w.heap.size + 1 ∨ k = Bk) W0 W' ∧ W'.heap[D]? = some (.deferred (some []))) ∧ (KG g1 W W' ∧ KeepsFrom W1.heap.size W W'))))) ∨ (c = .ret ∧ ¬ pre' <+: OO n l1))
                    (OwnFrom.and (OwnFrom.and (ownFrom_pure _ _) (Own.from (boxed_own _ _ _) _)) (OwnFrom.and (Own.from (boxed_own _ _ _) _) (OwnFrom.and (Own.from (boxed_own _ _ _) _) (OwnFrom.and (OwnFrom.and (KB.own (by omega)) (own_block _ (by omega))) (OwnFrom.and (own_KG (by have := hBm'.out; omega)) (ownFrom_keepsFrom (by have := hBm'.out; omega)))))))
                    (fun c s X Y row hs hg hr => hs.imp (fun ⟨e, q⟩ => ⟨e, (OwnFrom.and (Own.from (boxed_own (w.heap.size + 1) 4 (fun (_ : Unit) => Value.bool false)) _) (OwnFrom.and (Own.from (boxed_own Bk 3 (fun (_ : Unit) => Value.int .i64 (pre.length : Int))) _) (OwnFrom.and (OwnFrom.and (KB.own (by omega)) (own_block _ (by omega))) (OwnFrom.and (own_KG (by have := hBm'.out; omega)) (ownFrom_keepsFrom (by have := hBm'.out; omega)))))) () X Y row q hg hr⟩) id)
                    ⟨⟨⟨by simp [OOZ], by simp⟩, bm0⟩, brA, bkA, ⟨kbA, hDA⟩, kgA, kfA⟩
                    (fun y a'' _ => a'' = { tmps := #[Value.int IntKind.i64 n, Value.slice a1 l1.length c1, Value.slice a2 l2.length c2, Value.int IntKind.i64 st, undef, undef, undef, Value.pointer (some ⟨w.heap.size, 0, none⟩), Value.pointer (some ⟨w.heap.size + 1, 0, none⟩), Value.pointer (some ⟨Bo, 0, none⟩), Value.int IntKind.i64 er1, Value.pointer (some ⟨Bt, 0, none⟩), Value.int IntKind.i64 er2, Value.slice ga l1.length gc, Value.pointer (some ⟨Bw, 0, none⟩), Value.func (Fn.func gf2) #[] lb2, Value.int IntKind.i64 (l1.length : Int), Value.pointer (some ⟨Bk, 0, none⟩), undef, Value.int .i64 (x.1 : Int), Value.pointer (some ⟨Bm, 0, none⟩), .int .i64 (y.1 : Int), undef, undef, Value.tuple #[Value.slice (some ⟨g, 0, none⟩) (OOZ (OO n l1)).length d1, Value.int IntKind.i64 er1], Value.int IntKind.i64 n, Value.slice a1 l1.length c1, Value.tuple #[Value.slice (some ⟨g, 0, none⟩) (OOZ (OO n l1)).length d1, Value.int IntKind.i64 er1], Value.slice (some ⟨g, 0, none⟩) (OOZ (OO n l1)).length d1, Value.int IntKind.i64 er1, Value.tuple #[Value.slice x2 (OOZ (OO n l2)).length d2, Value.int IntKind.i64 er2], Value.int IntKind.i64 n, Value.slice a2 l2.length c2, Value.tuple #[Value.slice x2 (OOZ (OO n l2)).length d2, Value.int IntKind.i64 er2], Value.slice x2 (OOZ (OO n l2)).length d2, Value.int IntKind.i64 er2, Value.slice a1 l1.length c1, Value.slice ga l1.length gc, Value.int IntKind.i64 n, Value.slice ga l1.length gc, Value.func (Fn.func gf1) #[] lb1, Value.int IntKind.i64 n, Value.slice a2 l2.length c2, Value.slice ba l2.length bc, Value.func (Fn.func gf2) #[] lb2, Value.func (Fn.func gf1) #[] lb1, Value.bool false, Value.bool false, Value.func (Fn.func gf2) #[] lb2, Value.bool false, Value.bool false, Value.bool false, Value.slice ga l1.length gc, Value.slice a1 l1.length c1, Value.bool true, Value.bool false, Value.bool false, Value.int IntKind.i64 (l1.length : Int), Value.slice ga l1.length gc, Value.int IntKind.i64 (l1.length : Int), Value.bool false, u61, u62, u63, u64, u65, u66, u67, u68, u69, Value.func (Fn.func gf1) #[] lb1, undef, undef, undef, undef, undef, undef, undef, undef, undef, undef, undef, undef, undef, undef, undef, undef, undef, undef, Value.func (Fn.func gf1) #[] lb1, Value.int .i64 (x.1 : Int), Value.int IntKind.i64 (pre.length : Int), Value.slice (some ⟨g, 0, none⟩) (OOZ (OO n l1)).length d1, Value.int IntKind.i64 ((OOZ (OO n l1)).length : Int), Value.bool false, Value.bool false, Value.int .i64 (x.1 : Int), Value.slice (some ⟨g, 0, none⟩) (OOZ (OO n l1)).length d1, Value.int IntKind.i64 (pre.length : Int), Value.pointer (some ⟨g, pre.length, none⟩), Value.int .i64 (x.1 : Int), Value.bool false, Value.bool false, Value.int IntKind.i64 (pre.length : Int), Value.bool (decide ((pre.length : Int) < 3)), Value.func (Fn.func gf1) #[] lb1, .int .i64 (y.1 : Int), undef, undef, undef, undef, undef, undef, undef, undef, undef, undef, undef, undef, undef, undef, undef, undef, undef, undef, undef, undef, undef, undef, undef, undef, undef, undef, undef, undef, undef, undef, undef, undef, undef, undef, undef, undef, undef, undef, undef, undef, undef, undef, undef, undef, undef, undef, undef], defers := [] })
                    (fun _ _ _ _ _ _ hs _ _ => hs)
                    ?assign3 ?body3 ?done3 ?stop3
                  case assign3 =>
                    clear hDA hrA
                    rintro lp2 pre' y W' K hi hK
                    gi_wp2
                    exact hK _ _ (KeepsFrom.refl _ _) (KG.refl _ _) hi (by first | rfl | (simp; done) | (simp; omega))
                  case body3 =>
                    rintro lp2 pre' y a'' W' - - ⟨⟨⟨hp', hpl'⟩, bm⟩, br, bk, ⟨kb, hDk⟩, kg, kf⟩ rfl hlt'
                    have cm := bm.cell
                    have fm := bm.frozen
                    have ck := bk.cell
                    have cr := br.cell
                    have fr := br.frozen
                    have cst := (kb.boxed (hexo _ (.inl ⟨by omega, by omega⟩)) gs.bst).cell
                    have co := (kb.boxed (hexo _ (.inl ⟨by omega, by omega⟩)) gs.bo).cell
                    have hw' : IntKind.i64.wrap ((pre'.length : Int) + 1) = (pre'.length : Int) + 1 := by
                      rw [show (pre'.length : Int) + 1 = ((pre'.length + 1 : Nat) : Int) by omega]; simp [IntKind.wrap, IntKind.bits, IntKind.signed]; omega
                    have HP' : Hid (OOZ pre' = (OOZ (OO n l1)).take pre'.length) := hp'
                    clear hp'
                    by_cases hge : (OOZ (OO n l1)).length ≤ pre'.length
                    · have HN : ¬ (pre' ++ [y]) <+: OO n l1 := pre_long (by rw [ooz_len] at hge; exact hge)
                      gi_wp2
                      exact ⟨(KeepsOthers.setCell _ _ _).from _, .inr ⟨rfl, HN⟩⟩
                    · have cz := kb.cell (hexo g (.inl ⟨by omega, by omega⟩)) (HCL.out pre'.length (by omega))
                      have hlO' : pre'.length < (OO n l1).length := by rw [ooz_len] at hge; omega
                      by_cases hy : (y.1 : Int) = iz (OOZ (OO n l1)) pre'.length
                      · have HS' := pre_step HP'.out hlO' hy
                        rw [← hy] at cz
                        clear hy
                        have bmS := bm.set (.int .i64 ((pre'.length : Int) + 1))
                        have HB : Hid (Boxed (W'.setCell ⟨Bm, 0, none⟩ (.int .i64 ((pre'.length : Int) + 1))) Bm 3 (.int .i64 ((pre' ++ [y]).length : Int)) ∧ Boxed (W'.setCell ⟨Bm, 0, none⟩ (.int .i64 ((pre'.length : Int) + 1))) (w.heap.size + 1) 4 (.bool false) ∧ Boxed (W'.setCell ⟨Bm, 0, none⟩ (.int .i64 ((pre'.length : Int) + 1))) Bk 3 (.int .i64 (pre.length : Int)) ∧ (KB (fun k => k = w.heap.size + 1 ∨ k = Bk) W0 (W'.setCell ⟨Bm, 0, none⟩ (.int .i64 ((pre'.length : Int) + 1))) ∧ (W'.setCell ⟨Bm, 0, none⟩ (.int .i64 ((pre'.length : Int) + 1))).heap[D]? = some (.deferred (some []))) ∧ KG g1 W (W'.setCell ⟨Bm, 0, none⟩ (.int .i64 ((pre'.length : Int) + 1))) ∧ KeepsFrom W1.heap.size W (W'.setCell ⟨Bm, 0, none⟩ (.int .i64 ((pre'.length : Int) + 1)))) :=
                          ⟨by simpa using bmS, br.other (by omega) _, bk.other (by omega) _, ⟨kb.set (.inl (by omega)) _, (KeepsOthers.setCell W' ⟨Bm, 0, none⟩ _).same D _ hDk rfl⟩, KG.trans kg (KG.set' _ (by omega) (by omega)), kf.trans ((KeepsOthers.setCell _ _ _).from _)⟩
                        have cmS := bmS.cell
                        have ckS := HB.out.2.2.1.cell
                        have cstS := (HB.out.2.2.2.1.1.boxed (hexo _ (.inl ⟨by omega, by omega⟩)) gs.bst).cell
                        clear bmS
                        gi_wp2
                        all_goals first
                          | exact ⟨(KeepsOthers.setCell _ _ _).from _, .inl ⟨rfl, HB.out.2⟩⟩
                          | exact ⟨(KeepsOthers.setCell _ _ _).from _, KG.set' _ (by omega) (by omega), ⟨HS', HB.out.1⟩, HB.out.2⟩
                      · have HN := pre_bad hy
                        have hyb : ((y.1 : Int) == iz (OOZ (OO n l1)) pre'.length) = false := by simp [hy]
                        clear hy
                        gi_wp2
                        exact ⟨(KeepsOthers.setCell _ _ _).from _, .inr ⟨rfl, HN⟩⟩
                  case done3 =>
                    rintro ys' W' rfl ⟨⟨-, bm⟩, br, bk, ⟨kb, hDk⟩, kg, kf⟩
                    have ck := bk.cell
                    have fk := bk.frozen
                    have HB : Hid (Boxed (W'.setCell ⟨Bk, 0, none⟩ (.int .i64 ((pre.length : Int) + 1))) Bk 3 (.int .i64 ((pre ++ [x]).length : Int)) ∧ Boxed (W'.setCell ⟨Bk, 0, none⟩ (.int .i64 ((pre.length : Int) + 1))) (w.heap.size + 1) 4 (.bool false)) := ⟨by have := bk.set (.int .i64 ((pre.length : Int) + 1)); simpa using this, br.other (by omega) _⟩
                    gi_wp2
                    exact ⟨kf.trans ((KeepsOthers.setCell _ _ _).from _), KG.trans kg (KG.set' _ (by omega) (by omega)), ⟨HS, HB.out.1⟩, HB.out.2, kb.set (.inr (.inr rfl)) _, (KeepsOthers.setCell W' ⟨Bk, 0, none⟩ _).same D _ hDk rfl⟩
                  case stop3 =>
                    rintro c pre' W' hpre' (⟨rfl, br, bk, ⟨kb, hDk⟩, kg, kf⟩ | ⟨rfl, hno⟩)
                    · skip
                      have ck := bk.cell
                      have fk := bk.frozen
                      have HB : Hid (Boxed (W'.setCell ⟨Bk, 0, none⟩ (.int .i64 ((pre.length : Int) + 1))) Bk 3 (.int .i64 ((pre ++ [x]).length : Int)) ∧ Boxed (W'.setCell ⟨Bk, 0, none⟩ (.int .i64 ((pre.length : Int) + 1))) (w.heap.size + 1) 4 (.bool false)) := ⟨by have := bk.set (.int .i64 ((pre.length : Int) + 1)); simpa using this, br.other (by omega) _⟩
                      gi_wp2
                      exact ⟨kf.trans ((KeepsOthers.setCell _ _ _).from _), KG.trans kg (KG.set' _ (by omega) (by omega)), ⟨HS, HB.out.1⟩, HB.out.2, kb.set (.inr (.inr rfl)) _, (KeepsOthers.setCell W' ⟨Bk, 0, none⟩ _).same D _ hDk rfl⟩
                    · exact absurd hpre' hno
                · have HB : Hid (Boxed (W.setCell ⟨Bk, 0, none⟩ (.int .i64 ((pre.length : Int) + 1))) Bk 3 (.int .i64 ((pre ++ [x]).length : Int)) ∧ Boxed (W.setCell ⟨Bk, 0, none⟩ (.int .i64 ((pre.length : Int) + 1))) (w.heap.size + 1) 4 (.bool false)) := ⟨by have := bk.set (.int .i64 ((pre.length : Int) + 1)); simpa using this, br.other (by omega) _⟩
                  clear hx hcell
                  gi_wp2
                  exact ⟨(KeepsOthers.setCell _ _ _).from _, KG.set' _ (by omega) (by omega), ⟨HS, HB.out.1⟩, HB.out.2, kb.set (.inr (.inr rfl)) _, (KeepsOthers.setCell W ⟨Bk, 0, none⟩ _).same D _ hDk rfl⟩
              · have HN := pre_bad hx
                have hxb : ((x.1 : Int) == iz (OOZ (OO n l1)) pre.length) = false := by simp [hx]
                clear hx hcell
                gi_wp2
                exact ⟨(KeepsOthers.setCell _ _ _).from _, rfl, HN⟩
          case done2 =>
            rintro D2 ys W hD2 rfl ⟨⟨-, bk⟩, br, kb, hDk⟩ hK2
            have bn0 := Boxed.new W 3 (.int .i64 0)
            gi_wp2
            have bkA := bk.alloc (.cells #[.int .i64 0] 3)
            have brA := br.alloc (.cells #[.int .i64 0] 3)
            have kbA := kb.alloc (.cells #[.int .i64 0] 3)
            have hDA : (W.alloc (.cells #[.int .i64 0] 3)).heap[D]? = some (.deferred (some [])) := (Below.heap_alloc W _ D (Array.getElem?_eq_some_iff.1 hDk).1).trans hDk
            have hD2A : (W.alloc (.cells #[.int .i64 0] 3)).heap[D2]? = some (.deferred (some [])) := (Below.heap_alloc W _ D2 (Array.getElem?_eq_some_iff.1 hK2).1).trans hK2
            have hszW : (W.alloc (.cells #[.int .i64 0] 3)).heap.size = W.heap.size + 1 := by simp
            have hW0W := kb.size
            have hBkW := bk.lt
            have hDW : D < W.heap.size := (Array.getElem?_eq_some_iff.1 hDk).1
            have hD2W : D2 < W.heap.size := (Array.getElem?_eq_some_iff.1 hK2).1
            generalize W.alloc (.cells #[.int .i64 0] 3) = Wn at *
            generalize W.heap.size = Bn at *
            clear bk br kb hDk hK2
            have itn : IT Wn (.func (.func gf2) #[] lb2) (OO n l2) Bs2 g2 := gs.i2.keep kbA.size (fun k hk hl => kbA.block k hl (hexo k (by rcases hk with rfl | rfl | rfl; exact .inl ⟨by omega, by omega⟩; exact .inr (.inr (.inr (.inr (.inr rfl)))); exact .inr (.inr (.inr (.inr (.inl rfl)))))))
            obtain ⟨gf', lb', e1', eg2, hseqD⟩ := itn.seq
            simp only [Value.func.injEq, Fn.func.injEq, true_and] at e1'
            obtain ⟨rfl, rfl⟩ := e1'
            refine wpIn_rangeFunc_ownH rfl (by omega) (gf := gf2) (lb := lb2) rfl trivial eg2 (hseqD 11 (by omega)) KG.trans (KG.put (by omega) (by omega)) (Below.refl _ _) (fun _ => rfl)
              (fun pre W => ((OOZ pre = (OOZ (OO n l2)).take pre.length ∧ pre.length ≤ (OO n l2).length) ∧ Boxed W Bn 3 (.int .i64 (pre.length : Int))) ∧ (Boxed W (w.heap.size + 1) 4 (.bool false) ∧ (Boxed W Bk 3 (.int .i64 ((OO n l1).length : Int)) ∧ (KB (fun k => k = w.heap.size + 1 ∨ k = Bk) W0 W ∧ (W.heap[D]? = some (.deferred (some [])) ∧ W.heap[D2]? = some (.deferred (some [])))))))
              (fun c pre _ => c = .ret ∧ ¬ pre <+: OO n l2)
              (OwnFrom.and (OwnFrom.and (ownFrom_pure _ _) (Own.from (boxed_own _ _ _) _)) (OwnFrom.and (Own.from (boxed_own _ _ _) _) (OwnFrom.and (Own.from (boxed_own _ _ _) _) (OwnFrom.and (KB.own (by omega)) (OwnFrom.and (own_block _ (by omega)) (own_block _ (by omega)))))))
              (fun c s X Y row hs _ _ => hs)
              ⟨⟨⟨by simp [OOZ], by simp⟩, bn0⟩, brA, bkA, kbA, hDA, hD2A⟩
              (fun x a' _ => a' = { tmps := #[Value.int IntKind.i64 n, Value.slice a1 l1.length c1, Value.slice a2 l2.length c2, Value.int IntKind.i64 st, undef, undef, undef, Value.pointer (some ⟨w.heap.size, 0, none⟩), Value.pointer (some ⟨w.heap.size + 1, 0, none⟩), Value.pointer (some ⟨Bo, 0, none⟩), Value.int IntKind.i64 er1, Value.pointer (some ⟨Bt, 0, none⟩), Value.int IntKind.i64 er2, Value.slice ga l1.length gc, Value.pointer (some ⟨Bw, 0, none⟩), Value.func (Fn.func gf2) #[] lb2, Value.int IntKind.i64 (l1.length : Int), Value.pointer (some ⟨Bk, 0, none⟩), undef, undef, undef, undef, .pointer (some ⟨Bn, 0, none⟩), .int .i64 (x.1 : Int), Value.tuple #[Value.slice x1 (OOZ (OO n l1)).length d1, Value.int IntKind.i64 er1], Value.int IntKind.i64 n, Value.slice a1 l1.length c1, Value.tuple #[Value.slice x1 (OOZ (OO n l1)).length d1, Value.int IntKind.i64 er1], Value.slice x1 (OOZ (OO n l1)).length d1, Value.int IntKind.i64 er1, Value.tuple #[Value.slice x2 (OOZ (OO n l2)).length d2, Value.int IntKind.i64 er2], Value.int IntKind.i64 n, Value.slice a2 l2.length c2, Value.tuple #[Value.slice x2 (OOZ (OO n l2)).length d2, Value.int IntKind.i64 er2], Value.slice x2 (OOZ (OO n l2)).length d2, Value.int IntKind.i64 er2, Value.slice a1 l1.length c1, Value.slice ga l1.length gc, Value.int IntKind.i64 n, Value.slice ga l1.length gc, Value.func (Fn.func gf1) #[] lb1, Value.int IntKind.i64 n, Value.slice a2 l2.length c2, Value.slice ba l2.length bc, Value.func (Fn.func gf2) #[] lb2, Value.func (Fn.func gf1) #[] lb1, Value.bool false, Value.bool false, Value.func (Fn.func gf2) #[] lb2, Value.bool false, Value.bool false, Value.bool false, Value.slice ga l1.length gc, Value.slice a1 l1.length c1, Value.bool true, Value.bool false, Value.bool false, Value.int IntKind.i64 (l1.length : Int), Value.slice ga l1.length gc, Value.int IntKind.i64 (l1.length : Int), Value.bool false, u61, u62, u63, u64, u65, u66, u67, u68, u69, Value.func (Fn.func gf1) #[] lb1, undef, undef, undef, undef, undef, undef, undef, undef, undef, undef, undef, undef, undef, undef, undef, undef, undef, undef, .func (.func gf1) #[] lb1, undef, undef, undef, undef, undef, undef, undef, undef, undef, undef, undef, undef, undef, undef, undef, undef, undef, undef, undef, undef, undef, undef, undef, undef, undef, undef, undef, undef, undef, undef, undef, undef, undef, undef, undef, undef, undef, undef, .func (.func gf2) #[] lb2, .int .i64 (x.1 : Int), undef, undef, undef, undef, undef, undef, undef, undef, undef, undef, undef, undef, undef, undef, undef, undef, undef, undef, undef, undef, undef, undef, undef, undef], defers := [] })
              (fun _ _ _ _ _ _ hs _ _ => hs)
              ?assign4 ?body4 ?done4 ?stop4
            case assign4 =>
              rintro lp pre x W K hi hK
              gi_wp2
              exact hK _ _ (KeepsFrom.refl _ _) (KG.refl _ _) hi (by first | rfl | (simp; done) | (simp; omega))
            case body4 =>
              rintro lp pre x a' W hlp - ⟨⟨⟨hp, hpl⟩, bm⟩, br, bk, kb, hDk, hD2k⟩ rfl hlt
              have cm := bm.cell
              have fm := bm.frozen
              have cr := br.cell
              have fr := br.frozen
              have co := (kb.boxed (hexo _ (.inl ⟨by omega, by omega⟩)) gs.bt).cell
              have hw : IntKind.i64.wrap ((pre.length : Int) + 1) = (pre.length : Int) + 1 := by
                rw [show (pre.length : Int) + 1 = ((pre.length + 1 : Nat) : Int) by omega]; simp [IntKind.wrap, IntKind.bits, IntKind.signed]; omega
              have HP : Hid (OOZ pre = (OOZ (OO n l2)).take pre.length) := hp
              clear hp
              by_cases hge : (OOZ (OO n l2)).length ≤ pre.length
              · have HN : ¬ (pre ++ [x]) <+: OO n l2 := pre_long (by rw [ooz_len] at hge; exact hge)
                gi_wp2
                exact ⟨(KeepsOthers.setCell _ _ _).from _, rfl, HN⟩
              · obtain ⟨_, ra, rc, re, hrow⟩ := gs.r2
                simp only [Value.slice.injEq, true_and] at re
                obtain ⟨rfl, rfl⟩ := re
                rcases hrow with hnil | ⟨g, rfl, glo, ghi, hcell⟩
                · rw [hnil] at hge; simp at hge
                have cz := kb.cell (hexo g (.inl ⟨by omega, by omega⟩)) (hcell pre.length (by omega))
                have hlO : pre.length < (OO n l2).length := by rw [ooz_len] at hge; omega
                by_cases hx : (x.1 : Int) = iz (OOZ (OO n l2)) pre.length
                · have HS := pre_step HP.out hlO hx
                  rw [← hx] at cz
                  have HB : Hid (Boxed (W.setCell ⟨Bn, 0, none⟩ (.int .i64 ((pre.length : Int) + 1))) Bn 3 (.int .i64 ((pre ++ [x]).length : Int))) := by have := bm.set (.int .i64 ((pre.length : Int) + 1)); show Boxed _ _ _ _; simpa using this
                  clear hx hcell
                  gi_wp2
                  exact ⟨(KeepsOthers.setCell _ _ _).from _, KG.set' _ (by omega) (by omega), ⟨HS, HB.out⟩, br.other (by omega) _, bk.other (by omega) _, kb.set (.inl (by omega)) _, (KeepsOthers.setCell W ⟨Bn, 0, none⟩ _).same D _ hDk rfl, (KeepsOthers.setCell W ⟨Bn, 0, none⟩ _).same D2 _ hD2k rfl⟩
                · have HN := pre_bad hx
                  have hxb : ((x.1 : Int) == iz (OOZ (OO n l2)) pre.length) = false := by simp [hx]
                  clear hx hcell
                  gi_wp2
                  exact ⟨(KeepsOthers.setCell _ _ _).from _, rfl, HN⟩
            case done4 =>
              rintro D4 ys W hD4 rfl ⟨⟨-, bm⟩, br, bk, kb, hDk, hD2k⟩ hK4
              have cm := bm.cell
              have ck := bk.cell
              have cr := br.cell
              have fr := br.frozen
              have co := (kb.boxed (hexo _ (.inl ⟨by omega, by omega⟩)) gs.bo).cell
              have ct := (kb.boxed (hexo _ (.inl ⟨by omega, by omega⟩)) gs.bt).cell
              have e1 : (OOZ (OO n l1)).length = (OO n l1).length := ooz_len _
              have e2 : (OOZ (OO n l2)).length = (OO n l2).length := ooz_len _
              gi_wp2
              have hK4' := (KeepsOthers.setCell W ⟨w.heap.size + 1, 0, none⟩ (.bool true)).same D4 _ hK4 rfl
              have hK2' := (KeepsOthers.setCell W ⟨w.heap.size + 1, 0, none⟩ (.bool true)).same D2 _ hD2k rfl
              have hKD' := (KeepsOthers.setCell W ⟨w.heap.size + 1, 0, none⟩ (.bool true)).same D _ hDk rfl
              have brF := br.set (.bool true)
              have kbF := kb.set (b := w.heap.size + 1) (.inr (.inl rfl)) (.bool true)
              generalize W.setCell ⟨w.heap.size + 1, 0, none⟩ (.bool true) = WF at *
              have hK2'' : (WF.putObj D4 (.deferred none)).heap[D2]? = some (.deferred (some [])) := (World.putObj_heap_other (by omega)).trans hK2'
              have hKD'' : ((WF.putObj D4 (.deferred none)).putObj D2 (.deferred none)).heap[D]? = some (.deferred (some [])) := (World.putObj_heap_other (by omega)).trans ((World.putObj_heap_other (by omega)).trans hKD')
              have brF3 : Boxed (((WF.putObj D4 (.deferred none)).putObj D2 (.deferred none)).putObj D (.deferred none)) (w.heap.size + 1) 4 (.bool true) := (World.putObj_heap_other (by omega)).trans ((World.putObj_heap_other (by omega)).trans ((World.putObj_heap_other (by omega)).trans brF))
              have kbF3 := ((kbF.grown (grownBy_putObj' _ D4 (.deferred none)) (fun r e => by cases e; exact .inl (by omega))).grown (grownBy_putObj' _ D2 (.deferred none)) (fun r e => by cases e; exact .inl (by omega))).grown (grownBy_putObj' _ D (.deferred none)) (fun r e => by cases e; exact .inl (by omega))
              refine ⟨by simp, .inl ⟨_, _, rfl, run_takeDeferred hK4', by simp, .inl ⟨_, _, rfl, run_takeDeferred hK2'', by simp, .inl ⟨_, _, rfl, run_takeDeferred hKD'', ?_⟩⟩⟩⟩
              refine ⟨.bool true, ?_, rfl, kbF3.below hbw0 (fun k hk e => by omega)⟩
              have hc5 := brF3.cell
              simp [results, Tryd.f3, go_sem, hc5]
            case stop4 =>
              rintro D4 c pre W hD4 hpre ⟨rfl, hno⟩ hK
              exact absurd hpre hno
          case stop2 =>
            rintro D2 c pre W hD2 hpre ⟨rfl, hno⟩ hK
            exact absurd hpre hno
        · exact absurd hpre hno
end Go.Proofs.YteafkmdgnfbcfaaDoor
