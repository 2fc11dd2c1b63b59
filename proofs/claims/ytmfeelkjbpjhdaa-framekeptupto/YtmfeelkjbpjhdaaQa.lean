import Derived.Test.YtmfeelkjbpjhdaaSplP
namespace Go.Proofs.Ytmfeelkjbpjhdaa
open Go.RowKit
/-- what lies in a block of another kind stays when a row grows -/
theorem gb_keep {w w' : World} {B e size n : Nat} {v : Value} {xs : List Value} (hg : w.grownBy w' v.ownBlock) (hr : w.ownsRow B e size v n xs) {k t : Nat} {cs : Array Value} {f : Nat × Nat} (h : w.heap[k]? = some (.cells cs t f)) (ht : t ≠ e) : w'.heap[k]? = some (.cells cs t f) := by
  refine (hg.block k (Array.getElem?_eq_some_iff.1 h).1 fun e' => ?_).trans h
  obtain ⟨cs', f', hc⟩ := row_of hr k e'.symm
  rw [h] at hc
  simp at hc
  exact ht hc.2.1
theorem append_nothing2 {w : World} {B : Nat} {v : Value} {n : Nat} {xs : List Value} (ty : TypeId) (c : Nat) (hown : w.ownsRow B 28 1 v n xs) :
    (Builtin.append_ #[26, 26] ty #[v, .slice none 0 c]).run Try.prog w = .ok v w := by
  obtain ⟨i0, hi, hz0, hz1, hz2⟩ := info_parts infoB
  rcases hown.2 with ⟨rfl, rfl⟩ | ⟨g, cap, cur, rfl, _, _, hnc, _⟩
  · simp [Builtin.append_, run_underlying Try.underlying26, sizeOf, typeInfo, hi, Builtin.lenOf, Builtin.firstCells]
  · simp [Builtin.append_, run_underlying Try.underlying26, sizeOf, typeInfo, hi, Builtin.lenOf, Builtin.firstCells, hnc, storeCells]
theorem append_nothing3 {w : World} {B : Nat} {v : Value} {n : Nat} {xs : List Value} (ty : TypeId) (c : Nat) (hown : w.ownsRow B 25 48 v n xs) :
    (Builtin.append_ #[39, 39] ty #[v, .slice none 0 c]).run Try.prog w = .ok v w := by
  obtain ⟨i0, hi, hz0, hz1, hz2⟩ := info_parts infoH
  rcases hown.2 with ⟨rfl, rfl⟩ | ⟨g, cap, cur, rfl, _, _, hnc, _⟩
  · simp [Builtin.append_, run_underlying Try.underlying39, sizeOf, typeInfo, hi, Builtin.lenOf, Builtin.firstCells]
  · simp [Builtin.append_, run_underlying Try.underlying39, sizeOf, typeInfo, hi, Builtin.lenOf, Builtin.firstCells, hnc, storeCells]
theorem grown_refl (w : World) (r : Option Nat) : w.grownBy w r := ⟨rfl, rfl, rfl, Nat.le_refl _, fun _ _ _ => rfl⟩
/-- two lists of bodies that lie apart -/
def OBs (B : Nat) (S : Nat → Prop) (w : World) (sv : Value) (bs : List (List UInt8)) (xv : Value) (bs2 : List (List UInt8)) : Prop := ∃ M, OB B (fun g => S g ∧ g < M) w sv bs ∧ OB B (fun g => S g ∧ M ≤ g) w xv bs2
theorem OBs.form {B : Nat} {S : Nat → Prop} {w : World} {sv xv : Value} {bs bs2 : List (List UInt8)} (h : OBs B S w sv bs xv bs2) : ∃ a c, xv = .slice a bs2.length c := by
  obtain ⟨M, _, h⟩ := h
  exact h.form
theorem OBs.keep {B : Nat} {S : Nat → Prop} {w w' : World} {sv xv : Value} {bs bs2 : List (List UInt8)} (h : OBs B S w sv bs xv bs2) (hb : ∀ k, B ≤ k → k < w.heap.size → w'.heap[k]? = w.heap[k]?) (hS : ∀ k, S k → B ≤ k) : OBs B S w' sv bs xv bs2 := by
  obtain ⟨M, h1, h2⟩ := h
  exact ⟨M, h1.keep hb (fun k x => hS k x.1) (fun _ x _ => x), h2.keep hb (fun k x => hS k x.1) (fun _ x _ => x)⟩
/-- t.Bodies = append(t.Bodies, bodies...) -/
theorem append_bodies {ops : Array Oper} {rest : List Oper} {o : Oper} {a : Act} {Q : Exit → Act → World → Prop} {w : World} {B : Nat} {S S1 S2 : Nat → Prop} {sv xv : Value} {bs bs2 : List (List UInt8)} (hgd : o.guard = none) (s x : Operand)
    (ho : o.op = .call { callee := .builtin .append, args := #[s, x], argTypes := #[26, 26] }) (hs : a.eval s = sv) (hown : OB B S1 w sv bs) (hx : a.eval x = xv) (hx2 : OB B S2 w xv bs2) (hS1 : ∀ g, S1 g → S g) (hS2 : ∀ g, S2 g → S g) (hdis : ∀ g, S1 g → S2 g → False)
    (hB : B ≤ w.heap.size) (hlim : bs.length + bs2.length < 1073741824)
    (h : ∀ v' w', OB B S w' v' (bs ++ bs2) → w.grownBy w' sv.ownBlock → wpList Try.prog ops Q rest (a.put o.dst v') w') : wpList Try.prog ops Q (o :: rest) a w := by
  obtain ⟨i0, hi, hz0, hz1, hz2⟩ := info_parts infoB
  obtain ⟨us, h1, h2, h3⟩ := hown
  obtain ⟨us2, k1, k2, k3⟩ := hx2
  rcases k2.2 with ⟨e, e0⟩ | ⟨g, cap, cur, e, hg1, hg2, hg3⟩
  · have hb2 : bs2 = [] := List.length_eq_zero_iff.1 e0
    subst hb2
    refine wpList_plain hgd fun K hK => ?_
    have hrun := append_nothing2 o.type 0 h2
    rw [e] at hx
    unfold Oper.wp
    simp [execOp, ho, resolve, invoke, builtin, hs, hx, hrun, Result.andThen]
    exact hK _ _ (h _ _ (by rw [List.append_nil]; exact ⟨us, h1, h2, fun i hi => (h3 i hi).keep (fun _ _ _ _ => rfl) (fun g x _ => hS1 g x)⟩) (grown_refl _ _))
  · rw [e] at hx k2
    refine wpList_append_own w hgd s x 26 ho B 28 i0 _ 1 24 Try.underlying26 hi hz0 hz1 hz2 rfl (by omega) sv bs.length us hs h2 ⟨g, 0, none⟩ bs2.length cap us2 hx (by rw [k1.1, Nat.mul_one]) (fun j y hy => ?_) (fun y hy => ?_) (by unfold maxLen; omega) (by omega) hB (fun v' w' m1 m2 _ => ?_)
    · have hj' : j < bs2.length := by
        have := (List.getElem?_eq_some_iff.1 hy).1
        have := k1.1
        omega
      have hadd : (⟨g, 0, none⟩ : Addr).add j = ⟨g, j, none⟩ := by unfold Addr.add; split <;> simp_all
      rw [hadd, World.ownsRow.cellAt k2 j (by omega), hy]
    · obtain ⟨i, hi', rfl⟩ := List.getElem_of_mem hy
      obtain ⟨q, _, eq, _⟩ := k3 i (by have := k1.1; omega)
      rw [List.getD_eq_getElem?_getD, List.getElem?_eq_getElem hi'] at eq
      simp at eq
      rw [eq]; rfl
    · have hnd : (us ++ us2).Nodup := by
        rw [List.nodup_append]
        refine ⟨h1.2, k1.2, fun x hx y hy e => ?_⟩
        subst e
        obtain ⟨g1, n1, q1, e1⟩ := OB.mem h1.1 h3 _ hx
        obtain ⟨g2, n2, q2, e2⟩ := OB.mem k1.1 k3 _ hy
        rw [e1] at e2
        simp at e2
        obtain ⟨rfl, _⟩ := e2
        exact hdis _ q1 q2
      have h1 := h1.1
      have k1 := k1.1
      refine h v' w' ⟨us ++ us2, ⟨by simp [h1, k1], hnd⟩, by simpa using m1, fun i hi => ?_⟩ m2
      have kb : ∀ (k : Nat), k < w.heap.size → (∃ cs f, w.heap[k]? = some (.cells cs 5 f)) → w'.heap[k]? = w.heap[k]? := fun k _ hex => by
        obtain ⟨cs, f, hc⟩ := hex
        rw [hc]
        exact gb_keep m2 h2 hc (by decide)
      rw [List.length_append] at hi
      by_cases hlt : i < bs.length
      · have := (h3 i hlt).keep (T := S) (fun k _ => kb k) (fun g h _ => hS1 g h)
        rw [List.getD_eq_getElem?_getD, List.getD_eq_getElem?_getD, List.getElem?_append_left (by omega), List.getElem?_append_left (by omega), ← List.getD_eq_getElem?_getD, ← List.getD_eq_getElem?_getD]
        exact this
      · have := (k3 (i - bs.length) (by omega)).keep (T := S) (fun k _ => kb k) (fun g h _ => hS2 g h)
        rw [List.getD_eq_getElem?_getD, List.getD_eq_getElem?_getD, List.getElem?_append_right (by omega), List.getElem?_append_right (by omega), h1, ← List.getD_eq_getElem?_getD, ← List.getD_eq_getElem?_getD]
        exact this
/-- t.Met = append(t.Met, met...) -/
theorem append_hellos {ops : Array Oper} {rest : List Oper} {o : Oper} {a : Act} {Q : Exit → Act → World → Prop} {w : World} {B : Nat} {sv xv : Value} {m1 m2 : List (List UInt8)} (hgd : o.guard = none) (s x : Operand)
    (ho : o.op = .call { callee := .builtin .append, args := #[s, x], argTypes := #[39, 39] }) (hs : a.eval s = sv) (hown : OM B w sv m1) (hx : a.eval x = xv) (hx2 : OM B w xv m2)
    (hB : B ≤ w.heap.size) (hlim : m1.length + m2.length < 1073741824)
    (h : ∀ v' w', OM B w' v' (m1 ++ m2) → w.grownBy w' sv.ownBlock → wpList Try.prog ops Q rest (a.put o.dst v') w') : wpList Try.prog ops Q (o :: rest) a w := by
  obtain ⟨i0, hi, hz0, hz1, hz2⟩ := info_parts infoH
  have k2 := hx2.1
  have hfl : (Lib.byteCells m2.flatten).length = m2.length * 48 := k2.1
  rcases hx2.1.2 with ⟨e, e0⟩ | ⟨g, cap, cur, e, hg1, hg2, hg3⟩
  · have hb2 : m2 = [] := List.length_eq_zero_iff.1 e0
    subst hb2
    refine wpList_plain hgd fun K hK => ?_
    have hrun := append_nothing3 o.type 0 hown.1
    rw [e] at hx
    unfold Oper.wp
    simp [execOp, ho, resolve, invoke, builtin, hs, hx, hrun, Result.andThen]
    exact hK _ _ (h _ _ (by rw [List.append_nil]; exact hown) (grown_refl _ _))
  · rw [e] at hx k2
    refine wpList_append_own w hgd s x 39 ho B 25 i0 _ 48 48 Try.underlying39 hi hz0 hz1 hz2 (by rfl) (by omega) sv m1.length (Lib.byteCells m1.flatten) hs hown.1 ⟨g, 0, none⟩ m2.length cap (Lib.byteCells m2.flatten) hx hfl (fun j y hy => ?_) (Lib.byteCells_one _) (by unfold maxLen; omega) (by omega) hB (fun v' w' q1 q2 _ => ?_)
    · have hj' : j < m2.length * 48 := by
        have := (List.getElem?_eq_some_iff.1 hy).1
        omega
      have hadd : (⟨g, 0, none⟩ : Addr).add j = ⟨g, j, none⟩ := by unfold Addr.add; split <;> simp_all
      rw [hadd, World.ownsRow.cellAt k2 j hj', hy]
    · refine h v' w' ⟨?_, fun x hx => ?_⟩ q2
      · rw [← bcl_append] at q1
        simpa using q1
      · rcases List.mem_append.1 hx with hx | hx
        · exact hown.2 x hx
        · exact hx2.2 x hx
/-- between two pushes: the reader, what it told, the box of the answer -/
structure QB (w : World) (R p s : Nat) (hv : Value) (held : List UInt8) (f : Int) (mv : Value) (met : List (List UInt8)) (bv : Value) (bs : List (List UInt8)) (wr : World) : Prop where
  rk : RK wr R p s hv f
  ow : OW (R + 1) wr hv held
  nil : held = [] → hv = .slice none 0 0
  hb : ∀ g, hv.ownBlock = some g → w.heap.size + 2 ≤ g
  om : OM (w.heap.size + 2) wr mv met
  ob : OB (w.heap.size + 2) (fun g => w.heap.size + 2 ≤ g ∧ hv.ownBlock ≠ some g) wr bv bs
  t6 : wr.heap[w.heap.size]? = some (.cells #[.slice none 0 0, .slice none 0 0, .int .i64 0] 41 (0, 0))
  fr : Fr (fun k => k ≠ R) w wr
  sz : w.heap.size + 2 ≤ wr.heap.size
  rl : R < w.heap.size
theorem QB.below {w : World} {R p s : Nat} {hv : Value} {held : List UInt8} {f : Int} {mv : Value} {met : List (List UInt8)} {bv : Value} {bs : List (List UInt8)} {wr w1 : World} (h : QB w R p s hv held f mv met bv bs wr) (hb : Below wr.heap.size wr w1) : QB w R p s hv held f mv met bv bs w1 :=
  ⟨(hb.block R h.rk.lt).trans h.rk, h.ow.grow hb, h.nil, h.hb, h.om.keep (fun k _ hl => hb.block k hl), h.ob.keep (fun k _ hl => hb.block k hl) (fun _ x => x.1) (fun _ x _ => x), (hb.block _ (Array.getElem?_eq_some_iff.1 h.t6).1).trans h.t6, h.fr.trans (Fr.of_below hb) (fun _ _ x => x), Nat.le_trans h.sz hb.size, h.rl⟩
theorem ow_keep {w w' : World} {B : Nat} {v : Value} {l : List UInt8} (h : OW B w v l) (hk : ∀ (k : Nat) (cs : Array Value) (f : Nat × Nat), w.heap[k]? = some (Obj.cells cs 5 f) → w'.heap[k]? = some (Obj.cells cs 5 f)) : OW B w' v l := by
  refine ⟨h.1, ?_⟩
  rcases h.2 with h1 | ⟨g, cap, cur, h1, h2, h3, h4⟩
  · exact .inl h1
  · exact .inr ⟨g, cap, cur, h1, h2, hk _ _ _ h3, h4⟩
theorem QB.met {w : World} {R p s : Nat} {hv : Value} {held : List UInt8} {f : Int} {mv mv' : Value} {met met' : List (List UInt8)} {bv : Value} {bs : List (List UInt8)} {wr w1 : World} (h : QB w R p s hv held f mv met bv bs wr) (hm : OM (w.heap.size + 2) w1 mv' met') (hg : wr.grownBy w1 mv.ownBlock) : QB w R p s hv held f mv' met' bv bs w1 := by
  have gk := fun {k t : Nat} {cs : Array Value} {f : Nat × Nat} (h1 : wr.heap[k]? = some (.cells cs t f)) (h2 : t ≠ 25) => gb_keep hg h.om.1 h1 h2
  refine ⟨gk h.rk (by decide), ow_keep h.ow (fun _ _ _ x => gk x (by decide)), h.nil, h.hb, hm, ?_, gk h.t6 (by decide), ⟨hg.os.trans h.fr.os, hg.tape.trans h.fr.tape, hg.output.trans h.fr.output, Nat.le_trans h.fr.size hg.size, fun k h1 h2 => (hg.block k (Nat.lt_of_lt_of_le h1 h.fr.size) (fun e => by have := (World.ownsRow.lt h.om.1 k e.symm).1; omega)).trans (h.fr.block k h1 h2)⟩, Nat.le_trans h.sz hg.size, h.rl⟩
  obtain ⟨us, h1, h2, h3⟩ := h.ob
  exact ⟨us, h1, ownsRow_keep2 (e2 := 25) h2 hg (row_of h.om.1) (by decide), fun i hi => (h3 i hi).keep (fun k _ hl hex => by obtain ⟨cs, f, hc⟩ := hex; rw [hc]; exact gk hc (by decide)) (fun _ x _ => x)⟩
theorem QB.bod {w : World} {R p s : Nat} {hv : Value} {held : List UInt8} {f : Int} {mv : Value} {met : List (List UInt8)} {bv bv' : Value} {bs bs' : List (List UInt8)} {wr w1 : World} (h : QB w R p s hv held f mv met bv bs wr) (hm : OB (w.heap.size + 2) (fun g => w.heap.size + 2 ≤ g ∧ hv.ownBlock ≠ some g) w1 bv' bs') (hg : wr.grownBy w1 bv.ownBlock) : QB w R p s hv held f mv met bv' bs' w1 := by
  obtain ⟨us, h1, h2, h3⟩ := h.ob
  have gk := fun {k t : Nat} {cs : Array Value} {f : Nat × Nat} (h1 : wr.heap[k]? = some (.cells cs t f)) (h2' : t ≠ 28) => gb_keep hg h2 h1 h2'
  exact ⟨gk h.rk (by decide), ow_keep h.ow (fun _ _ _ x => gk x (by decide)), h.nil, h.hb, ⟨ownsRow_keep2 (e2 := 28) h.om.1 hg (row_of h2) (by decide), h.om.2⟩, hm, gk h.t6 (by decide), ⟨hg.os.trans h.fr.os, hg.tape.trans h.fr.tape, hg.output.trans h.fr.output, Nat.le_trans h.fr.size hg.size, fun k h1 h2' => (hg.block k (Nat.lt_of_lt_of_le h1 h.fr.size) (fun e => by have := (World.ownsRow.lt h2 k e.symm).1; omega)).trans (h.fr.block k h1 h2')⟩, Nat.le_trans h.sz hg.size, h.rl⟩
theorem QB.set {w : World} {R p s : Nat} {hv : Value} {held : List UInt8} {f : Int} {mv : Value} {met : List (List UInt8)} {bv : Value} {bs : List (List UInt8)} {wr : World} (h : QB w R p s hv held f mv met bv bs wr) (i : Nat) (v : Value) : QB w R p s hv held f mv met bv bs (wr.setCell ⟨w.heap.size + 1, i, none⟩ v) := by
  have hk : ∀ k, k ≠ w.heap.size + 1 → (wr.setCell ⟨w.heap.size + 1, i, none⟩ v).heap[k]? = wr.heap[k]? := fun k hk => setCell_other hk
  have hrl := h.rl
  refine ⟨(hk R (by omega)).trans h.rk, ?_, h.nil, h.hb, h.om.keep (fun k h1 _ => hk k (by omega)), h.ob.keep (fun k h1 _ => hk k (by omega)) (fun _ x => x.1) (fun _ x _ => x), (hk _ (by omega)).trans h.t6, ⟨h.fr.os, h.fr.tape, h.fr.output, by simpa using h.fr.size, fun k h1 h2 => (hk k (by omega)).trans (h.fr.block k h1 h2)⟩, by simpa using h.sz, h.rl⟩
  refine ⟨h.ow.1, ?_⟩
  rcases h.ow.2 with h1 | ⟨g, cap, cur, h1, h2, h3, h4⟩
  · exact .inl h1
  · have := h.hb g (by rw [h1]; rfl)
    exact .inr ⟨g, cap, cur, h1, h2, (hk g (by omega)).trans h3, h4⟩
/-- a push, from between to between -/
theorem QB.push {w : World} {R p s : Nat} {hv : Value} {held : List UInt8} {mv : Value} {met : List (List UInt8)} {bv : Value} {bs : List (List UInt8)} {wr w2 : World} (h : QB w R p s hv held 0 mv met bv bs wr)
    {T : List UInt8} {mv2 bv2 : Value} {er : Int} {met2 bs2 : List (List UInt8)} {h' : Bool} {r : List UInt8} {p' s' : Nat} {held' : List UInt8} {hv' : Value} (q : PO wr R (p == 2) T hv mv2 bv2 er met2 bs2 h' r p' s' held' hv' w2) :
    QB w R p' s' hv' held' er mv met bv bs w2 ∧ OM (w.heap.size + 2) w2 mv2 met2 ∧ OBs (w.heap.size + 2) (fun g => w.heap.size + 2 ≤ g ∧ hv'.ownBlock ≠ some g) w2 bv bs bv2 bs2 := by
  have hrl := h.rl
  have hfb : ∀ k, k < wr.heap.size → k ≠ R → hv.ownBlock ≠ some k → w2.heap[k]? = wr.heap[k]? := fun k h1 h2 h3 => q.fr.block k h1 ⟨h2, h3⟩
  have hty : ∀ {k t : Nat} {cs : Array Value} {f : Nat × Nat}, wr.heap[k]? = some (.cells cs t f) → k ≠ R → t ≠ 5 → w2.heap[k]? = some (.cells cs t f) := fun {k t cs f} h1 h2 h3 => by
    rw [hfb k (Array.getElem?_eq_some_iff.1 h1).1 h2 (fun e => ?_), h1]
    obtain ⟨cs', f', hc⟩ := row_of h.ow k e
    rw [h1] at hc
    simp at hc
    exact h3 hc.2.1
  have hhb : ∀ g, hv'.ownBlock = some g → w.heap.size + 2 ≤ g := fun g e => by
    rcases q.at_ with e2 | e2
    · exact h.hb g (by rw [← e2]; exact e)
    · have := e2 g e
      have := h.sz
      omega
  have hob : OB (w.heap.size + 2) (fun g => (w.heap.size + 2 ≤ g ∧ hv'.ownBlock ≠ some g) ∧ g < wr.heap.size) w2 bv bs := by
    obtain ⟨us, h1, h2, h3⟩ := h.ob
    refine ⟨us, h1, ⟨h2.1, ?_⟩, fun i hi => (h3 i hi).keep (fun k hk hl _ => hfb k hl (by omega) hk.2) (fun g x hl => ⟨⟨x.1, fun e => ?_⟩, hl⟩)⟩
    · rcases h2.2 with k1 | ⟨g, cap, cur, k1, k2, k3, k4⟩
      · exact .inl k1
      · exact .inr ⟨g, cap, cur, k1, k2, hty k3 (by omega) (by decide), k4⟩
    · rcases q.at_ with e2 | e2
      · exact x.2 (by rw [← e2]; exact e)
      · have := e2 g e
        omega
  refine ⟨⟨q.rk, q.ow, q.nil, hhb, ⟨?_, h.om.2⟩, hob.weak (Nat.le_refl _) (fun _ x => x.1), hty h.t6 (by omega) (by decide), ?_, Nat.le_trans h.sz q.fr.size, h.rl⟩, ⟨ownsRow_mono q.om.1 h.sz, q.om.2⟩, wr.heap.size, hob, q.ob.weak h.sz (fun g x => ⟨⟨Nat.le_trans h.sz x.1, x.2⟩, x.1⟩)⟩
  · refine ⟨h.om.1.1, ?_⟩
    rcases h.om.1.2 with h1 | ⟨g, cap, cur, h1, h2, h3, h4⟩
    · exact .inl h1
    · exact .inr ⟨g, cap, cur, h1, h2, hty h3 (by omega) (by decide), h4⟩
  · refine ⟨q.fr.os.trans h.fr.os, q.fr.tape.trans h.fr.tape, q.fr.output.trans h.fr.output, Nat.le_trans h.fr.size q.fr.size, fun k h1 h2 => (hfb k (Nat.lt_of_lt_of_le h1 h.fr.size) h2 (fun e => ?_)).trans (h.fr.block k h1 h2)⟩
    have := h.hb k e
    omega
end Go.Proofs.Ytmfeelkjbpjhdaa
