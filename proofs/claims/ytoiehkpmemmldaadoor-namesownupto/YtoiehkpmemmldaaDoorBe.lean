import Derived.Test.YtoiehkpmemmldaaDoorBd
import Derived.Test.YtoiehkpmemmldaaDoorOp0
import Derived.Deep.QuietTactic
import Derived.BigQuiet
namespace Go.Proofs.YtoiehkpmemmldaaDoor
open Go.RowKit
theorem strs_one (l : List ByteArray) : ∀ u ∈ l.map Value.string, u.oneCell' = true := by
  intro u hu
  obtain ⟨z, _, rfl⟩ := List.mem_map.1 hu
  rfl
theorem ints_one (l : List Nat) : ∀ u ∈ l.map (fun x : Nat => Value.int .i64 (x : Int)), u.oneCell' = true := by
  intro u hu
  obtain ⟨z, _, rfl⟩ := List.mem_map.1 hu
  rfl
theorem append_nothingL {w : World} {B e t : Nat} {sz : Nat} {v : Value} {n : Nat} {xs : List Value} (i0 : TypeInfo) (h1 : Tryd.prog.underlying t = some (.slice e)) (h2 : Tryd.prog.info? e = some i0) (ty : TypeId) (c : Nat) (hown : w.ownsRow B e sz v n xs) :
    (Builtin.append_ #[t, t] ty #[v, .slice none 0 c]).run Tryd.prog w = .ok v w := by
  rcases hown.2 with ⟨rfl, rfl⟩ | ⟨g, cap, cur, rfl, _, _, hnc, _⟩
  · simp [Builtin.append_, run_underlying h1, sizeOf, typeInfo, h2, Builtin.lenOf, Builtin.firstCells]
  · simp [Builtin.append_, run_underlying h1, sizeOf, typeInfo, h2, Builtin.lenOf, Builtin.firstCells, hnc, storeCells]
/-- append(x, y...): y is read -/
theorem append_read {ops : Array Oper} {rest : List Oper} {o : Oper} {a : Act} {Q : Exit → Act → World → Prop} {w : World} {B : Nat} {e t : TypeId} {sv : Value} {n m cx : Nat} {ax : Option Addr} {xs us : List Value} (i0 : TypeInfo) (z : Value) (bytes : Nat) (hgd : o.guard = none) (s x : Operand)
    (ho : o.op = .call { callee := .builtin .append, args := #[s, x], argTypes := #[t, t] }) (h1 : Tryd.prog.underlying t = some (.slice e)) (h2 : Tryd.prog.info? e = some i0) (h3 : i0.zero = some z) (h4 : i0.size = 1) (h5 : i0.bytes = bytes) (h6 : z.cells.size = 1)
    (hs : a.eval s = sv) (hown : w.ownsRow B e 1 sv n xs) (hx : a.eval x = .slice ax m cx) (hul : us.length = m) (hxo : us = [] ∨ ∃ b o, ax = some ⟨b, o, none⟩ ∧ ∀ j u, us[j]? = some u → w.cell? ⟨b, o + j, none⟩ = some u) (h1c : ∀ u ∈ us, u.oneCell' = true) (hB : B ≤ w.heap.size) (b1 : n + m ≤ maxLen) (b2 : (n + m) * bytes ≤ 140737488355328)
    (h : ∀ v' w', w'.ownsRow B e 1 v' (n + m) (xs ++ us) → w.grownBy w' sv.ownBlock → wpList Tryd.prog ops Q rest (a.put o.dst v') w') : wpList Tryd.prog ops Q (o :: rest) a w := by
  have key : ∀ ad : Addr, ax = some ad → (∀ j u, us[j]? = some u → w.cell? (ad.add j) = some u) → wpList Tryd.prog ops Q (o :: rest) a w := fun ad e hc => by
    subst e
    refine wpList_append_own w hgd s x t ho B e i0 z 1 bytes h1 h2 h3 h4 h5 h6 (by omega) sv n xs hs hown ad m cx us hx (by rw [hul, Nat.mul_one]) hc h1c b1 b2 hB (fun v' w' q1 q2 _ => h v' w' q1 q2)
  rcases hxo with rfl | ⟨b, off, rfl, hc⟩
  · simp only [List.length_nil] at hul
    subst hul
    cases ax with
    | none =>
      refine wpList_plain hgd fun K hK => ?_
      have hrun := append_nothingL i0 h1 h2 o.type cx hown
      unfold Oper.wp
      simp [execOp, ho, resolve, invoke, builtin, hs, hx, hrun, Result.andThen]
      exact hK _ _ (h _ _ (by simpa using hown) ⟨rfl, rfl, rfl, Nat.le_refl _, fun _ _ _ => rfl⟩)
    | some ad => exact key ad rfl (fun j u hu => by simp at hu)
  · refine key ⟨b, off, none⟩ rfl (fun j u hu => ?_)
    have hadd : (⟨b, off, none⟩ : Addr).add j = ⟨b, off + j, none⟩ := by unfold Addr.add; split <;> simp_all
    rw [hadd]
    exact hc j u hu
theorem SR.cells {w : World} {l : List ByteArray} {a : Option Addr} {n c : Nat} (h : SR w l (.slice a n c)) : n = l.length ∧ (l.map Value.string = [] ∨ ∃ b o, a = some ⟨b, o, none⟩ ∧ ∀ j u, (l.map Value.string)[j]? = some u → w.cell? ⟨b, o + j, none⟩ = some u) := by
  obtain ⟨a', c', e, _, h⟩ := h
  simp only [Value.slice.injEq] at e
  obtain ⟨rfl, rfl, rfl⟩ := e
  refine ⟨rfl, ?_⟩
  rcases h with rfl | ⟨b, o, rfl, _, hc⟩
  · exact .inl rfl
  · refine .inr ⟨b, o, rfl, fun j u hu => ?_⟩
    have hj : j < l.length := by
      have := (List.getElem?_eq_some_iff.1 hu).1
      simpa using this
    rw [hc j hj, sa_get hj]
    rw [List.getElem?_map, List.getElem?_eq_getElem hj] at hu
    simpa using hu
theorem IR.cells {w : World} {l : List Nat} {a : Option Addr} {n c : Nat} (h : IR w l (.slice a n c)) : n = l.length ∧ (l.map (fun x : Nat => Value.int .i64 (x : Int)) = [] ∨ ∃ b o, a = some ⟨b, o, none⟩ ∧ ∀ j u, (l.map (fun x : Nat => Value.int .i64 (x : Int)))[j]? = some u → w.cell? ⟨b, o + j, none⟩ = some u) := by
  obtain ⟨a', c', e, h⟩ := h
  simp only [Value.slice.injEq] at e
  obtain ⟨rfl, rfl, rfl⟩ := e
  refine ⟨rfl, ?_⟩
  rcases h with rfl | ⟨b, o, rfl, _, hc⟩
  · exact .inl rfl
  · refine .inr ⟨b, o, rfl, fun j u hu => ?_⟩
    have hj : j < l.length := by
      have := (List.getElem?_eq_some_iff.1 hu).1
      simpa using this
    rw [hc j hj]
    rw [List.getElem?_map, List.getElem?_eq_getElem hj] at hu
    simpa [List.getD, List.getElem?_eq_getElem hj] using hu
/-- a list is gone on with, among others -/
theorem append_PI {ops : Array Oper} {rest : List Oper} {o : Oper} {a : Act} {Q : Exit → Act → World → Prop} {w0 w : World} (ls rs : List Itm) {e t : TypeId} {v0 v : Value} {n k : Nat} {xs ys : List Value} (i0 : TypeInfo) (z : Value) (bytes : Nat) (hgd : o.guard = none) (s x : Operand)
    (ho : o.op = .call { callee := .builtin .append, args := #[s, x], argTypes := #[t, t] }) (h1 : Tryd.prog.underlying t = some (.slice e)) (h2 : Tryd.prog.info? e = some i0) (h3 : i0.zero = some z) (h4 : i0.size = 1) (h5 : i0.bytes = bytes) (h6 : z.cells.size = 1)
    (hs : a.eval s = v) (hbag : Bag w0 w (ls ++ PI w0.heap.size e v0 n xs v k ys :: rs)) (b : Nat) (u : Value) (hx : a.eval x = .slice (some ⟨b, 0, none⟩) 1 1) (hc : w.cell? ⟨b, 0, none⟩ = some u) (h1c : u.oneCell' = true) (b1 : n + k + 1 ≤ maxLen) (b2 : (n + k + 1) * bytes ≤ 140737488355328)
    (h : ∀ a' c' w', Bag w0 w' (ls ++ PI w0.heap.size e v0 n xs (.slice a' (n + k + 1) c') (k + 1) (ys ++ [u]) :: rs) → wpList Tryd.prog ops Q rest (a.put o.dst (.slice a' (n + k + 1) c')) w') : wpList Tryd.prog ops Q (o :: rest) a w := by
  obtain ⟨_, zs, hz, hrow⟩ := (hbag.ok (PI w0.heap.size e v0 n xs v k ys) (by simp)).a
  refine append_bothL (us := [u]) i0 z bytes hgd s x ho h1 h2 h3 h4 h5 h6 (by omega) (show 0 < 1 by omega) hs hrow ⟨b, 0, none⟩ 1 hx rfl (fun j u' hu => ?_) (by simpa using h1c) hbag.bel.size b1 b2 (fun v' w' q1 q2 q3 q4 => ?_)
  · match j, hu with
    | 0, hu => simp at hu; subst hu; rw [addr0]; exact hc
  · obtain ⟨a', c', rfl⟩ := ownsRow_form q1
    exact h a' c' w' (PI.app hbag hz q1 q2 q3 q4)
theorem Bag.addP {w0 w w' : World} {xs : List Itm} {e n : Nat} {v : Value} {ys : List Value} (h : Bag w0 w xs) (hb : Below w.heap.size w w') (hy : w'.ownsRow w.heap.size e 1 v n ys) : Bag w0 w' (PI w0.heap.size e v n ys v 0 [] :: xs) := by
  have h1 := PI.start (ownsRow_base hy h.bel.size)
  exact h.add hb _ ⟨h1.a, fun q hq => by rcases hq with hq | hq <;> exact (World.ownsRow.lt hy q hq).1, h1.hi, h1.loc⟩
theorem Bag.addL {w0 w w' : World} {xs : List Itm} {e n : Nat} {v : Value} {ys : List Value} (h : Bag w0 w xs) (hb : Below w.heap.size w w') (hy : w'.ownsRow w.heap.size e 1 v n ys) : Bag w0 w' (LIt w0.heap.size e v n ys :: xs) := by
  have h1 := LIt.ok hy h.bel.size
  exact h.add hb _ ⟨h1.a, fun q hq => (World.ownsRow.lt hy q hq).1, h1.hi, h1.loc⟩
theorem ofGrown {w w' : World} (h : w.grownBy w' none) : Below w.heap.size w w' := ⟨h.os, h.tape, h.output, h.size, fun k hk => h.block k hk (by simp)⟩
/-- the marks behind a list stand -/
theorem PI.tail {B e : Nat} {v0 : Value} {n : Nat} {xs : List Value} {a : Option Addr} {m c k : Nat} {x : Value} {w : World} (h : (PI B e v0 n xs (.slice a m c) k (List.replicate k x)).A w) (hk : 0 < k) : ∃ g, a = some ⟨g, 0, none⟩ ∧ ∀ j, j < k → w.cell? ⟨g, n + j, none⟩ = some x := by
  obtain ⟨_, zs, hz, hr⟩ := h
  rcases hr.2 with ⟨_, h0⟩ | ⟨g, cap, cur, e1, _⟩
  · omega
  · simp only [Value.slice.injEq] at e1
    obtain ⟨rfl, rfl, rfl⟩ := e1
    refine ⟨g, rfl, fun j hj => ?_⟩
    rw [World.ownsRow.cellAt hr (n + j) (by omega), List.getElem?_append_right (by omega), hz, Nat.add_sub_cancel_left]
    simp [hj]
end Go.Proofs.YtoiehkpmemmldaaDoor
