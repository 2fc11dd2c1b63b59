import Derived.Test.YtdchckelnccepaaDoorRows
import Derived.WalkKit
import Derived.BigQuiet
import Derived.Deep.QuietTactic
import Derived.WalkLawsBesides
import Derived.Lib.Hide
import Derived.Laws.OwnMore
import Derived.Below
import Derived.Lib.OwnKind
import Derived.Lib.AppendStr
import Derived.Laws.IdiomStrings
import Derived.Laws.CopyRow
import Derived.Lib.BufferWrite
import Derived.Laws.CopyOwn
import Derived.Deep.RegionLaw
import Derived.Laws.AppendOwnNone
import Derived.Laws.IdiomCopy
namespace Go.Proofs.YtdchckelnccepaaDoor.Bs
open Go.RowKit
/-- a list's byte -/
def byt (l : List UInt8) (i : Nat) : UInt8 := l.getD i 0
/-- the slice v of bytes reads as the list l -/
def RB (w : World) (v : Value) (l : List UInt8) : Prop :=
  ∃ a c, v = .slice a l.length c ∧ l.length ≤ c ∧ (l = [] ∨ ∃ g o, a = some ⟨g, o, none⟩ ∧ g < w.heap.size ∧ ∀ i, i < l.length → w.cell? ⟨g, o + i, none⟩ = some (.int .u8 ((byt l i).toNat : Int)))
theorem RB.keep {w w' : World} {v : Value} {l : List UInt8} (h : RB w v l) (hb : Below w.heap.size w w') : RB w' v l := by
  obtain ⟨a, c, rfl, hle, h⟩ := h
  refine ⟨a, c, rfl, hle, ?_⟩
  rcases h with h | ⟨g, o, h1, h2, h3⟩
  · exact .inl h
  · exact .inr ⟨g, o, h1, Nat.lt_of_lt_of_le h2 hb.size, fun i hi => (World.cell?_of_block (w := w) (hb.block g h2)).trans (h3 i hi)⟩
theorem belowDrew (w : World) (n : Nat) : Below w.heap.size w (w.drewN n) := ⟨rfl, rfl, rfl, Nat.le_refl _, fun _ _ => rfl⟩
theorem belowN {B : Nat} {a w : World} (h : Below B a w) (n : Nat) : Below B a (w.drewN n) := ⟨h.os, h.tape, h.output, h.size, h.block⟩
theorem info5 : (Tryd.prog.info? 5).map (fun i => (i.zero, i.size, i.bytes)) = some (some (.int .u8 0), 1, 1) := by kernel_rfl
/-- a list of bytes that the call owns -/
def OW (B : Nat) (w : World) (v : Value) (l : List UInt8) : Prop := w.ownsRow B 5 1 v l.length (Lib.byteCells l)
theorem getD_byt (l : List UInt8) (i : Nat) (hi : i < l.length) : byt l i = l[i] := by unfold byt; simp [List.getD, List.getElem?_eq_getElem hi]
theorem OW.rb {B : Nat} {w : World} {v : Value} {l : List UInt8} (h : OW B w v l) : RB w v l := by
  have h' := h
  rcases h.2 with ⟨rfl, h0⟩ | ⟨g, cap, cur, rfl, _, hg, hle, _⟩
  · have : l = [] := List.length_eq_zero_iff.1 h0
    subst this; exact ⟨none, 0, rfl, Nat.le_refl _, .inl rfl⟩
  · refine ⟨_, cap, rfl, hle, .inr ⟨g, 0, rfl, (Array.getElem?_eq_some_iff.1 hg).1, fun i hi => ?_⟩⟩
    have := World.ownsRow.cellAt h' i (by omega)
    rw [Nat.zero_add, this, getD_byt l i hi]
    simp [Lib.byteCells, List.getElem?_eq_getElem hi]
theorem OW.form {B : Nat} {w : World} {v : Value} {l : List UInt8} (h : OW B w v l) : ∃ a c, v = .slice a l.length c := by
  obtain ⟨a, c, h, _⟩ := h.rb
  exact ⟨a, c, h⟩
theorem OW.grow {B : Nat} {w w' : World} {v : Value} {l : List UInt8} (h : OW B w v l) (hb : Below w.heap.size w w') : OW B w' v l := by
  refine ⟨h.1, ?_⟩
  rcases h.2 with h1 | ⟨g, cap, cur, h1, h2, h3, h4⟩
  · exact .inl h1
  · exact .inr ⟨g, cap, cur, h1, h2, (hb.block g (Array.getElem?_eq_some_iff.1 h3).1).trans h3, h4⟩
theorem OW.alloc {B : Nat} {w : World} {v : Value} {l : List UInt8} (h : OW B w v l) (o : Obj) : OW B (w.alloc o) v l := h.grow ((Below.refl _ _).alloc (Nat.le_refl _) _)
theorem append_byte {ops : Array Oper} {rest : List Oper} {o : Oper} {a : Act} {Q : Exit → Act → World → Prop} {w : World} {B : Nat} {sv : Value} {l : List UInt8} (hgd : o.guard = none) (s x : Operand)
    (ho : o.op = .call { callee := .builtin .append, args := #[s, x], argTypes := #[28, 28] }) (hs : a.eval s = sv) (hown : OW B w sv l) (b : Nat) (c : UInt8) (hx : a.eval x = .slice (some ⟨b, 0, none⟩) 1 1)
    (hc : w.cell? ⟨b, 0, none⟩ = some (.int .u8 c.toNat)) (hB : B ≤ w.heap.size) (hlim : l.length < 140737488351232)
    (h : ∀ v' w', OW B w' v' (l ++ [c]) → Below B w w' → wpList Tryd.prog ops Q rest (a.put o.dst v') w') : wpList Tryd.prog ops Q (o :: rest) a w := by
  obtain ⟨i0, hi, hz0, hz1, hz2⟩ := info_parts info5
  refine wpList_append_own w hgd s x 28 ho B 5 i0 _ 1 1 Tryd.underlying28 hi hz0 hz1 hz2 rfl (by omega) sv l.length (Lib.byteCells l) hs hown ⟨b, 0, none⟩ 1 1 [.int .u8 c.toNat] hx rfl (fun j u hu => ?_) (fun u hu => ?_) (by unfold maxLen; omega) (by omega) hB (fun v' w' h1 h2 _ => ?_)
  · match j, hu with
    | 0, hu => simp at hu; subst hu; simpa [Addr.add] using hc
  · simp at hu; subst hu; rfl
  · refine h v' w' ?_ ((Below.refl B w).grown h2 hB (fun k hk => (World.ownsRow.lt hown k hk).1))
    have e : Lib.byteCells l ++ [Value.int .u8 c.toNat] = Lib.byteCells (l ++ [c]) := by simp [Lib.byteCells]
    rw [e] at h1
    simpa [OW] using h1
set_option maxHeartbeats 400000 in
/-- two lists that are the same -/
theorem same (v1 v2 : Value) (l : List UInt8) (w : World) (hl : l.length ≤ 140737488351232) (h1 : RB w v1 l) (h2 : RB w v2 l) :
    Calls Tryd.prog 8 #[v1, v2] w fun e w' => e = .returned (.bool true) ∧ ∃ n, w' = w.drewN n := by
  obtain ⟨a1, c1, rfl, _, h1⟩ := h1
  obtain ⟨a2, c2, rfl, _, h2⟩ := h2
  have HH : Hid ((l = [] ∨ ∃ g o, a1 = some ⟨g, o, none⟩ ∧ g < w.heap.size ∧ ∀ i, i < l.length → w.cell? ⟨g, o + i, none⟩ = some (.int .u8 ((byt l i).toNat : Int))) ∧
     (l = [] ∨ ∃ g o, a2 = some ⟨g, o, none⟩ ∧ g < w.heap.size ∧ ∀ i, i < l.length → w.cell? ⟨g, o + i, none⟩ = some (.int .u8 ((byt l i).toNat : Int)))) := ⟨h1, h2⟩
  clear h1 h2
  generalize hn : l.length = n at *
  have HN : Hid (l.length = n) := hn
  clear hn
  go_enter Tryd.func8, Tryd.ntmps8
  go_wp2
  go_loopw [5] (fun i wr => ∃ k nq : Nat, k ≤ n ∧ i = .int .i64 k ∧ wr = w.drewN nq) (fun i _ => n - (intOf i).toNat)
  case atStart => exact ⟨0, 0, Nat.zero_le _, rfl, rfl⟩
  case round =>
    obtain ⟨k, nq, hk, rfl, rfl⟩ := hrel
    by_cases hlt : k < n
    · rcases HH.out.1 with h | ⟨g1, o1, rfl, _, h1⟩
      · have := HN.out; rw [h] at this; simp at this; omega
      rcases HH.out.2 with h | ⟨g2, o2, rfl, _, h2⟩
      · have := HN.out; rw [h] at this; simp at this; omega
      have g1 := h1 k hlt
      have g2 := h2 k hlt
      generalize ((byt l k).toNat : Int) = x at g1 g2
      clear h1 h2 HH HN
      go_wp2
      go_quiet (fail)
      go_wp2
      exact ⟨⟨k + 1, _, by omega, by go_num, rfl⟩, by simp [intOf]; omega⟩
    · go_wp2
      go_ret
      exact ⟨rfl, nq, rfl⟩
theorem take_snoc (l : List UInt8) (k : Nat) (h : k < l.length) : l.take (k + 1) = l.take k ++ [byt l k] := by
  rw [List.take_succ_eq_append_getElem h, getD_byt l k h]
/-- the cells of bytes -/
def bc (l : List UInt8) : Array Value := (Lib.byteCells l).toArray
theorem bc_size (l : List UInt8) : (bc l).size = l.length := by simp [bc, Lib.byteCells]
theorem bc_list (l : List UInt8) : (bc l).toList = Lib.byteCells l := rfl
theorem bcl_append (l m : List UInt8) : Lib.byteCells (l ++ m) = Lib.byteCells l ++ Lib.byteCells m := by simp [Lib.byteCells]
theorem bcl_take (l : List UInt8) (n : Nat) : (Lib.byteCells l).take n = Lib.byteCells (l.take n) := by simp [Lib.byteCells]
theorem bcl_drop (l : List UInt8) (n : Nat) : (Lib.byteCells l).drop n = Lib.byteCells (l.drop n) := by simp [Lib.byteCells]
theorem bcl_len (l : List UInt8) : (Lib.byteCells l).length = l.length := by simp [Lib.byteCells]
theorem hs5 : (Tryd.prog.info? 5).map (·.size) = some 1 := by kernel_rfl
theorem heapSetRow (w : World) (g : Nat) (cur cs : Array Value) (t : TypeId) (hg : w.heap[g]? = some (.cells cur t (0, 0))) : (w.setRow g cs).heap[g]? = some (.cells cs t (0, 0)) := setRow_heap w g cur cs t (0, 0) hg
theorem OW.mono {B B' : Nat} {w : World} {v : Value} {l : List UInt8} (h : OW B w v l) (hb : B' ≤ B) : OW B' w v l := by
  refine ⟨h.1, ?_⟩
  rcases h.2 with h1 | ⟨g, cap, cur, h1, h2, h3⟩
  · exact .inl h1
  · exact .inr ⟨g, cap, cur, h1, Nat.le_trans hb h2, h3⟩
theorem heapNew (w : World) (o : Obj) : (w.alloc o).heap[w.heap.size]? = some o := by show (w.heap.push o)[w.heap.size]? = some o; simp
theorem heapOld (w : World) (o : Obj) (i : Nat) (h : i < w.heap.size) : (w.alloc o).heap[i]? = w.heap[i]? := by show (w.heap.push o)[i]? = w.heap[i]?; simp [Array.getElem?_push, Nat.ne_of_lt h]
/-- copy of bytes into a row of bytes -/
theorem copy_row (w : World) (ty : TypeId) (g o dl dc b so sl sc : Nat) (d s : List UInt8) (t : TypeId) (hg : w.heap[g]? = some (.cells (bc d) t (0, 0))) (hn : s.length = Nat.min sl dl)
    (hs : ∀ i, i < s.length → w.cell? ⟨b, so + i, none⟩ = some (.int .u8 ((byt s i).toNat : Int))) (hfit : o + s.length ≤ d.length) :
    (Builtin.copy_ #[28, 28] ty #[.slice (some ⟨g, o, none⟩) dl dc, .slice (some ⟨b, so, none⟩) sl sc]).run Tryd.prog w =
      .ok (goInt s.length) (w.setRow g (bc (d.take o ++ s ++ d.drop (o + s.length)))) := by
  have h := run_copy_row (P := Tryd.prog) w 28 28 ty 5 g o dl dc ⟨b, so, none⟩ sl sc (bc d) t (Lib.byteCells s) Tryd.underlying28 hs5 hg (by rw [bcl_len]; exact hn)
    (fun j v hj => by
      have hj' : j < s.length := by
        have := (List.getElem?_eq_some_iff.1 hj).1
        rwa [bcl_len] at this
      have hadd : (⟨b, so, none⟩ : Addr).add j = ⟨b, so + j, none⟩ := by unfold Addr.add; split <;> simp_all
      rw [hadd, hs j hj', getD_byt s j hj']
      simpa [Lib.byteCells, List.getElem?_eq_getElem hj'] using hj)
    (by rw [bcl_len, bc_size]; exact hfit) (Lib.byteCells_one _)
  rw [h, bcl_len]
  simp only [bc, bcl_append, bcl_take, bcl_drop]
theorem cell_bc {w : World} {g : Nat} {l : List UInt8} {t : TypeId} {f : Nat × Nat} (hg : w.heap[g]? = some (.cells (bc l) t f)) (i : Nat) (hi : i < l.length) : w.cell? ⟨g, i, none⟩ = some (.int .u8 ((byt l i).toNat : Int)) := by
  simp [World.cell?, hg, bc, Lib.byteCells, hi, getD_byt l i hi]
theorem byt_drop (l : List UInt8) (n i : Nat) : byt (l.drop n) i = byt l (n + i) := by simp [byt, List.getD]
theorem byt_take (l : List UInt8) (n i : Nat) (h : i < n) : byt (l.take n) i = byt l i := by simp [byt, List.getD, List.getElem?_take_of_lt h]
theorem belowSetRow {B g : Nat} {a w : World} (h : Below B a w) (hg : B ≤ g) (cs : Array Value) : Below B a (w.setRow g cs) := below_setRow h hg cs
/-- so many zero bytes -/
def zr (n : Nat) : List UInt8 := List.replicate n 0
theorem zr_len (n : Nat) : (zr n).length = n := List.length_replicate
theorem zeros_bc (n : Nat) : madeCells #[.int .u8 0] n = bc (zr n) := by
  unfold zr
  apply Array.ext'
  apply List.ext_getElem?
  intro i
  simp [bc, Lib.byteCells, madeCells, List.getElem?_replicate]
  by_cases h : i < n <;> simp [h, Nat.mod_one]
theorem make_bytes (n : Nat) (hn : n ≤ 140737488351232) (u : World) : (Instr.makeSlice 28 (.int .i64 (n : Int)) (.int .i64 (n : Int))).run Tryd.prog u =
      .ok (.slice (some ⟨u.heap.size, 0, none⟩) n n) (u.alloc (.cells (bc (zr n)) 5)) := by
  obtain ⟨i0, hi, hz0, hz1, hz2⟩ := info_parts info5
  have h := run_make (P := Tryd.prog) u 28 5 i0 (.int .u8 0) Tryd.underlying28 hi hz0 .i64 .i64 (n : Int) (n : Int) (by omega) (by omega) (by rw [hz2]; omega) (by omega)
  rw [← zeros_bc]
  simpa [hz1, Value.cells] using h
/-- a block of bytes of one's own is a list of one's own -/
theorem OW.of_block {B g cap : Nat} {w : World} {l m : List UInt8} (hB : B ≤ g) (hg : w.heap[g]? = some (.cells (bc m) 5 (0, 0))) (hc : cap = m.length) (hl : m.take l.length = l) (hle : l.length ≤ m.length) (hm : m.length ≤ maxLen) : OW B w (.slice (some ⟨g, 0, none⟩) l.length cap) l := by
  refine ⟨by simp [Lib.byteCells], .inr ⟨g, cap, bc m, rfl, hB, hg, by omega, by omega, by rw [bc_size, hc, Nat.mul_one], ?_⟩⟩
  rw [bc_list, Nat.mul_one, bcl_take, hl]
theorem wpList_copy_r {ops : Array Oper} {rest : List Oper} {o : Oper} {a : Act} {Q : Exit → Act → World → Prop} {w : World} (hgd : o.guard = none) (d s : Operand) (t t' : TypeId)
    (ho : o.op = .call { callee := .builtin .copy, args := #[d, s], argTypes := #[t, t'] }) (v u : Value) (hd : a.eval d = v) (hs : a.eval s = u) {v' : Value} {w' : World}
    (hr : (Builtin.copy_ #[t, t'] o.type #[v, u]).run Tryd.prog w = .ok v' w') (h : wpList Tryd.prog ops Q rest (a.put o.dst v') w') : wpList Tryd.prog ops Q (o :: rest) a w :=
  wpList_plain hgd fun _ hK => by
    unfold Oper.wp execOp
    simp only [ho, resolve, invoke, builtin, Sem.run_bind, Sem.run_pure, Result.andThen_ok, List.map_toArray, List.map_cons, List.map_nil, hd, hs, hr]
    exact hK _ _ h
theorem step_copy_r {ops : Array Oper} {o : Oper} {a : Act} {w : World} {K : Act → World → Prop} {Q : Exit → Act → World → Prop} {E : Prop}
    (hg : o.guard = none) (d x : Operand) (dT sT : TypeId) (hop : o.op = Op.call { callee := Callee.builtin Builtin.copy, args := #[d, x], argTypes := #[dT, sT] })
    (v u : Value) (hd : a.eval d = v) (hx : a.eval x = u) {v' : Value} {w' : World} (hr : (Builtin.copy_ #[dT, sT] o.type #[v, u]).run Tryd.prog w = .ok v' w') (hK : K (a.put o.dst v') w') :
    if Region.wanted o (yielded ops a.tmps) = true then Oper.wp Tryd.prog o a w K Q else E := by
  have hw : Region.wanted o (yielded ops a.tmps) = true := by simp [Region.wanted, hg]
  rw [if_pos hw]
  unfold Oper.wp
  simp [execOp, hop, resolve, invoke, builtin, hd, hx, hr, Result.andThen]
  exact hK
/-- one more part is copied -/
theorem copy_part (w0 w : World) (G H o so n : Nat) (d s : List UInt8) (t t2 : TypeId) (hg : w.heap[G]? = some (.cells (bc d) t (0, 0))) (hh : w.heap[H]? = some (.cells (bc s) t2 (0, 0))) (hne : H ≠ G) (hG : w0.heap.size ≤ G) (hso : so + n ≤ s.length) (hfit : o + n ≤ d.length) (hB : Below w0.heap.size w0 w) :
    ∃ W, (∀ ty dl dc sc, n ≤ dl → (Builtin.copy_ #[28, 28] ty #[.slice (some ⟨G, o, none⟩) dl dc, .slice (some ⟨H, so, none⟩) n sc]).run Tryd.prog w = .ok (goInt n) W) ∧ W.heap[G]? = some (.cells (bc (d.take o ++ (s.drop so).take n ++ d.drop (o + n))) t (0, 0)) ∧ W.heap[H]? = some (.cells (bc s) t2 (0, 0)) ∧ Below w0.heap.size w0 W := by
  have hlen : ((s.drop so).take n).length = n := by rw [List.length_take, List.length_drop]; omega
  refine ⟨_, fun ty dl dc sc hd => ?_, heapSetRow _ _ _ _ _ hg, ?_, belowSetRow hB hG _⟩
  · have h := copy_row w ty G o dl dc H so n sc d ((s.drop so).take n) t hg (by rw [hlen]; exact (Nat.min_eq_left hd).symm) (fun i hi => by
      rw [hlen] at hi
      rw [byt_take _ _ _ hi, byt_drop]
      exact cell_bc hh (so + i) (by omega)) (by rw [hlen]; exact hfit)
    rw [hlen] at h
    exact h
  · rw [setRow_other _ _ _ _ hne]; exact hh
theorem splice_at {A P Z : List UInt8} {o n : Nat} (hA : A.length = o) (hP : P.length = n) : (A ++ Z).take o ++ P ++ (A ++ Z).drop (o + n) = (A ++ P) ++ Z.drop n := by
  subst hA hP
  rw [List.take_left, List.drop_append]
  simp
theorem cut_len (s : List UInt8) (a n : Nat) (h : a + n ≤ s.length) : ((s.drop a).take n).length = n := by rw [List.length_take, List.length_drop]; omega
theorem cut_join (s : List UInt8) (a n m : Nat) : (s.drop a).take n ++ (s.drop (a + n)).take m = (s.drop a).take (n + m) := by
  rw [List.take_add, List.drop_drop]
theorem append_nothing {w : World} {B : Nat} {v : Value} {n : Nat} {xs : List Value} (ty : TypeId) (c : Nat) (hown : w.ownsRow B 5 1 v n xs) :
    (Builtin.append_ #[28, 28] ty #[v, .slice none 0 c]).run Tryd.prog w = .ok v w := by
  obtain ⟨i0, hi, hz0, hz1, hz2⟩ := info_parts info5
  rcases hown.2 with ⟨rfl, rfl⟩ | ⟨g, cap, cur, rfl, _, _, hnc, _⟩
  · simp [Builtin.append_, run_underlying Tryd.underlying28, sizeOf, typeInfo, hi, Builtin.lenOf, Builtin.firstCells]
  · simp [Builtin.append_, run_underlying Tryd.underlying28, sizeOf, typeInfo, hi, Builtin.lenOf, Builtin.firstCells, hnc, storeCells]
/-- append(x, y...) where x is the call's own -/
theorem append_bytes {ops : Array Oper} {rest : List Oper} {o : Oper} {a : Act} {Q : Exit → Act → World → Prop} {w : World} {B : Nat} {sv xv : Value} {l m : List UInt8} (hgd : o.guard = none) (s x : Operand)
    (ho : o.op = .call { callee := .builtin .append, args := #[s, x], argTypes := #[28, 28] }) (hs : a.eval s = sv) (hown : OW B w sv l) (hx : a.eval x = xv)
    (hr : RB w xv m) (hB : B ≤ w.heap.size) (hlim : l.length + m.length ≤ 140737488351232)
    (h : ∀ v' w', OW B w' v' (l ++ m) → Below B w w' → wpList Tryd.prog ops Q rest (a.put o.dst v') w') : wpList Tryd.prog ops Q (o :: rest) a w := by
  obtain ⟨i0, hi, hz0, hz1, hz2⟩ := info_parts info5
  obtain ⟨ad, c, rfl, _, hr⟩ := hr
  have hm : ∀ b off, ad = some ⟨b, off, none⟩ ∧ (∀ i, i < m.length → w.cell? ⟨b, off + i, none⟩ = some (.int .u8 ((byt m i).toNat : Int))) → wpList Tryd.prog ops Q (o :: rest) a w := by
    rintro b off ⟨rfl, hc⟩
    refine wpList_append_own w hgd s x 28 ho B 5 i0 _ 1 1 Tryd.underlying28 hi hz0 hz1 hz2 rfl (by omega) sv l.length (Lib.byteCells l) hs hown ⟨b, off, none⟩ m.length c (Lib.byteCells m) hx (by rw [bcl_len, Nat.mul_one]) (fun j u hu => ?_) (Lib.byteCells_one _) (by unfold maxLen; omega) (by omega) hB (fun v' w' h1 h2 _ => ?_)
    · have hj' : j < m.length := by
        have := (List.getElem?_eq_some_iff.1 hu).1
        rwa [bcl_len] at this
      have hadd : (⟨b, off, none⟩ : Addr).add j = ⟨b, off + j, none⟩ := by unfold Addr.add; split <;> simp_all
      rw [hadd, hc j hj', getD_byt m j hj']
      simpa [Lib.byteCells, List.getElem?_eq_getElem hj'] using hu
    · refine h v' w' ?_ ((Below.refl B w).grown h2 hB (fun k hk => (World.ownsRow.lt hown k hk).1))
      rw [← bcl_append] at h1
      simpa [OW] using h1
  rcases hr with rfl | ⟨b, off, rfl, _, hc⟩
  · cases ad with
    | none =>
      refine wpList_plain hgd fun K hK => ?_
      have hrun := append_nothing o.type c hown
      simp only [List.length_nil] at hx
      unfold Oper.wp
      simp [execOp, ho, resolve, invoke, builtin, hs, hx, hrun, Result.andThen]
      exact hK _ _ (h _ _ (by rw [List.append_nil]; exact hown) (Below.refl _ _))
    | some ad =>
      refine wpList_append_own w hgd s x 28 ho B 5 i0 _ 1 1 Tryd.underlying28 hi hz0 hz1 hz2 rfl (by omega) sv l.length (Lib.byteCells l) hs hown ad 0 c [] hx (by simp) (fun j u hu => by simp at hu) (fun u hu => by cases hu) (by unfold maxLen; simp at hlim; omega) (by simp at hlim; omega) hB (fun v' w' h1 h2 _ => ?_)
      refine h v' w' ?_ ((Below.refl B w).grown h2 hB (fun k hk => (World.ownsRow.lt hown k hk).1))
      rw [List.append_nil] at h1 ⊢
      simpa [OW] using h1
  · exact hm b off ⟨rfl, hc⟩
/-- nothing but some blocks has turned -/
structure Fr (S : Nat → Prop) (w w' : World) : Prop where
  os : w'.os = w.os
  tape : w'.tape = w.tape
  output : w'.output = w.output
  size : w.heap.size ≤ w'.heap.size
  block : ∀ k, k < w.heap.size → S k → w'.heap[k]? = w.heap[k]?
theorem Fr.refl (S : Nat → Prop) (w : World) : Fr S w w := ⟨rfl, rfl, rfl, Nat.le_refl _, fun _ _ _ => rfl⟩
theorem Fr.of_below {S : Nat → Prop} {w w' : World} (h : Below w.heap.size w w') : Fr S w w' := ⟨h.os, h.tape, h.output, h.size, fun k hk _ => h.block k hk⟩
theorem Fr.below {w w' : World} (h : Fr (fun _ => True) w w') : Below w.heap.size w w' := ⟨h.os, h.tape, h.output, h.size, fun k hk => h.block k hk trivial⟩
theorem Fr.trans {S T : Nat → Prop} {w w' w'' : World} (a : Fr S w w') (b : Fr T w' w'') (h : ∀ k, k < w.heap.size → S k → T k) : Fr S w w'' :=
  ⟨b.os.trans a.os, b.tape.trans a.tape, b.output.trans a.output, Nat.le_trans a.size b.size, fun k hk hs => (b.block k (Nat.lt_of_lt_of_le hk a.size) (h k hk hs)).trans (a.block k hk hs)⟩
theorem Fr.mono {S T : Nat → Prop} {w w' : World} (a : Fr S w w') (h : ∀ k, k < w.heap.size → T k → S k) : Fr T w w' := ⟨a.os, a.tape, a.output, a.size, fun k hk ht => a.block k hk (h k hk ht)⟩
theorem Fr.drew {S : Nat → Prop} {w w' : World} (a : Fr S w w') (n : Nat) : Fr S w (w'.drewN n) := ⟨a.os, a.tape, a.output, a.size, a.block⟩
theorem setCell_other {w : World} {R i k : Nat} {v : Value} (h : k ≠ R) : (w.setCell ⟨R, i, none⟩ v).heap[k]? = w.heap[k]? := Below.heap_setCell _ _ _ _ (fun e => h e)
theorem Fr.setCell {S : Nat → Prop} {w w' : World} (a : Fr S w w') (R i : Nat) (v : Value) (h : R < w.heap.size → ¬ S R) : Fr S w (w'.setCell ⟨R, i, none⟩ v) :=
  ⟨a.os, a.tape, a.output, by simpa using a.size, fun k hk hs => (setCell_other (fun e => by subst e; exact h hk hs)).trans (a.block k hk hs)⟩
theorem Fr.setRow {S : Nat → Prop} {w w' : World} (a : Fr S w w') (R : Nat) (cs : Array Value) (h : R < w.heap.size → ¬ S R) : Fr S w (w'.setRow R cs) :=
  ⟨a.os, a.tape, a.output, by simpa using a.size, fun k hk hs => (setRow_other _ _ _ _ (fun e => by subst e; exact h hk hs)).trans (a.block k hk hs)⟩
theorem Fr.alloc {S : Nat → Prop} {w w' : World} (a : Fr S w w') (o : Obj) : Fr S w (w'.alloc o) :=
  ⟨a.os, a.tape, a.output, by show _ ≤ (w'.heap.push o).size; rw [Array.size_push]; exact Nat.le_succ_of_le a.size, fun k hk hs => (heapOld _ _ _ (Nat.lt_of_lt_of_le hk a.size)).trans (a.block k hk hs)⟩
theorem Fr.grown {S : Nat → Prop} {w w' w'' : World} {row : Option Nat} (a : Fr S w w') (g : w'.grownBy w'' row) (h : ∀ k, row = some k → k < w.heap.size → ¬ S k) : Fr S w w'' :=
  ⟨g.os.trans a.os, g.tape.trans a.tape, g.output.trans a.output, Nat.le_trans a.size g.size, fun k hk hs => (g.block k (Nat.lt_of_lt_of_le hk a.size) (fun e => h k e.symm hk hs)).trans (a.block k hk hs)⟩
theorem RB.fr {S : Nat → Prop} {w w' : World} {v : Value} {l : List UInt8} (h : RB w v l) (hf : Fr S w w') (hs : ∀ g, v.ownBlock = some g → S g) : RB w' v l := by
  obtain ⟨a, c, rfl, hle, h⟩ := h
  refine ⟨a, c, rfl, hle, ?_⟩
  rcases h with h | ⟨g, o, rfl, h2, h3⟩
  · exact .inl h
  · exact .inr ⟨g, o, rfl, Nat.lt_of_lt_of_le h2 hf.size, fun i hi => (World.cell?_of_block (w := w) (hf.block g h2 (hs g rfl))).trans (h3 i hi)⟩
theorem ownsRow_fr {S : Nat → Prop} {w w' : World} {B e size n : Nat} {v : Value} {xs : List Value} (h : w.ownsRow B e size v n xs) (hf : Fr S w w') (hs : ∀ g, v.ownBlock = some g → S g) : w'.ownsRow B e size v n xs := by
  refine ⟨h.1, ?_⟩
  rcases h.2 with h1 | ⟨g, cap, cur, rfl, h2, h3, h4⟩
  · exact .inl h1
  · exact .inr ⟨g, cap, cur, rfl, h2, (hf.block g (Array.getElem?_eq_some_iff.1 h3).1 (hs g rfl)).trans h3, h4⟩
theorem ownsRow_lt {w : World} {B e size n : Nat} {v : Value} {xs : List Value} (h : w.ownsRow B e size v n xs) : ∀ g, v.ownBlock = some g → g < w.heap.size ∧ ∃ cs, w.heap[g]? = some (.cells cs e (0, 0)) := by
  intro g hg
  rcases h.2 with ⟨rfl, _⟩ | ⟨b, cap, cur, rfl, h2, h3, _⟩
  · simp [Value.ownBlock] at hg
  · simp [Value.ownBlock] at hg
    subst hg
    exact ⟨(Array.getElem?_eq_some_iff.1 h3).1, _, h3⟩
theorem ownsRow_form {w : World} {B e size n : Nat} {v : Value} {xs : List Value} (h : w.ownsRow B e size v n xs) : ∃ a c, v = .slice a n c := by
  rcases h.2 with ⟨rfl, h0⟩ | ⟨g, cap, _, rfl, _⟩
  · rw [h0]; exact ⟨none, 0, rfl⟩
  · exact ⟨_, cap, rfl⟩
theorem ownsRow_base {w : World} {B B' e size n : Nat} {v : Value} {xs : List Value} (h : w.ownsRow B e size v n xs) (hb : B' ≤ B) : w.ownsRow B' e size v n xs := by
  refine ⟨h.1, ?_⟩
  rcases h.2 with h1 | ⟨g, cap, cur, h1, h2, h3⟩
  · exact .inl h1
  · exact .inr ⟨g, cap, cur, h1, Nat.le_trans hb h2, h3⟩
end Go.Proofs.YtdchckelnccepaaDoor.Bs
