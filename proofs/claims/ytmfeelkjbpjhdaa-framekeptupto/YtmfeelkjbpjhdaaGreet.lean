import Derived.Test.YtmfeelkjbpjhdaaBase
import Derived.Laws.CopyRow
import Derived.Lib.BufferWrite
import Derived.Laws.CopyOwn
import Derived.Deep.RegionLaw
namespace Go.Proofs.Ytmfeelkjbpjhdaa
open Go.RowKit
/-- what every handshake begins with -/
def sgn : List UInt8 := [19, 66, 105, 116, 84, 111, 114, 114, 101, 110, 116, 32, 112, 114, 111, 116, 111, 99, 111, 108]
/-- the cells of bytes -/
def bc (l : List UInt8) : Array Value := (Lib.byteCells l).toArray
theorem bc_size (l : List UInt8) : (bc l).size = l.length := by simp [bc, Lib.byteCells]
theorem bc_list (l : List UInt8) : (bc l).toList = Lib.byteCells l := rfl
theorem bcl_append (l m : List UInt8) : Lib.byteCells (l ++ m) = Lib.byteCells l ++ Lib.byteCells m := by simp [Lib.byteCells]
theorem bcl_take (l : List UInt8) (n : Nat) : (Lib.byteCells l).take n = Lib.byteCells (l.take n) := by simp [Lib.byteCells]
theorem bcl_drop (l : List UInt8) (n : Nat) : (Lib.byteCells l).drop n = Lib.byteCells (l.drop n) := by simp [Lib.byteCells]
theorem bcl_len (l : List UInt8) : (Lib.byteCells l).length = l.length := by simp [Lib.byteCells]
theorem hs5 : (Try.prog.info? 5).map (·.size) = some 1 := by kernel_rfl
theorem heapSetRow (w : World) (g : Nat) (cur cs : Array Value) (t : TypeId) (hg : w.heap[g]? = some (.cells cur t (0, 0))) : (w.setRow g cs).heap[g]? = some (.cells cs t (0, 0)) := setRow_heap w g cur cs t (0, 0) hg
theorem OW.mono {B B' : Nat} {w : World} {v : Value} {l : List UInt8} (h : OW B w v l) (hb : B' ≤ B) : OW B' w v l := by
  refine ⟨h.1, ?_⟩
  rcases h.2 with h1 | ⟨g, cap, cur, h1, h2, h3⟩
  · exact .inl h1
  · exact .inr ⟨g, cap, cur, h1, Nat.le_trans hb h2, h3⟩
theorem heapNew (w : World) (o : Obj) : (w.alloc o).heap[w.heap.size]? = some o := by show (w.heap.push o)[w.heap.size]? = some o; simp
theorem heapOld (w : World) (o : Obj) (i : Nat) (h : i < w.heap.size) : (w.alloc o).heap[i]? = w.heap[i]? := by show (w.heap.push o)[i]? = w.heap[i]?; simp [Array.getElem?_push, Nat.ne_of_lt h]
/-- copy of bytes into a row of bytes -/
theorem copy_row (w : World) (ty : TypeId) (g o dl dc b so sl sc : Nat) (d s : List UInt8) (t : TypeId) (hg : w.heap[g]? = some (.cells (bc d) t (0, 0))) (hn : s.length = Nat.min sl dl)
    (hs : ∀ i, i < s.length → w.cell? ⟨b, so + i, none⟩ = some (.int .u8 ((byt s i).toNat : Int))) (hfit : o + s.length ≤ d.length) :
    (Builtin.copy_ #[28, 28] ty #[.slice (some ⟨g, o, none⟩) dl dc, .slice (some ⟨b, so, none⟩) sl sc]).run Try.prog w =
      .ok (goInt s.length) (w.setRow g (bc (d.take o ++ s ++ d.drop (o + s.length)))) := by
  have h := run_copy_row (P := Try.prog) w 28 28 ty 5 g o dl dc ⟨b, so, none⟩ sl sc (bc d) t (Lib.byteCells s) Try.underlying28 hs5 hg (by rw [bcl_len]; exact hn)
    (fun j v hj => by
      have hj' : j < s.length := by
        have := (List.getElem?_eq_some_iff.1 hj).1
        rwa [bcl_len] at this
      have hadd : (⟨b, so, none⟩ : Addr).add j = ⟨b, so + j, none⟩ := by unfold Addr.add; split <;> simp_all
      rw [hadd, hs j hj', getD_byt s j hj']
      simpa [Lib.byteCells, List.getElem?_eq_getElem hj'] using hj)
    (by rw [bcl_len, bc_size]; exact hfit) (Lib.byteCells_one _)
  rw [h, bcl_len]
  congr 2
  simp only [bc, bcl_append, bcl_take, bcl_drop]
theorem cell_bc {w : World} {g : Nat} {l : List UInt8} {t : TypeId} {f : Nat × Nat} (hg : w.heap[g]? = some (.cells (bc l) t f)) (i : Nat) (hi : i < l.length) : w.cell? ⟨g, i, none⟩ = some (.int .u8 ((byt l i).toNat : Int)) := by
  simp [World.cell?, hg, bc, Lib.byteCells, hi, getD_byt l i hi]
theorem byt_drop (l : List UInt8) (n i : Nat) : byt (l.drop n) i = byt l (n + i) := by simp [byt, List.getD]
theorem byt_take (l : List UInt8) (n i : Nat) (h : i < n) : byt (l.take n) i = byt l i := by simp [byt, List.getD, List.getElem?_take_of_lt h]
theorem belowSetRow {B g : Nat} {a w : World} (h : Below B a w) (hg : B ≤ g) (cs : Array Value) : Below B a (w.setRow g cs) := below_setRow h hg cs
/-- so many zero bytes -/
def zr (n : Nat) : List UInt8 := List.replicate n 0
theorem zr_len (n : Nat) : (zr n).length = n := List.length_replicate
theorem zeros_bc (n : Nat) : madeCells #[.int .u8 0] n = bc (zr n) := by
  unfold zr
  apply Array.ext'
  apply List.ext_getElem?
  intro i
  simp [bc, Lib.byteCells, madeCells, List.getElem?_replicate]
  by_cases h : i < n <;> simp [h, Nat.mod_one]
theorem make_bytes (n : Nat) (hn : n ≤ 140737488351232) (u : World) : (Instr.makeSlice 28 (.int .i64 (n : Int)) (.int .i64 (n : Int))).run Try.prog u =
      .ok (.slice (some ⟨u.heap.size, 0, none⟩) n n) (u.alloc (.cells (bc (zr n)) 5)) := by
  obtain ⟨i0, hi, hz0, hz1, hz2⟩ := info_parts info5
  have h := run_make (P := Try.prog) u 28 5 i0 (.int .u8 0) Try.underlying28 hi hz0 .i64 .i64 (n : Int) (n : Int) (by omega) (by omega) (by rw [hz2]; omega) (by omega)
  rw [← zeros_bc]
  simpa [hz1, Value.cells] using h
/-- a block of bytes of one's own is a list of one's own -/
theorem OW.of_block {B g cap : Nat} {w : World} {l m : List UInt8} (hB : B ≤ g) (hg : w.heap[g]? = some (.cells (bc m) 5 (0, 0))) (hc : cap = m.length) (hl : m.take l.length = l) (hle : l.length ≤ m.length) (hm : m.length ≤ maxLen) : OW B w (.slice (some ⟨g, 0, none⟩) l.length cap) l := by
  refine ⟨by simp [Lib.byteCells], .inr ⟨g, cap, bc m, rfl, hB, hg, by omega, by omega, by rw [bc_size, hc, Nat.mul_one], ?_⟩⟩
  rw [bc_list, Nat.mul_one, bcl_take, hl]
theorem wpList_copy_r {ops : Array Oper} {rest : List Oper} {o : Oper} {a : Act} {Q : Exit → Act → World → Prop} {w : World} (hgd : o.guard = none) (d s : Operand) (t t' : TypeId)
    (ho : o.op = .call { callee := .builtin .copy, args := #[d, s], argTypes := #[t, t'] }) (v u : Value) (hd : a.eval d = v) (hs : a.eval s = u) {v' : Value} {w' : World}
    (hr : (Builtin.copy_ #[t, t'] o.type #[v, u]).run Try.prog w = .ok v' w') (h : wpList Try.prog ops Q rest (a.put o.dst v') w') : wpList Try.prog ops Q (o :: rest) a w :=
  wpList_plain hgd fun _ hK => by
    unfold Oper.wp execOp
    simp only [ho, resolve, invoke, builtin, Sem.run_bind, Sem.run_pure, Result.andThen_ok, List.map_toArray, List.map_cons, List.map_nil, hd, hs, hr]
    exact hK _ _ h
theorem step_copy_r {ops : Array Oper} {o : Oper} {a : Act} {w : World} {K : Act → World → Prop} {Q : Exit → Act → World → Prop} {E : Prop}
    (hg : o.guard = none) (d x : Operand) (dT sT : TypeId) (hop : o.op = Op.call { callee := Callee.builtin Builtin.copy, args := #[d, x], argTypes := #[dT, sT] })
    (v u : Value) (hd : a.eval d = v) (hx : a.eval x = u) {v' : Value} {w' : World} (hr : (Builtin.copy_ #[dT, sT] o.type #[v, u]).run Try.prog w = .ok v' w') (hK : K (a.put o.dst v') w') :
    if Region.wanted o (yielded ops a.tmps) = true then Oper.wp Try.prog o a w K Q else E := by
  have hw : Region.wanted o (yielded ops a.tmps) = true := by simp [Region.wanted, hg]
  rw [if_pos hw]
  unfold Oper.wp
  simp [execOp, hop, resolve, invoke, builtin, hd, hx, hr, Result.andThen]
  exact hK
/-- one more part is copied -/
theorem copy_part (w0 w : World) (G H o so n : Nat) (d s : List UInt8) (t t2 : TypeId) (hg : w.heap[G]? = some (.cells (bc d) t (0, 0))) (hh : w.heap[H]? = some (.cells (bc s) t2 (0, 0))) (hne : H ≠ G) (hG : w0.heap.size ≤ G) (hso : so + n ≤ s.length) (hfit : o + n ≤ d.length) (hB : Below w0.heap.size w0 w) :
    ∃ W, (∀ ty dl dc sc, n ≤ dl → (Builtin.copy_ #[28, 28] ty #[.slice (some ⟨G, o, none⟩) dl dc, .slice (some ⟨H, so, none⟩) n sc]).run Try.prog w = .ok (goInt n) W) ∧ W.heap[G]? = some (.cells (bc (d.take o ++ (s.drop so).take n ++ d.drop (o + n))) t (0, 0)) ∧ W.heap[H]? = some (.cells (bc s) t2 (0, 0)) ∧ Below w0.heap.size w0 W := by
  have hlen : ((s.drop so).take n).length = n := by rw [List.length_take, List.length_drop]; omega
  refine ⟨_, fun ty dl dc sc hd => ?_, heapSetRow _ _ _ _ _ hg, ?_, belowSetRow hB hG _⟩
  · have h := copy_row w ty G o dl dc H so n sc d ((s.drop so).take n) t hg (by rw [hlen]; exact (Nat.min_eq_left hd).symm) (fun i hi => by
      rw [hlen] at hi
      rw [byt_take _ _ _ hi, byt_drop]
      exact cell_bc hh (so + i) (by omega)) (by rw [hlen]; exact hfit)
    rw [hlen] at h
    exact h
  · rw [setRow_other _ _ _ _ hne]; exact hh
theorem splice_at {A P Z : List UInt8} {o n : Nat} (hA : A.length = o) (hP : P.length = n) : (A ++ Z).take o ++ P ++ (A ++ Z).drop (o + n) = (A ++ P) ++ Z.drop n := by
  subst hA hP
  rw [List.take_left, List.drop_append]
  simp
theorem cut_len (s : List UInt8) (a n : Nat) (h : a + n ≤ s.length) : ((s.drop a).take n).length = n := by rw [List.length_take, List.length_drop]; omega
theorem cut_join (s : List UInt8) (a n m : Nat) : (s.drop a).take n ++ (s.drop (a + n)).take m = (s.drop a).take (n + m) := by
  rw [List.take_add, List.drop_drop]
set_option maxHeartbeats 1000000 in
set_option maxRecDepth 100000 in
theorem greet (hb : List UInt8) (hl : hb.length = 48) (w : World) :
    Calls Try.prog 11 #[.agg (bc hb)] w fun e w' => ∃ v, e = .returned v ∧ OW w.heap.size w' v (sgn ++ hb) ∧ Below w.heap.size w w' := by
  have hmk : ∀ u : World, (Instr.makeSlice 28 (.int .i64 68) (.int .i64 68)).run Try.prog u = .ok (.slice (some ⟨u.heap.size, 0, none⟩) 68 68) (u.alloc (.cells (bc (zr 68)) 5)) := make_bytes 68 (by omega)
  have C1 : ∃ W1, (∀ ty, (Builtin.copy_ #[28, 9] ty #[.slice (some ⟨w.heap.size + 1, 0, none⟩) 68 68, .string { data := #[19, 66, 105, 116, 84, 111, 114, 114, 101, 110, 116, 32, 112, 114, 111, 116, 111, 99, 111, 108] }]).run Try.prog ((w.alloc (.cells (bc hb) 25)).alloc (.cells (bc (zr 68)) 5)) = .ok (goInt 20) W1) ∧ W1.heap[w.heap.size + 1]? = some (.cells (bc (sgn ++ zr 48)) 5 (0, 0)) ∧ W1.heap[w.heap.size]? = some (.cells (bc hb) 25 (0, 0)) ∧ Below w.heap.size w W1 := by
    have hg : ((w.alloc (.cells (bc hb) 25)).alloc (.cells (bc (zr 68)) 5)).heap[w.heap.size + 1]? = some (.cells (bc (zr 68)) 5 (0, 0)) := by
      have := heapNew (w.alloc (.cells (bc hb) 25)) (.cells (bc (zr 68)) 5)
      simpa using this
    refine ⟨_, fun ty => Lib.run_copy_row_string _ 28 9 ty 5 (w.heap.size + 1) 0 68 68 _ (bc (zr 68)) 5 Try.underlying28 hs5 hg (by decide) (by rw [bc_size, zr_len]; decide), ?_, ?_, belowSetRow (((Below.refl _ _).alloc (Nat.le_refl _) _).alloc (by simp) _) (by omega) _⟩
    · rw [heapSetRow _ _ _ _ _ hg]
      rfl
    · rw [setRow_other _ _ _ _ (by omega), heapOld _ _ _ (by simp), heapNew]
  obtain ⟨W1, hc1, hb1, hh1, B1⟩ := C1
  obtain ⟨W2, hc2, hb2, hh2, B2⟩ := copy_part w W1.drew (w.heap.size + 1) w.heap.size 20 0 8 _ hb 5 25 hb1 hh1 (by omega) (by omega) (by omega) (by simp [sgn, zr_len]) B1.drew
  rw [splice_at (o := 20) (by simp [sgn]) (cut_len hb 0 8 (by omega))] at hb2
  obtain ⟨W3, hc3, hb3, hh3, B3⟩ := copy_part w W2.drew (w.heap.size + 1) w.heap.size 28 8 20 _ hb 5 25 hb2 hh2 (by omega) (by omega) (by omega) (by simp [sgn, hl, zr_len]) B2.drew
  rw [splice_at (o := 28) (by simp [sgn, hl]) (cut_len hb 8 20 (by omega))] at hb3
  obtain ⟨W4, hc4, hb4, hh4, B4⟩ := copy_part w W3.drew (w.heap.size + 1) w.heap.size 48 28 20 _ hb 5 25 hb3 hh3 (by omega) (by omega) (by omega) (by simp [sgn, hl, zr_len]) B3.drew
  rw [splice_at (o := 48) (by simp [sgn, hl]) (cut_len hb 28 20 (by omega))] at hb4
  have HO : Hid (OW w.heap.size W4 (.slice (some ⟨w.heap.size + 1, 0, none⟩) 68 68) (sgn ++ hb) ∧ Below w.heap.size w W4) := by
    refine ⟨?_, B4⟩
    have hx : sgn.length = 20 := rfl
    have h68 : (sgn ++ hb).length = 68 := by simp [hx, hl]
    have := OW.of_block (B := w.heap.size) (cap := 68) (l := sgn ++ hb) (by omega) hb4 (by simp [hx, hl, zr_len]) ?_ (by simp [hx, hl, zr_len]) (by simp [hx, hl, maxLen, zr_len])
    · rw [h68] at this; exact this
    · rw [h68, List.take_of_length_le (by simp [hx, hl, zr_len])]
      rw [List.append_assoc sgn, cut_join hb 0 8 20, List.append_assoc sgn, cut_join hb 0 28 20]
      have hz : List.drop 20 (List.drop 20 (List.drop 8 (zr 48))) = [] := List.drop_eq_nil_of_le (by simp [zr_len])
      rw [hz, List.append_nil, List.drop_zero, List.take_of_length_le (by omega)]
  have c1 := hc1 3
  have c2 := hc2 3 48 48 8 (by omega)
  have c3 := hc3 3 40 40 20 (by omega)
  have c4 := hc4 3 20 20 20 (by omega)
  clear hb1 hh1 B1 hb2 hh2 B2 hb3 hh3 B3 hb4 hh4 B4 hc1 hc2 hc3 hc4 hl
  go_enter Try.func11, Try.ntmps11
  go_wp2
  go_region
  go_wp2
  go_region
  go_wp2
  go_region
  go_wp2
  go_ret
  exact ⟨_, rfl, HO.out⟩
end Go.Proofs.Ytmfeelkjbpjhdaa
