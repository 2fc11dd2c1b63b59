import Derived.Test.YtpembmfpgolniaaDoorBase
import Derived.Deep.MidRow
namespace Go.Proofs.YtpembmfpgolniaaDoor
open Go.RowKit
/-- all blocks but one are as before -/
structure Besides (cb : Nat) (w w' : World) : Prop where
  os : w'.os = w.os
  tape : w'.tape = w.tape
  output : w'.output = w.output
  size : w.heap.size ≤ w'.heap.size
  block : ∀ k, k < w.heap.size → k ≠ cb → w'.heap[k]? = w.heap[k]?
theorem Besides.refl (cb : Nat) (w : World) : Besides cb w w := ⟨rfl, rfl, rfl, Nat.le_refl _, fun _ _ _ => rfl⟩
theorem Besides.trans {cb : Nat} {a b c : World} (h : Besides cb a b) (g : Besides cb b c) : Besides cb a c :=
  ⟨g.os.trans h.os, g.tape.trans h.tape, g.output.trans h.output, Nat.le_trans h.size g.size, fun k hk hc => (g.block k (Nat.lt_of_lt_of_le hk h.size) hc).trans (h.block k hk hc)⟩
theorem Besides.of_below {cb : Nat} {w w' : World} (h : Below w.heap.size w w') : Besides cb w w' := ⟨h.os, h.tape, h.output, h.size, fun k hk _ => h.block k hk⟩
theorem Besides.below {cb B : Nat} {w0 w w' : World} (h : Besides cb w w') (hb : Below B w0 w) (hB : B ≤ cb) (hs : B ≤ w.heap.size) : Below B w0 w' :=
  ⟨h.os.trans hb.os, h.tape.trans hb.tape, h.output.trans hb.output, Nat.le_trans hb.size h.size, fun k hk => (h.block k (by omega) (by omega)).trans (hb.block k hk)⟩
theorem Besides.setCell (w : World) (g i : Nat) (u : Value) : Besides g w (w.setCell ⟨g, i, none⟩ u) :=
  ⟨rfl, rfl, rfl, by simp, fun k _ hc => Below.heap_setCell w ⟨g, i, none⟩ u k hc⟩
theorem Besides.setRow (w : World) (g : Nat) (cs : Array Value) : Besides g w (w.setRow g cs) :=
  ⟨rfl, rfl, rfl, by simp [World.setRow], fun k _ hc => setRow_other _ _ _ _ hc⟩
/-- a message as its cells hold it -/
structure Mv where
  k : Int
  i : Int
  b : Int
  l : Int
  d : Value
  r : List UInt8
  ba : Int
  pr : Int
  h : Value
def Mv.ls (m : Mv) : List Value := [.int .i64 m.k, .int .i64 m.i, .int .i64 m.b, .int .i64 m.l, m.d] ++ (Lib.byteCells m.r ++ [.int .i64 m.ba, .int .i64 m.pr, m.h])
def Mv.cs (m : Mv) : Array Value := m.ls.toArray
/-- its cells are such as a message has -/
structure Mv.ok (m : Mv) : Prop where
  r : m.r.length = 32
  d : ∃ a n c, m.d = .slice a n c
  h : ∃ a n c, m.h = .slice a n c
theorem Mv.ok.size {m : Mv} (h : m.ok) : m.cs.size = 40 := by simp [Mv.cs, Mv.ls, bcl_len, h.r]
theorem Mv.ok.one {m : Mv} (h : m.ok) : m.cs.all (·.oneCell') = true := by
  obtain ⟨a, n, c, hd⟩ := h.d
  obtain ⟨a2, n2, c2, hh⟩ := h.h
  simp [Mv.cs, Mv.ls, Lib.byteCells, Value.oneCell', hd, hh]
theorem ls_tail {A B C : List Value} {j n o : Nat} (hA : A.length = o) (hB : B.length = n) : (A ++ (B ++ C))[o + n + j]? = C[j]? := by
  subst hA hB
  rw [Nat.add_assoc, List.getElem?_append_right (by omega), List.getElem?_append_right (by omega)]
  congr 1; omega
theorem Mv.ok.g37 {m : Mv} (h : m.ok) : m.ls[37]? = some (.int .i64 m.ba) := ls_tail (o := 5) (n := 32) (j := 0) rfl (by rw [bcl_len, h.r])
theorem Mv.ok.g38 {m : Mv} (h : m.ok) : m.ls[38]? = some (.int .i64 m.pr) := ls_tail (o := 5) (n := 32) (j := 1) rfl (by rw [bcl_len, h.r])
theorem Mv.ok.g39 {m : Mv} (h : m.ok) : m.ls[39]? = some m.h := ls_tail (o := 5) (n := 32) (j := 2) rfl (by rw [bcl_len, h.r])
/-- block g holds the message m -/
def MB (w : World) (g : Nat) (m : Mv) : Prop := w.heap[g]? = some (.cells m.cs 27 (0, 0))
theorem MB.cell {w : World} {g : Nat} {m : Mv} (h : MB w g m) (j : Nat) {v : Value} (hj : m.ls[j]? = some v) : w.cell? ⟨g, j, none⟩ = some v := by
  unfold MB at h
  simp [World.cell?, h, Mv.cs, hj]
theorem MB.lt {w : World} {g : Nat} {m : Mv} (h : MB w g m) : g < w.heap.size := (Array.getElem?_eq_some_iff.1 h).1
theorem MB.c0 {w : World} {g : Nat} {m : Mv} (h : MB w g m) : w.cell? ⟨g, 0, none⟩ = some (.int .i64 m.k) := h.cell 0 rfl
theorem MB.c1 {w : World} {g : Nat} {m : Mv} (h : MB w g m) : w.cell? ⟨g, 1, none⟩ = some (.int .i64 m.i) := h.cell 1 rfl
theorem MB.c2 {w : World} {g : Nat} {m : Mv} (h : MB w g m) : w.cell? ⟨g, 2, none⟩ = some (.int .i64 m.b) := h.cell 2 rfl
theorem MB.c3 {w : World} {g : Nat} {m : Mv} (h : MB w g m) : w.cell? ⟨g, 3, none⟩ = some (.int .i64 m.l) := h.cell 3 rfl
theorem MB.c4 {w : World} {g : Nat} {m : Mv} (h : MB w g m) : w.cell? ⟨g, 4, none⟩ = some m.d := h.cell 4 rfl
theorem MB.c37 {w : World} {g : Nat} {m : Mv} (h : MB w g m) (o : m.ok) : w.cell? ⟨g, 37, none⟩ = some (.int .i64 m.ba) := h.cell 37 o.g37
theorem MB.c38 {w : World} {g : Nat} {m : Mv} (h : MB w g m) (o : m.ok) : w.cell? ⟨g, 38, none⟩ = some (.int .i64 m.pr) := h.cell 38 o.g38
theorem MB.c39 {w : World} {g : Nat} {m : Mv} (h : MB w g m) (o : m.ok) : w.cell? ⟨g, 39, none⟩ = some m.h := h.cell 39 o.g39
theorem MB.root {w : World} {g : Nat} {m : Mv} (h : MB w g m) : w.rangeAt g 5 (Lib.byteCells m.r) := by
  intro j v hj
  refine h.cell (5 + j) ?_
  have hlt := (List.getElem?_eq_some_iff.1 hj).1
  unfold Mv.ls
  rw [List.getElem?_append_right (by simp), List.getElem?_append_left (by simpa using hlt)]
  simpa using hj
theorem MB.free {w : World} {g : Nat} {m : Mv} (h : MB w g m) (j : Nat) : w.frozen? ⟨g, j, none⟩ = false := by
  unfold MB at h
  simp [World.frozen?, h]
theorem MB.below {w w' : World} {g : Nat} {m : Mv} (h : MB w g m) (hb : Below w.heap.size w w') : MB w' g m := (hb.block g h.lt).trans h
theorem MB.besides {w w' : World} {g cb : Nat} {m : Mv} (h : MB w g m) (hb : Besides cb w w') (hc : g ≠ cb) : MB w' g m := (hb.block g h.lt hc).trans h
theorem MB.set {w : World} {g : Nat} {m m' : Mv} (h : MB w g m) (j : Nat) (v : Value) (hm : m.ls.set j v = m'.ls) : MB (w.setCell ⟨g, j, none⟩ v) g m' := by
  unfold MB at *
  have : (w.setCell ⟨g, j, none⟩ v).heap[g]? = some (.cells (m.cs.setIfInBounds j v) 27 (0, 0)) := by
    show (w.heap.modify g _)[g]? = _
    rw [Array.getElem?_modify, if_pos rfl, h]
    rfl
  rw [this]
  have e : m.cs.setIfInBounds j v = m'.cs := by
    apply Array.ext'
    simp [Mv.cs, hm]
  rw [e]
theorem Mv.set_tail {A B C : List Value} {j n o : Nat} (hA : A.length = o) (hB : B.length = n) (v : Value) : (A ++ (B ++ C)).set (o + n + j) v = A ++ (B ++ C.set j v) := by
  subst hA hB
  rw [List.set_append_right _ _ (by omega), List.set_append_right _ _ (by omega)]
  congr 3; omega
theorem Mv.set37 {m : Mv} (h : m.ok) (x : Int) : m.ls.set 37 (.int .i64 x) = { m with ba := x }.ls := Mv.set_tail (o := 5) (n := 32) (j := 0) rfl (by rw [bcl_len, h.r]) _
theorem Mv.set38 {m : Mv} (h : m.ok) (x : Int) : m.ls.set 38 (.int .i64 x) = { m with pr := x }.ls := Mv.set_tail (o := 5) (n := 32) (j := 1) rfl (by rw [bcl_len, h.r]) _
theorem Mv.set39 {m : Mv} (h : m.ok) (x : Value) : m.ls.set 39 x = { m with h := x }.ls := Mv.set_tail (o := 5) (n := 32) (j := 2) rfl (by rw [bcl_len, h.r]) _
theorem info_msg {m : Mv} (h : m.ok) : (Tryd.prog.info? 27).map (·.size) = some m.cs.size := by rw [h.size]; kernel_rfl
end Go.Proofs.YtpembmfpgolniaaDoor
