import Derived.Test.YtmfbhihjiebagaaDoorWd
import Derived.Deep.MidRow
namespace Go.Proofs.YtmfbhihjiebagaaDoor
open Go.RowKit Go.Deep
/-- the cells of a link -/
def lkC (l : List UInt8) (nm : ByteArray) (tr pe on mo : Value) : Array Value := (Lib.byteCells l ++ [.string nm, tr, pe, on, mo]).toArray
def LB (w : World) (b : Nat) (l : List UInt8) (nm : ByteArray) (tr pe on mo : Value) : Prop := w.heap[b]? = some (.cells (lkC l nm tr pe on mo) 28 (0, 0))
theorem bcl (l : List UInt8) : (Lib.byteCells l).length = l.length := by simp [Lib.byteCells]
theorem lkC_get {l : List UInt8} {nm : ByteArray} {tr pe on mo : Value} (hl : l.length = 32) (j : Nat) : (lkC l nm tr pe on mo)[32 + j]? = ([.string nm, tr, pe, on, mo] : List Value)[j]? := by
  unfold lkC
  rw [List.getElem?_toArray, List.getElem?_append_right (by rw [bcl]; omega), bcl, hl, Nat.add_sub_cancel_left]
theorem lkC_size {l : List UInt8} {nm : ByteArray} {tr pe on mo : Value} (hl : l.length = 32) : (lkC l nm tr pe on mo).size = 37 := by
  unfold lkC; simp [bcl, hl]
theorem LB.cells {w : World} {b : Nat} {l : List UInt8} {nm : ByteArray} {tr pe on mo : Value} (h : LB w b l nm tr pe on mo) (hl : l.length = 32) :
    w.cell? ⟨b, 32, none⟩ = some (.string nm) ∧ w.cell? ⟨b, 33, none⟩ = some tr ∧ w.cell? ⟨b, 34, none⟩ = some pe ∧ w.cell? ⟨b, 35, none⟩ = some on ∧ w.cell? ⟨b, 36, none⟩ = some mo := by
  have key : ∀ j, w.cell? ⟨b, 32 + j, none⟩ = ([.string nm, tr, pe, on, mo] : List Value)[j]? := fun j => by
    rw [← lkC_get (l := l) hl j]
    unfold LB at h
    simp [World.cell?, h]
  exact ⟨key 0, key 1, key 2, key 3, key 4⟩
theorem LB.frozen {w : World} {b : Nat} {l : List UInt8} {nm : ByteArray} {tr pe on mo : Value} (h : LB w b l nm tr pe on mo) (i : Nat) : w.frozen? ⟨b, i, none⟩ = false := by
  unfold LB at h
  simp [World.frozen?, h]
theorem LB.keep {w w' : World} {b : Nat} {l : List UInt8} {nm : ByteArray} {tr pe on mo : Value} (h : LB w b l nm tr pe on mo) (hb : w'.heap[b]? = w.heap[b]?) : LB w' b l nm tr pe on mo := hb.trans h
theorem LB.lt {w : World} {b : Nat} {l : List UInt8} {nm : ByteArray} {tr pe on mo : Value} (h : LB w b l nm tr pe on mo) : b < w.heap.size := (Array.getElem?_eq_some_iff.1 h).1
theorem LB.range {w : World} {b : Nat} {l : List UInt8} {nm : ByteArray} {tr pe on mo : Value} (h : LB w b l nm tr pe on mo) : w.rangeAt b 0 (Lib.byteCells l) := fun j v hj => by
  unfold LB at h
  have hj2 := (List.getElem?_eq_some_iff.1 hj).1
  rw [Nat.zero_add]
  simp only [World.cell?, h]
  unfold lkC
  simp only [List.getElem?_toArray]
  rw [List.getElem?_append_left hj2, hj]
  rfl
/-- a list of strings in memory -/
def RS (S : Nat → Prop) (w : World) (v : Value) (ts : List ByteArray) : Prop :=
  ∃ a c, v = .slice a ts.length c ∧ (ts.length = 0 ∨ ∃ b o, a = some ⟨b, o, none⟩ ∧ S b ∧ b < w.heap.size ∧ ∀ i x, ts[i]? = some x → w.cell? ⟨b, o + i, none⟩ = some (.string x))
/-- a list of runs in memory -/
def RR (S : Nat → Prop) (w : World) (v : Value) (rs : List (Int × Int)) : Prop :=
  ∃ a c, v = .slice a rs.length c ∧ (rs.length = 0 ∨ ∃ b o, a = some ⟨b, o, none⟩ ∧ S b ∧ b < w.heap.size ∧ ∀ i x, rs[i]? = some x → w.cell? ⟨b, o + i * 2, none⟩ = some (.int .i64 x.1) ∧ w.cell? ⟨b, o + i * 2 + 1, none⟩ = some (.int .i64 x.2))
theorem RS.move {S S' : Nat → Prop} {w w' : World} (hS : ∀ b, S b → b < w.heap.size → S' b) (hs : w.heap.size ≤ w'.heap.size) (hb : ∀ b, S b → b < w.heap.size → w'.heap[b]? = w.heap[b]?) {v : Value} {ts : List ByteArray} (h : RS S w v ts) : RS S' w' v ts := by
  obtain ⟨a, c, rfl, h⟩ := h
  refine ⟨a, c, rfl, ?_⟩
  rcases h with h | ⟨b, o, rfl, h1, h2, h3⟩
  · exact .inl h
  · exact .inr ⟨b, o, rfl, hS b h1 h2, by omega, fun i x hx => (World.cell?_of_block (w := w) (a := ⟨b, _, none⟩) (hb b h1 h2)).trans (h3 i x hx)⟩
theorem RR.move {S S' : Nat → Prop} {w w' : World} (hS : ∀ b, S b → b < w.heap.size → S' b) (hs : w.heap.size ≤ w'.heap.size) (hb : ∀ b, S b → b < w.heap.size → w'.heap[b]? = w.heap[b]?) {v : Value} {rs : List (Int × Int)} (h : RR S w v rs) : RR S' w' v rs := by
  obtain ⟨a, c, rfl, h⟩ := h
  refine ⟨a, c, rfl, ?_⟩
  rcases h with h | ⟨b, o, rfl, h1, h2, h3⟩
  · exact .inl h
  · exact .inr ⟨b, o, rfl, hS b h1 h2, by omega, fun i x hx => ⟨(World.cell?_of_block (w := w) (a := ⟨b, _, none⟩) (hb b h1 h2)).trans (h3 i x hx).1, (World.cell?_of_block (w := w) (a := ⟨b, _, none⟩) (hb b h1 h2)).trans (h3 i x hx).2⟩⟩
/-- a link: what its fields are -/
structure Lk where
  l : List UInt8
  nm : ByteArray
  ts : List ByteArray
  ps : List ByteArray
  rs : List (Int × Int)
  dn : Nat
  ky : Nat → ByteArray
  dv : Nat → T
structure Lk.ok (k : Lk) : Prop where
  l : k.l.length = 32
  nm : k.nm.size ≤ 140737488351232
  ts : k.ts.length ≤ 140737488351232 ∧ ∀ x ∈ k.ts, x.size ≤ 140737488351232
  ps : k.ps.length ≤ 140737488351232 ∧ ∀ x ∈ k.ps, x.size ≤ 140737488351232
  rs : k.rs.length ≤ 140737488351232
  dn : k.dn ≤ 140737488351232 ∧ ∀ i, i < k.dn → (k.ky i).size ≤ 140737488351232 ∧ (k.dv i).ok
structure Lk.small (k : Lk) : Prop where
  ts : k.ts.length ≤ 2147483647
  ps : k.ps.length ≤ 2147483647
  rs : k.rs.length ≤ 2147483647
  dn : k.dn ≤ 2147483647 ∧ ∀ i, i < k.dn → (k.dv i).small
/-- the lists of a link in memory -/
def RL4 (S : Nat → Prop) (w : World) (k : Lk) (tr pe on mo : Value) : Prop := RS S w tr k.ts ∧ RS S w pe k.ps ∧ RR S w on k.rs ∧ RD S w k.dn k.ky k.dv mo
theorem RL4.move {S S' : Nat → Prop} {w w' : World} (hS : ∀ b, S b → b < w.heap.size → S' b) (hs : w.heap.size ≤ w'.heap.size) (hb : ∀ b, S b → b < w.heap.size → w'.heap[b]? = w.heap[b]?) {k : Lk} {tr pe on mo : Value} (h : RL4 S w k tr pe on mo) : RL4 S' w' k tr pe on mo :=
  ⟨h.1.move hS hs hb, h.2.1.move hS hs hb, h.2.2.1.move hS hs hb, RD.move hS hs hb h.2.2.2⟩
end Go.Proofs.YtmfbhihjiebagaaDoor
