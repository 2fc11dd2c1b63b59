import Derived.Test.YtmfbhihjiebagaaDoorTree
namespace Go.Proofs.YtmfbhihjiebagaaDoor
open Go.RowKit Go.Deep
/-- all but the block cb is as it was -/
structure Besides (cb : Nat) (w w' : World) : Prop where
  os : w'.os = w.os
  tape : w'.tape = w.tape
  output : w'.output = w.output
  size : w.heap.size ≤ w'.heap.size
  block : ∀ k, k < w.heap.size → k ≠ cb → w'.heap[k]? = w.heap[k]?
theorem Besides.refl (cb : Nat) (w : World) : Besides cb w w := ⟨rfl, rfl, rfl, Nat.le_refl _, fun _ _ _ => rfl⟩
theorem Besides.trans {cb : Nat} {a b c : World} (h : Besides cb a b) (g : Besides cb b c) : Besides cb a c :=
  ⟨g.os.trans h.os, g.tape.trans h.tape, g.output.trans h.output, Nat.le_trans h.size g.size, fun k hk hn => (g.block k (Nat.lt_of_lt_of_le hk h.size) hn).trans (h.block k hk hn)⟩
theorem Besides.alloc (cb : Nat) (w : World) (o : Obj) : Besides cb w (w.alloc o) :=
  ⟨rfl, rfl, rfl, by simp, fun k hk _ => Below.heap_alloc _ _ _ hk⟩
theorem Besides.setCell (w : World) (a : Addr) (u : Value) : Besides a.block w (w.setCell a u) :=
  ⟨rfl, rfl, rfl, by simp [World.setCell], fun k _ hn => Below.heap_setCell _ _ _ _ hn⟩
theorem Besides.cell {cb : Nat} {w w' : World} (h : Besides cb w w') {p : Addr} {v : Value} (hp : p.block ≠ cb) (hc : w.cell? p = some v) : w'.cell? p = some v :=
  (World.cell?_of_block (w := w) (h.block p.block (World.block_lt_of_cell? w p hc) hp)).trans hc
theorem Besides.rv {cb : Nat} {w w' : World} (h : Besides cb w w') {t : T} {x y : Value} (g : RV (fun b => b ≠ cb) w t x y) : RV (fun b => b ≠ cb) w' t x y :=
  RV.keep (fun _ h => h) h.size (fun b hn hb => h.block b hb hn) _ _ _ g
/-- what a count leaves -/
def FP (cb : Nat) (m : Int) (p : Prop) (w w' : World) (r : Bool) : Prop :=
  Besides cb w w' ∧ w'.frozen? ⟨cb, 0, none⟩ = false ∧ ∃ m', w'.cell? ⟨cb, 0, none⟩ = some (.int .i64 m') ∧ (r = false → m ≤ m' ∧ m' ≤ 2147483647 ∧ p)
theorem cell_alloc_old {w : World} {o : Obj} {p : Addr} {v : Value} (h : w.cell? p = some v) : (w.alloc o).cell? p = some v :=
  (World.cell?_of_block (w := w) (Below.heap_alloc w o p.block (World.block_lt_of_cell? w p h))).trans h
theorem frozen_alloc_old {w : World} {o : Obj} {p : Addr} {v : Value} (h : w.cell? p = some v) : (w.alloc o).frozen? p = w.frozen? p :=
  World.frozen?_of_block (w := w) (Below.heap_alloc w o p.block (World.block_lt_of_cell? w p h))
end Go.Proofs.YtmfbhihjiebagaaDoor
