import Derived.Test.YtoiehkpmemmldaaDoorOd
import Derived.Laws.OwnMore
namespace Go.Proofs.YtoiehkpmemmldaaDoor
open Go.RowKit
theorem info3 : (Tryd.prog.info? 3).map (fun i => (i.zero, i.size, i.bytes)) = some (some (.int .i64 0), 1, 8) := by kernel_rfl
theorem make29 (n : Nat) (hn : n ≤ 4096) (u : World) : (Instr.makeSlice 31 (.int .i64 (n : Int)) (.int .i64 (n : Int))).run Tryd.prog u = .ok (.slice (some ⟨u.heap.size, 0, none⟩) n n) (u.alloc (.cells (madeCells #[.int .i64 0] n) 3)) := by
  obtain ⟨i0, hi, hz0, hz1, hz2⟩ := info_parts info3
  have h := run_make (P := Tryd.prog) u 31 3 i0 (.int .i64 0) Tryd.underlying31 hi hz0 .i64 .i64 (n : Int) (n : Int) (by omega) (by omega) (by rw [hz2]; omega) (by omega)
  simpa [hz1, Value.cells] using h
theorem RI.made (w : World) (n : Nat) : RI (w.alloc (.cells (madeCells #[.int .i64 0] n) 3)) w.heap.size (List.replicate n 0) := by
  unfold RI
  rw [(MapKept.heap_alloc w _).1]
  congr 2
  apply Array.ext'
  rw [toList_madeCells_one]
  simp
def cnt (L : List (List ByteArray)) (k j : Nat) : Nat := (List.range j).countP (fun i => lx (la L i) (la L k))
theorem cnt_step (L : List (List ByteArray)) (k j : Nat) : cnt L k (j + 1) = cnt L k j + if lx (la L j) (la L k) = true then 1 else 0 := by
  unfold cnt; rw [List.range_succ, List.countP_append]; simp [List.countP_cons]
theorem cnt_le (L : List (List ByteArray)) (k j : Nat) : cnt L k j ≤ j := by
  have : cnt L k j ≤ (List.range j).length := List.countP_le_length
  simpa using this
/-- the row of the reference behind k rounds -/
def RX (L : List (List ByteArray)) (k : Nat) (l : List Nat) : Prop := l.length = L.length ∧ ∀ i, i < k → l.getD (rk L i) 0 = i
theorem RX.step {L : List (List ByteArray)} {k : Nat} {l : List Nat} (h : RX L k l) (hn : ND L) (hk : k < L.length) : RX L (k + 1) (l.set (rk L k) k) := by
  refine ⟨by simp [h.1], fun i hi => ?_⟩
  have hr := rk_lt hk
  by_cases e : i = k
  · subst e
    simp [List.getD_eq_getElem?_getD, h.1, hr]
  · have hne : rk L k ≠ rk L i := fun h' => e (rk_inj hn (by omega) hk h'.symm)
    have := h.2 i (by omega)
    rw [List.getD_eq_getElem?_getD] at this ⊢
    rw [List.getElem?_set_ne hne]
    exact this
/-- what Order answers -/
def OA (L : List (List ByteArray)) (Sp : List Nat → Prop) (w : World) (e : Ending) (w' : World) : Prop :=
  ∃ (v : Value) (z : Int) (l : List Nat), e = .returned (.tuple #[v, .int .i64 z]) ∧ OE L z ∧ IR w' l v ∧ (z = 0 → Sp l) ∧ (z ≠ 0 → l = []) ∧ l.length ≤ 4096 ∧ Below w.heap.size w w'

end Go.Proofs.YtoiehkpmemmldaaDoor
