import Derived.Test.YtmfeelkjbpjhdaaMeet
import Derived.ChangeKeysEq
namespace Go.Proofs.Ytmfeelkjbpjhdaa
open Go.RowKit
theorem sok0 (l : List UInt8) : sok l 0 = true ↔ ∀ j, j < l.length → j < 20 → byt l j = byt sgn j := by
  have hs : sgn.length = 20 := rfl
  unfold sok
  rw [beq_iff_eq, Nat.sub_zero, List.drop_zero]
  constructor
  · intro h j h1 h2
    have := congrArg (fun x => x[j]?) h
    simp only [List.getElem?_take_of_lt h2, List.getElem?_take_of_lt h1] at this
    unfold byt
    rw [List.getD_eq_getElem?_getD, List.getD_eq_getElem?_getD, this]
  · intro h
    apply List.ext_getElem
    · rw [List.length_take, List.length_take, hs, Nat.min_comm]
    · intro j h1 h2
      rw [List.length_take] at h1 h2
      have := h j (by omega) (by omega)
      rw [getD_byt l j (by omega), getD_byt sgn j (by omega)] at this
      simpa using this
theorem setCell_bc {w : World} {G : Nat} {d : List UInt8} {t : TypeId} (hg : w.heap[G]? = some (.cells (bc d) t (0, 0))) (i : Nat) (x : UInt8) : w.setCell ⟨G, i, none⟩ (.int .u8 (x.toNat : Int)) = w.setRow G (bc (d.set i x)) := by
  rw [setCell_eq_setRow w G i (bc d) t (0, 0) _ hg]
  congr 1
  apply Array.ext'
  rw [Array.toList_setIfInBounds, bc_list, bc_list]
  simp [Lib.byteCells, List.map_set]
theorem byt_set (l : List UInt8) (q k : Nat) (c : UInt8) (hq : q < l.length) : byt (l.set q c) k = if k = q then c else byt l k := by
  unfold byt
  simp only [List.getD_eq_getElem?_getD, List.getElem?_set]
  by_cases h : q = k
  · subst h; simp [hq]
  · rw [if_neg h, if_neg (fun h' => h h'.symm)]
theorem byt_ext {a b : List UInt8} (h : a.length = b.length) (hb : ∀ i, i < a.length → byt a i = byt b i) : a = b := by
  apply List.ext_getElem h
  intro i h1 h2
  have := hb i h1
  rwa [getD_byt a i h1, getD_byt b i h2] at this
theorem byt_hel (l : List UInt8) (i : Nat) (hi : i < 48) : byt (hel l) i = byt l (20 + i) := by
  unfold hel; rw [byt_take _ _ _ hi, byt_drop]
/-- the result's box and the box that is filled -/
def MB (w wr : World) (d : List UInt8) : Prop := d.length = 48 ∧ wr.heap[w.heap.size + 1]? = some (.cells (bc d) 25 (0, 0)) ∧ wr.heap[w.heap.size]? = some (.cells (bc (zr 48)) 25 (0, 0)) ∧ Below w.heap.size w wr
theorem MB.set {w wr : World} {d : List UInt8} (h : MB w wr d) (i : Nat) (x : UInt8) : MB w (wr.setCell ⟨w.heap.size + 1, i, none⟩ (.int .u8 (x.toNat : Int))) (d.set i x) := by
  rw [setCell_bc h.2.1 i x]
  exact ⟨by simpa using h.1, heapSetRow _ _ _ _ _ h.2.1, by rw [setRow_other _ _ _ _ (by omega)]; exact h.2.2.1, belowSetRow h.2.2.2 (by omega) _⟩
theorem MB.drew {w wr : World} {d : List UInt8} (h : MB w wr d) (n : Nat) : MB w (wr.drewN n) d := ⟨h.1, h.2.1, h.2.2.1, belowN h.2.2.2 n⟩
theorem MB.cell {w wr : World} {d : List UInt8} (h : MB w wr d) (i : Nat) (hi : i < 48) : wr.cell? ⟨w.heap.size + 1, i, none⟩ = some (.int .u8 ((byt d i).toNat : Int)) := cell_bc h.2.1 i (by rw [h.1]; exact hi)
theorem MB.frozen {w wr : World} {d : List UInt8} (h : MB w wr d) (i : Nat) : wr.frozen? ⟨w.heap.size + 1, i, none⟩ = false := by simp [World.frozen?, h.2.1]
end Go.Proofs.Ytmfeelkjbpjhdaa
