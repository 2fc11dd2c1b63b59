import Derived.Test.YtmfbhihjiebagaaDoorPl
import Derived.Shelf.Strconv.Itoa3
namespace Go.Proofs.YtmfbhihjiebagaaDoor
open Go.Shelf Go.RowKit Go.Deep Go.Sort
shelf_lay LaysM.n171 Nm 171 at Tryd as laysItoa
theorem below_grow (w : World) (k : Nat) (os : Array Obj) : Below w.heap.size w (grow (w.drewN k) os) := by
  have h := belowDrewN w k
  refine ⟨h.os, h.tape, h.output, ?_, fun q hq => ?_⟩
  · show w.heap.size ≤ (w.heap ++ os).size
    simp
  · exact (heap_grow_old (w.drewN k) os hq).trans (h.block q hq)
/-- a number written out; the table of powers lies where the program's start put it -/
theorem itoa65 (n : Nat) (hn : n ≤ 4096) (w : World) (htab : Lib.TabIs Tryd.prog w "internal/strconv.uint64pow10" .u64 Lib.pow10Tab) :
    Calls Tryd.prog 65 #[.int .i64 (n : Int)] w fun e w' => e = .returned (.string ⟨(Lib.itoa (n : Int)).toArray⟩) ∧ Below w.heap.size w w' :=
  (Any.strconv_Itoa laysItoa (n : Int) (by omega) (by omega) w htab).mono fun e w' ⟨h1, k, os, h2⟩ => ⟨h1, h2 ▸ below_grow w k os⟩
end Go.Proofs.YtmfbhihjiebagaaDoor
