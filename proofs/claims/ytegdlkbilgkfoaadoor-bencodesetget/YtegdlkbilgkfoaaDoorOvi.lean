import Derived.Test.YtegdlkbilgkfoaaDoorOp2
import Derived.Test.YtegdlkbilgkfoaaDoorInts
namespace Go.Proofs.YtegdlkbilgkfoaaDoor
open Go.ChangeShapes Go.WideShapes Go.ChangeAt Go.RowKit Go.Deep
set_option maxRecDepth 100000 in
/-- an argument that is a value: its cells, its tree; its numbers are ints -/
theorem openVali {H : Type} {enc : TypeId × Value → H} {W : World} {base : Nat} {v : Value} {d : DataW H} {p : List MemPlace} (hv : Value.okWide Tryd.prog W .any base 27 v)
    (h : DataW.Trod enc Tryd.prog W 0 (fun _ => true) true 27 v d p) (hw : ∀ q ∈ DataW.weights Tryd.prog 27 d, q ≤ reachBytes) :
    ∃ t x y, v = vv t x y ∧ RV (fun _ => True) W t x y ∧ t.ok ∧ t.ints := by
  obtain ⟨cs, rfl, hcs⟩ := okWide_struct Tryd.underlying27 hv
  obtain ⟨fuel, hf⟩ := h
  obtain ⟨t, x, y, hc, hr, hok⟩ := rv_of_trod_i fuel _ _ hf hw
  refine ⟨t, x, y, ?_, hr, hok⟩
  have hc' : cs.toList = [.int .i64 t.k, .int .i64 t.n, .string t.s, x, y] := by simpa [Value.cells] using hc
  unfold vv
  rw [← hc']
end Go.Proofs.YtegdlkbilgkfoaaDoor
