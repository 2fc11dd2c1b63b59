import Derived.Test.YtpembmfpgolniaaDoorOm
namespace Go.Proofs.YtpembmfpgolniaaDoor
open Go.ChangeShapes Go.WideShapes Go.ChangeAt Go.RowKit
set_option maxRecDepth 100000 in
/-- an argument that is a slice of bytes -/
theorem openBytes {H : Type} {enc : TypeId × Value → H} {W : World} {base : Nat} {v : Value} {d : DataW H} {p : List MemPlace} (hv : Value.okWide Tryd.prog W .any base 22 v)
    (h : DataW.Trod enc Tryd.prog W 0 (fun _ => true) true 22 v d p) (hw : ∀ q ∈ DataW.weights Tryd.prog 22 d, q ≤ reachBytes) :
    ∃ l, RB W v l ∧ l.length ≤ 140737488351232 := by
  obtain ⟨a, len, cap, rfl⟩ := okWide_slice Tryd.underlying22 hv
  obtain ⟨fuel, hf⟩ := h
  obtain ⟨v', l, e, hr, hl⟩ := cellsBytes hf hw
  have e2 : (Value.slice a len cap).cells.toList = [Value.slice a len cap] := rfl
  rw [e2] at e
  simp at e
  rw [e]
  exact ⟨l, hr, hl⟩
end Go.Proofs.YtpembmfpgolniaaDoor
