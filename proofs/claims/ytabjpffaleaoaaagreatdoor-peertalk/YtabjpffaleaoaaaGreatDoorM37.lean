import Derived.Test.YtabjpffaleaoaaaGreatDoorM34
namespace Go.Proofs.YtabjpffaleaoaaaGreatDoor
open Go.ChangeShapes Go.WideShapes Go.ChangeAt Go.RowKit Go.Joins Go.Deep
section
variable {H : Type} {enc : TypeId × Value → H} {w : World}
set_option maxRecDepth 100000 in
/-- twenty bytes -/
theorem openTwentyU {base : Nat} {v : Value} {d : DataW H} {p : List MemPlace} (hv : Value.okWide Tryz.prog w .any base 28 v)
    (h : DataW.Trod enc Tryz.prog w 0 (fun _ => true) true 28 v d p) : ∃ hb : List UInt8, v = .agg (bc hb) ∧ hb.length = 20 := by
  simp only [Value.okWide, Tryz.underlying28] at hv
  obtain ⟨cs, rfl, _⟩ := hv
  obtain ⟨fuel, hf⟩ := h
  have k20 : Tryz.prog.cellsOf 28 = 20 := by kernel_rfl
  obtain ⟨l5, b5⟩ := cellsArr (cs := cs.toList) Tryz.underlying28 k20 hf
  have e5 := bytes_of (cs := cs.toList) (fun i hi => b5 i (by rw [l5] at hi; exact hi))
  refine ⟨cs.toList.map asB, ?_, by rw [List.length_map, l5]⟩
  unfold bc
  rw [← e5]
end
end Go.Proofs.YtabjpffaleaoaaaGreatDoor
