import Derived.Test.YtpojcdepifeniaaDoorOpen
import Derived.Test.YtpojcdepifeniaaDoorOfp
namespace Go.Proofs.YtpojcdepifeniaaDoor
open Go.ChangeShapes Go.WideShapes Go.ChangeAt Go.RowKit
theorem openList {H : Type} {enc : TypeId × Value → H} {W : World} {base : Nat} {v : Value} {d : DataW H} {p : List MemPlace} (hv : Value.okWide Tryd.prog W .any base 31 v)
    (h : DataW.Trod enc Tryd.prog W 0 (fun _ => true) true 31 v d p) (hw : ∀ q ∈ DataW.weights Tryd.prog 31 d, q ≤ reachBytes) :
    ∃ zs, RZ W v zs ∧ zs.length ≤ 17592186043904 := by
  have hb : Tryd.prog.bytesOf 3 = 8 := by kernel_rfl
  obtain ⟨a, c, zs, rfl, h1, h2, h3⟩ := openInts (k := .i64) Tryd.underlying31 Tryd.underlying3 (by kernel_rfl) hv h hw
  rw [hb] at h1
  unfold reachBytes at h1
  refine ⟨zs, ?_, by omega⟩
  cases a with
  | none =>
    left
    rcases h3 with rfl | ⟨g, o, h, _⟩
    · obtain ⟨fuel, hf⟩ := h
      rcases open_ints Tryd.underlying31 Tryd.underlying3 (by kernel_rfl) hf with ⟨hcs, _⟩ | ⟨x, l, c', zs, hcs, _⟩
      · simp [Value.cells] at hcs
        exact ⟨by simp [hcs], rfl⟩
      · simp [Value.cells] at hcs
    · cases h
  | some x =>
    refine .inr ⟨x, c, rfl, ?_⟩
    rcases h3 with h | ⟨g, o, h, h4, h5⟩
    · exact .inl h
    · simp only [Option.some.injEq] at h
      exact .inr ⟨g, o, h, h4, h5⟩
end Go.Proofs.YtpojcdepifeniaaDoor
