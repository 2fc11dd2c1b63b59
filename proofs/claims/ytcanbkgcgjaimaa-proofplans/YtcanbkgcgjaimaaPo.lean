import Derived.Test.YtcanbkgcgjaimaaPe
namespace Go.Proofs.Ytcanbkgcgjaimaa
open Go.ChangeShapes Go.WideShapes Go.ChangeAt Go.RowKit Go.Joins
theorem ownKn : ownKnob Try.prog.godebug = none := by kernel_rfl
theorem laidO : laidOutB Try.prog = true := by kernel_rfl
theorem trodLt {H : Type} {enc : TypeId × Value → H} {W : World} {t : TypeId} {v : Value} {d : DataW H} {p : List MemPlace} (h : DataW.Trod enc Try.prog W 0 (fun _ => true) true t v d p) : ∀ x ∈ p, x.block < W.heap.size := by
  obtain ⟨m, hm⟩ := h
  exact DataW.trod_lt m _ _ _ hm
theorem cellInt {H : Type} {enc : TypeId × Value → H} {W : World} {cs : List Value} {o n : Nat} {x : DataW H × List MemPlace} (ho : o < cs.length)
    (h : DataW.trod enc Try.prog W 0 (fun _ => true) true n 3 ((cs.drop o).take 1) = some x) : ∃ a, cs[o]? = some (.int .i64 a) ∧ (Lit.int .i64 a).wf = true := by
  have e : (cs.drop o).take 1 = [cs[o]] := by rw [List.drop_eq_getElem_cons ho]; rfl
  rw [e] at h
  obtain ⟨a, e0, rfl, wa⟩ := DataW.trod_int Try.underlying3 h
  refine ⟨a, ?_, wa⟩
  rw [List.getElem?_eq_getElem ho]
  simp at e0
  rw [e0]
/-- an argument that is a query: its cells -/
theorem openQuery {H : Type} {enc : TypeId × Value → H} {W : World} {base : Nat} {v : Value} {d : DataW H} {p : List MemPlace} (hv : Value.okWide Try.prog W .any base 31 v)
    (h : DataW.Trod enc Try.prog W 0 (fun _ => true) true 31 v d p) : ∃ cs b i l m, v = .agg cs ∧ QF cs b i l m ∧ (Lit.int .i64 b).wf = true ∧ (Lit.int .i64 i).wf = true ∧ (Lit.int .i64 l).wf = true ∧ (Lit.int .i64 m).wf = true := by
  obtain ⟨cs, rfl, hsz⟩ := okWide_struct Try.underlying31 hv
  obtain ⟨fuel, hf⟩ := h
  obtain ⟨xs, n, _, _, hl, hlen, hf⟩ := DataW.trod_struct Try.underlying31 hf
  have hs : cs.size = 36 := hsz.trans (by kernel_rfl)
  have hL : xs.length = 5 := hlen
  have c3 : Try.prog.cellsOf 3 = 1 := by kernel_rfl
  have f1 : DataW.trod enc Try.prog W 0 (fun _ => true) true n 3 (((Value.agg cs).cells.toList.drop 32).take (Try.prog.cellsOf 3)) = xs[1]? := hf 1 _ rfl
  have f2 : DataW.trod enc Try.prog W 0 (fun _ => true) true n 3 (((Value.agg cs).cells.toList.drop 33).take (Try.prog.cellsOf 3)) = xs[2]? := hf 2 _ rfl
  have f3 : DataW.trod enc Try.prog W 0 (fun _ => true) true n 3 (((Value.agg cs).cells.toList.drop 34).take (Try.prog.cellsOf 3)) = xs[3]? := hf 3 _ rfl
  have f4 : DataW.trod enc Try.prog W 0 (fun _ => true) true n 3 (((Value.agg cs).cells.toList.drop 35).take (Try.prog.cellsOf 3)) = xs[4]? := hf 4 _ rfl
  rw [c3, List.getElem?_eq_getElem (by omega)] at f1 f2 f3 f4
  have hcs : (Value.agg cs).cells.toList.length = 36 := by simpa [Value.cells] using hs
  obtain ⟨b, k1, w1⟩ := cellInt (by omega) f1
  obtain ⟨i, k2, w2⟩ := cellInt (by omega) f2
  obtain ⟨l, k3, w3⟩ := cellInt (by omega) f3
  obtain ⟨m, k4, w4⟩ := cellInt (by omega) f4
  exact ⟨cs, b, i, l, m, rfl, ⟨hs, by simpa [Value.cells] using k1, by simpa [Value.cells] using k2, by simpa [Value.cells] using k3, by simpa [Value.cells] using k4⟩, w1, w2, w3, w4⟩
end Go.Proofs.Ytcanbkgcgjaimaa
