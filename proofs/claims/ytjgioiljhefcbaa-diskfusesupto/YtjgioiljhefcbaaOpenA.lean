import Derived.Test.YtjgioiljhefcbaaOpenU
import Derived.Test.YtjgioiljhefcbaaAc
namespace Go.Proofs.Ytjgioiljhefcbaa
open Go.ChangeShapes Go.WideShapes Go.ChangeAt Go.RowKit Go.Deep
section
variable {H : Type} {enc : TypeId × Value → H} {w : World}
theorem cellsAct : Try.prog.cellsOf 56 = 3 := by kernel_rfl
/-- an act as it lies in memory -/
theorem openAct {m : Nat} {cs : List Value} {x : DataW H × List MemPlace} (h : DataW.trod enc Try.prog w 0 (fun _ => true) true m 56 cs = some x) :
    ∃ u : Av, cs = u.cs ∧ RB w u.u.dv u.u.dl ∧ u.u.dl.length + 1 ≤ Rows.uptoBulk x.1 := by
  obtain ⟨xs, n, _, hx, hl, hlen, hf⟩ := DataW.trod_struct Try.underlying56 h
  rw [cellsAct] at hl
  have hL : xs.length = 2 := hlen
  obtain ⟨c0, c1, c2, rfl⟩ : ∃ c0 c1 c2, cs = [c0, c1, c2] := by
    match cs, hl with
    | [c0, c1, c2], _ => exact ⟨c0, c1, c2, rfl⟩
  have f0 : DataW.trod enc Try.prog w 0 (fun _ => true) true n 4 (([c0, c1, c2].drop 0).take (Try.prog.cellsOf 4)) = xs[0]? := hf 0 _ rfl
  have f1 : DataW.trod enc Try.prog w 0 (fun _ => true) true n 45 (([c0, c1, c2].drop 1).take (Try.prog.cellsOf 45)) = xs[1]? := hf 1 _ rfl
  rw [cellsBo, List.getElem?_eq_getElem (by omega)] at f0
  rw [cellsWr, List.getElem?_eq_getElem (by omega)] at f1
  have g0 : DataW.trod enc Try.prog w 0 (fun _ => true) true n 4 [c0] = some xs[0] := f0
  have g1 : DataW.trod enc Try.prog w 0 (fun _ => true) true n 45 [c1, c2] = some xs[1] := f1
  obtain ⟨z, e0, _⟩ := DataW.trod_bool Try.underlying4 g0
  simp at e0
  subst e0
  obtain ⟨u, e1, h1, h2, _⟩ := openWr g1
  simp [Wv.cs] at e1
  obtain ⟨rfl, rfl⟩ := e1
  refine ⟨⟨z, u⟩, rfl, h1, ?_⟩
  rw [hx]
  have hm : xs[1].1 ∈ xs.map (·.1) := List.mem_map_of_mem (List.getElem_mem _)
  have := bulk_mem hm
  simp only [Rows.uptoBulk]
  omega
theorem openActsU {base : Nat} {v : Value} {d : DataW H} {ps : List MemPlace} (hv : Value.okWide Try.prog w .any base 54 v)
    (h : DataW.Trod enc Try.prog w 0 (fun _ => true) true 54 v d ps) (hsm : Rows.uptoBulk d ≤ 1048576) : ∃ us, RAv w v us ∧ us.length + 1 ≤ Rows.uptoBulk d := by
  obtain ⟨a0, len0, cap0, rfl⟩ := okWide_slice Try.underlying54 hv
  obtain ⟨fuel, hf⟩ := h
  have hf' : DataW.trod enc Try.prog w 0 (fun _ => true) true fuel 54 [.slice a0 len0 cap0] = some (d, ps) := hf
  obtain ⟨a, len, cap, he, hlc, hrow⟩ := openRowB Try.underlying54 hf' (by rw [cellsAct]; omega)
  rw [he]
  rcases hrow with rfl | ⟨m, elems, hlen, hbulk, b, o, rfl, hlt, hel⟩
  · exact ⟨[], ⟨⟨a, cap, rfl, hlc, .inl rfl⟩, by simp⟩, by have := bulk_pos d; simpa using this⟩
  simp only at hbulk
  have : ∀ i, i < len → ∃ u : Av, (w.cell? ⟨b, o + i * 3, none⟩ = some (.bool u.sy) ∧ w.cell? ⟨b, o + i * 3 + 1, none⟩ = some (.int .i64 u.u.at_) ∧ w.cell? ⟨b, o + i * 3 + 2, none⟩ = some u.u.dv) ∧ RB w u.u.dv u.u.dl ∧ u.u.dl.length ≤ 140737488351232 := fun i hi => by
    obtain ⟨cs, hcl, hc, ht⟩ := hel i (by omega)
    obtain ⟨u, rfl, h1, h2⟩ := openAct ht
    have c0 := hc 0 (by rw [cellsAct]; omega)
    have c1 := hc 1 (by rw [cellsAct]; omega)
    have c2 := hc 2 (by rw [cellsAct]; omega)
    rw [cellsAct] at c0 c1 c2
    have hm : elems[i].1 ∈ elems.map (·.1) := List.mem_map_of_mem (List.getElem_mem _)
    have := bulk_mem hm
    exact ⟨u, ⟨by simpa [Av.cs] using c0, by simpa [Av.cs] using c1, by simpa [Av.cs] using c2⟩, h1, by omega⟩
  have hinh : Inhabited Av := ⟨⟨false, ⟨0, undef, []⟩⟩⟩
  obtain ⟨f, hf⟩ := choose_lt this
  obtain ⟨l, rfl, hl⟩ := lists_of f len
  refine ⟨l, ⟨⟨_, cap, rfl, hlc, .inr ⟨b, o, rfl, hlt, fun i u hu => ?_⟩⟩, fun u hu => ?_⟩, ?_⟩
  · have hi := (List.getElem?_eq_some_iff.1 hu).1
    rw [hl i hi] at hu
    injection hu with hu
    subst hu
    exact (hf i hi).1
  · obtain ⟨i, hi, rfl⟩ := List.getElem_of_mem hu
    have := hl i hi
    rw [List.getElem?_eq_getElem hi] at this
    injection this with this
    rw [this]; exact (hf i hi).2
  · have := bulk_len (elems.map (·.1)); rw [List.length_map] at this; omega
end
end Go.Proofs.Ytjgioiljhefcbaa
