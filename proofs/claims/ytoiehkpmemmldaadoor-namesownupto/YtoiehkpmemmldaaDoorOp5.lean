import Derived.Test.YtoiehkpmemmldaaDoorOp2
namespace Go.Proofs.YtoiehkpmemmldaaDoor
open Go.ChangeShapes Go.WideShapes Go.ChangeAt Go.RowKit Go.Deep
section
variable {H : Type} {enc : TypeId × Value → H} {w : World}
set_option maxRecDepth 100000 in
theorem openArgB {base : Nat} {v : Value} {d : DataW H} {ps : List MemPlace} (hv : Value.okWide Tryd.prog w .any base 29 v)
    (h : DataW.Trod enc Tryd.prog w 0 (fun _ => true) true 29 v d ps) (hk : Rows.uptoBulk d ≤ 1048576) : ∃ l, SR w l v ∧ l.length ≤ 1048576 ∧ ∀ s ∈ l, s.size ≤ 1048576 := by
  obtain ⟨a, len, cap, rfl⟩ := okWide_slice Tryd.underlying29 hv
  obtain ⟨fuel, hf⟩ := h
  have hf' : DataW.trod enc Tryd.prog w 0 (fun _ => true) true fuel 29 [.slice a len cap] = some (d, ps) := hf
  obtain ⟨l, h1, h2, h3⟩ := openStrsB hf'
  exact ⟨l, h1, by simp only at h2; omega, fun s hs => by have := h3 s hs; simp only at this; omega⟩
set_option maxRecDepth 100000 in
theorem openPathsB {base : Nat} {v : Value} {d : DataW H} {ps : List MemPlace} (hv : Value.okWide Tryd.prog w .any base 22 v)
    (h : DataW.Trod enc Tryd.prog w 0 (fun _ => true) true 22 v d ps) (hk : Rows.uptoBulk d ≤ 1048576) : ∃ L, PR w L v ∧ L.length + tot L ≤ 1048576 ∧ ∀ l ∈ L, ∀ x ∈ l, x.size ≤ 1048576 := by
  obtain ⟨a0, len0, cap0, rfl⟩ := okWide_slice Tryd.underlying22 hv
  obtain ⟨fuel, hf⟩ := h
  have hf' : DataW.trod enc Tryd.prog w 0 (fun _ => true) true fuel 22 [.slice a0 len0 cap0] = some (d, ps) := hf
  obtain ⟨a, len, cap, he, hlc, hrow⟩ := openRowB Tryd.underlying22 hf' (by rw [cells33]; omega)
  rw [he]
  rcases hrow with rfl | ⟨m, elems, hlen, hbulk, b, o, rfl, hlt, hel⟩
  · exact ⟨[], ⟨a, cap, rfl, hlc, .inl rfl⟩, by simp [tot], by simp⟩
  have : ∀ i, i < len → ∃ l : List ByteArray, (∃ x, w.cell? ⟨b, o + i, none⟩ = some x ∧ SR w l x) ∧ (∀ hi : i < elems.length, l.length + 1 ≤ Rows.uptoBulk elems[i].1) ∧ l.length ≤ 1048576 ∧ ∀ s ∈ l, s.size ≤ 1048576 := fun i hi => by
    obtain ⟨cs, hcl, hc, ht⟩ := hel i (by omega)
    rw [cells33] at hcl
    obtain ⟨x, rfl⟩ := List.length_eq_one_iff.1 hcl
    obtain ⟨l, h1, h2, h3⟩ := openStrsB ht
    have hm := bulk_mem (d := elems[i].1) (l := elems.map (·.1)) (List.mem_map_of_mem (List.getElem_mem _))
    have h0 := hc 0 (by rw [cells33]; omega)
    rw [cells33] at h0
    simp only at hbulk
    exact ⟨l, ⟨x, by simpa using h0, h1⟩, fun _ => h2, by omega, fun s hs => by have := h3 s hs; omega⟩
  obtain ⟨f, hf2⟩ := choose_lt this
  obtain ⟨L, rfl, hL⟩ := lists_of_fun f len
  refine ⟨L, ⟨_, cap, rfl, hlc, .inr ⟨b, o, rfl, hlt, fun i hi => by rw [hL i hi]; exact (hf2 i hi).1⟩⟩, ?_, fun l hl => ?_⟩
  · have := bulk_tot L (elems.map (·.1)) (by simp [hlen]) (fun i hi => by
      simp at hi
      rw [hL i (by omega)]
      simpa using (hf2 i (by omega)).2.1 hi)
    simp only at hbulk
    omega
  · obtain ⟨i, hi, rfl⟩ := List.getElem_of_mem hl
    rw [← la_get hi, hL i hi]
    obtain ⟨_, _, h3, h4⟩ := hf2 i hi
    exact fun s hs => h4 s hs
end
end Go.Proofs.YtoiehkpmemmldaaDoor
