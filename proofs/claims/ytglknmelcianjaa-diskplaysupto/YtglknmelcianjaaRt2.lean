import Derived.Test.YtglknmelcianjaaOpenU
import Derived.Test.YtglknmelcianjaaRy2
namespace Go.Proofs.Ytglknmelcianjaa
open Go.ChangeShapes Go.WideShapes Go.ChangeAt Go.RowKit Go.Deep
section
variable {H : Type} {enc : TypeId × Value → H} {w : World}
theorem openBoolsB {fuel : Nat} {v : Value} {x : DataW H × List MemPlace} (h : DataW.trod enc Try.prog w 0 (fun _ => true) true fuel 28 [v] = some x) :
    ∃ zs, RBo w v zs ∧ zs.length + 1 ≤ Rows.uptoBulk x.1 := by
  obtain ⟨a, len, cap, rfl, hlc, hrow⟩ := openRowB Try.underlying28 h (by rw [cellsBo]; omega)
  rcases hrow with rfl | ⟨m, elems, hlen, hbulk, b, o, rfl, hlt, hel⟩
  · exact ⟨[], ⟨a, cap, rfl, hlc, .inl rfl⟩, by have := bulk_pos x.1; simpa using this⟩
  have : ∀ i, i < len → ∃ z : Bool, w.cell? ⟨b, o + i, none⟩ = some (.bool z) := fun i hi => by
    obtain ⟨cs, hcl, hc, ht⟩ := hel i (by omega)
    have h0 := hc 0 (by rw [cellsBo]; omega)
    rw [cellsBo] at h0 hcl
    obtain ⟨y, rfl⟩ := List.length_eq_one_iff.1 hcl
    obtain ⟨z, e0, _⟩ := DataW.trod_bool Try.underlying4 ht
    simp at e0
    subst e0
    exact ⟨z, by simpa using h0⟩
  have hinh : Inhabited Bool := ⟨false⟩
  obtain ⟨f, hf⟩ := choose_lt this
  obtain ⟨l, rfl, hl⟩ := lists_of f len
  refine ⟨l, ⟨_, cap, rfl, hlc, .inr ⟨b, o, rfl, hlt, fun i hi => ?_⟩⟩, ?_⟩
  · have : l.getD i false = f i := by simp [List.getD, hl i hi]
    rw [this]; exact hf i hi
  · have := bulk_len (elems.map (·.1)); rw [List.length_map] at this; omega
theorem cellsOp : Try.prog.cellsOf 30 = 8 := by kernel_rfl
theorem cellsKo : Try.prog.cellsOf 28 = 1 := by kernel_rfl
theorem oneInt {n : Nat} {c : Value} {x : DataW H × List MemPlace} (h : DataW.trod enc Try.prog w 0 (fun _ => true) true n 3 [c] = some x) : ∃ z : Int, c = .int .i64 z ∧ z ≤ 9223372036854775807 := by
  obtain ⟨z, e0, _, wa⟩ := DataW.trod_int Try.underlying3 h
  have h255 : -9223372036854775808 ≤ z ∧ z ≤ 9223372036854775807 := by simpa [Lit.wf, IntKind.min, IntKind.max, IntKind.signed, IntKind.bits] using wa
  simp at e0
  exact ⟨z, e0, h255.2⟩
/-- a step as it lies in memory -/
theorem openOpC {m : Nat} {cs : List Value} {x : DataW H × List MemPlace} (h : DataW.trod enc Try.prog w 0 (fun _ => true) true m 30 cs = some x) (hbk : Rows.uptoBulk x.1 ≤ 1048576) :
    ∃ u : OpI, cs = u.cs ∧ OpR w u := by
  obtain ⟨xs, n, _, hx, hl, hlen, hf⟩ := DataW.trod_struct Try.underlying30 h
  rw [cellsOp] at hl
  have hL : xs.length = 8 := hlen
  obtain ⟨c0, c1, c2, c3, c4, c5, c6, c7, rfl⟩ : ∃ c0 c1 c2 c3 c4 c5 c6 c7, cs = [c0, c1, c2, c3, c4, c5, c6, c7] := by
    match cs, hl with
    | [c0, c1, c2, c3, c4, c5, c6, c7], _ => exact ⟨c0, c1, c2, c3, c4, c5, c6, c7, rfl⟩
  have f0 : DataW.trod enc Try.prog w 0 (fun _ => true) true n 3 (([c0, c1, c2, c3, c4, c5, c6, c7].drop 0).take (Try.prog.cellsOf 3)) = xs[0]? := hf 0 _ rfl
  have f1 : DataW.trod enc Try.prog w 0 (fun _ => true) true n 3 (([c0, c1, c2, c3, c4, c5, c6, c7].drop 1).take (Try.prog.cellsOf 3)) = xs[1]? := hf 1 _ rfl
  have f2 : DataW.trod enc Try.prog w 0 (fun _ => true) true n 3 (([c0, c1, c2, c3, c4, c5, c6, c7].drop 2).take (Try.prog.cellsOf 3)) = xs[2]? := hf 2 _ rfl
  have f3 : DataW.trod enc Try.prog w 0 (fun _ => true) true n 3 (([c0, c1, c2, c3, c4, c5, c6, c7].drop 3).take (Try.prog.cellsOf 3)) = xs[3]? := hf 3 _ rfl
  have f4 : DataW.trod enc Try.prog w 0 (fun _ => true) true n 27 (([c0, c1, c2, c3, c4, c5, c6, c7].drop 4).take (Try.prog.cellsOf 27)) = xs[4]? := hf 4 _ rfl
  have f5 : DataW.trod enc Try.prog w 0 (fun _ => true) true n 28 (([c0, c1, c2, c3, c4, c5, c6, c7].drop 5).take (Try.prog.cellsOf 28)) = xs[5]? := hf 5 _ rfl
  have f6 : DataW.trod enc Try.prog w 0 (fun _ => true) true n 3 (([c0, c1, c2, c3, c4, c5, c6, c7].drop 6).take (Try.prog.cellsOf 3)) = xs[6]? := hf 6 _ rfl
  have f7 : DataW.trod enc Try.prog w 0 (fun _ => true) true n 3 (([c0, c1, c2, c3, c4, c5, c6, c7].drop 7).take (Try.prog.cellsOf 3)) = xs[7]? := hf 7 _ rfl
  rw [cells3, List.getElem?_eq_getElem (by omega)] at f0 f1 f2 f3 f6 f7
  rw [cellsB, List.getElem?_eq_getElem (by omega)] at f4
  rw [cellsKo, List.getElem?_eq_getElem (by omega)] at f5
  obtain ⟨z0, rfl, _⟩ := oneInt (c := c0) f0
  obtain ⟨z1, rfl, _⟩ := oneInt (c := c1) f1
  obtain ⟨z2, rfl, _⟩ := oneInt (c := c2) f2
  obtain ⟨z3, rfl, b3⟩ := oneInt (c := c3) f3
  obtain ⟨z6, rfl, _⟩ := oneInt (c := c6) f6
  obtain ⟨z7, rfl, _⟩ := oneInt (c := c7) f7
  obtain ⟨d, r4, l4⟩ := openBytesB (v := c4) f4
  obtain ⟨ks, r5, l5⟩ := openBoolsB (v := c5) f5
  have hb : ∀ i (hi : i < xs.length), Rows.uptoBulk xs[i].1 ≤ 1048576 := fun i hi => by
    have hm : xs[i].1 ∈ xs.map (·.1) := List.mem_map_of_mem (List.getElem_mem _)
    have := bulk_mem hm
    rw [hx] at hbk
    simp only [Rows.uptoBulk] at hbk
    omega
  have b4 := hb 4 (by omega)
  have b5 := hb 5 (by omega)
  have r4' := r4
  have r5' := r5
  obtain ⟨da, dc, rfl, _⟩ := r4'
  obtain ⟨ka, kc, rfl, _⟩ := r5'
  exact ⟨⟨z0, z1, z2, z3, da, dc, d, ka, kc, ks, z6, z7⟩, rfl, ⟨r4, r5, by show d.length ≤ _; omega, by show ks.length ≤ _; omega, b3⟩⟩
theorem openScriptU {base : Nat} {v : Value} {d : DataW H} {ps : List MemPlace} (hv : Value.okWide Try.prog w .any base 22 v)
    (h : DataW.Trod enc Try.prog w 0 (fun _ => true) true 22 v d ps) (hsm : Rows.uptoBulk d ≤ 1048576) : ∃ us, RSc w v us ∧ us.length + 1 ≤ Rows.uptoBulk d := by
  obtain ⟨a0, len0, cap0, rfl⟩ := okWide_slice Try.underlying22 hv
  obtain ⟨fuel, hf⟩ := h
  have hf' : DataW.trod enc Try.prog w 0 (fun _ => true) true fuel 22 [.slice a0 len0 cap0] = some (d, ps) := hf
  obtain ⟨a, len, cap, he, hlc, hrow⟩ := openRowB Try.underlying22 hf' (by rw [cellsOp]; omega)
  rw [he]
  rcases hrow with rfl | ⟨m, elems, hlen, hbulk, b, o, rfl, hlt, hel⟩
  · exact ⟨[], ⟨a, cap, rfl, .inl rfl, by simp⟩, by have := bulk_pos d; simpa using this⟩
  simp only at hbulk
  have : ∀ i, i < len → ∃ u : OpI, w.rangeAt b (o + i * 8) u.cs ∧ OpR w u := fun i hi => by
    obtain ⟨cs, hcl, hc, ht⟩ := hel i (by omega)
    have hm : elems[i].1 ∈ elems.map (·.1) := List.mem_map_of_mem (List.getElem_mem _)
    have := bulk_mem hm
    obtain ⟨u, rfl, h1⟩ := openOpC ht (by omega)
    rw [cellsOp] at hc hcl
    refine ⟨u, fun j x hx => ?_, h1⟩
    rw [hc j (by rw [← hcl]; exact (List.getElem?_eq_some_iff.1 hx).1)]
    exact hx
  have hinh : Inhabited OpI := ⟨⟨0, 0, 0, 0, .none, 0, [], .none, 0, [], 0, 0⟩⟩
  obtain ⟨f, hf⟩ := choose_lt this
  obtain ⟨l, rfl, hl⟩ := lists_of f len
  refine ⟨l, ⟨_, cap, rfl, .inr ⟨b, o, rfl, hlt, fun i u hu => ?_⟩, fun u hu => ?_⟩, ?_⟩
  · have hi := (List.getElem?_eq_some_iff.1 hu).1
    rw [hl i hi] at hu
    injection hu with hu
    subst hu
    exact (hf i hi).1
  · obtain ⟨i, hi, rfl⟩ := List.getElem_of_mem hu
    have := hl i hi
    rw [List.getElem?_eq_getElem hi] at this
    injection this with this
    rw [this]; exact (hf i hi).2
  · have := bulk_len (elems.map (·.1)); rw [List.length_map] at this; omega
end
end Go.Proofs.Ytglknmelcianjaa
