import Derived.Test.YtldkecjfjcnkfaaWv
import Derived.ProofKit
import Derived.OpenShut
import Derived.SizedLaws
import Derived.Carry
namespace Go.Proofs.Ytldkecjfjcnkfaa
open Go.ChangeShapes Go.WideShapes Go.ChangeAt Go.RowKit Go.Deep
theorem ownKn : ownKnob Try.prog.godebug = none := by kernel_rfl
theorem laidO : laidOutB Try.prog = true := by kernel_rfl
theorem trodLt {H : Type} {enc : TypeId × Value → H} {W : World} {t : TypeId} {v : Value} {d : DataW H} {p : List MemPlace} (h : DataW.Trod enc Try.prog W 0 (fun _ => true) true t v d p) : ∀ x ∈ p, x.block < W.heap.size := by
  obtain ⟨m, hm⟩ := h
  exact DataW.trod_lt m _ _ _ hm
theorem cells46 : Try.prog.cellsOf 46 = 2 := by kernel_rfl
theorem bytes46 : Try.prog.bytesOf 46 = 24 := by kernel_rfl
theorem cells32 : Try.prog.cellsOf 32 = 1 := by kernel_rfl
theorem cells35 : Try.prog.cellsOf 35 = 5 := by kernel_rfl
theorem lists_of {α : Type} (f : Nat → α) (n : Nat) : ∃ L : List α, L.length = n ∧ ∀ i, i < n → L[i]? = some (f i) :=
  ⟨(List.range n).map f, by simp, fun i hi => by simp [hi]⟩
section
variable {H : Type} {enc : TypeId × Value → H} {w : World}
theorem rd_of_trod {fuel : Nat} {v : Value} {x : DataW H × List MemPlace} (h : DataW.trod enc Try.prog w 0 (fun _ => true) true fuel 33 [v] = some x) (hw : ∀ q ∈ DataW.weights Try.prog 33 x.1, q ≤ reachBytes) :
    ∃ (dn : Nat) (ky : Nat → ByteArray) (l : Nat → T), (∀ i, i < dn → (ky i).size ≤ 140737488351232 ∧ (l i).ok) ∧ dn ≤ 140737488351232 ∧ RD (fun _ => True) w dn ky l v := by
  obtain ⟨ad, dn, cd, rfl, bd, gd⟩ := openRow Try.underlying33 h hw (by rw [cells42]; omega)
  rw [bytes42] at bd
  rw [cells42] at gd
  have e1 : reachBytes = 140737488351232 := rfl
  rcases gd with rfl | ⟨m', rfl, b, o, rfl, hb, g⟩
  · exact ⟨0, fun _ => ByteArray.empty, fun _ => .no, fun i hi => absurd hi (Nat.not_lt_zero _), Nat.zero_le _, _, _, rfl, .inl rfl⟩
  have : ∀ i, i < dn → ∃ p : ByteArray × T × Value × Value, RV (fun _ => True) w p.2.1 p.2.2.1 p.2.2.2 ∧ w.cell? ⟨b, o + i * 6, none⟩ = some (.string p.1) ∧ five w b (o + i * 6 + 1) p.2.1 p.2.2.1 p.2.2.2 ∧ p.1.size ≤ 140737488351232 ∧ p.2.1.ok := by
    intro i hi
    obtain ⟨cs, y, _, hcell, ht, hq⟩ := g i hi
    obtain ⟨m2, s, cs', xv, rfl, rfl, hy, hv⟩ := open42 ht
    rw [hy] at hq
    simp only [DataW.weights, Try.underlying59, DataW.weightsEach, List.map, List.mem_append, List.append_nil] at hq
    obtain ⟨t, lv, dv, rfl, h1, h2⟩ := rv_of_trod m2 cs' xv hv (fun q h => hq q (.inr h))
    refine ⟨(s, t, lv, dv), h1, hcell 0 (by omega), ⟨hcell 1 (by omega), hcell 2 (by omega), hcell 3 (by omega), hcell 4 (by omega), hcell 5 (by omega)⟩, ?_, h2⟩
    have := hq s.data.toList.length (.inl (by simp))
    rwa [Array.length_toList] at this
  have : Inhabited (ByteArray × T × Value × Value) := ⟨(ByteArray.empty, .no, .slice none 0 0, .slice none 0 0)⟩
  obtain ⟨f, hf⟩ := choose_lt ‹∀ i, i < dn → _›
  exact ⟨dn, fun i => (f i).1, fun i => (f i).2.1, fun i hi => (hf i hi).2.2.2, by rw [e1] at bd; omega, _, _, rfl, .inr ⟨b, o, rfl, trivial, hb, fun i hi => ⟨_, _, (hf i hi).1, (hf i hi).2.1, (hf i hi).2.2.1⟩⟩⟩
theorem rns_of_trod {fuel : Nat} {v : Value} {x : DataW H × List MemPlace} (h : DataW.trod enc Try.prog w 0 (fun _ => true) true fuel 32 [v] = some x) (hw : ∀ q ∈ DataW.weights Try.prog 32 x.1, q ≤ reachBytes) :
    ∃ ns, RNs w v ns ∧ ns.length * 24 ≤ 140737488351232 := by
  obtain ⟨ad, dn, cd, rfl, bd, gd⟩ := openRow Try.underlying32 h hw (by rw [cells46]; omega)
  rw [bytes46] at bd
  rw [cells46] at gd
  have e1 : reachBytes = 140737488351232 := rfl
  rcases gd with rfl | ⟨m', rfl, b, o, rfl, hb, g⟩
  · exact ⟨[], ⟨_, _, rfl, .inl rfl⟩, by simp⟩
  have : ∀ i, i < dn → ∃ p : ByteArray × Int, w.cell? ⟨b, o + i * 2, none⟩ = some (.string p.1) ∧ w.cell? ⟨b, o + i * 2 + 1, none⟩ = some (.int .i64 p.2) := by
    intro i hi
    obtain ⟨cs, y, _, hcell, ht, hq⟩ := g i hi
    obtain ⟨xs, m, rfl, rfl, hl, hx, hf⟩ := DataW.trod_struct Try.underlying46 ht
    rw [cells46] at hl
    obtain ⟨c0, c1, rfl⟩ := len2 hl
    obtain ⟨x0, x1, rfl⟩ := len2 (l := xs) (by simpa using hx)
    have f0 := hf 0 _ rfl
    have f1 := hf 1 _ rfl
    simp [cells9, cells3] at f0 f1
    obtain ⟨s, e2, _, _⟩ := DataW.trod_string Try.underlying9 f0
    obtain ⟨z, e3, _, _⟩ := DataW.trod_int Try.underlying3 f1
    simp at e2 e3
    subst e2 e3
    exact ⟨(s, z), hcell 0 (by omega), hcell 1 (by omega)⟩
  have : Inhabited (ByteArray × Int) := ⟨(ByteArray.empty, 0)⟩
  obtain ⟨f, hf⟩ := choose_lt ‹∀ i, i < dn → _›
  obtain ⟨L, rfl, hL⟩ := lists_of f dn
  refine ⟨L, ⟨_, _, rfl, .inr ⟨b, o, rfl, hb, fun i x hx => ?_⟩⟩, by rw [e1] at bd; omega⟩
  have hi := (List.getElem?_eq_some_iff.1 hx).1
  rw [hL i hi] at hx
  cases hx
  exact hf i hi
set_option maxRecDepth 100000 in
theorem openWish {base : Nat} {v : Value} {d : DataW H} {ps : List MemPlace} (hv : Value.okWide Try.prog w .any base 35 v) (h : DataW.Trod enc Try.prog w 0 (fun _ => true) true 35 v d ps) (hw : ∀ q ∈ DataW.weights Try.prog 35 d, q ≤ reachBytes) :
    ∃ nv sz qu ag yv ns dn ky dv, v = .agg #[nv, .int .i64 sz, .int .i64 qu, .string ag, yv] ∧ RNs w nv ns ∧ ns.length * 24 ≤ 140737488351232 ∧ (∀ i, i < dn → (ky i).size ≤ 140737488351232 ∧ (dv i).ok) ∧ dn ≤ 140737488351232 ∧ RD (fun _ => True) w dn ky dv yv := by
  obtain ⟨cs, rfl, hcs⟩ := okWide_struct Try.underlying35 hv
  obtain ⟨fuel, hf⟩ := h
  obtain ⟨xs, m, rfl, hxx, hl, hx, hf⟩ := DataW.trod_struct Try.underlying35 hf
  rw [cells35] at hl
  obtain ⟨c0, c1, c2, c3, c4, hc⟩ := len5 hl
  have hcl : cs = #[c0, c1, c2, c3, c4] := by
    have : cs.toList = [c0, c1, c2, c3, c4] := by simpa [Value.cells] using hc
    rw [← this]
  subst hcl
  obtain ⟨x0, x1, x2, x3, x4, rfl⟩ := len5 (l := xs) (by simpa using hx)
  rw [hc] at hf
  have f0 := hf 0 _ rfl
  have f1 := hf 1 _ rfl
  have f2 := hf 2 _ rfl
  have f3 := hf 3 _ rfl
  have f4 := hf 4 _ rfl
  simp [cells9, cells3, cells32, cells23] at f0 f1 f2 f3 f4
  obtain ⟨z1, e1, _, _⟩ := DataW.trod_int Try.underlying3 f1
  obtain ⟨z2, e2, _, _⟩ := DataW.trod_int Try.underlying3 f2
  obtain ⟨s3, e3, _, _⟩ := DataW.trod_string Try.underlying9 f3
  simp at e1 e2 e3
  subst e1 e2 e3
  have hd : d = .agg ([x0, x1, x2, x3, x4].map (·.1)) := congrArg Prod.fst hxx
  rw [hd] at hw
  simp only [DataW.weights, Try.underlying35, DataW.weightsEach, List.map, List.mem_append, List.append_nil] at hw
  obtain ⟨ns, hn, hnl⟩ := rns_of_trod f0 (fun q hq => hw q (.inl hq))
  obtain ⟨dn, ky, dv, hok, hdn, hr⟩ := rd_of_trod f4 (fun q hq => hw q (by simp only [hq, or_true]))
  exact ⟨c0, z1, z2, s3, c4, ns, dn, ky, dv, rfl, hn, hnl, hok, hdn, hr⟩
end
end Go.Proofs.Ytldkecjfjcnkfaa
