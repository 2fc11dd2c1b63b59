import Derived.Test.YtdchckelnccepaaDoorJd
namespace Go.Proofs.YtdchckelnccepaaDoor
open Go.ChangeShapes Go.WideShapes Go.ChangeAt Go.RowKit Go.Deep
theorem i64_fit {n : Int} (h : (Lit.int .i64 n).wf = true) : i64 n := by simpa [i64, Lit.wf, IntKind.min, IntKind.max, IntKind.signed, IntKind.bits] using h
section
variable {H : Type} {enc : TypeId × Value → H} {w : World}
theorem openRowK {t e : TypeId} (ht : Tryd.prog.underlying t = some (.slice e)) {fuel : Nat} {v : Value} {x : DataW H × List MemPlace} (h : DataW.trod enc Tryd.prog w 0 (fun _ => true) true fuel t [v] = some x)
    (hw : ∀ q ∈ DataW.weights Tryd.prog t x.1, q ≤ reachBytes) (hc : 0 < Tryd.prog.cellsOf e) :
    ∃ (a : Option Addr) (len cap : Nat), v = .slice a len cap ∧ len * Tryd.prog.bytesOf e ≤ reachBytes ∧ (len = 0 ∨ ∃ m, fuel = m + 1 ∧ ∃ b o, a = some ⟨b, o, none⟩ ∧ b < w.heap.size ∧
      ∀ i, i < len → ∃ cs y, cs.length = Tryd.prog.cellsOf e ∧ (∀ j, j < Tryd.prog.cellsOf e → w.cell? ⟨b, o + i * Tryd.prog.cellsOf e + j, none⟩ = cs[j]?) ∧ DataW.trod enc Tryd.prog w 0 (fun _ => true) true m e cs = some y ∧ (∀ q ∈ DataW.weights Tryd.prog e y.1, q ≤ reachBytes) ∧ Rows.uptoBulk y.1 ≤ Rows.uptoBulk x.1) := by
  rcases DataW.trod_slice ht h with ⟨h0, rfl⟩ | ⟨a, len, cap, elems, rest, m, rfl, h0, rfl, _, _, _, hlen, hel, _, _⟩
  · simp at h0
    exact ⟨none, 0, 0, h0, by simp, .inl rfl⟩
  simp at h0
  subst h0
  simp only [DataW.weights, ht] at hw
  refine ⟨some a, len, cap, rfl, ?_, ?_⟩
  · have := hw _ (List.mem_cons_self ..)
    simp only [List.length_map, hlen] at this
    exact Nat.le_trans (Nat.mul_le_mul_right _ (by omega)) this
  by_cases h00 : len = 0
  · exact .inl h00
  have key : ∀ i, i < len → ∃ cs y, w.cells? 0 (a.add (i * Tryd.prog.cellsOf e)) (Tryd.prog.cellsOf e) = some cs ∧ DataW.trod enc Tryd.prog w 0 (fun _ => true) true m e cs = some y ∧ y ∈ elems := by
    intro i hi
    have := hel i hi
    rw [List.getElem?_eq_getElem (by omega)] at this
    obtain ⟨cs', h1, h2⟩ := Option.bind_eq_some_iff.1 this
    exact ⟨cs', _, h1, h2, List.getElem_mem _⟩
  have cellof : ∀ {a' : Addr} {c : Nat} {cs : List Value}, w.cells? 0 a' c = some cs → cs.length = c ∧ ∀ j, j < c → w.cell? (a'.add j) = cs[j]? := fun h => ⟨(World.cells?_some h).2.1, (World.cells?_some h).2.2⟩
  obtain ⟨b, o, spot⟩ := a
  have hspot : spot = none ∧ b < w.heap.size := by
    obtain ⟨cs, y, h1, _, _⟩ := key 0 (by omega)
    obtain ⟨hl, hj⟩ := cellof h1
    have := hj 0 hc
    rw [List.getElem?_eq_getElem (by omega)] at this
    have h2 := World.cell?_spot this
    have h3 := World.block_lt_of_cell? w _ this
    simp [Addr.add] at h2 h3
    exact ⟨h2, h3⟩
  obtain ⟨rfl, hb⟩ := hspot
  have hadd : ∀ o i : Nat, (⟨b, o, none⟩ : Addr).add i = ⟨b, o + i, none⟩ := by intro o i; unfold Addr.add; split <;> simp_all
  refine .inr ⟨m, rfl, b, o, rfl, hb, fun i hi => ?_⟩
  obtain ⟨cs, y, h1, h2, h3⟩ := key i hi
  obtain ⟨hl, hj⟩ := cellof h1
  refine ⟨cs, y, hl, fun j hj' => ?_, h2, fun q hq => hw q ?_, ?_⟩
  · have := hj j hj'
    rw [hadd, hadd] at this
    exact this
  · refine List.mem_cons_of_mem _ (List.mem_append.2 (.inl (weightsAll_mem (List.mem_map_of_mem h3) hq)))
  · have h9 : y.1 ∈ elems.map (·.1) := List.mem_map_of_mem h3
    have := bulk_mem h9
    simp only [Rows.uptoBulk]
    omega
theorem rnsK_of_trod {fuel : Nat} {v : Value} {x : DataW H × List MemPlace} (h : DataW.trod enc Tryd.prog w 0 (fun _ => true) true fuel 22 [v] = some x) (hw : ∀ q ∈ DataW.weights Tryd.prog 22 x.1, q ≤ reachBytes) :
    ∃ ns, RNs w v ns ∧ ns.length * 24 ≤ 140737488351232 ∧ ∀ y ∈ ns, y.1.size ≤ Rows.uptoBulk x.1 ∧ i64 y.2 := by
  obtain ⟨ad, dn, cd, rfl, bd, gd⟩ := openRowK Tryd.underlying22 h hw (by rw [cells46]; omega)
  rw [bytes46] at bd
  rw [cells46] at gd
  have e1 : reachBytes = 140737488351232 := rfl
  rcases gd with rfl | ⟨m', rfl, b, o, rfl, hb, g⟩
  · exact ⟨[], ⟨_, _, rfl, .inl rfl⟩, by simp, fun y hy => by cases hy⟩
  have : ∀ i, i < dn → ∃ p : ByteArray × Int, w.cell? ⟨b, o + i * 2, none⟩ = some (.string p.1) ∧ w.cell? ⟨b, o + i * 2 + 1, none⟩ = some (.int .i64 p.2) ∧ p.1.size ≤ Rows.uptoBulk x.1 ∧ i64 p.2 := by
    intro i hi
    obtain ⟨cs, y, _, hcell, ht, hq, hbk⟩ := g i hi
    obtain ⟨xs, m, rfl, rfl, hl, hx, hf⟩ := DataW.trod_struct Tryd.underlying50 ht
    rw [cells46] at hl
    obtain ⟨c0, c1, rfl⟩ := len2 hl
    obtain ⟨x0, x1, rfl⟩ := len2 (l := xs) (by simpa using hx)
    have f0 := hf 0 _ rfl
    have f1 := hf 1 _ rfl
    simp [cells9, cells3] at f0 f1
    obtain ⟨s, e2, ex0, _⟩ := DataW.trod_string Tryd.underlying9 f0
    obtain ⟨z, e3, _, wa⟩ := DataW.trod_int Tryd.underlying3 f1
    simp at e2 e3
    subst e2 e3
    subst ex0
    have hss : s.size ≤ Rows.uptoBulk x.1 := by
      have e9 : s.size = s.data.toList.length := by rw [Array.length_toList]; rfl
      simp only [List.map, Rows.uptoBulk, Rows.uptoBulkAll] at hbk
      omega
    exact ⟨(s, z), hcell 0 (by omega), hcell 1 (by omega), hss, i64_fit wa⟩
  have : Inhabited (ByteArray × Int) := ⟨(ByteArray.empty, 0)⟩
  obtain ⟨f, hf⟩ := choose_lt ‹∀ i, i < dn → _›
  obtain ⟨L, rfl, hL⟩ := lists_of f dn
  refine ⟨L, ⟨_, _, rfl, .inr ⟨b, o, rfl, hb, fun i x hx => ?_⟩⟩, by rw [e1] at bd; omega, fun y hy => ?_⟩
  · have hi := (List.getElem?_eq_some_iff.1 hx).1
    rw [hL i hi] at hx
    cases hx
    exact ⟨(hf i hi).1, (hf i hi).2.1⟩
  · obtain ⟨i, hi, rfl⟩ := List.getElem_of_mem hy
    have h9 : L[i] = f i := Option.some.inj ((List.getElem?_eq_getElem hi).symm.trans (hL i hi))
    rw [h9]
    exact (hf i hi).2.2
theorem rdI_of_trod {fuel : Nat} {v : Value} {x : DataW H × List MemPlace} (h : DataW.trod enc Tryd.prog w 0 (fun _ => true) true fuel 23 [v] = some x) (hw : ∀ q ∈ DataW.weights Tryd.prog 23 x.1, q ≤ reachBytes) :
    ∃ (dn : Nat) (ky : Nat → ByteArray) (l : Nat → T), (∀ i, i < dn → (ky i).size ≤ 140737488351232 ∧ (l i).ok ∧ (l i).ints) ∧ dn ≤ 140737488351232 ∧ RD (fun _ => True) w dn ky l v := by
  obtain ⟨ad, dn, cd, rfl, bd, gd⟩ := openRow Tryd.underlying23 h hw (by rw [cells42]; omega)
  rw [bytes42] at bd
  rw [cells42] at gd
  have e1 : reachBytes = 140737488351232 := rfl
  rcases gd with rfl | ⟨m', rfl, b, o, rfl, hb, g⟩
  · exact ⟨0, fun _ => ByteArray.empty, fun _ => .no, fun i hi => absurd hi (Nat.not_lt_zero _), Nat.zero_le _, _, _, rfl, .inl rfl⟩
  have : ∀ i, i < dn → ∃ p : ByteArray × T × Value × Value, RV (fun _ => True) w p.2.1 p.2.2.1 p.2.2.2 ∧ w.cell? ⟨b, o + i * 6, none⟩ = some (.string p.1) ∧ five w b (o + i * 6 + 1) p.2.1 p.2.2.1 p.2.2.2 ∧ p.1.size ≤ 140737488351232 ∧ p.2.1.ok ∧ p.2.1.ints := by
    intro i hi
    obtain ⟨cs, y, _, hcell, ht, hq⟩ := g i hi
    obtain ⟨m2, s, cs', xv, rfl, rfl, hy, hv⟩ := open42 ht
    rw [hy] at hq
    simp only [DataW.weights, Tryd.underlying44, DataW.weightsEach, List.map, List.mem_append, List.append_nil] at hq
    obtain ⟨t, lv, dv, rfl, h1, h2⟩ := rv_of_trod_i m2 cs' xv hv (fun q h => hq q (.inr h))
    refine ⟨(s, t, lv, dv), h1, hcell 0 (by omega), ⟨hcell 1 (by omega), hcell 2 (by omega), hcell 3 (by omega), hcell 4 (by omega), hcell 5 (by omega)⟩, ?_, h2⟩
    have := hq s.data.toList.length (.inl (by simp))
    rwa [Array.length_toList] at this
  have : Inhabited (ByteArray × T × Value × Value) := ⟨(ByteArray.empty, .no, .slice none 0 0, .slice none 0 0)⟩
  obtain ⟨f, hf⟩ := choose_lt ‹∀ i, i < dn → _›
  exact ⟨dn, fun i => (f i).1, fun i => (f i).2.1, fun i hi => (hf i hi).2.2.2, by rw [e1] at bd; omega, _, _, rfl, .inr ⟨b, o, rfl, trivial, hb, fun i hi => ⟨_, _, (hf i hi).1, (hf i hi).2.1, (hf i hi).2.2.1⟩⟩⟩
set_option maxRecDepth 100000 in
theorem openWishK {base : Nat} {v : Value} {d : DataW H} {ps : List MemPlace} (hv : Value.okWide Tryd.prog w .any base 25 v) (h : DataW.Trod enc Tryd.prog w 0 (fun _ => true) true 25 v d ps) (hw : ∀ q ∈ DataW.weights Tryd.prog 25 d, q ≤ reachBytes) (hk : Rows.uptoBulk d ≤ 1048576) :
    ∃ nv sz qu ag yv ns dn ky dv, v = .agg #[nv, .int .i64 sz, .int .i64 qu, .string ag, yv] ∧ RNs w nv ns ∧ ns.length ≤ 1048576 ∧ (∀ x ∈ ns, x.1.size ≤ 1048576 ∧ i64 x.2) ∧ i64 sz ∧ i64 qu ∧ ag.size ≤ 1048576 ∧ (∀ i, i < dn → (ky i).size ≤ 140737488351232 ∧ (dv i).ok ∧ (dv i).ints) ∧ dn ≤ 1048576 ∧ RD (fun _ => True) w dn ky dv yv ∧ capped nv ∧ capped yv := by
  obtain ⟨cs, rfl, hcs⟩ := okWide_struct Tryd.underlying25 hv
  obtain ⟨fuel, hf⟩ := h
  obtain ⟨xs, m, rfl, hxx, hl, hx, hf⟩ := DataW.trod_struct Tryd.underlying25 hf
  rw [cells35] at hl
  obtain ⟨c0, c1, c2, c3, c4, hc⟩ := len5 hl
  have hcl : cs = #[c0, c1, c2, c3, c4] := by
    have : cs.toList = [c0, c1, c2, c3, c4] := by simpa [Value.cells] using hc
    rw [← this]
  subst hcl
  obtain ⟨x0, x1, x2, x3, x4, rfl⟩ := len5 (l := xs) (by simpa using hx)
  rw [hc] at hf
  have f0 := hf 0 _ rfl
  have f1 := hf 1 _ rfl
  have f2 := hf 2 _ rfl
  have f3 := hf 3 _ rfl
  have f4 := hf 4 _ rfl
  simp [cells9, cells3, cells32, cells23] at f0 f1 f2 f3 f4
  obtain ⟨z1, e1, _, wa1⟩ := DataW.trod_int Tryd.underlying3 f1
  obtain ⟨z2, e2, _, wa2⟩ := DataW.trod_int Tryd.underlying3 f2
  obtain ⟨s3, e3, ex3, _⟩ := DataW.trod_string Tryd.underlying9 f3
  simp at e1 e2 e3
  subst e1 e2 e3
  have hd : d = .agg ([x0, x1, x2, x3, x4].map (·.1)) := congrArg Prod.fst hxx
  rw [hd] at hw
  simp only [DataW.weights, Tryd.underlying25, DataW.weightsEach, List.map, List.mem_append, List.append_nil] at hw
  have e9 : s3.size = s3.data.toList.length := by rw [Array.length_toList]; rfl
  rw [hd] at hk
  simp only [Rows.uptoBulk, List.map, Rows.uptoBulkAll] at hk
  obtain ⟨ns, hn, hnl, hns⟩ := rnsK_of_trod f0 (fun q hq => hw q (.inl hq))
  obtain ⟨dn, ky, dv, hok, hdn, hr⟩ := rdI_of_trod f4 (fun q hq => hw q (by simp only [hq, or_true]))
  obtain ⟨g0, g1⟩ := slice_facts Tryd.underlying22 f0
  obtain ⟨g2, g3⟩ := slice_facts Tryd.underlying23 f4
  refine ⟨c0, z1, z2, s3, c4, ns, dn, ky, dv, rfl, hn, ?_, fun x hx => ⟨by have := (hns x hx).1; omega, (hns x hx).2⟩, i64_fit wa1, i64_fit wa2, by subst ex3; simp only [Rows.uptoBulk] at hk; omega, hok, ?_, hr, g0, g2⟩
  · obtain ⟨a, c, e, _⟩ := hn
    have := g1 _ _ _ e
    omega
  · obtain ⟨a, c, e, _⟩ := hr
    have := g3 _ _ _ e
    omega
end
end Go.Proofs.YtdchckelnccepaaDoor
