import Derived.Test.YtldkecjfjcnkfaaWo
import Derived.Test.YtldkecjfjcnkfaaHm
namespace Go.Proofs.Ytldkecjfjcnkfaa
open Go.ChangeShapes Go.WideShapes Go.ChangeAt Go.RowKit Go.Deep
theorem bulk_pos {H : Type} : ∀ d : DataW H, 1 ≤ Rows.uptoBulk d
  | .lit (.string b) => by simp [Rows.uptoBulk]
  | .lit (.int _ _) => by simp [Rows.uptoBulk]
  | .lit (.bool _) => by simp [Rows.uptoBulk]
  | .lit (.float _ _) => by simp [Rows.uptoBulk]
  | .lit .nil => by simp [Rows.uptoBulk]
  | .nil => by simp [Rows.uptoBulk]
  | .ptr d => by simp [Rows.uptoBulk]
  | .slice _ _ => by simp [Rows.uptoBulk]
  | .agg _ => by simp [Rows.uptoBulk]
  | .iface _ d => by simp [Rows.uptoBulk]
  | .map _ => by simp [Rows.uptoBulk]
  | .held _ => by simp [Rows.uptoBulk]
theorem bulk_len {H : Type} : ∀ l : List (DataW H), l.length ≤ Rows.uptoBulkAll l
  | [] => by simp [Rows.uptoBulkAll]
  | d :: l => by
    have := bulk_len l
    have := bulk_pos d
    simp [Rows.uptoBulkAll]; omega
theorem bulk_mem {H : Type} {d : DataW H} : ∀ {l : List (DataW H)}, d ∈ l → Rows.uptoBulk d ≤ Rows.uptoBulkAll l
  | [], h => by cases h
  | a :: l, h => by
    simp only [Rows.uptoBulkAll]
    rcases List.mem_cons.1 h with rfl | h
    · omega
    · have := bulk_mem h; omega
section
variable {H : Type} {enc : TypeId × Value → H} {w : World}
theorem slice_facts {t e : TypeId} (ht : Try.prog.underlying t = some (.slice e)) {fuel : Nat} {v : Value} {x : DataW H × List MemPlace} (h : DataW.trod enc Try.prog w 0 (fun _ => true) true fuel t [v] = some x) :
    capped v ∧ ∀ a n c, v = .slice a n c → n + 1 ≤ Rows.uptoBulk x.1 := by
  rcases DataW.trod_slice ht h with ⟨h0, rfl⟩ | ⟨a, len, cap, elems, rest, m, rfl, h0, rfl, _, hlc, _, hlen, hel, _, _⟩
  · simp at h0
    subst h0
    exact ⟨fun a n c e => by cases e; exact ⟨Nat.le_refl _, fun _ => rfl⟩, fun a n c e => by cases e; simp [Rows.uptoBulk]⟩
  · simp at h0
    subst h0
    refine ⟨fun a n c e => by cases e; exact ⟨hlc, fun e => by cases e⟩, fun a n c e => ?_⟩
    cases e
    have := bulk_len (elems.map (·.1))
    simp only [List.length_map] at this
    simp only [Rows.uptoBulk]
    omega
theorem rnsU_of_trod {fuel : Nat} {v : Value} {x : DataW H × List MemPlace} (h : DataW.trod enc Try.prog w 0 (fun _ => true) true fuel 32 [v] = some x) (hw : ∀ q ∈ DataW.weights Try.prog 32 x.1, q ≤ reachBytes) :
    ∃ ns, RNs w v ns ∧ ns.length * 24 ≤ 140737488351232 ∧ ∀ x ∈ ns, x.1.size ≤ 140737488351232 := by
  obtain ⟨ad, dn, cd, rfl, bd, gd⟩ := openRow Try.underlying32 h hw (by rw [cells46]; omega)
  rw [bytes46] at bd
  rw [cells46] at gd
  have e1 : reachBytes = 140737488351232 := rfl
  rcases gd with rfl | ⟨m', rfl, b, o, rfl, hb, g⟩
  · exact ⟨[], ⟨_, _, rfl, .inl rfl⟩, by simp, fun x hx => by cases hx⟩
  have : ∀ i, i < dn → ∃ p : ByteArray × Int, w.cell? ⟨b, o + i * 2, none⟩ = some (.string p.1) ∧ w.cell? ⟨b, o + i * 2 + 1, none⟩ = some (.int .i64 p.2) ∧ p.1.size ≤ 140737488351232 := by
    intro i hi
    obtain ⟨cs, y, _, hcell, ht, hq⟩ := g i hi
    obtain ⟨xs, m, rfl, rfl, hl, hx, hf⟩ := DataW.trod_struct Try.underlying46 ht
    rw [cells46] at hl
    obtain ⟨c0, c1, rfl⟩ := len2 hl
    obtain ⟨x0, x1, rfl⟩ := len2 (l := xs) (by simpa using hx)
    have f0 := hf 0 _ rfl
    have f1 := hf 1 _ rfl
    simp [cells9, cells3] at f0 f1
    obtain ⟨s, e2, ex0, _⟩ := DataW.trod_string Try.underlying9 f0
    obtain ⟨z, e3, _, _⟩ := DataW.trod_int Try.underlying3 f1
    simp at e2 e3
    subst e2 e3
    subst ex0
    simp only [DataW.weights, Try.underlying46, DataW.weightsEach, List.map, List.mem_append] at hq
    have hss := hq s.data.toList.length (.inl (by simp))
    rw [Array.length_toList] at hss
    exact ⟨(s, z), hcell 0 (by omega), hcell 1 (by omega), hss⟩
  have : Inhabited (ByteArray × Int) := ⟨(ByteArray.empty, 0)⟩
  obtain ⟨f, hf⟩ := choose_lt ‹∀ i, i < dn → _›
  obtain ⟨L, rfl, hL⟩ := lists_of f dn
  refine ⟨L, ⟨_, _, rfl, .inr ⟨b, o, rfl, hb, fun i x hx => ?_⟩⟩, by rw [e1] at bd; omega, fun x hx => ?_⟩
  · have hi := (List.getElem?_eq_some_iff.1 hx).1
    rw [hL i hi] at hx
    cases hx
    exact ⟨(hf i hi).1, (hf i hi).2.1⟩
  · obtain ⟨i, hi, rfl⟩ := List.getElem_of_mem hx
    have h9 : L[i] = f i := Option.some.inj ((List.getElem?_eq_getElem hi).symm.trans (hL i hi))
    rw [h9]
    exact (hf i hi).2.2
set_option maxRecDepth 100000 in
theorem openWishU {base : Nat} {v : Value} {d : DataW H} {ps : List MemPlace} (hv : Value.okWide Try.prog w .any base 35 v) (h : DataW.Trod enc Try.prog w 0 (fun _ => true) true 35 v d ps) (hw : ∀ q ∈ DataW.weights Try.prog 35 d, q ≤ reachBytes) (hk : Rows.uptoBulk d ≤ 1048576) :
    ∃ nv sz qu ag yv ns dn ky dv, v = .agg #[nv, .int .i64 sz, .int .i64 qu, .string ag, yv] ∧ RNs w nv ns ∧ ns.length ≤ 1048576 ∧ (∀ x ∈ ns, x.1.size ≤ 140737488351232) ∧ ag.size ≤ 140737488351232 ∧ (∀ i, i < dn → (ky i).size ≤ 140737488351232 ∧ (dv i).ok) ∧ dn ≤ 1048576 ∧ RD (fun _ => True) w dn ky dv yv ∧ capped nv ∧ capped yv := by
  obtain ⟨cs, rfl, hcs⟩ := okWide_struct Try.underlying35 hv
  obtain ⟨fuel, hf⟩ := h
  obtain ⟨xs, m, rfl, hxx, hl, hx, hf⟩ := DataW.trod_struct Try.underlying35 hf
  rw [cells35] at hl
  obtain ⟨c0, c1, c2, c3, c4, hc⟩ := len5 hl
  have hcl : cs = #[c0, c1, c2, c3, c4] := by
    have : cs.toList = [c0, c1, c2, c3, c4] := by simpa [Value.cells] using hc
    rw [← this]
  subst hcl
  obtain ⟨x0, x1, x2, x3, x4, rfl⟩ := len5 (l := xs) (by simpa using hx)
  rw [hc] at hf
  have f0 := hf 0 _ rfl
  have f1 := hf 1 _ rfl
  have f2 := hf 2 _ rfl
  have f3 := hf 3 _ rfl
  have f4 := hf 4 _ rfl
  simp [cells9, cells3, cells32, cells23] at f0 f1 f2 f3 f4
  obtain ⟨z1, e1, _, _⟩ := DataW.trod_int Try.underlying3 f1
  obtain ⟨z2, e2, _, _⟩ := DataW.trod_int Try.underlying3 f2
  obtain ⟨s3, e3, ex3, _⟩ := DataW.trod_string Try.underlying9 f3
  simp at e1 e2 e3
  subst e1 e2 e3
  have hd : d = .agg ([x0, x1, x2, x3, x4].map (·.1)) := congrArg Prod.fst hxx
  rw [hd] at hw
  simp only [DataW.weights, Try.underlying35, DataW.weightsEach, List.map, List.mem_append, List.append_nil] at hw
  have hw3 := hw s3.data.toList.length (by subst ex3; simp [DataW.weights])
  rw [Array.length_toList] at hw3
  rw [hd] at hk
  simp only [Rows.uptoBulk, List.map, Rows.uptoBulkAll] at hk
  obtain ⟨ns, hn, hnl, hns⟩ := rnsU_of_trod f0 (fun q hq => hw q (.inl hq))
  obtain ⟨dn, ky, dv, hok, hdn, hr⟩ := rd_of_trod f4 (fun q hq => hw q (by simp only [hq, or_true]))
  obtain ⟨g0, g1⟩ := slice_facts Try.underlying32 f0
  obtain ⟨g2, g3⟩ := slice_facts Try.underlying33 f4
  refine ⟨c0, z1, z2, s3, c4, ns, dn, ky, dv, rfl, hn, ?_, hns, hw3, hok, ?_, hr, g0, g2⟩
  · obtain ⟨a, c, e, _⟩ := hn
    have := g1 _ _ _ e
    omega
  · obtain ⟨a, c, e, _⟩ := hr
    have := g3 _ _ _ e
    omega
end
end Go.Proofs.Ytldkecjfjcnkfaa
