import Derived.Test.YtldkecjfjcnkfaaHj
namespace Go.Proofs.Ytldkecjfjcnkfaa
open Go.RowKit Go.Deep
/-- a pair without its places in memory -/
def kt (e : PE) : ByteArray × T := (e.key, e.t)
def ltK (a x : ByteArray × T) : Bool := Op.bytesLess a.1.toList x.1.toList
def eqK (a x : ByteArray × T) : Bool := a.1.toList == x.1.toList
theorem mg_kt : ∀ (old later : List PE), (mgP old later).map kt = mg ltK eqK (old.map kt) (later.map kt)
  | old, [] => by unfold mgP; rw [mg_nil, List.map_nil, mg_nil]
  | [], x :: xs => by unfold mgP; rw [mg_none, List.map_nil, mg_none]
  | a :: rest, x :: xs => by
    have ih1 := mg_kt rest (x :: xs)
    have ih2 := mg_kt rest xs
    have ih3 := mg_kt (a :: rest) xs
    unfold mgP at *
    simp only [List.map_cons] at *
    cases h : ltP a x with
    | true => rw [mg_lt _ _ h, mg_lt _ _ (show ltK (kt a) (kt x) = true from h), List.map_cons, ih1]
    | false =>
      cases h2 : eqP a x with
      | true => rw [mg_eq _ _ h h2, mg_eq _ _ (show ltK (kt a) (kt x) = false from h) (show eqK (kt a) (kt x) = true from h2), List.map_cons, ih2]
      | false => rw [mg_gt _ _ h h2, mg_gt _ _ (show ltK (kt a) (kt x) = false from h) (show eqK (kt a) (kt x) = false from h2), List.map_cons, ih3]
termination_by old later => old.length + later.length
theorem kt_len {a b : List PE} (h : a.map kt = b.map kt) : a.length = b.length := by simpa using congrArg List.length h
theorem kt_at {a b : List PE} (h : a.map kt = b.map kt) (i : Nat) (hi : i < a.length) : kyG a i = kyG b i ∧ dvG a i = dvG b i := by
  have hl := kt_len h
  have h1 : (a.map kt)[i]? = (b.map kt)[i]? := by rw [h]
  rw [List.getElem?_map, List.getElem?_map, List.getElem?_eq_getElem hi, List.getElem?_eq_getElem (by omega)] at h1
  simp only [Option.map_some, Option.some.injEq, kt, Prod.mk.injEq] at h1
  rw [kyG_at hi, kyG_at (by omega), dvG_at hi, dvG_at (by omega)]
  exact h1
theorem kt_ex {a b : List PE} (h : a.map kt = b.map kt) {e : PE} (he : e ∈ a) : ∃ f ∈ b, f.key = e.key ∧ f.t = e.t := by
  have h1 : kt e ∈ b.map kt := h ▸ List.mem_map_of_mem he
  obtain ⟨f, hf, e1⟩ := List.mem_map.1 h1
  simp only [kt, Prod.mk.injEq] at e1
  exact ⟨f, hf, e1⟩
theorem kt_mg {a b c d : List PE} (h1 : a.map kt = c.map kt) (h2 : b.map kt = d.map kt) : (mgP a b).map kt = (mgP c d).map kt := by rw [mg_kt, mg_kt, h1, h2]
theorem rd_congr {S : Nat → Prop} {w : World} {n : Nat} {ky ky' : Nat → ByteArray} {dv dv' : Nat → T} {y : Value} (h : RD S w n ky dv y) (he : ∀ i, i < n → ky i = ky' i ∧ dv i = dv' i) : RD S w n ky' dv' y := by
  obtain ⟨a, c, rfl, hx⟩ := h
  refine ⟨a, c, rfl, ?_⟩
  rcases hx with hx | ⟨b, o, h1, h2, h3, h4⟩
  · exact .inl hx
  · refine .inr ⟨b, o, h1, h2, h3, fun i hi => ?_⟩
    obtain ⟨x', y', g1, g2, g3⟩ := h4 i hi
    have e := he i hi
    rw [e.1] at g2
    rw [e.2] at g1 g3
    exact ⟨x', y', g1, g2, g3⟩
theorem rd_of_rg {A : Nat} {w : World} {v : Value} {es : List PE} (h : RG A w v es) : RD (fun _ => True) w es.length (kyG es) (dvG es) v := by
  obtain ⟨a, c, rfl, _, hx⟩ := h
  refine ⟨a, c, rfl, ?_⟩
  rcases hx with rfl | ⟨g, o, h1, h2, h3⟩
  · exact .inl rfl
  · refine .inr ⟨g, o, h1, trivial, h2, fun i hi => ?_⟩
    have h4 := h3 i _ (List.getElem?_eq_getElem hi)
    rw [kyG_at hi, dvG_at hi]
    exact ⟨_, _, RV.keep (fun _ _ => trivial) (Nat.le_refl _) (fun _ _ _ => rfl) _ _ _ h4.1, h4.2 0 (by omega), h4.2 1 (by omega), h4.2 2 (by omega), h4.2 3 (by omega), h4.2 4 (by omega), h4.2 5 (by omega)⟩
theorem rg_of_rd {S : Nat → Prop} {w : World} {n : Nat} {ky : Nat → ByteArray} {dv : Nat → T} {y : Value} (h : RD S w n ky dv y) (hc : capped y) : ∃ es : List PE, es.length = n ∧ (∀ i, i < n → kyG es i = ky i ∧ dvG es i = dv i) ∧ RG w.heap.size w y es := by
  obtain ⟨a, c, rfl, hx⟩ := h
  have hcc := hc _ _ _ rfl
  rcases hx with rfl | ⟨g, o, h1, h2, h3, h4⟩
  · exact ⟨[], rfl, fun i hi => absurd hi (Nat.not_lt_zero _), a, c, rfl, Nat.zero_le _, .inl rfl⟩
  · have h5 : ∀ i, i < n → ∃ p : Value × Value, RV S w (dv i) p.1 p.2 ∧ w.cell? ⟨g, o + i * 6, none⟩ = some (.string (ky i)) ∧ five w g (o + i * 6 + 1) (dv i) p.1 p.2 := fun i hi => by
      obtain ⟨x', y', g1, g2, g3⟩ := h4 i hi
      exact ⟨(x', y'), g1, g2, g3⟩
    have : Inhabited (Value × Value) := ⟨(.slice none 0 0, .slice none 0 0)⟩
    obtain ⟨f, hf⟩ := choose_lt h5
    have hg : ∀ i (hi : i < n), ((List.range n).map fun i => (⟨ky i, dv i, (f i).1, (f i).2⟩ : PE))[i]? = some ⟨ky i, dv i, (f i).1, (f i).2⟩ := fun i hi => by simp [hi]
    refine ⟨(List.range n).map fun i => ⟨ky i, dv i, (f i).1, (f i).2⟩, by simp, fun i hi => ?_, a, c, by simp, by simpa using hcc.1, .inr ⟨g, o, h1, h3, fun i e he => ?_⟩⟩
    · unfold kyG dvG
      rw [getD_of (hg i hi)]
      exact ⟨rfl, rfl⟩
    · have hi : i < n := by have := (List.getElem?_eq_some_iff.1 he).1; simpa using this
      rw [hg i hi] at he
      cases he
      obtain ⟨g1, g2, g3, g4, g5, g6, g7⟩ := hf i hi
      refine ⟨RV.move (fun b _ hl => hl) (Nat.le_refl _) (fun _ _ _ => rfl) _ _ _ g1, fun r hr => ?_⟩
      obtain rfl | rfl | rfl | rfl | rfl | rfl : r = 0 ∨ r = 1 ∨ r = 2 ∨ r = 3 ∨ r = 4 ∨ r = 5 := by omega
      · exact g2
      · exact g3
      · exact g4
      · exact g5
      · exact g6
      · exact g7
theorem kt_of_at {a b : List PE} (hl : a.length = b.length) (h : ∀ i, i < a.length → kyG a i = kyG b i ∧ dvG a i = dvG b i) : a.map kt = b.map kt := by
  apply List.ext_getElem?
  intro i
  rw [List.getElem?_map, List.getElem?_map]
  by_cases hi : i < a.length
  · rw [List.getElem?_eq_getElem hi, List.getElem?_eq_getElem (by omega)]
    have := h i hi
    rw [kyG_at hi, kyG_at (by omega), dvG_at hi, dvG_at (by omega)] at this
    simp [kt, this.1, this.2]
  · rw [List.getElem?_eq_none (by omega), List.getElem?_eq_none (by omega)]
theorem GW_congr {ns : List (ByteArray × Int)} {sz qu : Int} {a b : List PE} (h : a.map kt = b.map kt) (hg : GW ns sz qu a) : GW ns sz qu b := by
  obtain ⟨g1, g2, g3, g4⟩ := hg
  refine ⟨?_, ?_, g3, fun e he => ?_⟩
  · have e1 : a.any (fun e => owB e.key) = b.any (fun e => owB e.key) := by
      have e2 : ∀ l : List PE, l.any (fun e => owB e.key) = (l.map kt).any (fun p => owB p.1) := fun l => by rw [List.any_map]; rfl
      rw [e2, e2, h]
    unfold wsB at g1 ⊢
    rw [← e1]
    exact g1
  · have e2 : ∀ l : List PE, l.Pairwise KL ↔ (l.map kt).Pairwise (fun p q => Op.bytesLess p.1.toList q.1.toList = true) := fun l => by rw [List.pairwise_map]; rfl
    rw [e2, ← h, ← e2]
    exact g2
  · obtain ⟨f, hf, _, e2⟩ := kt_ex h.symm he
    rw [← e2]
    exact g4 f hf
theorem str_ext {a b : ByteArray} (h : a.toList = b.toList) : a = b := by
  rw [ByteArray.toList_eq, ByteArray.toList_eq] at h
  cases a
  cases b
  simp only at h
  exact congrArg _ (Array.toList_inj.1 h)
end Go.Proofs.Ytldkecjfjcnkfaa
