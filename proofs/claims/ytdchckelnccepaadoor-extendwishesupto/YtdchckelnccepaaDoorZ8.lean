import Derived.Test.YtdchckelnccepaaDoorHf
import Derived.Test.YtdchckelnccepaaDoorZ3
namespace Go.Proofs.YtdchckelnccepaaDoor
open Go.RowKit Go.Deep
theorem kyG_cons (e : PE) (l : List PE) (q : Nat) : kyG (e :: l) (q + 1) = kyG l q := by unfold kyG; simp [List.getD]
theorem kyG_zero (e : PE) (l : List PE) : kyG (e :: l) 0 = e.key := by unfold kyG; simp [List.getD]
theorem wtP_at (p : PE) : ∀ (l : List PE), l.Pairwise KL → ∃ at', At (kyG l) l.length p.key at' ∧ wtP l p = l.take at' ++ p :: l.drop at'
  | [], _ => ⟨0, ⟨Nat.le_refl _, fun q hq => absurd hq (Nat.not_lt_zero _), fun q _ h => absurd h (Nat.not_lt_zero _)⟩, rfl⟩
  | e :: l, hp => by
    rw [List.pairwise_cons] at hp
    cases h : lsK p.key e with
    | true =>
      obtain ⟨at', ⟨h1, h2, h3⟩, h4⟩ := wtP_at p l hp.2
      refine ⟨at' + 1, ⟨by simp; exact h1, fun q hq => ?_, fun q hq hq2 => ?_⟩, ?_⟩
      · cases q with
        | zero => rw [kyG_zero]; exact h
        | succ q => rw [kyG_cons]; exact h2 q (by omega)
      · cases q with
        | zero => omega
        | succ q => rw [kyG_cons]; exact h3 q (by omega) (by simp at hq2; omega)
      · have e1 : wtP (e :: l) p = e :: wtP l p := by simp [wtP, h]
        rw [e1, h4]
        rfl
    | false =>
      have hn : ∀ x ∈ l, lsK p.key x = false := fun x hx => by
        cases hq : lsK p.key x with
        | false => rfl
        | true =>
          have := less_trans _ _ _ (hp.1 x hx) hq
          unfold lsK at h
          rw [h] at this
          cases this
      refine ⟨0, ⟨Nat.zero_le _, fun q hq => absurd hq (Nat.not_lt_zero _), fun q _ hq2 => ?_⟩, ?_⟩
      · cases q with
        | zero => rw [kyG_zero]; exact h
        | succ q =>
          rw [kyG_cons, kyG_at (by simp at hq2; omega)]
          exact hn _ (List.getElem_mem _)
      · have e1 : l.filter (lsK p.key) = [] := List.filter_eq_nil_iff.2 (fun x hx => by rw [hn x hx]; decide)
        have e2 : l.filter (fun e => !lsK p.key e) = l := List.filter_eq_self.2 (fun x hx => by rw [hn x hx]; rfl)
        simp [wtP, h, e1, e2]
theorem wtAll_snoc (es os : List PE) (o : PE) : wtAll es (os ++ [o]) = if o.t.k = 0 then wtAll es os else wtP (wtAll es os) o := by
  unfold wtAll
  rw [List.foldl_append]
  rfl
theorem wtAll_LD' (es : List PE) (hp : es.Pairwise KL) : ∀ (l : List PE), (∀ o ∈ l.reverse, ∀ e ∈ es, e.key.toList ≠ o.key.toList) → l.reverse.Pairwise (fun a b => a.key.toList ≠ b.key.toList) → LD es l.reverse (wtAll es l.reverse)
  | [], _, _ => .nil
  | o :: l, h1, h2 => by
    rw [List.reverse_cons] at h1 h2 ⊢
    have h3 := (List.pairwise_append.1 h2).1
    have ih := wtAll_LD' es hp l (fun o ho => h1 o (List.mem_append_left _ ho)) h3
    rw [wtAll_snoc]
    by_cases hk : o.t.k = 0
    · rw [if_pos hk]
      exact .skip ih hk
    · rw [if_neg hk]
      have hr := ih.rise hp (fun o ho => h1 o (List.mem_append_left _ ho)) h3
      obtain ⟨at', ha, he⟩ := wtP_at o _ hr
      rw [he]
      exact .put ih hk ha.1 (fun _ => ha)
theorem wtAll_LD {es os : List PE} (hp : es.Pairwise KL) (h1 : ∀ o ∈ os, ∀ e ∈ es, e.key.toList ≠ o.key.toList) (h2 : os.Pairwise (fun a b => a.key.toList ≠ b.key.toList)) : LD es os (wtAll es os) := by
  have := wtAll_LD' es hp os.reverse (by simpa using h1) (by simpa using h2)
  simpa using this
/-- the own pairs of a wish among others that name no own key -/
theorem own_LD {ns : List (ByteArray × Int)} {sz qu : Int} {ag : ByteArray} {yv : Value} {es : List PE} (hp : es.Pairwise KL) (hno : ∀ e ∈ es, owB e.key = false) : LD es (ownP ns sz qu ag yv) (wtAll es (ownP ns sz qu ag yv)) := by
  refine wtAll_LD hp (fun o ho e he => ?_) (own_apart _ _ _ _ _ _)
  have h9 := owB_no (hno e he)
  simp only [ownP, ownQ, List.mem_cons, List.not_mem_nil, or_false] at ho
  rcases ho with rfl | rfl | rfl | rfl
  · exact h9.1
  · exact h9.2.1
  · exact h9.2.2.1
  · exact h9.2.2.2
end Go.Proofs.YtdchckelnccepaaDoor
namespace Go.Proofs.YtdchckelnccepaaDoor
open Go.RowKit Go.Deep
/-- a pair without its places in memory -/
def kt (e : PE) : ByteArray × T := (e.key, e.t)
def ltK (a x : ByteArray × T) : Bool := Op.bytesLess a.1.toList x.1.toList
def eqK (a x : ByteArray × T) : Bool := a.1.toList == x.1.toList
theorem mg_kt : ∀ (old later : List PE), (mgP old later).map kt = mg ltK eqK (old.map kt) (later.map kt)
  | old, [] => by unfold mgP; rw [mg_nil, List.map_nil, mg_nil]
  | [], x :: xs => by unfold mgP; rw [mg_none, List.map_nil, mg_none]
  | a :: rest, x :: xs => by
    have ih1 := mg_kt rest (x :: xs)
    have ih2 := mg_kt rest xs
    have ih3 := mg_kt (a :: rest) xs
    unfold mgP at *
    simp only [List.map_cons] at *
    cases h : ltP a x with
    | true => rw [mg_lt _ _ h, mg_lt _ _ (show ltK (kt a) (kt x) = true from h), List.map_cons, ih1]
    | false =>
      cases h2 : eqP a x with
      | true => rw [mg_eq _ _ h h2, mg_eq _ _ (show ltK (kt a) (kt x) = false from h) (show eqK (kt a) (kt x) = true from h2), List.map_cons, ih2]
      | false => rw [mg_gt _ _ h h2, mg_gt _ _ (show ltK (kt a) (kt x) = false from h) (show eqK (kt a) (kt x) = false from h2), List.map_cons, ih3]
termination_by old later => old.length + later.length
theorem kt_len {a b : List PE} (h : a.map kt = b.map kt) : a.length = b.length := by simpa using congrArg List.length h
theorem kt_at {a b : List PE} (h : a.map kt = b.map kt) (i : Nat) (hi : i < a.length) : kyG a i = kyG b i ∧ dvG a i = dvG b i := by
  have hl := kt_len h
  have h1 : (a.map kt)[i]? = (b.map kt)[i]? := by rw [h]
  rw [List.getElem?_map, List.getElem?_map, List.getElem?_eq_getElem hi, List.getElem?_eq_getElem (by omega)] at h1
  simp only [Option.map_some, Option.some.injEq, kt, Prod.mk.injEq] at h1
  rw [kyG_at hi, kyG_at (by omega), dvG_at hi, dvG_at (by omega)]
  exact h1
theorem kt_ex {a b : List PE} (h : a.map kt = b.map kt) {e : PE} (he : e ∈ a) : ∃ f ∈ b, f.key = e.key ∧ f.t = e.t := by
  have h1 : kt e ∈ b.map kt := h ▸ List.mem_map_of_mem he
  obtain ⟨f, hf, e1⟩ := List.mem_map.1 h1
  simp only [kt, Prod.mk.injEq] at e1
  exact ⟨f, hf, e1⟩
theorem kt_mg {a b c d : List PE} (h1 : a.map kt = c.map kt) (h2 : b.map kt = d.map kt) : (mgP a b).map kt = (mgP c d).map kt := by rw [mg_kt, mg_kt, h1, h2]
theorem rd_congr {S : Nat → Prop} {w : World} {n : Nat} {ky ky' : Nat → ByteArray} {dv dv' : Nat → T} {y : Value} (h : RD S w n ky dv y) (he : ∀ i, i < n → ky i = ky' i ∧ dv i = dv' i) : RD S w n ky' dv' y := by
  obtain ⟨a, c, rfl, hx⟩ := h
  refine ⟨a, c, rfl, ?_⟩
  rcases hx with hx | ⟨b, o, h1, h2, h3, h4⟩
  · exact .inl hx
  · refine .inr ⟨b, o, h1, h2, h3, fun i hi => ?_⟩
    obtain ⟨x', y', g1, g2, g3⟩ := h4 i hi
    have e := he i hi
    rw [e.1] at g2
    rw [e.2] at g1 g3
    exact ⟨x', y', g1, g2, g3⟩
theorem rd_of_rg {A : Nat} {w : World} {v : Value} {es : List PE} (h : RG A w v es) : RD (fun _ => True) w es.length (kyG es) (dvG es) v := by
  obtain ⟨a, c, rfl, _, hx⟩ := h
  refine ⟨a, c, rfl, ?_⟩
  rcases hx with rfl | ⟨g, o, h1, h2, h3⟩
  · exact .inl rfl
  · refine .inr ⟨g, o, h1, trivial, h2, fun i hi => ?_⟩
    have h4 := h3 i _ (List.getElem?_eq_getElem hi)
    rw [kyG_at hi, dvG_at hi]
    exact ⟨_, _, RV.keep (fun _ _ => trivial) (Nat.le_refl _) (fun _ _ _ => rfl) _ _ _ h4.1, h4.2 0 (by omega), h4.2 1 (by omega), h4.2 2 (by omega), h4.2 3 (by omega), h4.2 4 (by omega), h4.2 5 (by omega)⟩
theorem rg_of_rd {S : Nat → Prop} {w : World} {n : Nat} {ky : Nat → ByteArray} {dv : Nat → T} {y : Value} (h : RD S w n ky dv y) (hc : capped y) : ∃ es : List PE, es.length = n ∧ (∀ i, i < n → kyG es i = ky i ∧ dvG es i = dv i) ∧ RG w.heap.size w y es := by
  obtain ⟨a, c, rfl, hx⟩ := h
  have hcc := hc _ _ _ rfl
  rcases hx with rfl | ⟨g, o, h1, h2, h3, h4⟩
  · exact ⟨[], rfl, fun i hi => absurd hi (Nat.not_lt_zero _), a, c, rfl, Nat.zero_le _, .inl rfl⟩
  · have h5 : ∀ i, i < n → ∃ p : Value × Value, RV S w (dv i) p.1 p.2 ∧ w.cell? ⟨g, o + i * 6, none⟩ = some (.string (ky i)) ∧ five w g (o + i * 6 + 1) (dv i) p.1 p.2 := fun i hi => by
      obtain ⟨x', y', g1, g2, g3⟩ := h4 i hi
      exact ⟨(x', y'), g1, g2, g3⟩
    have : Inhabited (Value × Value) := ⟨(.slice none 0 0, .slice none 0 0)⟩
    obtain ⟨f, hf⟩ := choose_lt h5
    have hg : ∀ i (hi : i < n), ((List.range n).map fun i => (⟨ky i, dv i, (f i).1, (f i).2⟩ : PE))[i]? = some ⟨ky i, dv i, (f i).1, (f i).2⟩ := fun i hi => by simp [hi]
    refine ⟨(List.range n).map fun i => ⟨ky i, dv i, (f i).1, (f i).2⟩, by simp, fun i hi => ?_, a, c, by simp, by simpa using hcc.1, .inr ⟨g, o, h1, h3, fun i e he => ?_⟩⟩
    · unfold kyG dvG
      rw [getD_of (hg i hi)]
      exact ⟨rfl, rfl⟩
    · have hi : i < n := by have := (List.getElem?_eq_some_iff.1 he).1; simpa using this
      rw [hg i hi] at he
      cases he
      obtain ⟨g1, g2, g3, g4, g5, g6, g7⟩ := hf i hi
      refine ⟨RV.move (fun b _ hl => hl) (Nat.le_refl _) (fun _ _ _ => rfl) _ _ _ g1, fun r hr => ?_⟩
      obtain rfl | rfl | rfl | rfl | rfl | rfl : r = 0 ∨ r = 1 ∨ r = 2 ∨ r = 3 ∨ r = 4 ∨ r = 5 := by omega
      · exact g2
      · exact g3
      · exact g4
      · exact g5
      · exact g6
      · exact g7
theorem kt_of_at {a b : List PE} (hl : a.length = b.length) (h : ∀ i, i < a.length → kyG a i = kyG b i ∧ dvG a i = dvG b i) : a.map kt = b.map kt := by
  apply List.ext_getElem?
  intro i
  rw [List.getElem?_map, List.getElem?_map]
  by_cases hi : i < a.length
  · rw [List.getElem?_eq_getElem hi, List.getElem?_eq_getElem (by omega)]
    have := h i hi
    rw [kyG_at hi, kyG_at (by omega), dvG_at hi, dvG_at (by omega)] at this
    simp [kt, this.1, this.2]
  · rw [List.getElem?_eq_none (by omega), List.getElem?_eq_none (by omega)]
theorem GW_congr {ns : List (ByteArray × Int)} {sz qu : Int} {a b : List PE} (h : a.map kt = b.map kt) (hg : GW ns sz qu a) : GW ns sz qu b := by
  obtain ⟨g1, g2, g3, g4⟩ := hg
  refine ⟨?_, ?_, g3, fun e he => ?_⟩
  · have e1 : a.any (fun e => owB e.key) = b.any (fun e => owB e.key) := by
      have e2 : ∀ l : List PE, l.any (fun e => owB e.key) = (l.map kt).any (fun p => owB p.1) := fun l => by rw [List.any_map]; rfl
      rw [e2, e2, h]
    unfold wsB at g1 ⊢
    rw [← e1]
    exact g1
  · have e2 : ∀ l : List PE, l.Pairwise KL ↔ (l.map kt).Pairwise (fun p q => Op.bytesLess p.1.toList q.1.toList = true) := fun l => by rw [List.pairwise_map]; rfl
    rw [e2, ← h, ← e2]
    exact g2
  · obtain ⟨f, hf, _, e2⟩ := kt_ex h.symm he
    rw [← e2]
    exact g4 f hf
theorem str_ext {a b : ByteArray} (h : a.toList = b.toList) : a = b := by
  rw [ByteArray.toList_eq, ByteArray.toList_eq] at h
  cases a
  cases b
  simp only at h
  exact congrArg _ (Array.toList_inj.1 h)
end Go.Proofs.YtdchckelnccepaaDoor
namespace Go.Proofs.YtdchckelnccepaaDoor
open Go.ChangeShapes Go.WideShapes Go.ChangeAt Go.RowKit Go.Deep
theorem bulk_pos {H : Type} : ∀ d : DataW H, 1 ≤ Rows.uptoBulk d
  | .lit (.string b) => by simp [Rows.uptoBulk]
  | .lit (.int _ _) => by simp [Rows.uptoBulk]
  | .lit (.bool _) => by simp [Rows.uptoBulk]
  | .lit (.float _ _) => by simp [Rows.uptoBulk]
  | .lit .nil => by simp [Rows.uptoBulk]
  | .nil => by simp [Rows.uptoBulk]
  | .ptr d => by simp [Rows.uptoBulk]
  | .slice _ _ => by simp [Rows.uptoBulk]
  | .agg _ => by simp [Rows.uptoBulk]
  | .iface _ d => by simp [Rows.uptoBulk]
  | .map _ => by simp [Rows.uptoBulk]
  | .held _ => by simp [Rows.uptoBulk]
theorem bulk_len {H : Type} : ∀ l : List (DataW H), l.length ≤ Rows.uptoBulkAll l
  | [] => by simp [Rows.uptoBulkAll]
  | d :: l => by
    have := bulk_len l
    have := bulk_pos d
    simp [Rows.uptoBulkAll]; omega
theorem bulk_mem {H : Type} {d : DataW H} : ∀ {l : List (DataW H)}, d ∈ l → Rows.uptoBulk d ≤ Rows.uptoBulkAll l
  | [], h => by cases h
  | a :: l, h => by
    simp only [Rows.uptoBulkAll]
    rcases List.mem_cons.1 h with rfl | h
    · omega
    · have := bulk_mem h; omega
section
variable {H : Type} {enc : TypeId × Value → H} {w : World}
theorem slice_facts {t e : TypeId} (ht : Tryd.prog.underlying t = some (.slice e)) {fuel : Nat} {v : Value} {x : DataW H × List MemPlace} (h : DataW.trod enc Tryd.prog w 0 (fun _ => true) true fuel t [v] = some x) :
    capped v ∧ ∀ a n c, v = .slice a n c → n + 1 ≤ Rows.uptoBulk x.1 := by
  rcases DataW.trod_slice ht h with ⟨h0, rfl⟩ | ⟨a, len, cap, elems, rest, m, rfl, h0, rfl, _, hlc, _, hlen, hel, _, _⟩
  · simp at h0
    subst h0
    exact ⟨fun a n c e => by cases e; exact ⟨Nat.le_refl _, fun _ => rfl⟩, fun a n c e => by cases e; simp [Rows.uptoBulk]⟩
  · simp at h0
    subst h0
    refine ⟨fun a n c e => by cases e; exact ⟨hlc, fun e => by cases e⟩, fun a n c e => ?_⟩
    cases e
    have := bulk_len (elems.map (·.1))
    simp only [List.length_map] at this
    simp only [Rows.uptoBulk]
    omega
theorem rnsU_of_trod {fuel : Nat} {v : Value} {x : DataW H × List MemPlace} (h : DataW.trod enc Tryd.prog w 0 (fun _ => true) true fuel 22 [v] = some x) (hw : ∀ q ∈ DataW.weights Tryd.prog 22 x.1, q ≤ reachBytes) :
    ∃ ns, RNs w v ns ∧ ns.length * 24 ≤ 140737488351232 ∧ ∀ x ∈ ns, x.1.size ≤ 140737488351232 := by
  obtain ⟨ad, dn, cd, rfl, bd, gd⟩ := openRow Tryd.underlying22 h hw (by rw [cells46]; omega)
  rw [bytes46] at bd
  rw [cells46] at gd
  have e1 : reachBytes = 140737488351232 := rfl
  rcases gd with rfl | ⟨m', rfl, b, o, rfl, hb, g⟩
  · exact ⟨[], ⟨_, _, rfl, .inl rfl⟩, by simp, fun x hx => by cases hx⟩
  have : ∀ i, i < dn → ∃ p : ByteArray × Int, w.cell? ⟨b, o + i * 2, none⟩ = some (.string p.1) ∧ w.cell? ⟨b, o + i * 2 + 1, none⟩ = some (.int .i64 p.2) ∧ p.1.size ≤ 140737488351232 := by
    intro i hi
    obtain ⟨cs, y, _, hcell, ht, hq⟩ := g i hi
    obtain ⟨xs, m, rfl, rfl, hl, hx, hf⟩ := DataW.trod_struct Tryd.underlying50 ht
    rw [cells46] at hl
    obtain ⟨c0, c1, rfl⟩ := len2 hl
    obtain ⟨x0, x1, rfl⟩ := len2 (l := xs) (by simpa using hx)
    have f0 := hf 0 _ rfl
    have f1 := hf 1 _ rfl
    simp [cells9, cells3] at f0 f1
    obtain ⟨s, e2, ex0, _⟩ := DataW.trod_string Tryd.underlying9 f0
    obtain ⟨z, e3, _, _⟩ := DataW.trod_int Tryd.underlying3 f1
    simp at e2 e3
    subst e2 e3
    subst ex0
    simp only [DataW.weights, Tryd.underlying50, DataW.weightsEach, List.map, List.mem_append] at hq
    have hss := hq s.data.toList.length (.inl (by simp))
    rw [Array.length_toList] at hss
    exact ⟨(s, z), hcell 0 (by omega), hcell 1 (by omega), hss⟩
  have : Inhabited (ByteArray × Int) := ⟨(ByteArray.empty, 0)⟩
  obtain ⟨f, hf⟩ := choose_lt ‹∀ i, i < dn → _›
  obtain ⟨L, rfl, hL⟩ := lists_of f dn
  refine ⟨L, ⟨_, _, rfl, .inr ⟨b, o, rfl, hb, fun i x hx => ?_⟩⟩, by rw [e1] at bd; omega, fun x hx => ?_⟩
  · have hi := (List.getElem?_eq_some_iff.1 hx).1
    rw [hL i hi] at hx
    cases hx
    exact ⟨(hf i hi).1, (hf i hi).2.1⟩
  · obtain ⟨i, hi, rfl⟩ := List.getElem_of_mem hx
    have h9 : L[i] = f i := Option.some.inj ((List.getElem?_eq_getElem hi).symm.trans (hL i hi))
    rw [h9]
    exact (hf i hi).2.2
set_option maxRecDepth 100000 in
theorem openWishU {base : Nat} {v : Value} {d : DataW H} {ps : List MemPlace} (hv : Value.okWide Tryd.prog w .any base 25 v) (h : DataW.Trod enc Tryd.prog w 0 (fun _ => true) true 25 v d ps) (hw : ∀ q ∈ DataW.weights Tryd.prog 25 d, q ≤ reachBytes) (hk : Rows.uptoBulk d ≤ 1048576) :
    ∃ nv sz qu ag yv ns dn ky dv, v = .agg #[nv, .int .i64 sz, .int .i64 qu, .string ag, yv] ∧ RNs w nv ns ∧ ns.length ≤ 1048576 ∧ (∀ x ∈ ns, x.1.size ≤ 140737488351232) ∧ ag.size ≤ 140737488351232 ∧ (∀ i, i < dn → (ky i).size ≤ 140737488351232 ∧ (dv i).ok) ∧ dn ≤ 1048576 ∧ RD (fun _ => True) w dn ky dv yv ∧ capped nv ∧ capped yv := by
  obtain ⟨cs, rfl, hcs⟩ := okWide_struct Tryd.underlying25 hv
  obtain ⟨fuel, hf⟩ := h
  obtain ⟨xs, m, rfl, hxx, hl, hx, hf⟩ := DataW.trod_struct Tryd.underlying25 hf
  rw [cells35] at hl
  obtain ⟨c0, c1, c2, c3, c4, hc⟩ := len5 hl
  have hcl : cs = #[c0, c1, c2, c3, c4] := by
    have : cs.toList = [c0, c1, c2, c3, c4] := by simpa [Value.cells] using hc
    rw [← this]
  subst hcl
  obtain ⟨x0, x1, x2, x3, x4, rfl⟩ := len5 (l := xs) (by simpa using hx)
  rw [hc] at hf
  have f0 := hf 0 _ rfl
  have f1 := hf 1 _ rfl
  have f2 := hf 2 _ rfl
  have f3 := hf 3 _ rfl
  have f4 := hf 4 _ rfl
  simp [cells9, cells3, cells32, cells23] at f0 f1 f2 f3 f4
  obtain ⟨z1, e1, _, _⟩ := DataW.trod_int Tryd.underlying3 f1
  obtain ⟨z2, e2, _, _⟩ := DataW.trod_int Tryd.underlying3 f2
  obtain ⟨s3, e3, ex3, _⟩ := DataW.trod_string Tryd.underlying9 f3
  simp at e1 e2 e3
  subst e1 e2 e3
  have hd : d = .agg ([x0, x1, x2, x3, x4].map (·.1)) := congrArg Prod.fst hxx
  rw [hd] at hw
  simp only [DataW.weights, Tryd.underlying25, DataW.weightsEach, List.map, List.mem_append, List.append_nil] at hw
  have hw3 := hw s3.data.toList.length (by subst ex3; simp [DataW.weights])
  rw [Array.length_toList] at hw3
  rw [hd] at hk
  simp only [Rows.uptoBulk, List.map, Rows.uptoBulkAll] at hk
  obtain ⟨ns, hn, hnl, hns⟩ := rnsU_of_trod f0 (fun q hq => hw q (.inl hq))
  obtain ⟨dn, ky, dv, hok, hdn, hr⟩ := rd_of_trod f4 (fun q hq => hw q (by simp only [hq, or_true]))
  obtain ⟨g0, g1⟩ := slice_facts Tryd.underlying22 f0
  obtain ⟨g2, g3⟩ := slice_facts Tryd.underlying23 f4
  refine ⟨c0, z1, z2, s3, c4, ns, dn, ky, dv, rfl, hn, ?_, hns, hw3, hok, ?_, hr, g0, g2⟩
  · obtain ⟨a, c, e, _⟩ := hn
    have := g1 _ _ _ e
    omega
  · obtain ⟨a, c, e, _⟩ := hr
    have := g3 _ _ _ e
    omega
end
end Go.Proofs.YtdchckelnccepaaDoor
