import Derived.Test.YtldkecjfjcnkfaaGg
namespace Go.Proofs.Ytldkecjfjcnkfaa
open Go.RowKit Go.Deep
theorem fstE_of {f : Nat → Int} : ∀ {n : Nat}, (∀ i, i < n → f i = 0) → fstE f n = 0
  | 0, _ => rfl
  | n + 1, h => by
    unfold fstE
    rw [if_pos (fstE_of (fun i hi => h i (by omega)))]
    exact h n (by omega)
/-- the key of the one is less than that of the other -/
def KL (a b : PE) : Prop := Op.bytesLess a.key.toList b.key.toList = true
theorem kyG_at {es : List PE} {i : Nat} (h : i < es.length) : kyG es i = es[i].key := by
  unfold kyG
  rw [getD_of (List.getElem?_eq_getElem h)]
theorem dvG_at {es : List PE} {i : Nat} (h : i < es.length) : dvG es i = es[i].t := by
  unfold dvG
  rw [getD_of (List.getElem?_eq_getElem h)]
theorem rise_iff (es : List PE) : Rise (kyG es) es.length ↔ es.Pairwise KL := by
  rw [List.pairwise_iff_getElem]
  constructor
  · intro h i j hi hj hij
    have := h i j hij hj
    rw [kyG_at hi, kyG_at hj] at this
    exact this
  · intro h p q hpq hq
    rw [kyG_at (by omega), kyG_at hq]
    exact h p q (by omega) hq hpq
theorem keyBad_of_rise {ky : Nat → ByteArray} {n : Nat} (h : Rise ky n) : ∀ i, i < n → keyBad ky i = false
  | 0, _ => rfl
  | p + 1, hp => by
    have h1 := h p (p + 1) (Nat.lt_succ_self _) hp
    have h2 := bytes_tri (ky (p + 1)).toList (ky p).toList
    show (Op.bytesLess (ky (p + 1)).toList (ky p).toList || (ky (p + 1)).toList == (ky p).toList) = false
    rw [← h2, h1]
    rfl
/-- when a dictionary has no fault -/
theorem wk_tG (es : List PE) (ar : Int) (ha : ar < 32) : wk (tG es) ar = 0 ↔ es.Pairwise KL ∧ ∀ e ∈ es, wk e.t (ar + 1) = 0 := by
  have hown : ownB 4 0 ⟨#[]⟩ 0 es.length = true := (ownB_iff _ _ _ _ _).2 ⟨by decide, by decide, .inr rfl, .inr (by rw [ByteArray.toList_eq]), .inr rfl, .inl rfl⟩
  have e : wk (tG es) ar = fstE (fun i => if keyBad (kyG es) i = true then 25 else wk (dvG es i) (ar + 1)) es.length := by
    show (if ownB 4 0 ⟨#[]⟩ 0 es.length = false then 27 else if (4 : Int) < 3 then 0 else if 32 ≤ ar then 24 else if fstE (fun i => wk T.no (ar + 1)) 0 ≠ 0 then fstE (fun i => wk T.no (ar + 1)) 0 else fstE (fun i => if keyBad (kyG es) i = true then 25 else wk (dvG es i) (ar + 1)) es.length) = _
    rw [if_neg (by rw [hown]; decide), if_neg (by decide), if_neg (by omega), if_neg (fun h => h rfl)]
  rw [e]
  constructor
  · intro h
    have h1 := fstE_zero h
    have hk : ∀ i, i < es.length → keyBad (kyG es) i = false := fun i hi => by
      have := h1 i hi
      cases hb : keyBad (kyG es) i with
      | false => rfl
      | true => simp [hb] at this
    refine ⟨(rise_iff es).1 (rise_of_good hk), fun e he => ?_⟩
    obtain ⟨i, hi, rfl⟩ := List.getElem_of_mem he
    have := h1 i hi
    simp only [hk i hi, dvG_at hi] at this
    simpa using this
  · rintro ⟨hp, hv⟩
    apply fstE_of
    intro i hi
    simp only [keyBad_of_rise ((rise_iff es).2 hp) i hi, dvG_at hi]
    simpa using hv _ (List.getElem_mem hi)
theorem sub_put {es0 es : List PE} {o : PE} {at' : Nat} (h : es0.Sublist es) : es0.Sublist (es.take at' ++ o :: es.drop at') := by
  refine h.trans ?_
  have e : es = es.take at' ++ es.drop at' := (List.take_append_drop _ _).symm
  exact (e ▸ List.Sublist.refl es : es.Sublist (es.take at' ++ es.drop at')).trans (List.Sublist.append_left (List.sublist_cons_self _ _) _)
theorem LD.sub {es0 os es : List PE} (h : LD es0 os es) : es0.Sublist es := by
  induction h with
  | nil => exact List.Sublist.refl _
  | skip _ _ ih => exact ih
  | put _ _ _ _ ih => exact sub_put ih
theorem LD.has {es0 os es : List PE} (h : LD es0 os es) : ∀ o ∈ os, o.t.k ≠ 0 → o ∈ es := by
  induction h with
  | nil => intro o ho; simp at ho
  | skip _ hk ih =>
    intro o ho h0
    rcases List.mem_append.1 ho with h1 | h1
    · exact ih o h1 h0
    · simp at h1; subst h1; exact absurd hk h0
  | @put os' es' o' at' _ _ _ _ ih =>
    intro o ho h0
    rcases List.mem_append.1 ho with h1 | h1
    · have h2 := ih o h1 h0
      rw [← List.take_append_drop at' es'] at h2
      rcases List.mem_append.1 h2 with h3 | h3
      · exact List.mem_append_left _ h3
      · exact List.mem_append_right _ (List.mem_cons_of_mem _ h3)
    · simp at h1; subst h1; simp
/-- a good dictionary of a wish: the others rise, and the names -/
theorem good_rise {ns : List (ByteArray × Int)} {sz qu : Int} {ag : ByteArray} {yv : Value} {es es' : List PE} (h : LD es (ownP ns sz qu ag yv) es') (hg : wk (tG es') 0 = 0) : es.Pairwise KL ∧ (nE ns).Pairwise KL := by
  obtain ⟨h1, h2⟩ := (wk_tG es' 0 (by decide)).1 hg
  refine ⟨h1.sublist h.sub, ?_⟩
  have h3 := h.has ⟨kM, tG (nE ns), .slice none 0 0, yv⟩ (by simp [ownP, ownQ]) (by show (4 : Int) ≠ 0; decide)
  exact ((wk_tG (nE ns) (0 + 1) (by decide)).1 (h2 _ h3)).1
end Go.Proofs.Ytldkecjfjcnkfaa
