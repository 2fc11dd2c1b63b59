import Derived.Test.YtnjdopdlafcbgaaHf
namespace Go.Proofs.Ytnjdopdlafcbgaa
open Go.RowKit Go.Deep
theorem kyG_cons (e : PE) (l : List PE) (q : Nat) : kyG (e :: l) (q + 1) = kyG l q := by unfold kyG; simp [List.getD]
theorem kyG_zero (e : PE) (l : List PE) : kyG (e :: l) 0 = e.key := by unfold kyG; simp [List.getD]
theorem wtP_at (p : PE) : ∀ (l : List PE), l.Pairwise KL → ∃ at', At (kyG l) l.length p.key at' ∧ wtP l p = l.take at' ++ p :: l.drop at'
  | [], _ => ⟨0, ⟨Nat.le_refl _, fun q hq => absurd hq (Nat.not_lt_zero _), fun q _ h => absurd h (Nat.not_lt_zero _)⟩, rfl⟩
  | e :: l, hp => by
    rw [List.pairwise_cons] at hp
    cases h : lsK p.key e with
    | true =>
      obtain ⟨at', ⟨h1, h2, h3⟩, h4⟩ := wtP_at p l hp.2
      refine ⟨at' + 1, ⟨by simp; exact h1, fun q hq => ?_, fun q hq hq2 => ?_⟩, ?_⟩
      · cases q with
        | zero => rw [kyG_zero]; exact h
        | succ q => rw [kyG_cons]; exact h2 q (by omega)
      · cases q with
        | zero => omega
        | succ q => rw [kyG_cons]; exact h3 q (by omega) (by simp at hq2; omega)
      · have e1 : wtP (e :: l) p = e :: wtP l p := by simp [wtP, h]
        rw [e1, h4]
        rfl
    | false =>
      have hn : ∀ x ∈ l, lsK p.key x = false := fun x hx => by
        cases hq : lsK p.key x with
        | false => rfl
        | true =>
          have := less_trans _ _ _ (hp.1 x hx) hq
          unfold lsK at h
          rw [h] at this
          cases this
      refine ⟨0, ⟨Nat.zero_le _, fun q hq => absurd hq (Nat.not_lt_zero _), fun q _ hq2 => ?_⟩, ?_⟩
      · cases q with
        | zero => rw [kyG_zero]; exact h
        | succ q =>
          rw [kyG_cons, kyG_at (by simp at hq2; omega)]
          exact hn _ (List.getElem_mem _)
      · have e1 : l.filter (lsK p.key) = [] := List.filter_eq_nil_iff.2 (fun x hx => by rw [hn x hx]; decide)
        have e2 : l.filter (fun e => !lsK p.key e) = l := List.filter_eq_self.2 (fun x hx => by rw [hn x hx]; rfl)
        simp [wtP, h, e1, e2]
theorem wtAll_snoc (es os : List PE) (o : PE) : wtAll es (os ++ [o]) = if o.t.k = 0 then wtAll es os else wtP (wtAll es os) o := by
  unfold wtAll
  rw [List.foldl_append]
  rfl
theorem wtAll_LD' (es : List PE) (hp : es.Pairwise KL) : ∀ (l : List PE), (∀ o ∈ l.reverse, ∀ e ∈ es, e.key.toList ≠ o.key.toList) → l.reverse.Pairwise (fun a b => a.key.toList ≠ b.key.toList) → LD es l.reverse (wtAll es l.reverse)
  | [], _, _ => .nil
  | o :: l, h1, h2 => by
    rw [List.reverse_cons] at h1 h2 ⊢
    have h3 := (List.pairwise_append.1 h2).1
    have ih := wtAll_LD' es hp l (fun o ho => h1 o (List.mem_append_left _ ho)) h3
    rw [wtAll_snoc]
    by_cases hk : o.t.k = 0
    · rw [if_pos hk]
      exact .skip ih hk
    · rw [if_neg hk]
      have hr := ih.rise hp (fun o ho => h1 o (List.mem_append_left _ ho)) h3
      obtain ⟨at', ha, he⟩ := wtP_at o _ hr
      rw [he]
      exact .put ih hk ha.1 (fun _ => ha)
theorem wtAll_LD {es os : List PE} (hp : es.Pairwise KL) (h1 : ∀ o ∈ os, ∀ e ∈ es, e.key.toList ≠ o.key.toList) (h2 : os.Pairwise (fun a b => a.key.toList ≠ b.key.toList)) : LD es os (wtAll es os) := by
  have := wtAll_LD' es hp os.reverse (by simpa using h1) (by simpa using h2)
  simpa using this
/-- the own pairs of a wish among others that name no own key -/
theorem own_LD {ns : List (ByteArray × Int)} {sz qu : Int} {ag : ByteArray} {yv : Value} {es : List PE} (hp : es.Pairwise KL) (hno : ∀ e ∈ es, owB e.key = false) : LD es (ownP ns sz qu ag yv) (wtAll es (ownP ns sz qu ag yv)) := by
  refine wtAll_LD hp (fun o ho e he => ?_) (own_apart _ _ _ _ _ _)
  have h9 := owB_no (hno e he)
  simp only [ownP, ownQ, List.mem_cons, List.not_mem_nil, or_false] at ho
  rcases ho with rfl | rfl | rfl | rfl
  · exact h9.1
  · exact h9.2.1
  · exact h9.2.2.1
  · exact h9.2.2.2
end Go.Proofs.Ytnjdopdlafcbgaa
