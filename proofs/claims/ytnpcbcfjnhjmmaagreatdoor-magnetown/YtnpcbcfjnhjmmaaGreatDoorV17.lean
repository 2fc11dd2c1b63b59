import Derived.Test.YtnpcbcfjnhjmmaaGreatDoorV16
namespace Go.Proofs.YtnpcbcfjnhjmmaaGreatDoor
open Go.Shelf Go.RowKit Go.Deep
theorem kdR_of {a b : ByteArray} (h : (a.toList == b.toList) = true) : kdR a = kdR b := by
  unfold kdR; rw [eq_of_beq h]
theorem less_nil (x : List UInt8) : Op.bytesLess x [] = false := by cases x <;> rfl
/-- behind the first part, at a part that is not xt: both rules of order give the same answer -/
theorem st_ord (p : Ps) (ahead key value : ByteArray) (hlk : kdR ahead = 5 → lkey p.mo = ahead) (hmo : kdR ahead ≠ 5 → p.mo = []) (hkey : (key.toList == []) = false) (hx : kdR key ≠ 0) :
    stR p (kdR ahead + 1) (kdR key + 1) key value = ordR p.ts p.ps ahead key value (strGt ahead key) := by
  have k5 := kdR_le key
  have a5 := kdR_le ahead
  have hne : kdR key = 5 → kdR ahead ≠ 5 → (ahead.toList == key.toList) = false := fun h1 h2 => by
    cases hb : (ahead.toList == key.toList) with
    | false => rfl
    | true => exact absurd ((kdR_of hb).trans h1) h2
  have hl5 : kdR key = 5 → (key.toList == (lkey p.mo).toList) = (ahead.toList == key.toList) ∧ ((ahead.toList == key.toList) = false → Op.bytesLess key.toList (lkey p.mo).toList = (decide (kdR ahead = 5) && strGt ahead key)) := fun h1 => by
    by_cases ha : kdR ahead = 5
    · rw [hlk ha, decide_eq_true ha, Bool.true_and]
      refine ⟨?_, fun h => (strGt_less ahead key h).symm⟩
      cases hb : (ahead.toList == key.toList) with
      | true => rw [eq_of_beq hb]; simp
      | false =>
        cases hc : (key.toList == ahead.toList) with
        | false => rfl
        | true => rw [eq_of_beq hc] at hb; simp at hb
    · have e : lkey p.mo = ⟨#[]⟩ := by rw [hmo ha]; rfl
      have e2 : (lkey p.mo).toList = [] := by rw [e]; simp [tl_eq]
      rw [e2, hne h1 ha, hkey, decide_eq_false ha, Bool.false_and]
      exact ⟨rfl, fun _ => less_nil _⟩
  unfold stR ordR
  rw [if_neg (by omega), if_neg (by omega), if_neg (by omega)]
  by_cases hlt : kdR key < kdR ahead
  · rw [if_pos (by omega), if_pos hlt]
  rw [if_neg (by omega), if_neg hlt]
  have hag : (agR p (kdR ahead + 1) (kdR key + 1) key value = true) ↔ (((kdR key = 1 ∨ kdR key = 2) ∧ kdR ahead = kdR key) ∨ (kdR key = 3 ∧ winB p.ts value = true) ∨ (kdR key = 4 ∧ winB p.ps value = true) ∨ (kdR key = 5 ∧ (ahead.toList == key.toList) = true)) := by
    unfold agR
    by_cases h3 : kdR key = 3
    · rw [if_pos (by omega)]; constructor
      · intro h; exact .inr (.inl ⟨h3, h⟩)
      · rintro (h | h | h | h)
        · omega
        · exact h.2
        · omega
        · omega
    rw [if_neg (by omega)]
    by_cases h4 : kdR key = 4
    · rw [if_pos (by omega)]; constructor
      · intro h; exact .inr (.inr (.inl ⟨h4, h⟩))
      · rintro (h | h | h | h)
        · omega
        · omega
        · exact h.2
        · omega
    rw [if_neg (by omega)]
    by_cases h5 : kdR key = 5
    · rw [if_pos (by omega), (hl5 h5).1]; constructor
      · intro h; exact .inr (.inr (.inr ⟨h5, h⟩))
      · rintro (h | h | h | h)
        · omega
        · omega
        · omega
        · exact h.2
    rw [if_neg (by omega), decide_eq_true_iff]; constructor
    · intro h; exact .inl ⟨by omega, by omega⟩
    · rintro (h | h | h | h) <;> omega
  by_cases ht : agR p (kdR ahead + 1) (kdR key + 1) key value = true
  · rw [if_pos ht, if_pos (hag.1 ht)]
  rw [if_neg ht, if_neg (fun h => ht (hag.2 h))]
  have hne5 : kdR key = 5 → (ahead.toList == key.toList) = false := fun h1 => by
    cases hb : (ahead.toList == key.toList) with
    | false => rfl
    | true => exact absurd (hag.2 (.inr (.inr (.inr ⟨h1, hb⟩)))) ht
  by_cases hg : kdR key = 5 ∧ kdR ahead = 5 ∧ strGt ahead key = true
  · rw [if_pos hg, if_pos ⟨by omega, by rw [(hl5 hg.1).2 (hne5 hg.1), decide_eq_true hg.2.1, hg.2.2]; rfl⟩]
  · rw [if_neg hg, if_neg (fun h => hg ?_)]
    have h1 : kdR key = 5 := by omega
    have h2 := h.2
    rw [(hl5 h1).2 (hne5 h1), Bool.and_eq_true, decide_eq_true_iff] at h2
    exact ⟨h1, h2.1, h2.2⟩
end Go.Proofs.YtnpcbcfjnhjmmaaGreatDoor
namespace Go.Proofs.YtnpcbcfjnhjmmaaGreatDoor
open Go.Shelf Go.RowKit Go.Deep
theorem une_acc : ∀ (f : Nat) (l : List UInt8) (k : Nat) (acc : List UInt8), (une f l k acc).2 < 0 → acc.length ≤ (une f l k acc).1.length
  | 0, l, k, acc, _ => Nat.le_refl _
  | f + 1, l, k, acc, h => by
    unfold une at h ⊢
    split
    · exact Nat.le_refl _
    · rename_i h1
      rw [if_neg h1] at h
      split
      · rename_i h2
        rw [if_pos h2] at h
        have : ¬ ((k : Int) < 0) := by omega
        exact absurd h this
      · rename_i h2
        rw [if_neg h2] at h
        have h9 := une_acc f l _ _ h
        rw [List.length_append] at h9
        omega
/-- what a text stands for is not empty where the text is not -/
theorem uneL_ne {l : List UInt8} (hl : l ≠ []) (h : (uneL l).2 < 0) : (uneL l).1 ≠ [] := by
  have h0 : 1 ≤ l.length := List.length_pos_iff.2 hl
  unfold uneL at h ⊢
  unfold une at h ⊢
  rw [if_neg (by omega)] at h ⊢
  split
  · rename_i h2
    rw [if_pos h2] at h
    exact absurd h (by show ¬ (((0 : Nat) : Int) < 0); omega)
  · rename_i h2
    rw [if_neg h2] at h
    have h9 := une_acc l.length l _ _ h
    intro e
    rw [e] at h9
    simp at h9
theorem lkey_app (l : List (ByteArray × ByteArray)) (x : ByteArray × ByteArray) : lkey (l ++ [x]) = x.1 := by
  unfold lkey; simp
/-- what the link so far tells of the part ahead -/
def AhOk (p : Ps) (ahead : ByteArray) : Prop := (kdR ahead = 5 → lkey p.mo = ahead) ∧ (kdR ahead ≠ 5 → p.mo = [])
theorem jn_ah {p : Ps} {ahead key value : ByteArray} (h : AhOk p ahead) (hle : ¬ kdR key < kdR ahead) (hx : kdR key ≠ 0) : AhOk (jn p key value).1 key := by
  have k5 := kdR_le key
  unfold jn
  by_cases h5 : kdR key = 5
  · have e : jnV p (kdR key) key value = ({ p with mo := p.mo ++ [(key, value)] }, 0) := by
      rw [h5]; unfold jnV
      rw [if_neg (fun h => by omega), if_neg (by decide), if_neg (by decide), if_neg (by decide), if_neg (by decide)]
    rw [e]
    exact ⟨fun _ => lkey_app _ _, fun h => absurd h5 h⟩
  · have hm : p.mo = [] := h.2 (by omega)
    have e : (jnV p (kdR key) key value).1.mo = p.mo := by
      unfold jnV
      repeat' split
      all_goals first | rfl | omega
    exact ⟨fun h => absurd h h5, fun _ => e.trans hm⟩
end Go.Proofs.YtnpcbcfjnhjmmaaGreatDoor
