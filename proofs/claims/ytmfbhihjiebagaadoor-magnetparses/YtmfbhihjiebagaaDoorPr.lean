import Derived.Test.YtmfbhihjiebagaaDoorPq
namespace Go.Proofs.YtmfbhihjiebagaaDoor
open Go.Shelf Go.RowKit Go.Deep
/-- of two unlike texts one is the less -/
theorem less_flip : ∀ (x y : List UInt8), (x == y) = false → Op.bytesLess x y = !Op.bytesLess y x
  | [], [], h => by simp at h
  | [], b :: y, _ => by simp [Op.bytesLess]
  | a :: x, [], _ => by simp [Op.bytesLess]
  | a :: x, b :: y, h => by
    by_cases hab : a = b
    · subst hab
      have h2 : (x == y) = false := by simpa using h
      have h3 := less_flip x y h2
      have h4 : ¬ a < a := by simp
      simp only [Op.bytesLess, decide_eq_false h4, Bool.false_or, beq_self_eq_true, Bool.true_and]
      exact h3
    · have e1 : (a == b) = false := beq_eq_false_iff_ne.2 hab
      have e2 : (b == a) = false := beq_eq_false_iff_ne.2 (fun h => hab h.symm)
      simp only [Op.bytesLess, e1, e2, Bool.false_and, Bool.or_false]
      have hn : a.toNat ≠ b.toNat := fun h => hab (UInt8.toNat_inj.1 h)
      by_cases hlt : a < b
      · have h2 : ¬ b < a := by rw [UInt8.lt_iff_toNat_lt] at hlt ⊢; omega
        rw [decide_eq_true hlt, decide_eq_false h2]; rfl
      · have h2 : b < a := by rw [UInt8.lt_iff_toNat_lt] at hlt ⊢; omega
        rw [decide_eq_false hlt, decide_eq_true h2]; rfl
/-- the reference's 'greater' is the program's 'less', the other way about -/
theorem strGt_less (a b : ByteArray) (h : (a.toList == b.toList) = false) : strGt a b = Op.bytesLess b.toList a.toList := by
  have h1 : (b.toList == a.toList) = false := by
    cases hb : (b.toList == a.toList) with
    | false => rfl
    | true => rw [eq_of_beq hb] at h; simp at h
  rw [strGt, less_flip _ _ h1]
end Go.Proofs.YtmfbhihjiebagaaDoor
