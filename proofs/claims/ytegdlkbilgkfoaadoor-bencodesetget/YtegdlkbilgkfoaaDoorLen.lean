import Derived.Test.YtegdlkbilgkfoaaDoorText
namespace Go.Proofs.YtegdlkbilgkfoaaDoor
open Go.RowKit Go.Deep
theorem catN_sum {f : Nat → List UInt8} {g : Nat → Nat} : ∀ n, (∀ i, i < n → (f i).length ≤ 25 * g i) → (catN f n).length ≤ 25 * sumN g n
  | 0, _ => Nat.le_refl _
  | n + 1, h => by
    have h1 := catN_sum n (fun i hi => h i (by omega))
    have h2 := h n (by omega)
    show (catN f n ++ f n).length ≤ 25 * (sumN g n + g n)
    rw [List.length_append]; omega
theorem wtx_len (s : ByteArray) (h : s.size ≤ 140737488351232) : (wtx s).length ≤ 22 + s.size := by
  have hl := Lib.itoa_length_le s.size (by omega) (by omega)
  have e2 : (wtx s).length = (Lib.itoa (s.size : Int)).length + (s.size + 1) := by
    show (Lib.itoa (s.size : Int) ++ 58 :: s.data.toList).length = _
    rw [List.length_append, List.length_cons, Array.length_toList]; rfl
  omega
/-- a text is at most 25 times as long as what FarValue counts -/
theorem txt_len (t : T) : t.ok → t.rng → (txt t).length ≤ 25 * wt t := by
  induction t with
  | no => intro _ _; exact Nat.zero_le _
  | mk k n s ln l dn ky dv il id =>
    rintro ⟨ok1, ok2, ok3, ok4, ok5⟩ ⟨r1, r2, r3, r4, r5, r6⟩
    have hw : wt (.mk k n s ln l dn ky dv) = 1 + s.size + sumN (fun i => wt (l i)) ln + sumN (fun i => 1 + (ky i).size + wt (dv i)) dn := rfl
    have h1 := Lib.itoa_length_le n r1 r2
    have h2 := wtx_len s ok1
    have h3 := catN_sum (f := fun i => txt (l i)) (g := fun i => wt (l i)) ln (fun i hi => il i (ok4 i hi) (r5 i hi))
    have h4 := catN_sum (f := fun i => wtx (ky i) ++ txt (dv i)) (g := fun i => 1 + (ky i).size + wt (dv i)) dn (fun i hi => by
      have a1 := wtx_len (ky i) (ok5 i hi).1
      have a2 := id i (ok5 i hi).2 (r6 i hi)
      show (wtx (ky i) ++ txt (dv i)).length ≤ _
      rw [List.length_append]; omega)
    rw [hw]
    show (if k = 1 then 105 :: (Lib.itoa n ++ [101]) else if k = 2 then wtx s else if k = 3 then 108 :: (catN (fun i => txt (l i)) ln ++ [101]) else 100 :: (catN (fun i => wtx (ky i) ++ txt (dv i)) dn ++ [101])).length ≤ _
    split
    · simp only [List.length_cons, List.length_append, List.length_nil]; omega
    split
    · omega
    split
    · simp only [List.length_cons, List.length_append, List.length_nil]; omega
    · simp only [List.length_cons, List.length_append, List.length_nil]; omega
end Go.Proofs.YtegdlkbilgkfoaaDoor
