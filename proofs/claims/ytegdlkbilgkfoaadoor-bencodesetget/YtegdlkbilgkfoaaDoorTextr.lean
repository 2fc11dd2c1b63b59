import Derived.Test.YtegdlkbilgkfoaaDoorLaid
import Derived.Test.YtegdlkbilgkfoaaDoorTextd
namespace Go.Proofs.YtegdlkbilgkfoaaDoor
open Go.RowKit Go.Deep
/-- a node writes its text -/
theorem texts (t : T) : TC t := by
  induction t with
  | no => intro B ty u sv l w h; exact h.elim
  | mk k n s ln l dn ky dv il id =>
    intro B ty u sv ls w h hrng hown hB hT hlim
    obtain ⟨r1, r2, r3, r4, r5, r6⟩ := hrng
    rcases h with ⟨rfl, h⟩ | ⟨rfl, h⟩ | ⟨rfl, b, c, h, h1, h2, h3⟩ | ⟨rfl, b, c, h, h1, h2, h3⟩ <;> cases h
    · have e : txt (.mk 1 n s ln l dn ky dv) = 105 :: (Lib.itoa n ++ [101]) := if_pos rfl
      rw [e] at hlim ⊢
      exact number96 B n r1 r2 sv ls w hown hB hT (by omega)
    · have e : txt (.mk 2 n s ln l dn ky dv) = wtx s := rfl
      have e2 : (wtx s).length = (Lib.itoa (s.size : Int)).length + (s.size + 1) := by
        show (Lib.itoa (s.size : Int) ++ 58 :: s.data.toList).length = _
        rw [List.length_append, List.length_cons, Array.length_toList]; rfl
      rw [e] at hlim ⊢
      exact word100 B s sv ls w hown hB hT (by omega)
    · have e : txt (.mk 3 n s ln l dn ky dv) = 108 :: (catN (fun i => txt (l i)) ln ++ [101]) := rfl
      rw [e] at hlim ⊢
      exact list101 ln l il B b c sv ls w h1 h2 h3 r5 r3 hown hB hT (by simp only [List.length_cons, List.length_append, List.length_nil] at hlim; omega)
    · have e : txt (.mk 4 n s ln l dn ky dv) = 100 :: (catN (fun i => wtx (ky i) ++ txt (dv i)) dn ++ [101]) := rfl
      rw [e] at hlim ⊢
      exact dict102 dn ky dv id B b c sv ls w h1 h2 h3 r6 r4 hown hB hT (by simp only [List.length_cons, List.length_append, List.length_nil] at hlim; omega)

end Go.Proofs.YtegdlkbilgkfoaaDoor
