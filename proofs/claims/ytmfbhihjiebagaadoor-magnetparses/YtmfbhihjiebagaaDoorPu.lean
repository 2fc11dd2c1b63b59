import Derived.Test.YtmfbhihjiebagaaDoorPs
namespace Go.Proofs.YtmfbhihjiebagaaDoor
open Go.Shelf Go.RowKit Go.Deep
theorem une_acc : ∀ (f : Nat) (l : List UInt8) (k : Nat) (acc : List UInt8), (une f l k acc).2 < 0 → acc.length ≤ (une f l k acc).1.length
  | 0, l, k, acc, _ => Nat.le_refl _
  | f + 1, l, k, acc, h => by
    unfold une at h ⊢
    split
    · exact Nat.le_refl _
    · rename_i h1
      rw [if_neg h1] at h
      split
      · rename_i h2
        rw [if_pos h2] at h
        have : ¬ ((k : Int) < 0) := by omega
        exact absurd h this
      · rename_i h2
        rw [if_neg h2] at h
        have h9 := une_acc f l _ _ h
        rw [List.length_append] at h9
        omega
/-- what a text stands for is not empty where the text is not -/
theorem uneL_ne {l : List UInt8} (hl : l ≠ []) (h : (uneL l).2 < 0) : (uneL l).1 ≠ [] := by
  have h0 : 1 ≤ l.length := List.length_pos_iff.2 hl
  unfold uneL at h ⊢
  unfold une at h ⊢
  rw [if_neg (by omega)] at h ⊢
  split
  · rename_i h2
    rw [if_pos h2] at h
    exact absurd h (by show ¬ (((0 : Nat) : Int) < 0); omega)
  · rename_i h2
    rw [if_neg h2] at h
    have h9 := une_acc l.length l _ _ h
    intro e
    rw [e] at h9
    simp at h9
theorem lkey_app (l : List (ByteArray × ByteArray)) (x : ByteArray × ByteArray) : lkey (l ++ [x]) = x.1 := by
  unfold lkey; simp
/-- what the link so far tells of the part ahead -/
def AhOk (p : Ps) (ahead : ByteArray) : Prop := (kdR ahead = 5 → lkey p.mo = ahead) ∧ (kdR ahead ≠ 5 → p.mo = [])
theorem jn_ah {p : Ps} {ahead key value : ByteArray} (h : AhOk p ahead) (hle : ¬ kdR key < kdR ahead) (hx : kdR key ≠ 0) : AhOk (jn p key value).1 key := by
  have k5 := kdR_le key
  unfold jn
  by_cases h5 : kdR key = 5
  · have e : jnV p (kdR key) key value = ({ p with mo := p.mo ++ [(key, value)] }, 0) := by
      rw [h5]; unfold jnV
      rw [if_neg (fun h => by omega), if_neg (by decide), if_neg (by decide), if_neg (by decide), if_neg (by decide)]
    rw [e]
    exact ⟨fun _ => lkey_app _ _, fun h => absurd h5 h⟩
  · have hm : p.mo = [] := h.2 (by omega)
    have e : (jnV p (kdR key) key value).1.mo = p.mo := by
      unfold jnV
      repeat' split
      all_goals first | rfl | omega
    exact ⟨fun h => absurd h h5, fun _ => e.trans hm⟩
end Go.Proofs.YtmfbhihjiebagaaDoor
