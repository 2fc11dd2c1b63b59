import Derived.Test.YtdlnnnlmlaploaaDoorSr
namespace Go.Proofs.YtdlnnnlmlaploaaDoor
open Go.RowKit Go.Deep
/-! ### Where a leaf ends -/
theorem digs_le {b : List UInt8} {en : UInt8} {i p : Nat} {e : Int} (hi : i ≤ b.length) (h : digs b en i = .bad p e) : p ≤ b.length := by
  have := run_le hi
  unfold digs at h
  split at h
  · cases h; exact Nat.le_refl _
  · split at h
    · cases h; exact this
    · cases h
theorem strg_le {b : List UInt8} {i p : Nat} {e : Int} (hi : i ≤ b.length) (h : strg b i = .bad p e) : p ≤ b.length := by
  unfold strg at h
  cases hd : digs b 58 i with
  | bad p' e' => rw [hd] at h; cases h; exact digs_le hi hd
  | ok d j =>
    rw [hd] at h
    dsimp only at h
    split at h
    · cases h; exact hi
    · split at h
      · split at h
        · cases h; exact Nat.le_refl _
        · cases h
      · cases h; exact Nat.le_refl _
theorem numb_le {b : List UInt8} {i p : Nat} {e : Int} (hi : i ≤ b.length) (h : numb b i = .bad p e) : p ≤ b.length := by
  unfold numb at h
  split at h
  · cases h; exact Nat.le_refl _
  · rename_i hl
    generalize hs : (if byt b (i + 1) = 45 then [45] else ([] : List UInt8)) = sg at h
    have hsl : sg.length ≤ 1 := by rw [← hs]; split <;> simp
    dsimp only at h
    cases hd : digs b 101 (i + 1 + sg.length) with
    | bad p' e' => rw [hd] at h; cases h; exact digs_le (by omega) hd
    | ok d j =>
      rw [hd] at h
      dsimp only at h
      split at h
      · split at h
        · cases h; exact hi
        · cases h
      · cases h; exact hi
theorem leaf_bad {b : List UInt8} {i p : Nat} {e : Int} (hi : i ≤ b.length) (h1 : byt b i ≠ 108) (h2 : byt b i ≠ 100) (h : leafO b i = .bad p e) : i + p ≤ b.length := by
  by_cases hl : i < b.length
  · rw [leaf_eq hl h1 h2] at h
    have hk : p ≤ (b.drop i).length := by
      unfold scal at h
      split at h
      · cases hn : numb (b.drop i) 0 with
        | bad p' e' => rw [hn] at h; cases h; exact numb_le (Nat.zero_le _) hn
        | ok n j => rw [hn] at h; cases h
      · split at h
        · cases hn : strg (b.drop i) 0 with
          | bad p' e' => rw [hn] at h; cases h; exact strg_le (Nat.zero_le _) hn
          | ok n j => rw [hn] at h; cases h
        · cases h; exact Nat.zero_le _
    rw [List.length_drop] at hk; omega
  · rw [leaf_end (by omega)] at h; cases h; omega
/-- a leaf: one span, and its text is what is read -/
theorem leaf_val {b : List UInt8} {i k : Nat} {t : T} (hi : i ≤ b.length) (hlim : b.length ≤ 1048576) (h1 : byt b i ≠ 108) (h2 : byt b i ≠ 100) (h : leafO b i = .val t k) :
    i + k ≤ b.length ∧ (txt t).length = k ∧ (t = tNum t.n ∨ t = tStr t.s) := by
  have hr : Run (b.drop i) (.go [] 0) (.val t k) := Run.one h
  obtain ⟨q1, q2, _⟩ := run_txt (by rw [List.length_drop]; omega) hr
  refine ⟨by rw [List.length_drop] at q1; omega, by rw [← q2, List.length_take]; omega, ?_⟩
  by_cases hl : i < b.length
  · rw [leaf_eq hl h1 h2] at h
    unfold scal at h
    split at h
    · cases hn : numb (b.drop i) 0 with
      | bad p' e' => rw [hn] at h; cases h
      | ok n j => rw [hn] at h; injection h with h; subst h; exact .inl rfl
    · split at h
      · cases hn : strg (b.drop i) 0 with
        | bad p' e' => rw [hn] at h; cases h
        | ok s j => rw [hn] at h; injection h with h; subst h; exact .inr rfl
      · cases h
  · rw [leaf_end (by omega)] at h; cases h
theorem leaf_walk {t : T} (h : t = tNum t.n ∨ t = tStr t.s) (here : Nat) (sp : Sp) : walkT t here sp = [{ sp with kind := t.k, to := sp.fr + (txt t).length }] := by
  rcases h with h | h
  · rw [h]; rfl
  · rw [h]; rfl
/-- what Prefix answers at a leaf -/
theorem leaf_out {b : List UInt8} {i k : Nat} {t : T} {er : Int} (hlim : b.length ≤ 1048576) (h1 : byt b i ≠ 108) (h2 : byt b i ≠ 100) (h : OUT (b.drop i) t k er) :
    (er = 0 ∧ leafO b i = .val t k) ∨ (er ≠ 0 ∧ leafO b i = .bad k er) := by
  rcases h with ⟨rfl, h, _⟩ | ⟨_, ⟨h, _⟩ | ⟨h, _⟩⟩
  · exact .inl ⟨rfl, (leaf_run h1 h2 h trivial).symm⟩
  · refine .inr ⟨?_, (leaf_run h1 h2 h trivial).symm⟩
    have := run_er h; omega
  · rw [List.length_drop] at h; omega
end Go.Proofs.YtdlnnnlmlaploaaDoor
