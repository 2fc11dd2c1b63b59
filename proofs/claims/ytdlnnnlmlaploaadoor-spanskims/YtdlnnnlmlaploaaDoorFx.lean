import Derived.Test.YtdlnnnlmlaploaaDoorDec
namespace Go.Proofs.YtdlnnnlmlaploaaDoor
open Go.RowKit Go.Deep
/-! ### A text and what follows it -/
theorem byt_app {b m : List UInt8} {i : Nat} (h : i < b.length) : byt (b ++ m) i = byt b i := by
  simp [byt, List.getD, List.getElem?_append_left h]
theorem run_app {b m : List UInt8} {i : Nat} (h : i + run b i < b.length) : run (b ++ m) i = run b i := by
  unfold run at h ⊢
  rw [List.drop_append_of_le_length (by omega), List.takeWhile_append, if_neg (by rw [List.length_drop]; omega)]
theorem cut_app {b m : List UInt8} {i j : Nat} (hj : j ≤ b.length) : cut (b ++ m) i j = cut b i j := by
  unfold cut
  by_cases hi : i ≤ b.length
  · rw [List.drop_append_of_le_length hi, List.take_append_of_le_length (by rw [List.length_drop]; omega)]
  · rw [show j - i = 0 by omega]; simp
theorem digs_ext {b m : List UInt8} {en : UInt8} {i : Nat} (h : ∀ p, digs b en i ≠ .bad p 21) : digs (b ++ m) en i = digs b en i := by
  have hl : ¬ b.length ≤ i + run b i := fun e => h b.length (by unfold digs; rw [if_pos e])
  have hr := run_app (m := m) (show i + run b i < b.length by omega)
  unfold digs
  rw [hr, if_neg hl, if_neg (by rw [List.length_append]; omega), byt_app (by omega), cut_app (by omega)]
theorem digs_okx {b : List UInt8} {en : UInt8} {i j : Nat} {d : List UInt8} (h : digs b en i = .ok d j) : i < j ∧ j ≤ b.length := by
  unfold digs at h
  split at h
  · cases h
  · split at h
    · cases h
    · injection h with _ h2; omega
theorem strg_ext {b m : List UInt8} {i : Nat} (h : ∀ p, strg b i ≠ .bad p 21) : strg (b ++ m) i = strg b i := by
  have hd : ∀ p, digs b 58 i ≠ .bad p 21 := fun p e => h p (by unfold strg; rw [e])
  have e := digs_ext (m := m) hd
  unfold strg at h ⊢
  rw [e]
  cases hd2 : digs b 58 i with
  | bad p e => rfl
  | ok d j =>
    rw [hd2] at h
    dsimp only at h ⊢
    have hj := (digs_okx hd2).2
    by_cases hp : padd d = true
    · rw [if_pos hp, if_pos hp]
    · rw [if_neg hp] at h
      rw [if_neg hp, if_neg hp]
      cases ha : Lib.atoiAll d with
      | ok n =>
        rw [ha] at h
        dsimp only at h ⊢
        have hn : ¬ (b.length : Int) - j < n := fun e => h b.length (by rw [if_pos e])
        rw [if_neg hn, if_neg (by rw [List.length_append]; omega), cut_app (by omega)]
      | «syntax» => rw [ha] at h; exact absurd rfl (h b.length)
      | range => rw [ha] at h; exact absurd rfl (h b.length)
theorem numb_ext {b m : List UInt8} {i : Nat} (h : ∀ p, numb b i ≠ .bad p 21) : numb (b ++ m) i = numb b i := by
  have hl : ¬ b.length ≤ i + 1 := fun e => h b.length (by rw [numb, if_pos e])
  have hl2 : i + 1 < b.length := by omega
  rw [numb_sg hl2] at h ⊢
  rw [numb_sg (by rw [List.length_append]; omega), byt_app hl2]
  generalize (if byt b (i + 1) = 45 then [45] else [] : List UInt8) = sg at h ⊢
  rw [digs_ext (fun p e => h p (by rw [e]))]
theorem scal_ext {b m : List UInt8} {st : List Fr} {i : Nat} (hi : i < b.length) (h : ∀ p, scal b st i ≠ .bad p 21) : scal (b ++ m) st i = scal b st i := by
  unfold scal at h ⊢
  rw [byt_app hi]
  by_cases h1 : byt b i = 105
  · rw [if_pos h1] at h
    rw [if_pos h1, if_pos h1, numb_ext (fun p e => h p (by rw [e]))]
  · rw [if_neg h1] at h
    rw [if_neg h1, if_neg h1]
    by_cases h2 : dig (byt b i) = true
    · rw [if_pos h2] at h
      rw [if_pos h2, if_pos h2, strg_ext (fun p e => h p (by rw [e]))]
    · rw [if_neg h2, if_neg h2]
theorem opn_ext {b m : List UInt8} {st : List Fr} {i : Nat} (hi : i < b.length) (h : ∀ p, opn b st i ≠ .bad p 21) : opn (b ++ m) st i = opn b st i := by
  unfold opn at h ⊢
  rw [byt_app hi]
  by_cases h1 : byt b i = 108
  · rw [if_pos h1, if_pos h1]
  · rw [if_neg h1] at h
    rw [if_neg h1, if_neg h1]
    by_cases h2 : byt b i = 100
    · rw [if_pos h2, if_pos h2]
    · rw [if_neg h2] at h
      rw [if_neg h2, if_neg h2]
      exact scal_ext hi h
theorem keyy_ext {b m : List UInt8} {f : Fr} {r : List Fr} {i : Nat} (hi : i < b.length) (h : ∀ p, keyy b f r i ≠ .bad p 21) : keyy (b ++ m) f r i = keyy b f r i := by
  unfold keyy at h ⊢
  rw [byt_app hi]
  by_cases h1 : dig (byt b i) = false
  · rw [if_pos h1, if_pos h1]
  · rw [if_neg h1] at h
    rw [if_neg h1, if_neg h1, strg_ext (fun p e => h p (by rw [e]))]
theorem step_ext {b m : List UInt8} {st : List Fr} {i : Nat} (h : ∀ p, step b st i ≠ .bad p 21) : step (b ++ m) st i = step b st i := by
  have hl : ¬ b.length ≤ i := fun e => h b.length (by unfold step; rw [if_pos e])
  have hi : i < b.length := by omega
  unfold step at h ⊢
  rw [if_neg hl] at h
  rw [if_neg hl, if_neg (by rw [List.length_append]; omega)]
  match st with
  | [] => exact opn_ext hi h
  | f :: r =>
    dsimp only at h ⊢
    rw [byt_app hi]
    by_cases h1 : f.d = true ∧ f.has = false
    · rw [if_pos h1] at h
      rw [if_pos h1, if_pos h1]
      by_cases h2 : byt b i = 101
      · rw [if_pos h2, if_pos h2]
      · rw [if_neg h2] at h
        rw [if_neg h2, if_neg h2]
        exact keyy_ext hi h
    · rw [if_neg h1] at h
      rw [if_neg h1, if_neg h1]
      by_cases h2 : f.d = false ∧ byt b i = 101
      · rw [if_pos h2, if_pos h2]
      · rw [if_neg h2] at h
        rw [if_neg h2, if_neg h2]
        exact opn_ext hi h
theorem run_ext {b m : List UInt8} {o q : Out} (h : Run b o q) (hq : ∀ p, q ≠ .bad p 21) : Run (b ++ m) o q := by
  induction h with
  | refl o => exact .refl o
  | @more st i o h ih =>
    refine .more ?_
    rw [step_ext]
    · exact ih hq
    · intro p e
      rw [e] at h
      cases h with
      | refl => exact hq p rfl
/-- the place of a fault -/
def Fp (b : List UInt8) (p : Nat) (e : Int) : Prop := (e = 21 ∧ p = b.length) ∨ (e ≠ 21 ∧ p < b.length)
theorem digs_fp {b : List UInt8} {en : UInt8} {i p : Nat} {e : Int} (h : digs b en i = .bad p e) : Fp b p e := by
  unfold digs at h
  split at h
  · injection h with h1 h2; exact .inl ⟨h2.symm, h1.symm⟩
  · split at h
    · injection h with h1 h2; exact .inr ⟨by omega, by omega⟩
    · cases h
theorem strg_fp {b : List UInt8} {i p : Nat} {e : Int} (hi : i < b.length) (h : strg b i = .bad p e) : Fp b p e := by
  unfold strg at h
  cases hd : digs b 58 i with
  | bad p' e' => rw [hd] at h; injection h with h1 h2; subst h1 h2; exact digs_fp hd
  | ok d j =>
    rw [hd] at h
    dsimp only at h
    split at h
    · injection h with h1 h2; exact .inr ⟨by omega, by omega⟩
    · split at h
      · split at h
        · injection h with h1 h2; exact .inl ⟨h2.symm, h1.symm⟩
        · cases h
      · injection h with h1 h2; exact .inl ⟨h2.symm, h1.symm⟩
theorem numb_fp {b : List UInt8} {i p : Nat} {e : Int} (hi : i < b.length) (h : numb b i = .bad p e) : Fp b p e := by
  by_cases hl : i + 1 < b.length
  · rw [numb_sg hl] at h
    generalize (if byt b (i + 1) = 45 then [45] else [] : List UInt8) = sg at h
    cases hd : digs b 101 (i + 1 + sg.length) with
    | bad p' e' => rw [hd] at h; injection h with h1 h2; subst h1 h2; exact digs_fp hd
    | ok d k =>
      rw [hd] at h
      dsimp only at h
      split at h
      · split at h
        · injection h with h1 h2; exact .inr ⟨by omega, by omega⟩
        · cases h
      · injection h with h1 h2; exact .inr ⟨by omega, by omega⟩
  · rw [numb, if_pos (by omega)] at h; injection h with h1 h2; exact .inl ⟨h2.symm, h1.symm⟩
theorem opn_fp {b : List UInt8} {st : List Fr} {i p : Nat} {e : Int} (hi : i < b.length) (h : opn b st i = .bad p e) : Fp b p e := by
  unfold opn at h
  split at h
  · split at h
    · injection h with h1 h2; exact .inr ⟨by omega, by omega⟩
    · cases h
  · split at h
    · split at h
      · injection h with h1 h2; exact .inr ⟨by omega, by omega⟩
      · cases h
    · unfold scal at h
      split at h
      · cases hn : numb b i with
        | ok n j => rw [hn] at h; cases st <;> cases h
        | bad p' e' => rw [hn] at h; injection h with h1 h2; subst h1 h2; exact numb_fp hi hn
      · split at h
        · cases hn : strg b i with
          | ok n j => rw [hn] at h; cases st <;> cases h
          | bad p' e' => rw [hn] at h; injection h with h1 h2; subst h1 h2; exact strg_fp hi hn
        · injection h with h1 h2; exact .inr ⟨by omega, by omega⟩
theorem step_fp {b : List UInt8} {st : List Fr} {i p : Nat} {e : Int} (h : step b st i = .bad p e) : Fp b p e := by
  unfold step at h
  split at h
  · injection h with h1 h2; exact .inl ⟨h2.symm, h1.symm⟩
  · have hi : i < b.length := by omega
    match st with
    | [] => exact opn_fp hi h
    | f :: r =>
      dsimp only at h
      split at h
      · split at h
        · cases r <;> cases h
        · unfold keyy at h
          split at h
          · injection h with h1 h2; exact .inr ⟨by omega, by omega⟩
          · cases hn : strg b i with
            | ok n j =>
              rw [hn] at h
              dsimp only at h
              split at h
              · injection h with h1 h2; exact .inr ⟨by omega, by omega⟩
              · cases h
            | bad p' e' => rw [hn] at h; injection h with h1 h2; subst h1 h2; exact strg_fp hi hn
      · split at h
        · cases r <;> cases h
        · exact opn_fp hi h
theorem run_fp0 {b : List UInt8} {o q : Out} (h : Run b o q) : (∀ k er, o = .bad k er → Fp b k er) → ∀ k er, q = .bad k er → Fp b k er := by
  induction h with
  | refl o => exact fun h => h
  | more _ ih => exact fun _ => ih fun k er he => step_fp he
theorem run_fp {b : List UInt8} {st : List Fr} {i k : Nat} {er : Int} (h : Run b (.go st i) (.bad k er)) : Fp b k er :=
  run_fp0 h (fun k er he => by cases he) k er rfl
/-- what the law says of a decoding -/
theorem dout_cases {b : List UInt8} {t : T} {k : Nat} {er : Int} (h : DOUT b t k er) :
    (er = 0 ∧ k = 0) ∨ (er = 20 ∧ k = 0 ∧ 1048576 < b.length) ∨ (er = 21 ∧ k = b.length ∧ b.length ≤ 1048576) ∨
    (22 ≤ er ∧ er ≤ 26 ∧ k < b.length ∧ b.length ≤ 1048576 ∧ ∀ m, (b ++ m).length ≤ 1048576 → DOUT (b ++ m) t0 k er) := by
  rcases h with ⟨rfl, rfl, _⟩ | ⟨rfl, ⟨rfl, h3, h2, u, h1⟩ | ⟨h1, h2⟩ | ⟨h1, rfl, rfl⟩⟩
  · exact .inl ⟨rfl, rfl⟩
  · exact .inr (.inr (.inr ⟨by omega, by omega, h3, h2, fun m hm => .inr ⟨rfl, .inl ⟨rfl, by rw [List.length_append]; omega, hm, u, run_ext h1 (fun p e => by cases e)⟩⟩⟩))
  · have hr := run_er h1
    rcases run_fp h1 with ⟨rfl, hk⟩ | ⟨h21, hk⟩
    · exact .inr (.inr (.inl ⟨rfl, hk, h2⟩))
    · exact .inr (.inr (.inr ⟨by omega, by omega, hk, h2, fun m hm => .inr ⟨rfl, .inr (.inl ⟨run_ext h1 (fun p e => by injection e with _ e2; exact h21 e2), hm⟩)⟩⟩))
  · exact .inr (.inl ⟨rfl, rfl, h1⟩)
end Go.Proofs.YtdlnnnlmlaploaaDoor
