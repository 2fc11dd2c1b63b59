import Derived.Test.YtdlnnnlmlaploaaDoorFx
import Derived.Test.YtdlnnnlmlaploaaDoorTexts
namespace Go.Proofs.YtdlnnnlmlaploaaDoor
open Go.RowKit Go.Deep
/-! ### What is read is written as the same text -/
def unp (d : List UInt8) : Prop := d.length = 1 ∨ byt d 0 ≠ 48
theorem ofNat_dig {c : UInt8} (h : 48 ≤ c.toNat ∧ c.toNat ≤ 57) : UInt8.ofNat (48 + (c.toNat - 48)) = c := by
  rw [show 48 + (c.toNat - 48) = c.toNat by omega]; exact UInt8.ofNat_toNat
theorem dval_pos : ∀ {d : List UInt8}, allDig d → d ≠ [] → byt d 0 ≠ 48 → 1 ≤ dval 0 d
  | [], _, h, _ => absurd rfl h
  | c :: r, ha, _, h0 => by
    have hc := ha c (List.mem_cons_self ..)
    have hne : c.toNat ≠ 48 := fun e => h0 (UInt8.toNat_inj.1 e)
    rw [dval_cons]
    exact Nat.le_trans (by omega) (dval_le r _)
theorem dec_dval : ∀ (n : Nat) (d : List UInt8), d.length = n → d ≠ [] → allDig d → unp d → Lib.decDigits (dval 0 d) = d
  | 0, d, hn, h, _, _ => absurd (List.length_eq_zero_iff.1 hn) h
  | n + 1, d, hn, _, ha, hu => by
    obtain ⟨x, c, rfl⟩ : ∃ x c, d = x ++ [c] := ⟨d.dropLast, d.getLast (by intro e; subst e; cases hn), (List.dropLast_concat_getLast _).symm⟩
    have hc := ha c (by simp)
    rw [dval_snoc]
    by_cases hx : x = []
    · subst hx
      rw [dval_nil, Nat.zero_mul, Nat.zero_add, Lib.decDigits, dif_pos (by omega), ofNat_dig hc]; rfl
    · have hax : allDig x := fun y hy => ha y (by simp [hy])
      have hlx : 0 < x.length := List.length_pos_iff.2 hx
      have h0 : byt x 0 ≠ 48 := by
        rcases hu with h | h
        · simp at h; exact absurd h hx
        · have : byt (x ++ [c]) 0 = byt x 0 := byt_app hlx
          rwa [this] at h
      have hp := dval_pos hax hx h0
      rw [Lib.decDigits, dif_neg (by omega), show (dval 0 x * 10 + (c.toNat - 48)) / 10 = dval 0 x by omega, show (dval 0 x * 10 + (c.toNat - 48)) % 10 = c.toNat - 48 by omega, ofNat_dig hc,
        dec_dval n x (by simp at hn; omega) hx hax (.inr h0)]
theorem padd_unp {d : List UInt8} (hn : d ≠ []) (h : ¬ padd d = true) : unp d := by
  have hl := List.length_pos_iff.2 hn
  by_cases h1 : d.length = 1
  · exact .inl h1
  · refine .inr fun e => h ?_
    unfold padd; simp [e]; omega
theorem atoi_back {d : List UInt8} {n : Int} (ha : allDig d) (hn : d ≠ []) (hp : ¬ padd d = true) (h : Lib.atoiAll d = .ok n) : Lib.itoa n = d ∧ 0 ≤ n ∧ n ≤ 9223372036854775807 := by
  by_cases hl : dval 0 d < 9223372036854775808
  · rw [(atoi_pos ha hn).1 hl] at h
    injection h with h
    subst h
    exact ⟨by rw [Lib.itoa_nonneg]; exact dec_dval _ d rfl hn ha (padd_unp hn hp), by omega, by omega⟩
  · exact absurd h ((atoi_pos ha hn).2 (by omega) n)
theorem atoi_back_neg {d : List UInt8} {n : Int} (ha : allDig d) (hn : d ≠ []) (hp : ¬ padd d = true) (hz : 45 :: d ≠ [45, 48]) (h : Lib.atoiAll (45 :: d) = .ok n) : Lib.itoa n = 45 :: d ∧ -9223372036854775808 ≤ n ∧ n ≤ 0 := by
  by_cases hl : dval 0 d ≤ 9223372036854775808
  · rw [(atoi_neg ha hn).1 hl] at h
    injection h with h
    subst h
    have hu := padd_unp hn hp
    have h1 : 1 ≤ dval 0 d := by
      rcases hu with h | h
      · match d, h with
        | [c], _ =>
          have hc := ha c (by simp)
          rw [dval_cons, dval_nil]
          have : c ≠ 48 := fun e => hz (by rw [e])
          have : c.toNat ≠ 48 := fun e => this (UInt8.toNat_inj.1 e)
          omega
      · exact dval_pos ha hn h
    exact ⟨by rw [Lib.itoa_neg _ h1, dec_dval _ d rfl hn ha hu], by omega, by omega⟩
  · exact absurd h ((atoi_neg ha hn).2 (by omega) n)
theorem take_cut {b : List UInt8} {i j : Nat} (h : i ≤ j) : b.take j = b.take i ++ cut b i j := by
  unfold cut
  rw [← List.take_append_drop i (b.take j), List.take_take, Nat.min_eq_left h, List.drop_take]
theorem cut_one {b : List UInt8} {i : Nat} (h : i < b.length) : cut b i (i + 1) = [byt b i] := by
  unfold cut byt
  rw [Nat.add_sub_cancel_left, List.drop_eq_getElem_cons h, List.take_succ_cons, List.take_zero]
  simp [List.getD, List.getElem?_eq_getElem h]
theorem take_one {b : List UInt8} {i : Nat} (h : i < b.length) : b.take (i + 1) = b.take i ++ [byt b i] := by
  rw [take_cut (Nat.le_succ i), cut_one h]
theorem digs_txt {b : List UInt8} {en : UInt8} {i j : Nat} {d : List UInt8} (h : digs b en i = .ok d j) : b.take j = b.take i ++ (d ++ [en]) ∧ allDig d ∧ d ≠ [] ∧ i < j ∧ j ≤ b.length := by
  unfold digs at h
  split at h
  · cases h
  · rename_i h1
    split at h
    · cases h
    · rename_i h2
      injection h with hd hj
      subst hd hj
      have hr : run b i ≠ 0 := fun e => h2 (.inl e)
      have hb : byt b (i + run b i) = en := Classical.byContradiction fun e => h2 (.inr e)
      have hl : i + run b i < b.length := by omega
      have hcl := cut_length (b := b) (i := i) (j := i + run b i) (by omega)
      refine ⟨by rw [take_one hl, take_cut (Nat.le_add_right i (run b i)), hb, List.append_assoc], fun c hc => ?_, fun e => by rw [e] at hcl; simp at hcl; omega, by omega, by omega⟩
      obtain ⟨k, hk, rfl⟩ := List.getElem_of_mem hc
      have hk' : k < run b i := by rw [hcl] at hk; omega
      have h3 := (run_lt hk').2
      have h4 : byt (cut b i (i + run b i)) k = byt b (i + k) := byt_cut (by omega)
      have h5 : byt (cut b i (i + run b i)) k = (cut b i (i + run b i))[k] := by unfold byt; simp [List.getD, List.getElem?_eq_getElem hk]
      rw [← h5, h4]
      exact (dig_iff _).1 h3
theorem strg_txt {b : List UInt8} {i j : Nat} {s : ByteArray} (h : strg b i = .ok s j) : b.take j = b.take i ++ wtx s ∧ i < j ∧ j ≤ b.length ∧ s.size ≤ b.length := by
  unfold strg at h
  cases hd : digs b 58 i with
  | bad p e => rw [hd] at h; cases h
  | ok d j0 =>
    obtain ⟨h1, h2, h3, h4, h5⟩ := digs_txt hd
    rw [hd] at h
    dsimp only at h
    split at h
    · cases h
    · rename_i hp
      cases ha : Lib.atoiAll d with
      | «syntax» => rw [ha] at h; cases h
      | range => rw [ha] at h; cases h
      | ok n =>
        rw [ha] at h
        dsimp only at h
        split at h
        · cases h
        · rename_i hn
          injection h with hs hj
          obtain ⟨hb, hn0, hn1⟩ := atoi_back h2 h3 hp ha
          have hlen : (cut b j0 (j0 + n.toNat)).length = n.toNat := by rw [cut_length (by omega)]; omega
          have hsz : s.size = n.toNat := by rw [← hs]; show (cut b j0 (j0 + n.toNat)).toArray.size = _; simpa using hlen
          have hsd : s.data.toList = cut b j0 (j0 + n.toNat) := by rw [← hs]
          subst hj
          refine ⟨?_, by omega, by omega, by omega⟩
          rw [take_cut (Nat.le_add_right j0 n.toNat), h1]
          unfold wtx
          rw [hsz, hsd, show ((n.toNat : Nat) : Int) = n by omega, hb]
          simp
theorem numb_txt {b : List UInt8} {i j : Nat} {n : Int} (hi : i < b.length) (hb : byt b i = 105) (h : numb b i = .ok n j) : b.take j = b.take i ++ txt (tNum n) ∧ i < j ∧ j ≤ b.length ∧ -9223372036854775808 ≤ n ∧ n ≤ 9223372036854775807 := by
  have ht : txt (tNum n) = 105 :: (Lib.itoa n ++ [101]) := rfl
  by_cases hl : i + 1 < b.length
  · rw [numb_sg hl] at h
    by_cases h45 : byt b (i + 1) = 45
    · rw [if_pos h45] at h
      cases hd : digs b 101 (i + 1 + ([45] : List UInt8).length) with
      | bad p e => rw [hd] at h; cases h
      | ok d j0 =>
        obtain ⟨h1, h2, h3, h4, h5⟩ := digs_txt hd
        rw [hd] at h
        dsimp only at h
        cases ha : Lib.atoiAll ([45] ++ d) with
        | «syntax» => rw [ha] at h; cases h
        | range => rw [ha] at h; cases h
        | ok v =>
          rw [ha] at h
          dsimp only at h
          split at h
          · cases h
          · rename_i hp
            injection h with hv hj
            subst hv hj
            obtain ⟨e1, e2, e3⟩ := atoi_back_neg h2 h3 (fun e => hp (.inl e)) (fun e => hp (.inr e)) ha
            refine ⟨?_, by simp at h4; omega, h5, e2, by omega⟩
            rw [h1, ht, e1]
            have : b.take (i + 1 + [(45 : UInt8)].length) = b.take i ++ [105] ++ [45] := by
              show b.take (i + 1 + 1) = _
              rw [take_one hl, take_one hi, hb, h45]
            rw [this]; simp
    · rw [if_neg h45] at h
      cases hd : digs b 101 (i + 1 + ([] : List UInt8).length) with
      | bad p e => rw [hd] at h; cases h
      | ok d j0 =>
        obtain ⟨h1, h2, h3, h4, h5⟩ := digs_txt hd
        rw [hd] at h
        dsimp only at h
        rw [List.nil_append] at h
        cases ha : Lib.atoiAll d with
        | «syntax» => rw [ha] at h; cases h
        | range => rw [ha] at h; cases h
        | ok v =>
          rw [ha] at h
          dsimp only at h
          split at h
          · cases h
          · rename_i hp
            injection h with hv hj
            subst hv hj
            obtain ⟨e1, e2, e3⟩ := atoi_back h2 h3 (fun e => hp (.inl e)) ha
            refine ⟨?_, by simp at h4; omega, h5, by omega, by omega⟩
            rw [h1, ht, e1]
            have : b.take (i + 1 + ([] : List UInt8).length) = b.take i ++ [105] := by
              show b.take (i + 1) = _
              rw [take_one hi, hb]
            rw [this]; simp
  · rw [numb, if_pos (by omega)] at h; cases h
end Go.Proofs.YtdlnnnlmlaploaaDoor
