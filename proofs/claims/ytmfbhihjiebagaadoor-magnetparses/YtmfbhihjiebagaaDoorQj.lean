import Derived.Test.YtmfbhihjiebagaaDoorQi
import Derived.Lib.AtoiAllCases
namespace Go.Proofs.YtmfbhihjiebagaaDoor
open Go.Shelf Go.RowKit Go.Deep
/-- the number that digits spell -/
def vF (n : Nat) (l : List UInt8) : Nat := l.foldl (fun a x => 10 * a + (x.toNat - 48)) n
theorem vF_snoc (n : Nat) (l : List UInt8) (x : UInt8) : vF n (l ++ [x]) = 10 * vF n l + (x.toNat - 48) := by unfold vF; rw [List.foldl_append]; rfl
theorem dgt_iff {x : UInt8} : dgt x = true ↔ 48 ≤ x.toNat ∧ x.toNat ≤ 57 := by unfold dgt; simp
theorem ofNat_dgt {x : UInt8} (h : dgt x = true) : UInt8.ofNat (48 + (x.toNat - 48)) = x := by
  have := dgt_iff.1 h
  rw [show 48 + (x.toNat - 48) = x.toNat by omega]
  simp
theorem vF_ge : ∀ (l : List UInt8) (n : Nat), n ≤ vF n l
  | [], n => Nat.le_refl _
  | x :: l, n => by
    have := vF_ge l (10 * n + (x.toNat - 48))
    show n ≤ vF (10 * n + (x.toNat - 48)) l
    omega
theorem vF_pos {l : List UInt8} {x : UInt8} (h : dgt x = true) (hx : x ≠ 48) : 1 ≤ vF 0 (x :: l) := by
  have h1 := dgt_iff.1 h
  have h2 : x.toNat ≠ 48 := fun e => hx (UInt8.toNat_inj.1 e)
  have := vF_ge l (10 * 0 + (x.toNat - 48))
  show 1 ≤ vF (10 * 0 + (x.toNat - 48)) l
  omega
/-- digits without a zero ahead are the numeral of their number -/
theorem dec_of : ∀ (k : Nat) (l : List UInt8), l.length = k + 1 → (∀ x ∈ l, dgt x = true) → (l.getD 0 0 = 48 → l.length = 1) → Lib.decDigits (vF 0 l) = l
  | 0, l, hl, hd, _ => by
    obtain ⟨x, rfl⟩ : ∃ x, l = [x] := List.length_eq_one_iff.1 hl
    have h1 := dgt_iff.1 (hd x (by simp))
    have e : vF 0 [x] = x.toNat - 48 := by show 10 * 0 + (x.toNat - 48) = _; omega
    rw [e, Lib.decDigits_one (by omega), ofNat_dgt (hd x (by simp))]
  | k + 1, l, hl, hd, hz => by
    have hne : l ≠ [] := fun e => by rw [e] at hl; cases hl
    obtain ⟨l', y, rfl⟩ : ∃ l' y, l = l' ++ [y] := ⟨l.dropLast, l.getLast hne, (List.dropLast_concat_getLast hne).symm⟩
    have hl' : l'.length = k + 1 := by simpa using hl
    cases l' with
    | nil => cases hl'
    | cons a r =>
      have ha : a ≠ 48 := fun e => by
        have := hz (by simpa using e)
        rw [hl] at this; omega
      have ih := dec_of k (a :: r) hl' (fun x hx => hd x (List.mem_append_left _ hx)) (fun e => absurd (by simpa using e) ha)
      have hp := vF_pos (l := r) (hd a (by simp)) ha
      have h1 := dgt_iff.1 (hd y (by simp))
      rw [vF_snoc]
      rw [Lib.decDigits, dif_neg (by omega)]
      rw [show (10 * vF 0 (a :: r) + (y.toNat - 48)) / 10 = vF 0 (a :: r) by omega, show (10 * vF 0 (a :: r) + (y.toNat - 48)) % 10 = y.toNat - 48 by omega, ih, ofNat_dgt (hd y (by simp))]
/-- a numeral's digits -/
theorem dec_is : ∀ (k m : Nat), m < k → (∀ x ∈ Lib.decDigits m, dgt x = true) ∧ vF 0 (Lib.decDigits m) = m ∧ (Lib.decDigits m) ≠ [] ∧ ((Lib.decDigits m).getD 0 0 = 48 → m = 0) ∧ (m = 0 → (Lib.decDigits m).length = 1)
  | 0, m, h => by omega
  | k + 1, m, h => by
    by_cases h10 : m < 10
    · rw [Lib.decDigits_one h10]
      have e : (UInt8.ofNat (48 + m)).toNat = 48 + m := by rw [UInt8.toNat_ofNat']; omega
      refine ⟨fun x hx => ?_, ?_, by simp, fun hz => ?_, fun _ => rfl⟩
      · rw [List.mem_singleton] at hx
        rw [hx]
        exact dgt_iff.2 (by rw [e]; omega)
      · show 10 * 0 + ((UInt8.ofNat (48 + m)).toNat - 48) = m
        rw [e]; omega
      · have h9 : UInt8.ofNat (48 + m) = 48 := by simpa using hz
        have := congrArg UInt8.toNat h9
        rw [e] at this
        have h8 : (48 : UInt8).toNat = 48 := rfl
        omega
    · obtain ⟨i1, i2, i3, i4, _⟩ := dec_is k (m / 10) (by omega)
      have e : (UInt8.ofNat (48 + m % 10)).toNat = 48 + m % 10 := by rw [UInt8.toNat_ofNat']; omega
      rw [Lib.decDigits, dif_neg h10]
      refine ⟨fun x hx => ?_, ?_, by simp, fun hz => ?_, fun h0 => absurd h0 (by omega)⟩
      · rcases List.mem_append.1 hx with hx | hx
        · exact i1 x hx
        · rw [List.mem_singleton] at hx
          rw [hx]
          exact dgt_iff.2 (by rw [e]; omega)
      · rw [vF_snoc, i2, e]; omega
      · have h9 : (Lib.decDigits (m / 10)).getD 0 0 = 48 := by
          cases hq : Lib.decDigits (m / 10) with
          | nil => exact absurd hq i3
          | cons a r => rw [hq] at hz; simpa using hz
        have := i4 h9
        omega
theorem dec_ok (m : Nat) : (∀ x ∈ Lib.decDigits m, dgt x = true) ∧ vF 0 (Lib.decDigits m) = m ∧ (Lib.decDigits m) ≠ [] ∧ ((Lib.decDigits m).getD 0 0 = 48 → m = 0) ∧ (m = 0 → (Lib.decDigits m).length = 1) := dec_is (m + 1) m (by omega)
theorem dec_len {m : Nat} (h : m < 4096) : (Lib.decDigits m).length ≤ 4 := by
  have step : ∀ u, ¬ u < 10 → (Lib.decDigits u).length = (Lib.decDigits (u / 10)).length + 1 := fun u hu => by rw [Lib.decDigits, dif_neg hu]; simp
  have one : ∀ u, u < 10 → (Lib.decDigits u).length = 1 := fun u hu => by rw [Lib.decDigits_one hu]; rfl
  by_cases h1 : m < 10
  · rw [one m h1]; omega
  rw [step m h1]
  by_cases h2 : m / 10 < 10
  · rw [one _ h2]; omega
  rw [step _ h2]
  by_cases h3 : m / 10 / 10 < 10
  · rw [one _ h3]; omega
  rw [step _ h3, one _ (by omega)]
  omega
/-- a number's reader over digits and what follows -/
theorem numGo_app : ∀ (f : Nat) (x : List UInt8) (n c : Nat) (y : List UInt8), (∀ z ∈ x, dgt z = true) → x.length ≤ f → (y = [] ∨ dgt (y.getD 0 0) = false) → numGo f (x ++ y) n c = (vF n x, c + x.length)
  | f, [], n, c, y, _, _, hy => by
    rw [List.nil_append]
    exact numGo_stop (.inr hy)
  | 0, z :: x, _, _, _, _, hl, _ => by simp at hl
  | f + 1, z :: x, n, c, y, hd, hl, hy => by
    rw [List.cons_append, numGo, if_pos (hd z (by simp)), numGo_app f x _ _ y (fun u hu => hd u (by simp [hu])) (by simpa using hl) hy]
    refine Prod.ext rfl ?_
    simp only [List.length_cons]
    omega
/-- what it has read -/
theorem numGo_take : ∀ (f : Nat) (l : List UInt8) (n c : Nat), ∃ k, k ≤ l.length ∧ k ≤ f ∧ numGo f l n c = (vF n (l.take k), c + k) ∧ ∀ x ∈ l.take k, dgt x = true
  | 0, l, n, c => ⟨0, Nat.zero_le _, Nat.le_refl _, by simp [numGo, vF], by simp⟩
  | f + 1, [], n, c => ⟨0, Nat.le_refl _, Nat.zero_le _, by simp [numGo, vF], by simp⟩
  | f + 1, z :: l, n, c => by
    by_cases hz : dgt z = true
    · obtain ⟨k, h1, h2, h3, h4⟩ := numGo_take f l (10 * n + (z.toNat - 48)) (c + 1)
      refine ⟨k + 1, by simpa using h1, by omega, ?_, ?_⟩
      · rw [numGo, if_pos hz, h3]
        refine Prod.ext rfl ?_
        simp only
        omega
      · intro x hx
        rw [List.take_succ_cons] at hx
        rcases List.mem_cons.1 hx with rfl | hx
        · exact hz
        · exact h4 x hx
    · refine ⟨0, Nat.zero_le _, Nat.zero_le _, ?_, by simp⟩
      rw [numGo, if_neg hz]
      rfl
/-- a number is read: it is its numeral -/
theorem numR_dec {l : List UInt8} {n c : Nat} (h : numR l = some (n, c)) : l.take c = Lib.decDigits n ∧ n < 4096 ∧ c ≤ l.length := by
  have hok := numR_ok h
  obtain ⟨k, h1, h2, h3, h4⟩ := numGo_take 5 l 0 0
  unfold numR at h
  split at h
  · cases h
  · rename_i hn
    rw [h3] at h hn
    simp only [Option.some.injEq, Prod.mk.injEq, Nat.zero_add] at h
    obtain ⟨rfl, rfl⟩ := h
    simp only [Nat.zero_add] at hn
    refine ⟨?_, hok.1, hok.2.2⟩
    refine (dec_of (k - 1) (l.take k) (by rw [List.length_take]; omega) h4 (fun hz => ?_)).symm
    rw [List.length_take]
    have hz' : l.getD 0 0 = 48 := by
      cases l with
      | nil => simp at h1; omega
      | cons a r =>
        cases k with
        | zero => omega
        | succ k => simpa using hz
    have : ¬ 1 < k := fun h => hn (.inr (.inr ⟨hz', h⟩))
    omega
/-- a numeral is read as its number -/
theorem numR_of {m : Nat} (hm : m < 4096) (y : List UInt8) (hy : y = [] ∨ dgt (y.getD 0 0) = false) : numR (Lib.decDigits m ++ y) = some (m, (Lib.decDigits m).length) := by
  obtain ⟨i1, i2, i3, i4, i5⟩ := dec_ok m
  have hl := dec_len hm
  have e := numGo_app 5 (Lib.decDigits m) 0 0 y i1 (by omega) hy
  have hp : 1 ≤ (Lib.decDigits m).length := List.length_pos_iff.2 i3
  unfold numR
  rw [e, i2, Nat.zero_add]
  refine if_neg ?_
  rintro (h | h | ⟨h1, h2⟩)
  · simp only at h; omega
  · simp only at h; omega
  · simp only at h2
    have h9 : (Lib.decDigits m).getD 0 0 = 48 := by
      cases hq : Lib.decDigits m with
      | nil => exact absurd hq i3
      | cons a r => rw [hq] at h1; simpa using h1
    have := i5 (i4 h9)
    omega
/-- Atoi of digits -/
theorem parse_dig : ∀ (l : List UInt8) (acc : Nat), (∀ x ∈ l, dgt x = true) → vF acc l < 1000000000 → Lib.parseUint10 acc l = .ok (vF acc l)
  | [], acc, _, _ => rfl
  | c :: r, acc, hd, hv => by
    have h1 := dgt_iff.1 (hd c (by simp))
    have h2 := vF_ge r (10 * acc + (c.toNat - 48))
    have h3 : vF acc (c :: r) = vF (10 * acc + (c.toNat - 48)) r := rfl
    rw [h3] at hv
    rw [Lib.parseUint10, if_pos h1, if_neg (by omega), if_neg (by omega), h3, show acc * 10 + (c.toNat - 48) = 10 * acc + (c.toNat - 48) by omega]
    exact parse_dig r _ (fun x hx => hd x (by simp [hx])) hv
theorem plO_iff (s : ByteArray) (m : Nat) : plO s = some m ↔ s.data.toList = Lib.decDigits m ∧ m < 4096 := by
  constructor
  · intro h
    unfold plO at h
    split at h
    · rename_i v _
      split at h
      · rename_i hv
        simp only [Option.some.injEq] at h
        obtain ⟨h1, h2, h3⟩ := hv
        obtain ⟨n, rfl⟩ : ∃ n : Nat, v = (n : Int) := ⟨v.toNat, by omega⟩
        simp only [Int.toNat_natCast] at h
        subst h
        have h4 := eq_of_beq h3
        rw [tl_eq, tl_eq, Lib.itoa_nonneg] at h4
        exact ⟨by simpa using h4.symm, by omega⟩
      · cases h
    · cases h
  · rintro ⟨h1, h2⟩
    obtain ⟨i1, i2, i3, i4, i5⟩ := dec_ok m
    have ha : Lib.atoiAll s.data.toList = .ok (m : Int) := by
      rw [h1]
      cases hq : Lib.decDigits m with
      | nil => exact absurd hq i3
      | cons c r =>
        have hc := dgt_iff.1 (i1 c (by rw [hq]; simp))
        rw [Lib.atoiAll_plain c r (by omega) (by omega), ← hq]
        unfold Lib.parseMag
        rw [if_neg i3, parse_dig _ 0 i1 (by rw [i2]; omega), i2]
        unfold Lib.signless
        simp
        omega
    have hb : ((⟨(Lib.itoa (m : Int)).toArray⟩ : ByteArray).toList == s.toList) = true := by
      rw [tl_eq, tl_eq, Lib.itoa_nonneg, h1]
      simp
    unfold plO
    rw [ha]
    exact (if_pos ⟨by omega, by omega, hb⟩).trans (by rw [Int.toNat_natCast])
end Go.Proofs.YtmfbhihjiebagaaDoor
