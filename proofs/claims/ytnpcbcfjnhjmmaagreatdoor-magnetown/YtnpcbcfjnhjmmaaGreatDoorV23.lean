import Derived.Test.YtnpcbcfjnhjmmaaGreatDoorV22
import Derived.Lib.AtoiAllCases
namespace Go.Proofs.YtnpcbcfjnhjmmaaGreatDoor
open Go.Shelf Go.RowKit Go.Deep
/-- the number that digits spell -/
def vF (n : Nat) (l : List UInt8) : Nat := l.foldl (fun a x => 10 * a + (x.toNat - 48)) n
theorem vF_snoc (n : Nat) (l : List UInt8) (x : UInt8) : vF n (l ++ [x]) = 10 * vF n l + (x.toNat - 48) := by unfold vF; rw [List.foldl_append]; rfl
theorem dgt_iff {x : UInt8} : dgt x = true ↔ 48 ≤ x.toNat ∧ x.toNat ≤ 57 := by unfold dgt; simp
theorem ofNat_dgt {x : UInt8} (h : dgt x = true) : UInt8.ofNat (48 + (x.toNat - 48)) = x := by
  have := dgt_iff.1 h
  rw [show 48 + (x.toNat - 48) = x.toNat by omega]
  simp
theorem vF_ge : ∀ (l : List UInt8) (n : Nat), n ≤ vF n l
  | [], n => Nat.le_refl _
  | x :: l, n => by
    have := vF_ge l (10 * n + (x.toNat - 48))
    show n ≤ vF (10 * n + (x.toNat - 48)) l
    omega
theorem vF_pos {l : List UInt8} {x : UInt8} (h : dgt x = true) (hx : x ≠ 48) : 1 ≤ vF 0 (x :: l) := by
  have h1 := dgt_iff.1 h
  have h2 : x.toNat ≠ 48 := fun e => hx (UInt8.toNat_inj.1 e)
  have := vF_ge l (10 * 0 + (x.toNat - 48))
  show 1 ≤ vF (10 * 0 + (x.toNat - 48)) l
  omega
/-- digits without a zero ahead are the numeral of their number -/
theorem dec_of : ∀ (k : Nat) (l : List UInt8), l.length = k + 1 → (∀ x ∈ l, dgt x = true) → (l.getD 0 0 = 48 → l.length = 1) → Lib.decDigits (vF 0 l) = l
  | 0, l, hl, hd, _ => by
    obtain ⟨x, rfl⟩ : ∃ x, l = [x] := List.length_eq_one_iff.1 hl
    have h1 := dgt_iff.1 (hd x (by simp))
    have e : vF 0 [x] = x.toNat - 48 := by show 10 * 0 + (x.toNat - 48) = _; omega
    rw [e, Lib.decDigits_one (by omega), ofNat_dgt (hd x (by simp))]
  | k + 1, l, hl, hd, hz => by
    have hne : l ≠ [] := fun e => by rw [e] at hl; cases hl
    obtain ⟨l', y, rfl⟩ : ∃ l' y, l = l' ++ [y] := ⟨l.dropLast, l.getLast hne, (List.dropLast_concat_getLast hne).symm⟩
    have hl' : l'.length = k + 1 := by simpa using hl
    cases l' with
    | nil => cases hl'
    | cons a r =>
      have ha : a ≠ 48 := fun e => by
        have := hz (by simpa using e)
        rw [hl] at this; omega
      have ih := dec_of k (a :: r) hl' (fun x hx => hd x (List.mem_append_left _ hx)) (fun e => absurd (by simpa using e) ha)
      have hp := vF_pos (l := r) (hd a (by simp)) ha
      have h1 := dgt_iff.1 (hd y (by simp))
      rw [vF_snoc]
      rw [Lib.decDigits, dif_neg (by omega)]
      rw [show (10 * vF 0 (a :: r) + (y.toNat - 48)) / 10 = vF 0 (a :: r) by omega, show (10 * vF 0 (a :: r) + (y.toNat - 48)) % 10 = y.toNat - 48 by omega, ih, ofNat_dgt (hd y (by simp))]
/-- a numeral's digits -/
theorem dec_is : ∀ (k m : Nat), m < k → (∀ x ∈ Lib.decDigits m, dgt x = true) ∧ vF 0 (Lib.decDigits m) = m ∧ (Lib.decDigits m) ≠ [] ∧ ((Lib.decDigits m).getD 0 0 = 48 → m = 0) ∧ (m = 0 → (Lib.decDigits m).length = 1)
  | 0, m, h => by omega
  | k + 1, m, h => by
    by_cases h10 : m < 10
    · rw [Lib.decDigits_one h10]
      have e : (UInt8.ofNat (48 + m)).toNat = 48 + m := by rw [UInt8.toNat_ofNat']; omega
      refine ⟨fun x hx => ?_, ?_, by simp, fun hz => ?_, fun _ => rfl⟩
      · rw [List.mem_singleton] at hx
        rw [hx]
        exact dgt_iff.2 (by rw [e]; omega)
      · show 10 * 0 + ((UInt8.ofNat (48 + m)).toNat - 48) = m
        rw [e]; omega
      · have h9 : UInt8.ofNat (48 + m) = 48 := by simpa using hz
        have := congrArg UInt8.toNat h9
        rw [e] at this
        have h8 : (48 : UInt8).toNat = 48 := rfl
        omega
    · obtain ⟨i1, i2, i3, i4, _⟩ := dec_is k (m / 10) (by omega)
      have e : (UInt8.ofNat (48 + m % 10)).toNat = 48 + m % 10 := by rw [UInt8.toNat_ofNat']; omega
      rw [Lib.decDigits, dif_neg h10]
      refine ⟨fun x hx => ?_, ?_, by simp, fun hz => ?_, fun h0 => absurd h0 (by omega)⟩
      · rcases List.mem_append.1 hx with hx | hx
        · exact i1 x hx
        · rw [List.mem_singleton] at hx
          rw [hx]
          exact dgt_iff.2 (by rw [e]; omega)
      · rw [vF_snoc, i2, e]; omega
      · have h9 : (Lib.decDigits (m / 10)).getD 0 0 = 48 := by
          cases hq : Lib.decDigits (m / 10) with
          | nil => exact absurd hq i3
          | cons a r => rw [hq] at hz; simpa using hz
        have := i4 h9
        omega
theorem dec_ok (m : Nat) : (∀ x ∈ Lib.decDigits m, dgt x = true) ∧ vF 0 (Lib.decDigits m) = m ∧ (Lib.decDigits m) ≠ [] ∧ ((Lib.decDigits m).getD 0 0 = 48 → m = 0) ∧ (m = 0 → (Lib.decDigits m).length = 1) := dec_is (m + 1) m (by omega)
theorem dec_len {m : Nat} (h : m < 4096) : (Lib.decDigits m).length ≤ 4 := by
  have step : ∀ u, ¬ u < 10 → (Lib.decDigits u).length = (Lib.decDigits (u / 10)).length + 1 := fun u hu => by rw [Lib.decDigits, dif_neg hu]; simp
  have one : ∀ u, u < 10 → (Lib.decDigits u).length = 1 := fun u hu => by rw [Lib.decDigits_one hu]; rfl
  by_cases h1 : m < 10
  · rw [one m h1]; omega
  rw [step m h1]
  by_cases h2 : m / 10 < 10
  · rw [one _ h2]; omega
  rw [step _ h2]
  by_cases h3 : m / 10 / 10 < 10
  · rw [one _ h3]; omega
  rw [step _ h3, one _ (by omega)]
  omega
/-- a number's reader over digits and what follows -/
theorem numGo_app : ∀ (f : Nat) (x : List UInt8) (n c : Nat) (y : List UInt8), (∀ z ∈ x, dgt z = true) → x.length ≤ f → (y = [] ∨ dgt (y.getD 0 0) = false) → numGo f (x ++ y) n c = (vF n x, c + x.length)
  | f, [], n, c, y, _, _, hy => by
    rw [List.nil_append]
    exact numGo_stop (.inr hy)
  | 0, z :: x, _, _, _, _, hl, _ => by simp at hl
  | f + 1, z :: x, n, c, y, hd, hl, hy => by
    rw [List.cons_append, numGo, if_pos (hd z (by simp)), numGo_app f x _ _ y (fun u hu => hd u (by simp [hu])) (by simpa using hl) hy]
    refine Prod.ext rfl ?_
    simp only [List.length_cons]
    omega
/-- what it has read -/
theorem numGo_take : ∀ (f : Nat) (l : List UInt8) (n c : Nat), ∃ k, k ≤ l.length ∧ k ≤ f ∧ numGo f l n c = (vF n (l.take k), c + k) ∧ ∀ x ∈ l.take k, dgt x = true
  | 0, l, n, c => ⟨0, Nat.zero_le _, Nat.le_refl _, by simp [numGo, vF], by simp⟩
  | f + 1, [], n, c => ⟨0, Nat.le_refl _, Nat.zero_le _, by simp [numGo, vF], by simp⟩
  | f + 1, z :: l, n, c => by
    by_cases hz : dgt z = true
    · obtain ⟨k, h1, h2, h3, h4⟩ := numGo_take f l (10 * n + (z.toNat - 48)) (c + 1)
      refine ⟨k + 1, by simpa using h1, by omega, ?_, ?_⟩
      · rw [numGo, if_pos hz, h3]
        refine Prod.ext rfl ?_
        simp only
        omega
      · intro x hx
        rw [List.take_succ_cons] at hx
        rcases List.mem_cons.1 hx with rfl | hx
        · exact hz
        · exact h4 x hx
    · refine ⟨0, Nat.zero_le _, Nat.zero_le _, ?_, by simp⟩
      rw [numGo, if_neg hz]
      rfl
/-- a number is read: it is its numeral -/
theorem numR_dec {l : List UInt8} {n c : Nat} (h : numR l = some (n, c)) : l.take c = Lib.decDigits n ∧ n < 4096 ∧ c ≤ l.length := by
  have hok := numR_ok h
  obtain ⟨k, h1, h2, h3, h4⟩ := numGo_take 5 l 0 0
  unfold numR at h
  split at h
  · cases h
  · rename_i hn
    rw [h3] at h hn
    simp only [Option.some.injEq, Prod.mk.injEq, Nat.zero_add] at h
    obtain ⟨rfl, rfl⟩ := h
    simp only [Nat.zero_add] at hn
    refine ⟨?_, hok.1, hok.2.2⟩
    refine (dec_of (k - 1) (l.take k) (by rw [List.length_take]; omega) h4 (fun hz => ?_)).symm
    rw [List.length_take]
    have hz' : l.getD 0 0 = 48 := by
      cases l with
      | nil => simp at h1; omega
      | cons a r =>
        cases k with
        | zero => omega
        | succ k => simpa using hz
    have : ¬ 1 < k := fun h => hn (.inr (.inr ⟨hz', h⟩))
    omega
/-- a numeral is read as its number -/
theorem numR_of {m : Nat} (hm : m < 4096) (y : List UInt8) (hy : y = [] ∨ dgt (y.getD 0 0) = false) : numR (Lib.decDigits m ++ y) = some (m, (Lib.decDigits m).length) := by
  obtain ⟨i1, i2, i3, i4, i5⟩ := dec_ok m
  have hl := dec_len hm
  have e := numGo_app 5 (Lib.decDigits m) 0 0 y i1 (by omega) hy
  have hp : 1 ≤ (Lib.decDigits m).length := List.length_pos_iff.2 i3
  unfold numR
  rw [e, i2, Nat.zero_add]
  refine if_neg ?_
  rintro (h | h | ⟨h1, h2⟩)
  · simp only at h; omega
  · simp only at h; omega
  · simp only at h2
    have h9 : (Lib.decDigits m).getD 0 0 = 48 := by
      cases hq : Lib.decDigits m with
      | nil => exact absurd hq i3
      | cons a r => rw [hq] at h1; simpa using h1
    have := i5 (i4 h9)
    omega
/-- Atoi of digits -/
theorem parse_dig : ∀ (l : List UInt8) (acc : Nat), (∀ x ∈ l, dgt x = true) → vF acc l < 1000000000 → Lib.parseUint10 acc l = .ok (vF acc l)
  | [], acc, _, _ => rfl
  | c :: r, acc, hd, hv => by
    have h1 := dgt_iff.1 (hd c (by simp))
    have h2 := vF_ge r (10 * acc + (c.toNat - 48))
    have h3 : vF acc (c :: r) = vF (10 * acc + (c.toNat - 48)) r := rfl
    rw [h3] at hv
    rw [Lib.parseUint10, if_pos h1, if_neg (by omega), if_neg (by omega), h3, show acc * 10 + (c.toNat - 48) = 10 * acc + (c.toNat - 48) by omega]
    exact parse_dig r _ (fun x hx => hd x (by simp [hx])) hv
theorem plO_iff (s : ByteArray) (m : Nat) : plO s = some m ↔ s.data.toList = Lib.decDigits m ∧ m < 4096 := by
  constructor
  · intro h
    unfold plO at h
    split at h
    · rename_i v _
      split at h
      · rename_i hv
        simp only [Option.some.injEq] at h
        obtain ⟨h1, h2, h3⟩ := hv
        obtain ⟨n, rfl⟩ : ∃ n : Nat, v = (n : Int) := ⟨v.toNat, by omega⟩
        simp only [Int.toNat_natCast] at h
        subst h
        have h4 := eq_of_beq h3
        rw [tl_eq, tl_eq, Lib.itoa_nonneg] at h4
        exact ⟨by simpa using h4.symm, by omega⟩
      · cases h
    · cases h
  · rintro ⟨h1, h2⟩
    obtain ⟨i1, i2, i3, i4, i5⟩ := dec_ok m
    have ha : Lib.atoiAll s.data.toList = .ok (m : Int) := by
      rw [h1]
      cases hq : Lib.decDigits m with
      | nil => exact absurd hq i3
      | cons c r =>
        have hc := dgt_iff.1 (i1 c (by rw [hq]; simp))
        rw [Lib.atoiAll_plain c r (by omega) (by omega), ← hq]
        unfold Lib.parseMag
        rw [if_neg i3, parse_dig _ 0 i1 (by rw [i2]; omega), i2]
        unfold Lib.signless
        simp
        omega
    have hb : ((⟨(Lib.itoa (m : Int)).toArray⟩ : ByteArray).toList == s.toList) = true := by
      rw [tl_eq, tl_eq, Lib.itoa_nonneg, h1]
      simp
    unfold plO
    rw [ha]
    exact (if_pos ⟨by omega, by omega, hb⟩).trans (by rw [Int.toNat_natCast])
end Go.Proofs.YtnpcbcfjnhjmmaaGreatDoor
namespace Go.Proofs.YtnpcbcfjnhjmmaaGreatDoor
open Go.Shelf Go.RowKit Go.Deep
theorem ix_none {l : List UInt8} {c : UInt8} (h : c ∉ l) : Lib.indexByte l c < 0 := by
  have h9 := Lib.indexByte_ge l c
  by_cases hn : Lib.indexByte l c < 0
  · exact hn
  · have h8 := (Lib.indexByte_some (l := l) (c := c) (o := (Lib.indexByte l c).toNat) (by omega)).1
    exact absurd (List.mem_of_getElem? h8) h
theorem ix_first {x y : List UInt8} {c : UInt8} (h : c ∉ x) : Lib.indexByte (x ++ c :: y) c = (x.length : Int) := by
  have hge := Lib.indexByte_ge (x ++ c :: y) c
  have hnn : 0 ≤ Lib.indexByte (x ++ c :: y) c := by
    by_cases hn : Lib.indexByte (x ++ c :: y) c < 0
    · have hm1 : Lib.indexByte (x ++ c :: y) c = -1 := by omega
      have h9 := Lib.indexByte_none hm1 x.length
      rw [List.getElem?_append_right (Nat.le_refl _), Nat.sub_self] at h9
      simp at h9
    · omega
  obtain ⟨o, ho⟩ : ∃ o : Nat, Lib.indexByte (x ++ c :: y) c = (o : Int) := ⟨(Lib.indexByte (x ++ c :: y) c).toNat, by omega⟩
  obtain ⟨h1, h2⟩ := Lib.indexByte_some ho
  rw [ho]
  have e : o = x.length := by
    rcases Nat.lt_trichotomy o x.length with hlt | heq | hgt
    · rw [List.getElem?_append_left hlt] at h1
      exact absurd (List.mem_of_getElem? h1) h
    · exact heq
    · have h3 := h2 x.length hgt
      rw [List.getElem?_append_right (Nat.le_refl _), Nat.sub_self] at h3
      simp at h3
  rw [e]
theorem digit_no {m : Nat} {c : UInt8} (hc : dgt c = false) : c ∉ Lib.decDigits m := fun h => by
  have := (dec_ok m).1 c h
  rw [hc] at this; cases this
/-- a run as it is written -/
theorem rrO_one {s : ByteArray} {a : Nat} (h : s.data.toList = Lib.decDigits a) (ha : a < 4096) : rrO s = some ((a : Int), 1) := by
  have e : ctR s 45 = (s, ⟨#[]⟩, false) := by unfold ctR; rw [h]; exact if_pos (ix_none (digit_no rfl))
  unfold rrO
  rw [e]
  simp only
  rw [(plO_iff s a).2 ⟨h, ha⟩]
  rfl
theorem rrO_two {s : ByteArray} {a b : Nat} (h : s.data.toList = Lib.decDigits a ++ 45 :: Lib.decDigits b) (ha : a < 4096) (hb : b < 4096) (hab : a < b) : rrO s = some ((a : Int), (b : Int) - (a : Int) + 1) := by
  have e0 : Lib.indexByte s.data.toList 45 = ((Lib.decDigits a).length : Int) := by rw [h]; exact ix_first (digit_no rfl)
  have e : ctR s 45 = (s.extract 0 (Lib.decDigits a).length, s.extract ((Lib.decDigits a).length + 1) s.size, true) := by
    unfold ctR
    rw [e0, if_neg (by omega), Int.toNat_natCast]
  have p1 : plO (s.extract 0 (Lib.decDigits a).length) = some a := (plO_iff _ a).2 ⟨by rw [extT, h, List.take_left], ha⟩
  have p2 : plO (s.extract ((Lib.decDigits a).length + 1) s.size) = some b := (plO_iff _ b).2 ⟨by rw [extD, h, List.drop_append, List.drop_of_length_le (by omega), Nat.add_sub_cancel_left]; rfl, hb⟩
  unfold rrO
  rw [e]
  simp only
  rw [p1]
  simp only
  rw [if_neg (by decide), p2]
  simp only
  rw [if_pos hab]
/-- the other way -/
theorem rrO_inv {s : ByteArray} {r : Int × Int} (h : rrO s = some r) : (∃ a : Nat, a < 4096 ∧ s.data.toList = Lib.decDigits a ∧ r = ((a : Int), 1)) ∨ ∃ a b : Nat, a < 4096 ∧ b < 4096 ∧ a < b ∧ s.data.toList = Lib.decDigits a ++ 45 :: Lib.decDigits b ∧ r = ((a : Int), (b : Int) - (a : Int) + 1) := by
  unfold rrO at h
  cases h1 : plO (ctR s 45).1 with
  | none => rw [h1] at h; cases h
  | some a =>
    rw [h1] at h
    simp only at h
    obtain ⟨k1, k2⟩ := (plO_iff _ _).1 h1
    by_cases hn : Lib.indexByte s.data.toList 45 < 0
    · have e : ctR s 45 = (s, ⟨#[]⟩, false) := by unfold ctR; exact if_pos hn
      rw [e] at h k1
      simp only [if_true] at h
      cases h
      exact .inl ⟨a, k2, k1, rfl⟩
    · have hge := Lib.indexByte_ge s.data.toList 45
      obtain ⟨o, ho⟩ : ∃ o : Nat, Lib.indexByte s.data.toList 45 = (o : Int) := ⟨(Lib.indexByte s.data.toList 45).toNat, by omega⟩
      have e : ctR s 45 = (s.extract 0 o, s.extract (o + 1) s.size, true) := by unfold ctR; rw [ho, if_neg (by omega), Int.toNat_natCast]
      rw [e] at h k1
      simp only at h k1
      rw [if_neg (by decide)] at h
      cases h2 : plO (s.extract (o + 1) s.size) with
      | none => rw [h2] at h; cases h
      | some b =>
        rw [h2] at h
        simp only at h
        obtain ⟨m1, m2⟩ := (plO_iff _ _).1 h2
        split at h
        · rename_i hab
          cases h
          refine .inr ⟨a, b, k2, m2, hab, ?_, rfl⟩
          rw [extT] at k1
          rw [extD] at m1
          have h9 := (Lib.indexByte_some ho).1
          have hlt := (List.getElem?_eq_some_iff.1 h9).1
          have hv := (List.getElem?_eq_some_iff.1 h9).2
          rw [← k1, ← m1]
          have h8 := List.take_append_drop o s.data.toList
          rw [List.drop_eq_getElem_cons hlt, hv] at h8
          exact h8.symm
        · cases h
/-- A: what is read as a run is one at a text's beginning -/
theorem nrun_of {s : ByteArray} {r : Int × Int} (h : rrO s = some r) (y : List UInt8) (hy : y = [] ∨ y.getD 0 0 = 44) : ∃ a m : Nat, nrun (s.data.toList ++ y) = some (a, m, s.data.toList.length) ∧ r = ((a : Int), (m : Int)) := by
  have hy2 : y = [] ∨ dgt (y.getD 0 0) = false := by
    rcases hy with h | h
    · exact .inl h
    · exact .inr (by rw [h]; rfl)
  rcases rrO_inv h with ⟨a, h1, h2, rfl⟩ | ⟨a, b, h1, h2, h3, h4, rfl⟩
  · refine ⟨a, 1, ?_, rfl⟩
    rw [h2]
    unfold nrun
    rw [numR_of h1 y hy2]
    simp only
    refine if_neg ?_
    rintro ⟨g1, g2⟩
    rcases hy with rfl | hy
    · simp at g1
    · rw [List.getD_eq_getElem?_getD, List.getElem?_append_right (Nat.le_refl _), Nat.sub_self, ← List.getD_eq_getElem?_getD, hy] at g2
      cases g2
  · refine ⟨a, b - a + 1, ?_, by rw [show ((b - a + 1 : Nat) : Int) = (b : Int) - (a : Int) + 1 by omega]⟩
    rw [h4]
    unfold nrun
    have e1 : Lib.decDigits a ++ 45 :: Lib.decDigits b ++ y = Lib.decDigits a ++ (45 :: (Lib.decDigits b ++ y)) := by simp
    rw [e1, numR_of h1 _ (.inr rfl)]
    simp only
    rw [if_pos ⟨by simp, by rw [List.getD_eq_getElem?_getD, List.getElem?_append_right (Nat.le_refl _), Nat.sub_self]; rfl⟩]
    have e2 : (Lib.decDigits a ++ (45 :: (Lib.decDigits b ++ y))).drop ((Lib.decDigits a).length + 1) = Lib.decDigits b ++ y := by
      rw [List.drop_append, List.drop_of_length_le (by omega), Nat.add_sub_cancel_left]; rfl
    rw [e2, numR_of h2 y hy2]
    simp only
    rw [if_neg (by omega)]
    simp
    omega
/-- B: a run at a text's beginning, and an end or a comma behind it -/
theorem nrun_inv {l : List UInt8} {a m c : Nat} (h : nrun l = some (a, m, c)) : c ≤ l.length ∧ 44 ∉ l.take c ∧ rrO ⟨(l.take c).toArray⟩ = some ((a : Int), (m : Int)) := by
  unfold nrun at h
  cases h1 : numR l with
  | none => rw [h1] at h; cases h
  | some q =>
    obtain ⟨a1, c1⟩ := q
    rw [h1] at h
    simp only at h
    obtain ⟨k1, k2, k3⟩ := numR_dec h1
    split at h
    · rename_i hc
      cases h2 : numR (l.drop (c1 + 1)) with
      | none => rw [h2] at h; cases h
      | some q =>
        obtain ⟨b, c2⟩ := q
        rw [h2] at h
        simp only at h
        obtain ⟨m1, m2, m3⟩ := numR_dec h2
        rw [List.length_drop] at m3
        split at h
        · cases h
        · rename_i hab
          simp only [Option.some.injEq, Prod.mk.injEq] at h
          obtain ⟨rfl, rfl, rfl⟩ := h
          have hv : l[c1]? = some 45 := by
            rw [List.getD_eq_getElem?_getD, List.getElem?_eq_getElem hc.1] at hc
            rw [List.getElem?_eq_getElem hc.1]
            simpa using hc.2
          have e : l.take (c1 + 1 + c2) = Lib.decDigits a1 ++ 45 :: Lib.decDigits b := by
            rw [Nat.add_assoc, List.take_add, k1, show (1 + c2) = c2 + 1 by omega]
            congr 1
            rw [List.drop_eq_getElem_cons hc.1, List.take_succ_cons, m1]
            congr 1
            rw [List.getElem?_eq_getElem hc.1] at hv
            exact Option.some.inj hv
          refine ⟨by omega, ?_, ?_⟩
          · rw [e]
            intro hm
            rcases List.mem_append.1 hm with hm | hm
            · exact digit_no rfl hm
            · rcases List.mem_cons.1 hm with hm | hm
              · cases hm
              · exact digit_no rfl hm
          · rw [rrO_two (a := a1) (b := b) (by simpa using e) k2 m2 (by omega), show ((b - a1 + 1 : Nat) : Int) = (b : Int) - (a1 : Int) + 1 by omega]
    · simp only [Option.some.injEq, Prod.mk.injEq] at h
      obtain ⟨rfl, rfl, rfl⟩ := h
      exact ⟨k3, by rw [k1]; exact digit_no rfl, rrO_one (by simpa using k1) k2⟩
end Go.Proofs.YtnpcbcfjnhjmmaaGreatDoor
namespace Go.Proofs.YtnpcbcfjnhjmmaaGreatDoor
open Go.Shelf Go.RowKit Go.Deep
def rdS (acc : Option (List (Int × Int))) (x : Pc) : Option (List (Int × Int)) := match acc, rrO x.1.2 with | some rs, some r => some (rs ++ [r]) | _, _ => none
theorem rdS_none (t : List Pc) : t.foldl rdS none = none := by
  induction t with
  | nil => rfl
  | cons a t ih => exact ih
theorem extF (s : ByteArray) (a b : Nat) (h : a ≤ b) : (s.extract a b).data.toList = (s.data.toList.take b).drop a := by
  simp [ByteArray.data_extract, List.take_drop]
  rw [show a + (b - a) = b by omega]
theorem rd_runs (v : ByteArray) (hv : v.size ≤ 4096) : ∀ (f fr : Nat) (acc : List (Int × Int)) (F : Nat), fr ≤ v.size → v.size - fr < f → v.size - fr < F → (pcs v 44 f fr).foldl rdS (some acc) = runsR F (v.data.toList.drop fr) acc
  | 0, fr, acc, F, _, h, _ => by omega
  | f + 1, fr, acc, F, hfr, hf, hF => by
    obtain ⟨F, rfl⟩ : ∃ G, F = G + 1 := ⟨F - 1, by omega⟩
    have hz : v.data.toList.length = v.size := by simp
    by_cases hn : Lib.indexByte (v.data.toList.drop fr) 44 < 0
    · rw [pcs_end hn]
      have hpk : (pk fr (v.extract fr v.size)).1 = (fr, v.extract fr v.size) := pk_val (by omega) (by rw [ByteArray.size_extract]; omega)
      have hm1 : Lib.indexByte (v.data.toList.drop fr) 44 = -1 := by have := Lib.indexByte_ge (v.data.toList.drop fr) 44; omega
      have hno := Lib.indexByte_none hm1
      rw [List.foldl_cons, List.foldl_nil]
      unfold rdS
      rw [hpk]
      cases hr : rrO (v.extract fr v.size) with
      | some r =>
        obtain ⟨a, m, h1, h2⟩ := nrun_of hr [] (.inl rfl)
        rw [List.append_nil, extD] at h1
        rw [runsR_end h1 rfl, h2]
      | none =>
        cases hnr : nrun (v.data.toList.drop fr) with
        | none => rw [runsR_no hnr]
        | some q =>
          obtain ⟨a, m, c⟩ := q
          obtain ⟨k1, k2, k3⟩ := nrun_inv hnr
          by_cases hc : c = (v.data.toList.drop fr).length
          · exfalso
            have e : (⟨((v.data.toList.drop fr).take c).toArray⟩ : ByteArray) = v.extract fr v.size := by
              rw [hc, List.take_length]
              apply ByteArray.ext
              apply Array.ext'
              rw [extD]
            rw [e, hr] at k3
            cases k3
          · rw [runsR_bad hnr hc (fun e => ?_)]
            have hlt : c < (v.data.toList.drop fr).length := by omega
            refine hno c ?_
            rw [List.getElem?_eq_getElem hlt]
            rw [List.getD_eq_getElem?_getD, List.getElem?_eq_getElem hlt] at e
            simpa using e
    · have hge := Lib.indexByte_ge (v.data.toList.drop fr) 44
      obtain ⟨o, ho⟩ : ∃ o : Nat, Lib.indexByte (v.data.toList.drop fr) 44 = (o : Int) := ⟨(Lib.indexByte (v.data.toList.drop fr) 44).toNat, by omega⟩
      obtain ⟨g1, g2⟩ := Lib.indexByte_some ho
      have hol := (List.getElem?_eq_some_iff.1 g1).1
      rw [List.length_drop, hz] at hol
      rw [pcs_go ho]
      have hpk : (pk fr (v.extract fr (fr + o))).1 = (fr, v.extract fr (fr + o)) := pk_val (by omega) (by rw [ByteArray.size_extract]; omega)
      have hpt : (v.extract fr (fr + o)).data.toList = (v.data.toList.drop fr).take o := by
        rw [extF _ _ _ (by omega), List.drop_take, Nat.add_sub_cancel_left]
      have hpl : ((v.data.toList.drop fr).take o).length = o := by rw [List.length_take, List.length_drop, hz]; omega
      have hsplit : (v.data.toList.drop fr) = (v.data.toList.drop fr).take o ++ 44 :: (v.data.toList.drop fr).drop (o + 1) := by
        have hlt := (List.getElem?_eq_some_iff.1 g1).1
        have hv2 := (List.getElem?_eq_some_iff.1 g1).2
        have h8 := List.take_append_drop o (v.data.toList.drop fr)
        rw [List.drop_eq_getElem_cons hlt, hv2] at h8
        exact h8.symm
      rw [List.foldl_cons]
      have hst : rdS (some acc) (pk fr (v.extract fr (fr + o))) = match rrO (v.extract fr (fr + o)) with | some r => some (acc ++ [r]) | none => none := by
        unfold rdS
        rw [hpk]
        cases rrO (v.extract fr (fr + o)) <;> rfl
      rw [hst]
      cases hr : rrO (v.extract fr (fr + o)) with
      | some r =>
        simp only
        obtain ⟨a, m, h1, h2⟩ := nrun_of hr (44 :: (v.data.toList.drop fr).drop (o + 1)) (.inr rfl)
        rw [hpt, ← hsplit, hpl] at h1
        have hgd : (v.data.toList.drop fr).getD o 0 = 44 := by rw [List.getD_eq_getElem?_getD, g1]; rfl
        rw [runsR_go h1 (by rw [List.length_drop, hz]; omega) hgd, List.drop_drop, ← h2]
        have e : fr + (o + 1) = fr + o + 1 := by omega
        rw [e]
        exact rd_runs v hv f (fr + o + 1) (acc ++ [r]) F (by omega) (by omega) (by omega)
      | none =>
        simp only
        rw [rdS_none]
        cases hnr : nrun (v.data.toList.drop fr) with
        | none => rw [runsR_no hnr]
        | some q =>
          obtain ⟨a, m, c⟩ := q
          obtain ⟨k1, k2, k3⟩ := nrun_inv hnr
          have hco : c ≤ o := by
            rcases Nat.lt_or_ge o c with hlt | hge
            · exfalso
              apply k2
              have : ((v.data.toList.drop fr).take c)[o]? = some 44 := by rw [List.getElem?_take_of_lt hlt]; exact g1
              exact List.mem_of_getElem? this
            · exact hge
          by_cases hc : (v.data.toList.drop fr).getD c 0 = 44
          · exfalso
            have hlt : c < (v.data.toList.drop fr).length := by rw [List.length_drop, hz]; omega
            have hce : c = o := by
              rcases Nat.lt_or_ge c o with h | h
              · exfalso
                refine g2 c h ?_
                rw [List.getElem?_eq_getElem hlt]
                rw [List.getD_eq_getElem?_getD, List.getElem?_eq_getElem hlt] at hc
                simpa using hc
              · omega
            subst hce
            have e : (⟨((v.data.toList.drop fr).take c).toArray⟩ : ByteArray) = v.extract fr (fr + c) := by
              apply ByteArray.ext
              apply Array.ext'
              rw [hpt]
            rw [e, hr] at k3
            cases k3
          · rw [runsR_bad hnr (by rw [List.length_drop, hz]; omega) hc]
theorem rdG_runs (v : ByteArray) (hv : v.size ≤ 4096) : rdG (pieces v 44) = runsR (v.data.toList.length + 1) v.data.toList [] := by
  have h := rd_runs v hv (v.size + 1) 0 [] (v.data.toList.length + 1) (Nat.zero_le _) (by omega) (by simp)
  rw [List.drop_zero] at h
  exact h
theorem ly_jn (p : Ps) (key value : ByteArray) (hv : value.size ≤ 4096) (hx : kdR key ≠ 0) : lyR p (kdR key + 1) key value = jn p key value := by
  unfold lyR jn
  rw [if_neg (by omega)]
  by_cases h2 : kdR key = 2
  · rw [if_pos (by omega), h2]
    unfold loR jnV
    rw [if_neg (fun h => by omega), if_neg (by decide), if_pos rfl, rdG_runs value hv]
    cases runsR (value.data.toList.length + 1) value.data.toList [] <;> rfl
  · rw [if_neg (by omega), Nat.add_sub_cancel]
end Go.Proofs.YtnpcbcfjnhjmmaaGreatDoor
namespace Go.Proofs.YtnpcbcfjnhjmmaaGreatDoor
open Go.Shelf Go.RowKit Go.Deep
/-- what the program and the reference know of the part ahead -/
def AhI (p : Ps) (ah n : Nat) (ahead : ByteArray) : Prop := (n = 0 ∧ ah = 0 ∧ p.mo = []) ∨ (0 < n ∧ ah = kdR ahead + 1 ∧ AhOk p ahead)
theorem kdR_xt {key : ByteArray} (h : (key.toList == [120, 116]) = true) : kdR key = 0 := by unfold kdR; rw [if_pos h]
theorem kdR_nx {key : ByteArray} (h : (key.toList == [120, 116]) = false) : kdR key ≠ 0 := by
  unfold kdR
  rw [if_neg (by rw [h]; decide)]
  repeat' split
  all_goals decide
theorem tk3_pt3 (p : Ps) (ah n : Nat) (ahead key value : ByteArray) (hv : value.size ≤ 4096) (hkey : (key.toList == []) = false) (h : AhI p ah n ahead) :
    (pt3 p n ahead key value).2.2 = (tk3 p ah key value).2.2 ∧ ((tk3 p ah key value).2.2.2 = 0 → (pt3 p n ahead key value).1 = (tk3 p ah key value).1 ∧ AhI (tk3 p ah key value).1 (tk3 p ah key value).2.1 (n + 1) (pt3 p n ahead key value).2.1) := by
  cases hk : (key.toList == [120, 116]) with
  | true =>
    have k0 := kdR_xt hk
    cases ho : Lib.hasPrefix value.data.toList [117, 114, 110, 58, 98, 116, 105, 104, 58] with
    | true =>
      have e1 : pt3 p n ahead key value = (p, ⟨#[]⟩, 0, 224) := by
        unfold pt3
        rw [if_neg (fun h => by rw [hk] at h; cases h.2), if_pos hk, if_pos ho]
      have e2 : stR p ah (kdR key + 1) key value = 224 := by
        unfold stR
        rw [if_neg (fun h => h.2 (by omega)), if_pos ⟨by omega, ho⟩]
      have e3 : tk3 p ah key value = (p, ah, 0, 224) := by
        unfold tk3
        rw [e2]
        rfl
      rw [e1, e3]
      exact ⟨rfl, fun h => by cases h⟩
    | false =>
      rcases h with ⟨rfl, rfl, hm⟩ | ⟨hn, rfl, hA⟩
      · have e1 : pt3 p 0 ahead key value = ({ p with h := fsH value.data.toList }, key, 0, fsE value.data.toList) := by
          unfold pt3
          rw [if_neg (fun h => by rw [hk] at h; cases h.2), if_pos hk, if_neg (by rw [ho]; decide), if_neg (by omega)]
        have ea : agR p 0 (kdR key + 1) key value = false := by
          unfold agR
          rw [if_neg (by omega), if_neg (by omega), if_neg (by omega), k0]
          rfl
        have e2 : stR p 0 (kdR key + 1) key value = 0 := by
          unfold stR
          rw [if_neg (fun h => h.2 (by omega)), if_neg (fun h => by rw [ho] at h; cases h.2), if_neg (fun h => h.2 rfl), if_neg (by omega), if_neg (by rw [ea]; decide), if_neg (fun h => by omega)]
        have e4 : lyR p (kdR key + 1) key value = liR p value := by unfold lyR; rw [if_pos (by omega)]
        have e3 : tk3 p 0 key value = ((liR p value).1, kdR key + 1, 0, (liR p value).2) := by
          unfold tk3
          rw [e2, if_neg (by decide), e4]
        rw [e1, e3]
        cases hf : fstR value.data.toList with
        | none =>
          rw [liR_no hf]
          refine ⟨?_, fun h => by cases h⟩
          unfold fsE
          rw [hf]
          rfl
        | some x =>
          rw [liR_yes hf]
          refine ⟨?_, fun _ => ⟨?_, .inr ⟨by omega, rfl, fun h5 => ?_, fun _ => hm⟩⟩⟩
          · unfold fsE
            rw [hf]
            rfl
          · unfold fsH
            rw [hf]
            rfl
          · exact absurd h5 (by show ¬ kdR key = 5; omega)
      · have e1 : pt3 p n ahead key value = (p, ⟨#[]⟩, 0, 225) := by
          unfold pt3
          rw [if_neg (fun h => by rw [hk] at h; cases h.2), if_pos hk, if_neg (by rw [ho]; decide), if_pos hn]
        have e2 : stR p (kdR ahead + 1) (kdR key + 1) key value = 225 := by
          unfold stR
          rw [if_neg (fun h => h.2 (by omega)), if_neg (fun h => by rw [ho] at h; cases h.2), if_pos ⟨by omega, by omega⟩]
        have e3 : tk3 p (kdR ahead + 1) key value = (p, kdR ahead + 1, 0, 225) := by
          unfold tk3
          rw [e2]
          rfl
        rw [e1, e3]
        exact ⟨rfl, fun h => by cases h⟩
  | false =>
    have kx := kdR_nx hk
    rcases h with ⟨rfl, rfl, hm⟩ | ⟨hn, rfl, hA⟩
    · have e1 : pt3 p 0 ahead key value = (p, ⟨#[]⟩, 0, 223) := by
        unfold pt3
        rw [if_pos ⟨rfl, hk⟩]
      have e2 : stR p 0 (kdR key + 1) key value = 223 := by
        unfold stR
        rw [if_pos ⟨rfl, by omega⟩]
      have e3 : tk3 p 0 key value = (p, 0, 0, 223) := by
        unfold tk3
        rw [e2]
        rfl
      rw [e1, e3]
      exact ⟨rfl, fun h => by cases h⟩
    · have es := st_ord p ahead key value hA.1 hA.2 hkey kx
      by_cases hord : ordR p.ts p.ps ahead key value (strGt ahead key) = 0
      · have e1 : pt3 p n ahead key value = ((jn p key value).1, key, 0, (jn p key value).2) := by
          unfold pt3
          rw [if_neg (fun h => by omega), if_neg (by rw [hk]; decide), if_neg (fun h => h hord)]
        have e3 : tk3 p (kdR ahead + 1) key value = ((jn p key value).1, kdR key + 1, 0, (jn p key value).2) := by
          unfold tk3
          rw [es, if_neg (fun h => h hord), ly_jn p key value hv kx]
        rw [e1, e3]
        refine ⟨rfl, fun _ => ⟨rfl, .inr ⟨by omega, rfl, jn_ah hA (fun hlt => ?_) kx⟩⟩⟩
        unfold ordR at hord
        rw [if_pos hlt] at hord
        cases hord
      · have e1 : pt3 p n ahead key value = (p, ⟨#[]⟩, 0, ordR p.ts p.ps ahead key value (strGt ahead key)) := by
          unfold pt3
          rw [if_neg (fun h => by omega), if_neg (by rw [hk]; decide), if_pos hord]
        have e3 : tk3 p (kdR ahead + 1) key value = (p, kdR ahead + 1, 0, ordR p.ts p.ps ahead key value (strGt ahead key)) := by
          unfold tk3
          rw [es, if_pos hord]
        rw [e1, e3]
        exact ⟨rfl, fun h => absurd h hord⟩
theorem tk_pt (p : Ps) (ah n : Nat) (ahead s : ByteArray) (hs : s.size ≤ 4096) (h : AhI p ah n ahead) :
    (ptR p n ahead s).2.2 = (tkR p ah s).2.2 ∧ ((tkR p ah s).2.2.2 = 0 → (ptR p n ahead s).1 = (tkR p ah s).1 ∧ AhI (tkR p ah s).1 (tkR p ah s).2.1 (n + 1) (ptR p n ahead s).2.1) := by
  have hz : s.data.toList.length = s.size := by simp
  unfold ptR tkR
  by_cases h1 : Lib.indexByte s.data.toList 61 < 1
  · rw [if_pos h1, if_pos h1]
    exact ⟨rfl, fun h => by cases h⟩
  rw [if_neg h1, if_neg h1]
  by_cases h2 : 0 ≤ (uneL (s.data.toList.take (Lib.indexByte s.data.toList 61).toNat)).2
  · rw [if_pos h2, if_pos h2]
    exact ⟨rfl, fun h => by cases h⟩
  rw [if_neg h2, if_neg h2]
  by_cases h3 : 0 ≤ (uneL (s.data.toList.drop ((Lib.indexByte s.data.toList 61).toNat + 1))).2
  · rw [if_pos h3, if_pos h3]
    exact ⟨rfl, fun h => by cases h⟩
  rw [if_neg h3, if_neg h3]
  refine tk3_pt3 p ah n ahead _ _ ?_ ?_ h
  · have h9 := (uneL_len (s.data.toList.drop ((Lib.indexByte s.data.toList 61).toNat + 1))).1
    rw [List.length_drop] at h9
    show (uneL _).1.toArray.size ≤ 4096
    rw [List.size_toArray]
    omega
  · have hne : s.data.toList.take (Lib.indexByte s.data.toList 61).toNat ≠ [] := fun e => by
      have h9 := congrArg List.length e
      rw [List.length_take] at h9
      have h8 := (Lib.indexByte_some (l := s.data.toList) (c := 61) (o := (Lib.indexByte s.data.toList 61).toNat) (by omega)).1
      have := (List.getElem?_eq_some_iff.1 h8).1
      simp only [List.length_nil] at h9
      omega
    have h9 := uneL_ne hne (by omega)
    rw [tl_eq]
    cases hq : (uneL (s.data.toList.take (Lib.indexByte s.data.toList 61).toNat)).1 with
    | nil => exact absurd hq h9
    | cons a r => rfl
/-- the scan to the next '&' -/
theorem prG_skip (s : ByteArray) (p : Ps) (n : Nat) (ah : ByteArray) (fr : Nat) : ∀ (d i f : Nat), (∀ k, k < d → i + k < s.size ∧ s.data.toList.getD (i + k) 0 ≠ 38) → prG s (f + d) p n ah fr i = prG s f p n ah fr (i + d)
  | 0, i, f, _ => rfl
  | d + 1, i, f, h => by
    have h0 := h 0 (by omega)
    rw [Nat.add_zero] at h0
    rw [show f + (d + 1) = (f + d) + 1 by omega, prG, if_neg (by omega), if_pos h0, prG_skip s p n ah fr d (i + 1) f (fun k hk => by
      have := h (k + 1) (by omega)
      rw [show i + 1 + k = i + (k + 1) by omega]
      exact this), show i + 1 + d = i + (d + 1) by omega]
theorem ext_ext (s : ByteArray) (a b : Nat) (hab : a ≤ b) : (s.extract 8 s.size).extract a b = s.extract (8 + a) (8 + b) := by
  apply ByteArray.ext
  apply Array.ext'
  rw [extF _ _ _ hab, extD, extF _ _ _ (by omega)]
  rw [List.take_drop, List.drop_drop]
/-- the two orders of reading agree -/
theorem pr_fold (s : ByteArray) (hs : s.size ≤ 4096) (h8 : 8 ≤ s.size) : ∀ (f fr : Nat) (p : Ps) (ah n : Nat) (ahead : ByteArray) (F : Nat), fr ≤ s.size - 8 → s.size - 8 - fr < f → s.size + 2 ≤ F + (8 + fr) → AhI p ah n ahead →
    prG s F p n ahead (8 + fr) (8 + fr) = match ((pcs (s.extract 8 s.size) 38 f fr).foldl stQ (p, ah, none)).2.2 with | some q => (zP, q.1, q.2) | none => (((pcs (s.extract 8 s.size) 38 f fr).foldl stQ (p, ah, none)).1, 0, 0)
  | 0, fr, _, _, _, _, _, _, h, _, _ => by omega
  | f + 1, fr, p, ah, n, ahead, F, hfr, hf, hF, hA => by
    have hz : s.data.toList.length = s.size := by simp
    have htl : (s.extract 8 s.size).data.toList = s.data.toList.drop 8 := extD s 8
    have hts : (s.extract 8 s.size).size = s.size - 8 := by rw [ByteArray.size_extract]; omega
    have hdd : (s.extract 8 s.size).data.toList.drop fr = s.data.toList.drop (8 + fr) := by rw [htl, List.drop_drop]
    have gd : ∀ j (hj : j < s.size), s.data.toList.getD j 0 = s.data.toList[j]'(by omega) := fun j hj => by
      rw [List.getD_eq_getElem?_getD, List.getElem?_eq_getElem (by omega)]; rfl
    by_cases hn : Lib.indexByte ((s.extract 8 s.size).data.toList.drop fr) 38 < 0
    · rw [pcs_end hn]
      have hm1 : Lib.indexByte ((s.extract 8 s.size).data.toList.drop fr) 38 = -1 := by have := Lib.indexByte_ge ((s.extract 8 s.size).data.toList.drop fr) 38; omega
      have hno := Lib.indexByte_none hm1
      rw [hdd] at hno
      have hpc : (s.extract 8 s.size).extract fr (s.extract 8 s.size).size = s.extract (8 + fr) s.size := by
        rw [hts, ext_ext s fr (s.size - 8) hfr, show 8 + (s.size - 8) = s.size by omega]
      rw [hpc]
      have hpk : (pk fr (s.extract (8 + fr) s.size)).1 = (fr, s.extract (8 + fr) s.size) := pk_val (by omega) (by rw [ByteArray.size_extract]; omega)
      have hsk := prG_skip s p n ahead (8 + fr) (s.size - (8 + fr)) (8 + fr) (F - (s.size - (8 + fr))) (fun k hk => ⟨by omega, fun e => by
        rw [gd _ (by omega)] at e
        refine hno k ?_
        rw [List.getElem?_drop, List.getElem?_eq_getElem (by omega), e]⟩)
      rw [show F - (s.size - (8 + fr)) + (s.size - (8 + fr)) = F by omega, show 8 + fr + (s.size - (8 + fr)) = s.size by omega] at hsk
      rw [hsk]
      obtain ⟨G, hG⟩ : ∃ G, F - (s.size - (8 + fr)) = G + 1 + 1 := ⟨F - (s.size - (8 + fr)) - 2, by omega⟩
      rw [hG, prG, if_neg (by omega), if_neg (fun h => by omega)]
      obtain ⟨t1, t2⟩ := tk_pt p ah n ahead (s.extract (8 + fr) s.size) (by rw [ByteArray.size_extract]; omega) hA
      rw [List.foldl_cons, List.foldl_nil, stQ_no _ rfl, hpk]
      simp only
      rw [t1]
      by_cases he : (tkR p ah (s.extract (8 + fr) s.size)).2.2.2 = 0
      · rw [if_neg (fun h => h he), if_pos he, (t2 he).1, prG, if_pos (by omega)]
      · rw [if_pos he, if_neg he]
        simp only
        rw [show ((8 + fr : Nat) : Int) = 8 + (fr : Int) by omega]
    · have hge := Lib.indexByte_ge ((s.extract 8 s.size).data.toList.drop fr) 38
      obtain ⟨o, ho⟩ : ∃ o : Nat, Lib.indexByte ((s.extract 8 s.size).data.toList.drop fr) 38 = (o : Int) := ⟨(Lib.indexByte ((s.extract 8 s.size).data.toList.drop fr) 38).toNat, by omega⟩
      obtain ⟨g1, g2⟩ := Lib.indexByte_some ho
      rw [hdd] at g1 g2
      have hol := (List.getElem?_eq_some_iff.1 g1).1
      rw [List.length_drop, hz] at hol
      rw [pcs_go ho]
      have hpc : (s.extract 8 s.size).extract fr (fr + o) = s.extract (8 + fr) (8 + fr + o) := by
        rw [ext_ext s fr (fr + o) (by omega), Nat.add_assoc]
      rw [hpc]
      have hpk : (pk fr (s.extract (8 + fr) (8 + fr + o))).1 = (fr, s.extract (8 + fr) (8 + fr + o)) := pk_val (by omega) (by rw [ByteArray.size_extract]; omega)
      have hsk := prG_skip s p n ahead (8 + fr) o (8 + fr) (F - o) (fun k hk => ⟨by omega, fun e => by
        rw [gd _ (by omega)] at e
        refine g2 k hk ?_
        rw [List.getElem?_drop, List.getElem?_eq_getElem (by omega), e]⟩)
      rw [show F - o + o = F by omega] at hsk
      rw [hsk]
      obtain ⟨G, hG⟩ : ∃ G, F - o = G + 1 := ⟨F - o - 1, by omega⟩
      have h38 : s.data.toList.getD (8 + fr + o) 0 = 38 := by
        rw [List.getElem?_drop] at g1
        rw [List.getD_eq_getElem?_getD, g1]; rfl
      rw [hG, prG, if_neg (by omega), if_neg (fun h => h.2 h38)]
      obtain ⟨t1, t2⟩ := tk_pt p ah n ahead (s.extract (8 + fr) (8 + fr + o)) (by rw [ByteArray.size_extract]; omega) hA
      rw [List.foldl_cons, stQ_no _ rfl, hpk]
      simp only
      rw [t1]
      by_cases he : (tkR p ah (s.extract (8 + fr) (8 + fr + o))).2.2.2 = 0
      · obtain ⟨u1, u2⟩ := t2 he
        rw [if_neg (fun h => h he), if_pos he, u1, show 8 + fr + o + 1 = 8 + (fr + o + 1) by omega]
        exact pr_fold s hs h8 f (fr + o + 1) _ _ (n + 1) _ G (by omega) (by omega) (by omega) u2
      · rw [if_pos he, if_neg he, foldl_some _ _ _ rfl]
        simp only
        rw [show ((8 + fr : Nat) : Int) = 8 + (fr : Int) by omega]
theorem pg_pr (s : ByteArray) : pgR s = prR s := by
  unfold pgR prR
  by_cases h1 : 4096 < s.size
  · rw [if_pos h1, if_pos h1]
  rw [if_neg h1, if_neg h1]
  by_cases h2 : Lib.hasPrefix s.data.toList [109, 97, 103, 110, 101, 116, 58, 63] = false
  · rw [if_pos h2, if_pos h2]
  rw [if_neg h2, if_neg h2]
  have h8 : 8 ≤ s.size := by
    have h9 := hp_len (by simpa using h2 : Lib.hasPrefix s.data.toList [109, 97, 103, 110, 101, 116, 58, 63] = true)
    have h7 : s.data.toList.length = s.size := by simp
    rw [h7] at h9
    exact h9
  have hts : (s.extract 8 s.size).size = s.size - 8 := by rw [ByteArray.size_extract]; omega
  have h := pr_fold s (by omega) h8 ((s.extract 8 s.size).size + 1) 0 zP 0 0 ⟨#[]⟩ (s.size + 2) (Nat.zero_le _) (by omega) (by omega) (.inl ⟨rfl, rfl, rfl⟩)
  unfold pgM pieces prS
  exact h.symm
end Go.Proofs.YtnpcbcfjnhjmmaaGreatDoor
