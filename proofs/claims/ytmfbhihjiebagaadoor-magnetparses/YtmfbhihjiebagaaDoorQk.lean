import Derived.Test.YtmfbhihjiebagaaDoorQj
namespace Go.Proofs.YtmfbhihjiebagaaDoor
open Go.Shelf Go.RowKit Go.Deep
theorem ix_none {l : List UInt8} {c : UInt8} (h : c ∉ l) : Lib.indexByte l c < 0 := by
  have h9 := Lib.indexByte_ge l c
  by_cases hn : Lib.indexByte l c < 0
  · exact hn
  · have h8 := (Lib.indexByte_some (l := l) (c := c) (o := (Lib.indexByte l c).toNat) (by omega)).1
    exact absurd (List.mem_of_getElem? h8) h
theorem ix_first {x y : List UInt8} {c : UInt8} (h : c ∉ x) : Lib.indexByte (x ++ c :: y) c = (x.length : Int) := by
  have hge := Lib.indexByte_ge (x ++ c :: y) c
  have hnn : 0 ≤ Lib.indexByte (x ++ c :: y) c := by
    by_cases hn : Lib.indexByte (x ++ c :: y) c < 0
    · have hm1 : Lib.indexByte (x ++ c :: y) c = -1 := by omega
      have h9 := Lib.indexByte_none hm1 x.length
      rw [List.getElem?_append_right (Nat.le_refl _), Nat.sub_self] at h9
      simp at h9
    · omega
  obtain ⟨o, ho⟩ : ∃ o : Nat, Lib.indexByte (x ++ c :: y) c = (o : Int) := ⟨(Lib.indexByte (x ++ c :: y) c).toNat, by omega⟩
  obtain ⟨h1, h2⟩ := Lib.indexByte_some ho
  rw [ho]
  have e : o = x.length := by
    rcases Nat.lt_trichotomy o x.length with hlt | heq | hgt
    · rw [List.getElem?_append_left hlt] at h1
      exact absurd (List.mem_of_getElem? h1) h
    · exact heq
    · have h3 := h2 x.length hgt
      rw [List.getElem?_append_right (Nat.le_refl _), Nat.sub_self] at h3
      simp at h3
  rw [e]
theorem digit_no {m : Nat} {c : UInt8} (hc : dgt c = false) : c ∉ Lib.decDigits m := fun h => by
  have := (dec_ok m).1 c h
  rw [hc] at this; cases this
/-- a run as it is written -/
theorem rrO_one {s : ByteArray} {a : Nat} (h : s.data.toList = Lib.decDigits a) (ha : a < 4096) : rrO s = some ((a : Int), 1) := by
  have e : ctR s 45 = (s, ⟨#[]⟩, false) := by unfold ctR; rw [h]; exact if_pos (ix_none (digit_no rfl))
  unfold rrO
  rw [e]
  simp only
  rw [(plO_iff s a).2 ⟨h, ha⟩]
  rfl
theorem rrO_two {s : ByteArray} {a b : Nat} (h : s.data.toList = Lib.decDigits a ++ 45 :: Lib.decDigits b) (ha : a < 4096) (hb : b < 4096) (hab : a < b) : rrO s = some ((a : Int), (b : Int) - (a : Int) + 1) := by
  have e0 : Lib.indexByte s.data.toList 45 = ((Lib.decDigits a).length : Int) := by rw [h]; exact ix_first (digit_no rfl)
  have e : ctR s 45 = (s.extract 0 (Lib.decDigits a).length, s.extract ((Lib.decDigits a).length + 1) s.size, true) := by
    unfold ctR
    rw [e0, if_neg (by omega), Int.toNat_natCast]
  have p1 : plO (s.extract 0 (Lib.decDigits a).length) = some a := (plO_iff _ a).2 ⟨by rw [extT, h, List.take_left], ha⟩
  have p2 : plO (s.extract ((Lib.decDigits a).length + 1) s.size) = some b := (plO_iff _ b).2 ⟨by rw [extD, h, List.drop_append, List.drop_of_length_le (by omega), Nat.add_sub_cancel_left]; rfl, hb⟩
  unfold rrO
  rw [e]
  simp only
  rw [p1]
  simp only
  rw [if_neg (by decide), p2]
  simp only
  rw [if_pos hab]
/-- the other way -/
theorem rrO_inv {s : ByteArray} {r : Int × Int} (h : rrO s = some r) : (∃ a : Nat, a < 4096 ∧ s.data.toList = Lib.decDigits a ∧ r = ((a : Int), 1)) ∨ ∃ a b : Nat, a < 4096 ∧ b < 4096 ∧ a < b ∧ s.data.toList = Lib.decDigits a ++ 45 :: Lib.decDigits b ∧ r = ((a : Int), (b : Int) - (a : Int) + 1) := by
  unfold rrO at h
  cases h1 : plO (ctR s 45).1 with
  | none => rw [h1] at h; cases h
  | some a =>
    rw [h1] at h
    simp only at h
    obtain ⟨k1, k2⟩ := (plO_iff _ _).1 h1
    by_cases hn : Lib.indexByte s.data.toList 45 < 0
    · have e : ctR s 45 = (s, ⟨#[]⟩, false) := by unfold ctR; exact if_pos hn
      rw [e] at h k1
      simp only [if_true] at h
      cases h
      exact .inl ⟨a, k2, k1, rfl⟩
    · have hge := Lib.indexByte_ge s.data.toList 45
      obtain ⟨o, ho⟩ : ∃ o : Nat, Lib.indexByte s.data.toList 45 = (o : Int) := ⟨(Lib.indexByte s.data.toList 45).toNat, by omega⟩
      have e : ctR s 45 = (s.extract 0 o, s.extract (o + 1) s.size, true) := by unfold ctR; rw [ho, if_neg (by omega), Int.toNat_natCast]
      rw [e] at h k1
      simp only at h k1
      rw [if_neg (by decide)] at h
      cases h2 : plO (s.extract (o + 1) s.size) with
      | none => rw [h2] at h; cases h
      | some b =>
        rw [h2] at h
        simp only at h
        obtain ⟨m1, m2⟩ := (plO_iff _ _).1 h2
        split at h
        · rename_i hab
          cases h
          refine .inr ⟨a, b, k2, m2, hab, ?_, rfl⟩
          rw [extT] at k1
          rw [extD] at m1
          have h9 := (Lib.indexByte_some ho).1
          have hlt := (List.getElem?_eq_some_iff.1 h9).1
          have hv := (List.getElem?_eq_some_iff.1 h9).2
          rw [← k1, ← m1]
          have h8 := List.take_append_drop o s.data.toList
          rw [List.drop_eq_getElem_cons hlt, hv] at h8
          exact h8.symm
        · cases h
/-- A: what is read as a run is one at a text's beginning -/
theorem nrun_of {s : ByteArray} {r : Int × Int} (h : rrO s = some r) (y : List UInt8) (hy : y = [] ∨ y.getD 0 0 = 44) : ∃ a m : Nat, nrun (s.data.toList ++ y) = some (a, m, s.data.toList.length) ∧ r = ((a : Int), (m : Int)) := by
  have hy2 : y = [] ∨ dgt (y.getD 0 0) = false := by
    rcases hy with h | h
    · exact .inl h
    · exact .inr (by rw [h]; rfl)
  rcases rrO_inv h with ⟨a, h1, h2, rfl⟩ | ⟨a, b, h1, h2, h3, h4, rfl⟩
  · refine ⟨a, 1, ?_, rfl⟩
    rw [h2]
    unfold nrun
    rw [numR_of h1 y hy2]
    simp only
    refine if_neg ?_
    rintro ⟨g1, g2⟩
    rcases hy with rfl | hy
    · simp at g1
    · rw [List.getD_eq_getElem?_getD, List.getElem?_append_right (Nat.le_refl _), Nat.sub_self, ← List.getD_eq_getElem?_getD, hy] at g2
      cases g2
  · refine ⟨a, b - a + 1, ?_, by rw [show ((b - a + 1 : Nat) : Int) = (b : Int) - (a : Int) + 1 by omega]⟩
    rw [h4]
    unfold nrun
    have e1 : Lib.decDigits a ++ 45 :: Lib.decDigits b ++ y = Lib.decDigits a ++ (45 :: (Lib.decDigits b ++ y)) := by simp
    rw [e1, numR_of h1 _ (.inr rfl)]
    simp only
    rw [if_pos ⟨by simp, by rw [List.getD_eq_getElem?_getD, List.getElem?_append_right (Nat.le_refl _), Nat.sub_self]; rfl⟩]
    have e2 : (Lib.decDigits a ++ (45 :: (Lib.decDigits b ++ y))).drop ((Lib.decDigits a).length + 1) = Lib.decDigits b ++ y := by
      rw [List.drop_append, List.drop_of_length_le (by omega), Nat.add_sub_cancel_left]; rfl
    rw [e2, numR_of h2 y hy2]
    simp only
    rw [if_neg (by omega)]
    simp
    omega
/-- B: a run at a text's beginning, and an end or a comma behind it -/
theorem nrun_inv {l : List UInt8} {a m c : Nat} (h : nrun l = some (a, m, c)) : c ≤ l.length ∧ 44 ∉ l.take c ∧ rrO ⟨(l.take c).toArray⟩ = some ((a : Int), (m : Int)) := by
  unfold nrun at h
  cases h1 : numR l with
  | none => rw [h1] at h; cases h
  | some q =>
    obtain ⟨a1, c1⟩ := q
    rw [h1] at h
    simp only at h
    obtain ⟨k1, k2, k3⟩ := numR_dec h1
    split at h
    · rename_i hc
      cases h2 : numR (l.drop (c1 + 1)) with
      | none => rw [h2] at h; cases h
      | some q =>
        obtain ⟨b, c2⟩ := q
        rw [h2] at h
        simp only at h
        obtain ⟨m1, m2, m3⟩ := numR_dec h2
        rw [List.length_drop] at m3
        split at h
        · cases h
        · rename_i hab
          simp only [Option.some.injEq, Prod.mk.injEq] at h
          obtain ⟨rfl, rfl, rfl⟩ := h
          have hv : l[c1]? = some 45 := by
            rw [List.getD_eq_getElem?_getD, List.getElem?_eq_getElem hc.1] at hc
            rw [List.getElem?_eq_getElem hc.1]
            simpa using hc.2
          have e : l.take (c1 + 1 + c2) = Lib.decDigits a1 ++ 45 :: Lib.decDigits b := by
            rw [Nat.add_assoc, List.take_add, k1, show (1 + c2) = c2 + 1 by omega]
            congr 1
            rw [List.drop_eq_getElem_cons hc.1, List.take_succ_cons, m1]
            congr 1
            rw [List.getElem?_eq_getElem hc.1] at hv
            exact Option.some.inj hv
          refine ⟨by omega, ?_, ?_⟩
          · rw [e]
            intro hm
            rcases List.mem_append.1 hm with hm | hm
            · exact digit_no rfl hm
            · rcases List.mem_cons.1 hm with hm | hm
              · cases hm
              · exact digit_no rfl hm
          · rw [rrO_two (a := a1) (b := b) (by simpa using e) k2 m2 (by omega), show ((b - a1 + 1 : Nat) : Int) = (b : Int) - (a1 : Int) + 1 by omega]
    · simp only [Option.some.injEq, Prod.mk.injEq] at h
      obtain ⟨rfl, rfl, rfl⟩ := h
      exact ⟨k3, by rw [k1]; exact digit_no rfl, rrO_one (by simpa using k1) k2⟩
end Go.Proofs.YtmfbhihjiebagaaDoor
