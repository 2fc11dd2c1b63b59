import Derived.Test.YtmfbhihjiebagaaDoorQk
namespace Go.Proofs.YtmfbhihjiebagaaDoor
open Go.Shelf Go.RowKit Go.Deep
def rdS (acc : Option (List (Int × Int))) (x : Pc) : Option (List (Int × Int)) := match acc, rrO x.1.2 with | some rs, some r => some (rs ++ [r]) | _, _ => none
theorem rdS_none (t : List Pc) : t.foldl rdS none = none := by
  induction t with
  | nil => rfl
  | cons a t ih => exact ih
theorem extF (s : ByteArray) (a b : Nat) (h : a ≤ b) : (s.extract a b).data.toList = (s.data.toList.take b).drop a := by
  simp [ByteArray.data_extract, List.take_drop]
  rw [show a + (b - a) = b by omega]
theorem rd_runs (v : ByteArray) (hv : v.size ≤ 4096) : ∀ (f fr : Nat) (acc : List (Int × Int)) (F : Nat), fr ≤ v.size → v.size - fr < f → v.size - fr < F → (pcs v 44 f fr).foldl rdS (some acc) = runsR F (v.data.toList.drop fr) acc
  | 0, fr, acc, F, _, h, _ => by omega
  | f + 1, fr, acc, F, hfr, hf, hF => by
    obtain ⟨F, rfl⟩ : ∃ G, F = G + 1 := ⟨F - 1, by omega⟩
    have hz : v.data.toList.length = v.size := by simp
    by_cases hn : Lib.indexByte (v.data.toList.drop fr) 44 < 0
    · rw [pcs_end hn]
      have hpk : (pk fr (v.extract fr v.size)).1 = (fr, v.extract fr v.size) := pk_val (by omega) (by rw [ByteArray.size_extract]; omega)
      have hm1 : Lib.indexByte (v.data.toList.drop fr) 44 = -1 := by have := Lib.indexByte_ge (v.data.toList.drop fr) 44; omega
      have hno := Lib.indexByte_none hm1
      rw [List.foldl_cons, List.foldl_nil]
      unfold rdS
      rw [hpk]
      cases hr : rrO (v.extract fr v.size) with
      | some r =>
        obtain ⟨a, m, h1, h2⟩ := nrun_of hr [] (.inl rfl)
        rw [List.append_nil, extD] at h1
        rw [runsR_end h1 rfl, h2]
      | none =>
        cases hnr : nrun (v.data.toList.drop fr) with
        | none => rw [runsR_no hnr]
        | some q =>
          obtain ⟨a, m, c⟩ := q
          obtain ⟨k1, k2, k3⟩ := nrun_inv hnr
          by_cases hc : c = (v.data.toList.drop fr).length
          · exfalso
            have e : (⟨((v.data.toList.drop fr).take c).toArray⟩ : ByteArray) = v.extract fr v.size := by
              rw [hc, List.take_length]
              apply ByteArray.ext
              apply Array.ext'
              rw [extD]
            rw [e, hr] at k3
            cases k3
          · rw [runsR_bad hnr hc (fun e => ?_)]
            have hlt : c < (v.data.toList.drop fr).length := by omega
            refine hno c ?_
            rw [List.getElem?_eq_getElem hlt]
            rw [List.getD_eq_getElem?_getD, List.getElem?_eq_getElem hlt] at e
            simpa using e
    · have hge := Lib.indexByte_ge (v.data.toList.drop fr) 44
      obtain ⟨o, ho⟩ : ∃ o : Nat, Lib.indexByte (v.data.toList.drop fr) 44 = (o : Int) := ⟨(Lib.indexByte (v.data.toList.drop fr) 44).toNat, by omega⟩
      obtain ⟨g1, g2⟩ := Lib.indexByte_some ho
      have hol := (List.getElem?_eq_some_iff.1 g1).1
      rw [List.length_drop, hz] at hol
      rw [pcs_go ho]
      have hpk : (pk fr (v.extract fr (fr + o))).1 = (fr, v.extract fr (fr + o)) := pk_val (by omega) (by rw [ByteArray.size_extract]; omega)
      have hpt : (v.extract fr (fr + o)).data.toList = (v.data.toList.drop fr).take o := by
        rw [extF _ _ _ (by omega), List.drop_take, Nat.add_sub_cancel_left]
      have hpl : ((v.data.toList.drop fr).take o).length = o := by rw [List.length_take, List.length_drop, hz]; omega
      have hsplit : (v.data.toList.drop fr) = (v.data.toList.drop fr).take o ++ 44 :: (v.data.toList.drop fr).drop (o + 1) := by
        have hlt := (List.getElem?_eq_some_iff.1 g1).1
        have hv2 := (List.getElem?_eq_some_iff.1 g1).2
        have h8 := List.take_append_drop o (v.data.toList.drop fr)
        rw [List.drop_eq_getElem_cons hlt, hv2] at h8
        exact h8.symm
      rw [List.foldl_cons]
      have hst : rdS (some acc) (pk fr (v.extract fr (fr + o))) = match rrO (v.extract fr (fr + o)) with | some r => some (acc ++ [r]) | none => none := by
        unfold rdS
        rw [hpk]
        cases rrO (v.extract fr (fr + o)) <;> rfl
      rw [hst]
      cases hr : rrO (v.extract fr (fr + o)) with
      | some r =>
        simp only
        obtain ⟨a, m, h1, h2⟩ := nrun_of hr (44 :: (v.data.toList.drop fr).drop (o + 1)) (.inr rfl)
        rw [hpt, ← hsplit, hpl] at h1
        have hgd : (v.data.toList.drop fr).getD o 0 = 44 := by rw [List.getD_eq_getElem?_getD, g1]; rfl
        rw [runsR_go h1 (by rw [List.length_drop, hz]; omega) hgd, List.drop_drop, ← h2]
        have e : fr + (o + 1) = fr + o + 1 := by omega
        rw [e]
        exact rd_runs v hv f (fr + o + 1) (acc ++ [r]) F (by omega) (by omega) (by omega)
      | none =>
        simp only
        rw [rdS_none]
        cases hnr : nrun (v.data.toList.drop fr) with
        | none => rw [runsR_no hnr]
        | some q =>
          obtain ⟨a, m, c⟩ := q
          obtain ⟨k1, k2, k3⟩ := nrun_inv hnr
          have hco : c ≤ o := by
            rcases Nat.lt_or_ge o c with hlt | hge
            · exfalso
              apply k2
              have : ((v.data.toList.drop fr).take c)[o]? = some 44 := by rw [List.getElem?_take_of_lt hlt]; exact g1
              exact List.mem_of_getElem? this
            · exact hge
          by_cases hc : (v.data.toList.drop fr).getD c 0 = 44
          · exfalso
            have hlt : c < (v.data.toList.drop fr).length := by rw [List.length_drop, hz]; omega
            have hce : c = o := by
              rcases Nat.lt_or_ge c o with h | h
              · exfalso
                refine g2 c h ?_
                rw [List.getElem?_eq_getElem hlt]
                rw [List.getD_eq_getElem?_getD, List.getElem?_eq_getElem hlt] at hc
                simpa using hc
              · omega
            subst hce
            have e : (⟨((v.data.toList.drop fr).take c).toArray⟩ : ByteArray) = v.extract fr (fr + c) := by
              apply ByteArray.ext
              apply Array.ext'
              rw [hpt]
            rw [e, hr] at k3
            cases k3
          · rw [runsR_bad hnr (by rw [List.length_drop, hz]; omega) hc]
theorem rdG_runs (v : ByteArray) (hv : v.size ≤ 4096) : rdG (pieces v 44) = runsR (v.data.toList.length + 1) v.data.toList [] := by
  have h := rd_runs v hv (v.size + 1) 0 [] (v.data.toList.length + 1) (Nat.zero_le _) (by omega) (by simp)
  rw [List.drop_zero] at h
  exact h
theorem ly_jn (p : Ps) (key value : ByteArray) (hv : value.size ≤ 4096) (hx : kdR key ≠ 0) : lyR p (kdR key + 1) key value = jn p key value := by
  unfold lyR jn
  rw [if_neg (by omega)]
  by_cases h2 : kdR key = 2
  · rw [if_pos (by omega), h2]
    unfold loR jnV
    rw [if_neg (fun h => by omega), if_neg (by decide), if_pos rfl, rdG_runs value hv]
    cases runsR (value.data.toList.length + 1) value.data.toList [] <;> rfl
  · rw [if_neg (by omega), Nat.add_sub_cancel]
end Go.Proofs.YtmfbhihjiebagaaDoor
