import Derived.Test.YtmfbhihjiebagaaDoorQl
namespace Go.Proofs.YtmfbhihjiebagaaDoor
open Go.Shelf Go.RowKit Go.Deep
/-- what the program and the reference know of the part ahead -/
def AhI (p : Ps) (ah n : Nat) (ahead : ByteArray) : Prop := (n = 0 ∧ ah = 0 ∧ p.mo = []) ∨ (0 < n ∧ ah = kdR ahead + 1 ∧ AhOk p ahead)
theorem kdR_xt {key : ByteArray} (h : (key.toList == [120, 116]) = true) : kdR key = 0 := by unfold kdR; rw [if_pos h]
theorem kdR_nx {key : ByteArray} (h : (key.toList == [120, 116]) = false) : kdR key ≠ 0 := by
  unfold kdR
  rw [if_neg (by rw [h]; decide)]
  repeat' split
  all_goals decide
theorem tk3_pt3 (p : Ps) (ah n : Nat) (ahead key value : ByteArray) (hv : value.size ≤ 4096) (hkey : (key.toList == []) = false) (h : AhI p ah n ahead) :
    (pt3 p n ahead key value).2.2 = (tk3 p ah key value).2.2 ∧ ((tk3 p ah key value).2.2.2 = 0 → (pt3 p n ahead key value).1 = (tk3 p ah key value).1 ∧ AhI (tk3 p ah key value).1 (tk3 p ah key value).2.1 (n + 1) (pt3 p n ahead key value).2.1) := by
  cases hk : (key.toList == [120, 116]) with
  | true =>
    have k0 := kdR_xt hk
    cases ho : Lib.hasPrefix value.data.toList [117, 114, 110, 58, 98, 116, 105, 104, 58] with
    | true =>
      have e1 : pt3 p n ahead key value = (p, ⟨#[]⟩, 0, 224) := by
        unfold pt3
        rw [if_neg (fun h => by rw [hk] at h; cases h.2), if_pos hk, if_pos ho]
      have e2 : stR p ah (kdR key + 1) key value = 224 := by
        unfold stR
        rw [if_neg (fun h => h.2 (by omega)), if_pos ⟨by omega, ho⟩]
      have e3 : tk3 p ah key value = (p, ah, 0, 224) := by
        unfold tk3
        rw [e2]
        rfl
      rw [e1, e3]
      exact ⟨rfl, fun h => by cases h⟩
    | false =>
      rcases h with ⟨rfl, rfl, hm⟩ | ⟨hn, rfl, hA⟩
      · have e1 : pt3 p 0 ahead key value = ({ p with h := fsH value.data.toList }, key, 0, fsE value.data.toList) := by
          unfold pt3
          rw [if_neg (fun h => by rw [hk] at h; cases h.2), if_pos hk, if_neg (by rw [ho]; decide), if_neg (by omega)]
        have ea : agR p 0 (kdR key + 1) key value = false := by
          unfold agR
          rw [if_neg (by omega), if_neg (by omega), if_neg (by omega), k0]
          rfl
        have e2 : stR p 0 (kdR key + 1) key value = 0 := by
          unfold stR
          rw [if_neg (fun h => h.2 (by omega)), if_neg (fun h => by rw [ho] at h; cases h.2), if_neg (fun h => h.2 rfl), if_neg (by omega), if_neg (by rw [ea]; decide), if_neg (fun h => by omega)]
        have e4 : lyR p (kdR key + 1) key value = liR p value := by unfold lyR; rw [if_pos (by omega)]
        have e3 : tk3 p 0 key value = ((liR p value).1, kdR key + 1, 0, (liR p value).2) := by
          unfold tk3
          rw [e2, if_neg (by decide), e4]
        rw [e1, e3]
        cases hf : fstR value.data.toList with
        | none =>
          rw [liR_no hf]
          refine ⟨?_, fun h => by cases h⟩
          unfold fsE
          rw [hf]
          rfl
        | some x =>
          rw [liR_yes hf]
          refine ⟨?_, fun _ => ⟨?_, .inr ⟨by omega, rfl, fun h5 => ?_, fun _ => hm⟩⟩⟩
          · unfold fsE
            rw [hf]
            rfl
          · unfold fsH
            rw [hf]
            rfl
          · exact absurd h5 (by show ¬ kdR key = 5; omega)
      · have e1 : pt3 p n ahead key value = (p, ⟨#[]⟩, 0, 225) := by
          unfold pt3
          rw [if_neg (fun h => by rw [hk] at h; cases h.2), if_pos hk, if_neg (by rw [ho]; decide), if_pos hn]
        have e2 : stR p (kdR ahead + 1) (kdR key + 1) key value = 225 := by
          unfold stR
          rw [if_neg (fun h => h.2 (by omega)), if_neg (fun h => by rw [ho] at h; cases h.2), if_pos ⟨by omega, by omega⟩]
        have e3 : tk3 p (kdR ahead + 1) key value = (p, kdR ahead + 1, 0, 225) := by
          unfold tk3
          rw [e2]
          rfl
        rw [e1, e3]
        exact ⟨rfl, fun h => by cases h⟩
  | false =>
    have kx := kdR_nx hk
    rcases h with ⟨rfl, rfl, hm⟩ | ⟨hn, rfl, hA⟩
    · have e1 : pt3 p 0 ahead key value = (p, ⟨#[]⟩, 0, 223) := by
        unfold pt3
        rw [if_pos ⟨rfl, hk⟩]
      have e2 : stR p 0 (kdR key + 1) key value = 223 := by
        unfold stR
        rw [if_pos ⟨rfl, by omega⟩]
      have e3 : tk3 p 0 key value = (p, 0, 0, 223) := by
        unfold tk3
        rw [e2]
        rfl
      rw [e1, e3]
      exact ⟨rfl, fun h => by cases h⟩
    · have es := st_ord p ahead key value hA.1 hA.2 hkey kx
      by_cases hord : ordR p.ts p.ps ahead key value (strGt ahead key) = 0
      · have e1 : pt3 p n ahead key value = ((jn p key value).1, key, 0, (jn p key value).2) := by
          unfold pt3
          rw [if_neg (fun h => by omega), if_neg (by rw [hk]; decide), if_neg (fun h => h hord)]
        have e3 : tk3 p (kdR ahead + 1) key value = ((jn p key value).1, kdR key + 1, 0, (jn p key value).2) := by
          unfold tk3
          rw [es, if_neg (fun h => h hord), ly_jn p key value hv kx]
        rw [e1, e3]
        refine ⟨rfl, fun _ => ⟨rfl, .inr ⟨by omega, rfl, jn_ah hA (fun hlt => ?_) kx⟩⟩⟩
        unfold ordR at hord
        rw [if_pos hlt] at hord
        cases hord
      · have e1 : pt3 p n ahead key value = (p, ⟨#[]⟩, 0, ordR p.ts p.ps ahead key value (strGt ahead key)) := by
          unfold pt3
          rw [if_neg (fun h => by omega), if_neg (by rw [hk]; decide), if_pos hord]
        have e3 : tk3 p (kdR ahead + 1) key value = (p, kdR ahead + 1, 0, ordR p.ts p.ps ahead key value (strGt ahead key)) := by
          unfold tk3
          rw [es, if_pos hord]
        rw [e1, e3]
        exact ⟨rfl, fun h => absurd h hord⟩
theorem tk_pt (p : Ps) (ah n : Nat) (ahead s : ByteArray) (hs : s.size ≤ 4096) (h : AhI p ah n ahead) :
    (ptR p n ahead s).2.2 = (tkR p ah s).2.2 ∧ ((tkR p ah s).2.2.2 = 0 → (ptR p n ahead s).1 = (tkR p ah s).1 ∧ AhI (tkR p ah s).1 (tkR p ah s).2.1 (n + 1) (ptR p n ahead s).2.1) := by
  have hz : s.data.toList.length = s.size := by simp
  unfold ptR tkR
  by_cases h1 : Lib.indexByte s.data.toList 61 < 1
  · rw [if_pos h1, if_pos h1]
    exact ⟨rfl, fun h => by cases h⟩
  rw [if_neg h1, if_neg h1]
  by_cases h2 : 0 ≤ (uneL (s.data.toList.take (Lib.indexByte s.data.toList 61).toNat)).2
  · rw [if_pos h2, if_pos h2]
    exact ⟨rfl, fun h => by cases h⟩
  rw [if_neg h2, if_neg h2]
  by_cases h3 : 0 ≤ (uneL (s.data.toList.drop ((Lib.indexByte s.data.toList 61).toNat + 1))).2
  · rw [if_pos h3, if_pos h3]
    exact ⟨rfl, fun h => by cases h⟩
  rw [if_neg h3, if_neg h3]
  refine tk3_pt3 p ah n ahead _ _ ?_ ?_ h
  · have h9 := (uneL_len (s.data.toList.drop ((Lib.indexByte s.data.toList 61).toNat + 1))).1
    rw [List.length_drop] at h9
    show (uneL _).1.toArray.size ≤ 4096
    rw [List.size_toArray]
    omega
  · have hne : s.data.toList.take (Lib.indexByte s.data.toList 61).toNat ≠ [] := fun e => by
      have h9 := congrArg List.length e
      rw [List.length_take] at h9
      have h8 := (Lib.indexByte_some (l := s.data.toList) (c := 61) (o := (Lib.indexByte s.data.toList 61).toNat) (by omega)).1
      have := (List.getElem?_eq_some_iff.1 h8).1
      simp only [List.length_nil] at h9
      omega
    have h9 := uneL_ne hne (by omega)
    rw [tl_eq]
    cases hq : (uneL (s.data.toList.take (Lib.indexByte s.data.toList 61).toNat)).1 with
    | nil => exact absurd hq h9
    | cons a r => rfl
/-- the scan to the next '&' -/
theorem prG_skip (s : ByteArray) (p : Ps) (n : Nat) (ah : ByteArray) (fr : Nat) : ∀ (d i f : Nat), (∀ k, k < d → i + k < s.size ∧ s.data.toList.getD (i + k) 0 ≠ 38) → prG s (f + d) p n ah fr i = prG s f p n ah fr (i + d)
  | 0, i, f, _ => rfl
  | d + 1, i, f, h => by
    have h0 := h 0 (by omega)
    rw [Nat.add_zero] at h0
    rw [show f + (d + 1) = (f + d) + 1 by omega, prG, if_neg (by omega), if_pos h0, prG_skip s p n ah fr d (i + 1) f (fun k hk => by
      have := h (k + 1) (by omega)
      rw [show i + 1 + k = i + (k + 1) by omega]
      exact this), show i + 1 + d = i + (d + 1) by omega]
theorem ext_ext (s : ByteArray) (a b : Nat) (hab : a ≤ b) : (s.extract 8 s.size).extract a b = s.extract (8 + a) (8 + b) := by
  apply ByteArray.ext
  apply Array.ext'
  rw [extF _ _ _ hab, extD, extF _ _ _ (by omega)]
  rw [List.take_drop, List.drop_drop]
/-- the two orders of reading agree -/
theorem pr_fold (s : ByteArray) (hs : s.size ≤ 4096) (h8 : 8 ≤ s.size) : ∀ (f fr : Nat) (p : Ps) (ah n : Nat) (ahead : ByteArray) (F : Nat), fr ≤ s.size - 8 → s.size - 8 - fr < f → s.size + 2 ≤ F + (8 + fr) → AhI p ah n ahead →
    prG s F p n ahead (8 + fr) (8 + fr) = match ((pcs (s.extract 8 s.size) 38 f fr).foldl stQ (p, ah, none)).2.2 with | some q => (zP, q.1, q.2) | none => (((pcs (s.extract 8 s.size) 38 f fr).foldl stQ (p, ah, none)).1, 0, 0)
  | 0, fr, _, _, _, _, _, _, h, _, _ => by omega
  | f + 1, fr, p, ah, n, ahead, F, hfr, hf, hF, hA => by
    have hz : s.data.toList.length = s.size := by simp
    have htl : (s.extract 8 s.size).data.toList = s.data.toList.drop 8 := extD s 8
    have hts : (s.extract 8 s.size).size = s.size - 8 := by rw [ByteArray.size_extract]; omega
    have hdd : (s.extract 8 s.size).data.toList.drop fr = s.data.toList.drop (8 + fr) := by rw [htl, List.drop_drop]
    have gd : ∀ j (hj : j < s.size), s.data.toList.getD j 0 = s.data.toList[j]'(by omega) := fun j hj => by
      rw [List.getD_eq_getElem?_getD, List.getElem?_eq_getElem (by omega)]; rfl
    by_cases hn : Lib.indexByte ((s.extract 8 s.size).data.toList.drop fr) 38 < 0
    · rw [pcs_end hn]
      have hm1 : Lib.indexByte ((s.extract 8 s.size).data.toList.drop fr) 38 = -1 := by have := Lib.indexByte_ge ((s.extract 8 s.size).data.toList.drop fr) 38; omega
      have hno := Lib.indexByte_none hm1
      rw [hdd] at hno
      have hpc : (s.extract 8 s.size).extract fr (s.extract 8 s.size).size = s.extract (8 + fr) s.size := by
        rw [hts, ext_ext s fr (s.size - 8) hfr, show 8 + (s.size - 8) = s.size by omega]
      rw [hpc]
      have hpk : (pk fr (s.extract (8 + fr) s.size)).1 = (fr, s.extract (8 + fr) s.size) := pk_val (by omega) (by rw [ByteArray.size_extract]; omega)
      have hsk := prG_skip s p n ahead (8 + fr) (s.size - (8 + fr)) (8 + fr) (F - (s.size - (8 + fr))) (fun k hk => ⟨by omega, fun e => by
        rw [gd _ (by omega)] at e
        refine hno k ?_
        rw [List.getElem?_drop, List.getElem?_eq_getElem (by omega), e]⟩)
      rw [show F - (s.size - (8 + fr)) + (s.size - (8 + fr)) = F by omega, show 8 + fr + (s.size - (8 + fr)) = s.size by omega] at hsk
      rw [hsk]
      obtain ⟨G, hG⟩ : ∃ G, F - (s.size - (8 + fr)) = G + 1 + 1 := ⟨F - (s.size - (8 + fr)) - 2, by omega⟩
      rw [hG, prG, if_neg (by omega), if_neg (fun h => by omega)]
      obtain ⟨t1, t2⟩ := tk_pt p ah n ahead (s.extract (8 + fr) s.size) (by rw [ByteArray.size_extract]; omega) hA
      rw [List.foldl_cons, List.foldl_nil, stQ_no _ rfl, hpk]
      simp only
      rw [t1]
      by_cases he : (tkR p ah (s.extract (8 + fr) s.size)).2.2.2 = 0
      · rw [if_neg (fun h => h he), if_pos he, (t2 he).1, prG, if_pos (by omega)]
      · rw [if_pos he, if_neg he]
        simp only
        rw [show ((8 + fr : Nat) : Int) = 8 + (fr : Int) by omega]
    · have hge := Lib.indexByte_ge ((s.extract 8 s.size).data.toList.drop fr) 38
      obtain ⟨o, ho⟩ : ∃ o : Nat, Lib.indexByte ((s.extract 8 s.size).data.toList.drop fr) 38 = (o : Int) := ⟨(Lib.indexByte ((s.extract 8 s.size).data.toList.drop fr) 38).toNat, by omega⟩
      obtain ⟨g1, g2⟩ := Lib.indexByte_some ho
      rw [hdd] at g1 g2
      have hol := (List.getElem?_eq_some_iff.1 g1).1
      rw [List.length_drop, hz] at hol
      rw [pcs_go ho]
      have hpc : (s.extract 8 s.size).extract fr (fr + o) = s.extract (8 + fr) (8 + fr + o) := by
        rw [ext_ext s fr (fr + o) (by omega), Nat.add_assoc]
      rw [hpc]
      have hpk : (pk fr (s.extract (8 + fr) (8 + fr + o))).1 = (fr, s.extract (8 + fr) (8 + fr + o)) := pk_val (by omega) (by rw [ByteArray.size_extract]; omega)
      have hsk := prG_skip s p n ahead (8 + fr) o (8 + fr) (F - o) (fun k hk => ⟨by omega, fun e => by
        rw [gd _ (by omega)] at e
        refine g2 k hk ?_
        rw [List.getElem?_drop, List.getElem?_eq_getElem (by omega), e]⟩)
      rw [show F - o + o = F by omega] at hsk
      rw [hsk]
      obtain ⟨G, hG⟩ : ∃ G, F - o = G + 1 := ⟨F - o - 1, by omega⟩
      have h38 : s.data.toList.getD (8 + fr + o) 0 = 38 := by
        rw [List.getElem?_drop] at g1
        rw [List.getD_eq_getElem?_getD, g1]; rfl
      rw [hG, prG, if_neg (by omega), if_neg (fun h => h.2 h38)]
      obtain ⟨t1, t2⟩ := tk_pt p ah n ahead (s.extract (8 + fr) (8 + fr + o)) (by rw [ByteArray.size_extract]; omega) hA
      rw [List.foldl_cons, stQ_no _ rfl, hpk]
      simp only
      rw [t1]
      by_cases he : (tkR p ah (s.extract (8 + fr) (8 + fr + o))).2.2.2 = 0
      · obtain ⟨u1, u2⟩ := t2 he
        rw [if_neg (fun h => h he), if_pos he, u1, show 8 + fr + o + 1 = 8 + (fr + o + 1) by omega]
        exact pr_fold s hs h8 f (fr + o + 1) _ _ (n + 1) _ G (by omega) (by omega) (by omega) u2
      · rw [if_pos he, if_neg he, foldl_some _ _ _ rfl]
        simp only
        rw [show ((8 + fr : Nat) : Int) = 8 + (fr : Int) by omega]
theorem pg_pr (s : ByteArray) : pgR s = prR s := by
  unfold pgR prR
  by_cases h1 : 4096 < s.size
  · rw [if_pos h1, if_pos h1]
  rw [if_neg h1, if_neg h1]
  by_cases h2 : Lib.hasPrefix s.data.toList [109, 97, 103, 110, 101, 116, 58, 63] = false
  · rw [if_pos h2, if_pos h2]
  rw [if_neg h2, if_neg h2]
  have h8 : 8 ≤ s.size := by
    have h9 := hp_len (by simpa using h2 : Lib.hasPrefix s.data.toList [109, 97, 103, 110, 101, 116, 58, 63] = true)
    have h7 : s.data.toList.length = s.size := by simp
    rw [h7] at h9
    exact h9
  have hts : (s.extract 8 s.size).size = s.size - 8 := by rw [ByteArray.size_extract]; omega
  have h := pr_fold s (by omega) h8 ((s.extract 8 s.size).size + 1) 0 zP 0 0 ⟨#[]⟩ (s.size + 2) (Nat.zero_le _) (by omega) (by omega) (.inl ⟨rfl, rfl, rfl⟩)
  unfold pgM pieces prS
  exact h.symm
end Go.Proofs.YtmfbhihjiebagaaDoor
