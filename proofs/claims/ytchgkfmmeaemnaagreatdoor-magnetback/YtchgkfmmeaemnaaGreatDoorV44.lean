import Derived.Test.YtchgkfmmeaemnaaGreatDoorV43
import Derived.Test.YtchgkfmmeaemnaaGreatDoorV41
import Derived.Test.YtchgkfmmeaemnaaGreatDoorV38
namespace Go.Proofs.YtchgkfmmeaemnaaGreatDoor
open Go.Shelf Go.RowKit Go.Deep
theorem kvW_le {s : ByteArray} (hs : s.size ≤ 4096) : (kvW s).size ≤ 4096 := by
  have hz : s.data.toList.length = s.size := by simp
  have h9 := (uneL_len (s.data.toList.drop ((Lib.indexByte s.data.toList 61).toNat + 1))).1
  rw [List.length_drop] at h9
  show (uneL _).1.toArray.size ≤ 4096
  rw [List.size_toArray]
  omega
/-- the key of a part that is taken is not empty -/
theorem kvK_ne {p : Ps} {ah : Nat} {s : ByteArray} (h : (tkR p ah s).2.2.2 = 0) : (kvK s).data.toList ≠ [] := by
  by_cases h1 : Lib.indexByte s.data.toList 61 < 1
  · unfold tkR at h
    rw [if_pos h1] at h
    simp at h
  by_cases h2 : 0 ≤ (uneL (s.data.toList.take (Lib.indexByte s.data.toList 61).toNat)).2
  · unfold tkR at h
    rw [if_neg h1, if_pos h2] at h
    simp at h
  intro e
  have e1 := uneL_back _ (by omega : (uneL (s.data.toList.take (Lib.indexByte s.data.toList 61).toNat)).2 < 0)
  have e2 : (uneL (s.data.toList.take (Lib.indexByte s.data.toList 61).toNat)).1 = [] := e
  rw [e2] at e1
  have e3 : (s.data.toList.take (Lib.indexByte s.data.toList 61).toNat).length = 0 := by rw [← e1]; rfl
  obtain ⟨n, hn⟩ : ∃ n : Nat, Lib.indexByte s.data.toList 61 = (n : Int) := ⟨(Lib.indexByte s.data.toList 61).toNat, by omega⟩
  have h9 := (Lib.indexByte_some hn).1
  obtain ⟨hlt, hg⟩ := List.getElem?_eq_some_iff.1 h9
  rw [hn, Int.toNat_natCast, List.length_take] at e3
  omega
theorem tk3_zero {p : Ps} {ah : Nat} {key value : ByteArray} (h : (tk3 p ah key value).2.2.2 = 0) : stR p ah (kdR key + 1) key value = 0 ∧ (lyR p (kdR key + 1) key value).2 = 0 ∧ tk3 p ah key value = ((lyR p (kdR key + 1) key value).1, kdR key + 1, 0, 0) := by
  by_cases h1 : stR p ah (kdR key + 1) key value ≠ 0
  · unfold tk3 at h
    rw [if_pos h1] at h
    exact absurd h h1
  · have h2 : tk3 p ah key value = ((lyR p (kdR key + 1) key value).1, kdR key + 1, 0, (lyR p (kdR key + 1) key value).2) := by unfold tk3; rw [if_neg h1]
    rw [h2] at h
    have h3 : (lyR p (kdR key + 1) key value).2 = 0 := h
    exact ⟨by omega, h3, by rw [h2, h3]⟩
theorem win_iff (ts : List ByteArray) (s : ByteArray) : winB ts s = true ↔ s.data.toList ∈ ts.map fun x => x.data.toList := by
  unfold winB
  rw [List.any_eq_true, List.mem_map]
  constructor
  · rintro ⟨x, hx, h⟩
    refine ⟨x, hx, ?_⟩
    have h1 := beq_iff_eq.1 h
    rw [Lib.toList_data, Lib.toList_data] at h1
    exact h1
  · rintro ⟨x, hx, h⟩
    exact ⟨x, hx, beq_iff_eq.2 (by rw [Lib.toList_data, Lib.toList_data]; exact h)⟩
theorem win_snoc (ts : List ByteArray) (v s : ByteArray) : winB (ts ++ [v]) s = (winB ts s || (v.toList == s.toList)) := by simp [winB]
theorem tw_snoc {ts : List ByteArray} {v : ByteArray} (h1 : twB ts = false) (h2 : winB ts v = false) : twB (ts ++ [v]) = false := by
  have h3 : (ts.map fun x => x.data.toList).Nodup := Classical.byContradiction fun h => by rw [(tw_iff ts).2 h] at h1; cases h1
  have h4 : v.data.toList ∉ ts.map fun x => x.data.toList := fun h => by rw [(win_iff ts v).2 h] at h2; cases h2
  cases h5 : twB (ts ++ [v]) with
  | false => rfl
  | true =>
    refine absurd ?_ ((tw_iff _).1 h5)
    rw [List.map_append, List.nodup_append]
    refine ⟨h3, by simp, fun a ha b hb => ?_⟩
    simp only [List.map_cons, List.map_nil, List.mem_singleton] at hb
    rintro rfl
    exact h4 (hb ▸ ha)
/-- what was read so far may be written -/
structure Fit (p : Ps) : Prop where
  t0 : winB p.ts ⟨#[]⟩ = false
  p0 : winB p.ps ⟨#[]⟩ = false
  k0 : ∀ x ∈ p.mo, (x.1.toList == []) = false ∧ kdR x.1 = 5
  so : ∀ (j : Nat) (x y : ByteArray × ByteArray), p.mo[j]? = some x → p.mo[j + 1]? = some y → Op.bytesLess y.1.toList x.1.toList = false ∧ (y.1.toList == x.1.toList) = false
  tt : twB p.ts = false
  tp : twB p.ps = false
theorem Fit.zero : Fit zP := ⟨rfl, rfl, fun x hx => (by cases hx), fun j x y h => (by simp [zP] at h), rfl, rfl⟩
theorem lkey_snoc (l : List (ByteArray × ByteArray)) (x : ByteArray × ByteArray) : lkey (l ++ [x]) = x.1 := by simp [lkey]
theorem lkey_at {l : List (ByteArray × ByteArray)} {j : Nat} {x : ByteArray × ByteArray} (h : l[j]? = some x) (hj : j + 1 = l.length) : lkey l = x.1 := by
  unfold lkey
  rw [List.getLast?_eq_getElem?, show l.length - 1 = j by omega, h]
  rfl
theorem emp_ne {v : ByteArray} (h : (v.toList == []) = false) : (v.toList == (⟨#[]⟩ : ByteArray).toList) = false := by
  rw [show (⟨#[]⟩ : ByteArray).toList = [] by decide +kernel]
  exact h
theorem Fit.step {p : Ps} {ah : Nat} (I : Fit p) {key value : ByteArray} (hk0 : key.data.toList ≠ []) (hs : stR p ah (kdR key + 1) key value = 0) (hl : (lyR p (kdR key + 1) key value).2 = 0) : Fit (lyR p (kdR key + 1) key value).1 := by
  obtain ⟨f1, f2, f3, f4, f5⟩ := st_facts hs
  have hkk : kdR key = 5 → kdR key = 5 := id
  generalize hkd : kdR key = kd at *
  have hkd5 : kd ≤ 5 := by rw [← hkd]; exact kdR_le key
  clear hs
  obtain rfl | rfl | rfl | rfl | rfl | rfl : kd = 0 ∨ kd = 1 ∨ kd = 2 ∨ kd = 3 ∨ kd = 4 ∨ kd = 5 := by omega
  · have e : lyR p (0 + 1) key value = liR p value := rfl
    rw [e]
    cases hf : fstR value.data.toList with
    | none => rw [liR_no hf]; exact I
    | some h => rw [liR_yes hf]; exact ⟨I.t0, I.p0, I.k0, I.so, I.tt, I.tp⟩
  · have e : lyR p (1 + 1) key value = jnV p 1 key value := rfl
    rw [e] at hl ⊢
    cases hb : (value.toList == []) with
    | true => unfold jnV at hl; rw [if_pos ⟨.inl rfl, hb⟩] at hl; exact absurd hl (by simp)
    | false =>
      have e2 : jnV p 1 key value = ({ p with nm := value }, 0) := by unfold jnV; rw [if_neg (fun h => by rw [hb] at h; exact absurd h.2 (by decide)), if_pos rfl]
      rw [e2]
      exact ⟨I.t0, I.p0, I.k0, I.so, I.tt, I.tp⟩
  · have e : lyR p (2 + 1) key value = loR p value := rfl
    rw [e]
    unfold loR
    cases hr : rdG (pieces value 44) with
    | none => exact I
    | some rs =>
      simp only
      split
      · exact ⟨I.t0, I.p0, I.k0, I.so, I.tt, I.tp⟩
      · exact I
  · have e : lyR p (3 + 1) key value = jnV p 3 key value := rfl
    rw [e] at hl ⊢
    cases hb : (value.toList == []) with
    | true => unfold jnV at hl; rw [if_pos ⟨.inr (.inl rfl), hb⟩] at hl; exact absurd hl (by simp)
    | false =>
      have e2 : jnV p 3 key value = ({ p with ts := p.ts ++ [value] }, 0) := by unfold jnV; rw [if_neg (fun h => by rw [hb] at h; exact absurd h.2 (by decide)), if_neg (by decide), if_neg (by decide), if_pos rfl]
      rw [e2]
      have f : winB p.ts value = false := f4
      refine ⟨?_, I.p0, I.k0, I.so, tw_snoc I.tt f, I.tp⟩
      show winB (p.ts ++ [value]) ⟨#[]⟩ = false
      rw [win_snoc, I.t0, emp_ne hb]
      rfl
  · have e : lyR p (4 + 1) key value = jnV p 4 key value := rfl
    rw [e] at hl ⊢
    cases hb : (value.toList == []) with
    | true => unfold jnV at hl; rw [if_pos ⟨.inr (.inr rfl), hb⟩] at hl; exact absurd hl (by simp)
    | false =>
      have e2 : jnV p 4 key value = ({ p with ps := p.ps ++ [value] }, 0) := by unfold jnV; rw [if_neg (fun h => by rw [hb] at h; exact absurd h.2 (by decide)), if_neg (by decide), if_neg (by decide), if_neg (by decide), if_pos rfl]
      rw [e2]
      have f : winB p.ps value = false := f4
      refine ⟨I.t0, ?_, I.k0, I.so, I.tt, tw_snoc I.tp f⟩
      show winB (p.ps ++ [value]) ⟨#[]⟩ = false
      rw [win_snoc, I.p0, emp_ne hb]
      rfl
  · have e : lyR p (5 + 1) key value = jnV p 5 key value := rfl
    rw [e]
    have e2 : jnV p 5 key value = ({ p with mo := p.mo ++ [(key, value)] }, 0) := by unfold jnV; rw [if_neg (fun h => by omega), if_neg (by decide), if_neg (by decide), if_neg (by decide), if_neg (by decide)]
    rw [e2]
    have f : (key.toList == (lkey p.mo).toList) = false := f4
    have g := f5 rfl
    refine ⟨I.t0, I.p0, fun x hx => ?_, fun j x y hx hy => ?_, I.tt, I.tp⟩
    · rcases List.mem_append.1 hx with hx | hx
      · exact I.k0 x hx
      · rw [List.mem_singleton] at hx
        subst hx
        refine ⟨?_, hkd⟩
        show (key.toList == []) = false
        cases h9 : (key.toList == []) with
        | false => rfl
        | true =>
          have h8 := beq_iff_eq.1 h9
          rw [Lib.toList_data] at h8
          exact absurd h8 hk0
    · have hx' : (p.mo ++ [(key, value)])[j]? = some x := hx
      have hy' : (p.mo ++ [(key, value)])[j + 1]? = some y := hy
      by_cases hj : j + 1 < p.mo.length
      · rw [List.getElem?_append_left (by omega)] at hx'
        rw [List.getElem?_append_left hj] at hy'
        exact I.so j x y hx' hy'
      · have h1 := (List.getElem?_eq_some_iff.1 hy').1
        rw [List.length_append, List.length_cons, List.length_nil] at h1
        have hj2 : j + 1 = p.mo.length := by omega
        rw [List.getElem?_append_left (by omega)] at hx'
        rw [List.getElem?_append_right (by omega), hj2, Nat.sub_self] at hy'
        have h2 : (key, value) = y := Option.some.inj hy'
        subst h2
        have h3 := lkey_at hx' hj2
        rw [h3] at f g
        exact ⟨g, f⟩
/-- what is read without error: its parameters are its parts, and it may be written -/
theorem prS_inv : ∀ (n : Nat) (l : List Pc), l.length = n → (∀ x ∈ l, x.1.2.size ≤ 4096) → (prS l).2.2 = none → Inv (prS l).1 (prS l).2.1 (l.map kv) ∧ Fit (prS l).1
  | 0, l, hl, _, _ => by
    obtain rfl := List.length_eq_zero_iff.1 hl
    exact ⟨Inv.zero, Fit.zero⟩
  | n + 1, l, hl, hz, h => by
    have hne : l ≠ [] := fun e => by rw [e] at hl; cases hl
    obtain ⟨l', y, rfl⟩ : ∃ l' y, l = l' ++ [y] := ⟨l.dropLast, l.getLast hne, (List.dropLast_concat_getLast hne).symm⟩
    rw [prS_snoc] at h ⊢
    cases h1 : (prS l').2.2 with
    | some q =>
      have e : stQ (prS l') y = prS l' := by rw [stQ, h1]
      rw [e, h1] at h
      cases h
    | none =>
      obtain ⟨ih, ig⟩ := prS_inv n l' (by simpa using hl) (fun x hx => hz x (List.mem_append_left _ hx)) h1
      rw [stQ_no _ h1] at h ⊢
      simp only at h ⊢
      split at h
      · rename_i h2
        obtain ⟨k1, k2⟩ := tk_kv h2
        have k0 := kvK_ne h2
        have hy := kvW_le (hz y (List.mem_append_right _ (List.mem_singleton.2 rfl)))
        rw [k2] at h2 ⊢
        obtain ⟨a1, a2, a3⟩ := tk3_zero h2
        rw [a3, List.map_append]
        exact ⟨ih.step hy a1 a2, ig.step k0 a1 a2⟩
      · cases h
theorem lk_ky {p : Ps} {i : Nat} (hi : i < p.mo.length) : ∃ x ∈ p.mo, p.mo[i]? = some x ∧ (lkOf p).ky i = x.1 := by
  refine ⟨p.mo[i], List.getElem_mem hi, List.getElem?_eq_getElem hi, ?_⟩
  show (p.mo.getD i (⟨#[]⟩, ⟨#[]⟩)).1 = _
  rw [List.getD_eq_getElem?_getD, List.getElem?_eq_getElem hi]
  rfl
/-- what is read may be written, as it was -/
theorem ck_read {p : Ps} (hF : Fit p) (hR : RsOk p.rs) (hw : (wS (prm (lkOf p))).length ≤ 4096) : ckN (lkOf p) = 0 := by
  refine ck_ok ?_ ?_ ?_ (by omega)
  · have h1 : p.rs.any srB = false := by
      rw [List.any_eq_false]
      intro x hx
      obtain ⟨⟨⟨r1, r2⟩, r3, r4⟩, r5⟩ := hR.1 x hx
      unfold srB
      simp only [Bool.or_eq_true, decide_eq_true_eq, not_or]
      omega
    have h2 : spA p.mo.length (lkOf p).ky (lkOf p).dv = false := by
      unfold spA
      rw [List.any_eq_false]
      intro i hi
      obtain ⟨x, hx, _, e⟩ := lk_ky (List.mem_range.1 hi)
      rw [e]
      have e2 : spB x.1 ((lkOf p).dv i) = (x.1.toList == []) := by
        show ((x.1.toList == []) || _) = _
        simp [lkOf, T.k, T.n, T.ln, T.dn]
      rw [e2, (hF.k0 x hx).1]
      decide
    unfold fmB
    rw [show (lkOf p).ts = p.ts from rfl, show (lkOf p).ps = p.ps from rfl, show (lkOf p).rs = p.rs from rfl, show (lkOf p).dn = p.mo.length from rfl, hF.t0, hF.p0, h1, h2]
    rfl
  · unfold odB
    rw [show (lkOf p).rs = p.rs from rfl, hR.2, show (lkOf p).dn = p.mo.length from rfl, Bool.true_and, soB_iff]
    intro j hj
    obtain ⟨x, _, hx, e⟩ := lk_ky (show j < p.mo.length by omega)
    obtain ⟨y, _, hy, e'⟩ := lk_ky hj
    rw [e, e']
    exact (hF.so j x y hx hy).1
  · unfold dbB
    rw [ht_tw, ht_tw, show (lkOf p).ts = p.ts from rfl, show (lkOf p).ps = p.ps from rfl, hF.tt, hF.tp, show (lkOf p).dn = p.mo.length from rfl, Bool.or_false, Bool.or_false]
    unfold mdB
    rw [List.any_eq_false]
    intro i hi
    obtain ⟨x, hx, hxi, e⟩ := lk_ky (List.mem_range.1 hi)
    rw [e, (hF.k0 x hx).2]
    cases i with
    | zero => simp
    | succ i =>
      obtain ⟨y, hy, hyi, e'⟩ := lk_ky (show i < p.mo.length by have := List.mem_range.1 hi; omega)
      rw [Nat.add_sub_cancel, e', (hF.so i y x hyi hxi).2]
      simp
/-- what the law asks of a text that is read -/
theorem pg_back {s : ByteArray} (h : (pgR s).2.2 = 0) : (pgR s).2.1 = 0 ∧ ckN (lkOf (pgR s).1) = 0 ∧ bs (wS (prm (lkOf (pgR s).1))) = s := by
  have h1 : ¬ 4096 < s.size := fun h1 => by unfold pgR at h; rw [if_pos h1] at h; exact absurd h (by decide)
  obtain ⟨e, h2, h3⟩ := pg_wS h
  have hts : (s.extract 8 s.size).size ≤ 4096 := by rw [ByteArray.size_extract]; omega
  obtain ⟨hI, hF⟩ := prS_inv _ _ rfl (fun x hx => by
    have := pcs_in (s.extract 8 s.size) 38 hts _ 0 (Nat.zero_le _) x hx
    omega) h2
  have hne : pieces (s.extract 8 s.size) 38 ≠ [] := pcs_ne _ _ _ _
  have ha : (prS (pieces (s.extract 8 s.size) 38)).2.1 ≠ 0 := fun ha => hne (List.map_eq_nil_iff.1 (hI.z ha))
  have hp := hI.pr ha
  have hR := pgR_rs s
  rw [e] at hR ⊢
  have h4 : wS (prm (lkOf (prS (pieces (s.extract 8 s.size) 38)).1)) = s.data.toList := by rw [hp, h3]
  have h5 : s.data.toList.length = s.size := by simp
  refine ⟨rfl, ck_read hF hR (by rw [h4]; omega), ?_⟩
  show bs (wS (prm (lkOf (prS (pieces (s.extract 8 s.size) 38)).1))) = s
  rw [h4]
  apply ByteArray.ext
  simp [bs]
end Go.Proofs.YtchgkfmmeaemnaaGreatDoor
