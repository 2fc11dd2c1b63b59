import Derived.Test.YtchgkfmmeaemnaaGreatDoorV46
namespace Go.Proofs.YtchgkfmmeaemnaaGreatDoor
open Go.Shelf Go.RowKit Go.Deep
theorem Rdn.snocK {kvs : List KV} {p p' : Ps} {ah kd : Nat} {key value : ByteArray} (R : Rdn kvs p ah) (hkd : kdR key = kd) (hk : key.data.toList ≠ []) (hs : stR p ah (kd + 1) key value = 0) (hl : lyR p (kd + 1) key value = (p', 0)) : Rdn (kvs ++ [(key, value)]) p' (kd + 1) := by
  subst hkd
  exact R.snoc hk hs hl
theorem kd_0 : kdR (bs [120, 116]) = 0 := by decide +kernel
theorem kd_1 : kdR (bs [100, 110]) = 1 := by decide +kernel
theorem kd_2 : kdR (bs [115, 111]) = 2 := by decide +kernel
theorem kd_3 : kdR (bs [116, 114]) = 3 := by decide +kernel
theorem kd_4 : kdR (bs [120, 46, 112, 101]) = 4 := by decide +kernel
theorem rd_xt {k : Lk} (hl : k.l.length = 32) : Rdn [(bs [120, 116], infoV k)] { zP with h := k.l } 1 := by
  have hv : (infoV k).data.toList = inB ++ (Hx2.strI (hxL k.l)).data.toList := by unfold infoV; simp [bs]
  have hp : Lib.hasPrefix (infoV k).data.toList [117, 114, 110, 58, 98, 116, 105, 104, 58] = false := by
    rw [hv, ← Lib.hasPrefix_of_take]
    have e : (inB ++ (Hx2.strI (hxL k.l)).data.toList).take 9 = [117, 114, 110, 58, 98, 116, 109, 104, 58] := rfl
    rw [show ([117, 114, 110, 58, 98, 116, 105, 104, 58] : List UInt8).length = 9 from rfl, e]
    rw [show (([117, 114, 110, 58, 98, 116, 109, 104, 58] : List UInt8) == [117, 114, 110, 58, 98, 116, 105, 104, 58]) = false from rfl, Bool.and_false]
  refine Rdn.snocK (kvs := []) Rdn.zero kd_0 (by rw [bs_tl]; simp) ?_ ?_
  · unfold stR
    rw [if_neg (by simp), if_neg (fun h => by rw [hp] at h; exact absurd h.2 (by decide)), if_neg (fun h => h.2 rfl), if_neg (by omega), if_neg (by simp [agR]), if_neg (fun h => absurd h.1 (by decide))]
  · show liR zP (infoV k) = _
    rw [liR_yes (by rw [hv]; exact fst_hex hl)]
theorem emp_of {v : ByteArray} (h : (v.toList == []) = true) : v = ⟨#[]⟩ := by
  have h1 := beq_iff_eq.1 h
  rw [Lib.toList_data] at h1
  apply ByteArray.ext
  exact Array.toList_inj.1 h1
theorem rd_dn {kvs : List KV} {p : Ps} (R : Rdn kvs p 1) (hn : p.nm = ⟨#[]⟩) (v : ByteArray) : ∃ ah, 1 ≤ ah ∧ ah ≤ 2 ∧ Rdn (kvs ++ if v.toList == [] then [] else [(bs [100, 110], v)]) { p with nm := v } ah := by
  cases hb : (v.toList == []) with
  | true =>
    refine ⟨1, by omega, by omega, ?_⟩
    have e : ({ p with nm := v } : Ps) = p := by rw [emp_of hb, ← hn]
    rw [e, if_pos rfl, List.append_nil]
    exact R
  | false =>
    refine ⟨2, by omega, by omega, ?_⟩
    rw [if_neg (by decide)]
    refine R.snocK kd_1 (by rw [bs_tl]; simp) (st_zero (by decide) (by decide) (by decide) (by simp [agR]) (fun h => absurd h (by decide))) ?_
    show jnV p 1 _ v = _
    unfold jnV
    rw [if_neg (fun h => by rw [hb] at h; exact absurd h.2 (by decide)), if_pos rfl]
theorem rd_so {kvs : List KV} {p : Ps} {ah : Nat} (R : Rdn kvs p ah) (h1 : 1 ≤ ah) (h2 : ah ≤ 2) (hr : p.rs = []) (rs : List (Int × Int)) (hok : ∀ x ∈ rs, RnOk x ∧ x.1 + x.2 ≤ 4096) (hap : apB rs = true) (hz : rs ≠ [] → (bs (rsT rs)).size ≤ 4096) :
    ∃ ah', 1 ≤ ah' ∧ ah' ≤ 3 ∧ Rdn (kvs ++ if rs.length = 0 then [] else [(bs [115, 111], bs (rsT rs))]) { p with rs := rs } ah' := by
  by_cases h0 : rs.length = 0
  · refine ⟨ah, h1, by omega, ?_⟩
    have e : ({ p with rs := rs } : Ps) = p := by rw [List.length_eq_zero_iff.1 h0, ← hr]
    rw [e, if_pos h0, List.append_nil]
    exact R
  · have hne : rs ≠ [] := fun e => h0 (by rw [e]; rfl)
    refine ⟨3, by omega, by omega, ?_⟩
    rw [if_neg h0]
    refine R.snocK kd_2 (by rw [bs_tl]; simp) (st_zero (by omega) (by decide) (by omega) ?_ (fun h => absurd h (by decide))) ?_
    · show decide (2 + 1 = ah) = false
      exact decide_eq_false (by omega)
    · show loR p (bs (rsT rs)) = _
      unfold loR
      rw [rd_rs hne hok (hz hne)]
      simp only
      rw [if_pos hap]
theorem tw_unsnoc {ts : List ByteArray} {v : ByteArray} (h : twB (ts ++ [v]) = false) : twB ts = false ∧ winB ts v = false := by
  have hn : ((ts ++ [v]).map fun x => x.data.toList).Nodup := Classical.byContradiction fun hh => by rw [(tw_iff _).2 hh] at h; cases h
  rw [List.map_append, List.nodup_append] at hn
  constructor
  · cases e : twB ts with
    | false => rfl
    | true => exact absurd hn.1 ((tw_iff ts).1 e)
  · cases e : winB ts v with
    | false => rfl
    | true => exact absurd rfl (hn.2.2 _ ((win_iff ts v).1 e) _ (by simp))
theorem win_unsnoc {ts : List ByteArray} {v : ByteArray} (h : winB (ts ++ [v]) ⟨#[]⟩ = false) : winB ts ⟨#[]⟩ = false ∧ (v.toList == []) = false := by
  rw [win_snoc, Bool.or_eq_false_iff] at h
  refine ⟨h.1, ?_⟩
  have h2 := h.2
  rw [show (⟨#[]⟩ : ByteArray).toList = [] by decide +kernel] at h2
  exact h2
theorem rd_ts {kvs : List KV} {p : Ps} {ah : Nat} (R : Rdn kvs p ah) (h1 : 1 ≤ ah) (h2 : ah ≤ 3) (hp : p.ts = []) : ∀ (n : Nat) (ts : List ByteArray), ts.length = n → winB ts ⟨#[]⟩ = false → twB ts = false →
    ∃ ah', 1 ≤ ah' ∧ ah' ≤ 4 ∧ Rdn (kvs ++ ts.map fun t => (bs [116, 114], t)) { p with ts := ts } ah'
  | 0, ts, hn, _, _ => by
    obtain rfl := List.length_eq_zero_iff.1 hn
    refine ⟨ah, h1, by omega, ?_⟩
    have e : ({ p with ts := [] } : Ps) = p := by rw [← hp]
    rw [e, List.map_nil, List.append_nil]
    exact R
  | n + 1, ts, hn, hw, ht => by
    have hne : ts ≠ [] := fun e => by rw [e] at hn; cases hn
    obtain ⟨us, v, rfl⟩ : ∃ l' y, ts = l' ++ [y] := ⟨ts.dropLast, ts.getLast hne, (List.dropLast_concat_getLast hne).symm⟩
    obtain ⟨w1, w2⟩ := win_unsnoc hw
    obtain ⟨t1, t2⟩ := tw_unsnoc ht
    obtain ⟨a, a1, a2, ih⟩ := rd_ts R h1 h2 hp n us (by simpa using hn) w1 t1
    refine ⟨4, by omega, by omega, ?_⟩
    rw [List.map_append, ← List.append_assoc]
    refine ih.snocK kd_3 (by rw [bs_tl]; simp) (st_zero (by omega) (by decide) (by omega) t2 (fun h => absurd h (by decide))) ?_
    show jnV _ 3 _ v = _
    unfold jnV
    rw [if_neg (fun h => by rw [w2] at h; exact absurd h.2 (by decide)), if_neg (by decide), if_neg (by decide), if_pos rfl]
theorem rd_ps {kvs : List KV} {p : Ps} {ah : Nat} (R : Rdn kvs p ah) (h1 : 1 ≤ ah) (h2 : ah ≤ 4) (hp : p.ps = []) : ∀ (n : Nat) (ts : List ByteArray), ts.length = n → winB ts ⟨#[]⟩ = false → twB ts = false →
    ∃ ah', 1 ≤ ah' ∧ ah' ≤ 5 ∧ Rdn (kvs ++ ts.map fun t => (bs [120, 46, 112, 101], t)) { p with ps := ts } ah'
  | 0, ts, hn, _, _ => by
    obtain rfl := List.length_eq_zero_iff.1 hn
    refine ⟨ah, h1, by omega, ?_⟩
    have e : ({ p with ps := [] } : Ps) = p := by rw [← hp]
    rw [e, List.map_nil, List.append_nil]
    exact R
  | n + 1, ts, hn, hw, ht => by
    have hne : ts ≠ [] := fun e => by rw [e] at hn; cases hn
    obtain ⟨us, v, rfl⟩ : ∃ l' y, ts = l' ++ [y] := ⟨ts.dropLast, ts.getLast hne, (List.dropLast_concat_getLast hne).symm⟩
    obtain ⟨w1, w2⟩ := win_unsnoc hw
    obtain ⟨t1, t2⟩ := tw_unsnoc ht
    obtain ⟨a, a1, a2, ih⟩ := rd_ps R h1 h2 hp n us (by simpa using hn) w1 t1
    refine ⟨5, by omega, by omega, ?_⟩
    rw [List.map_append, ← List.append_assoc]
    refine ih.snocK kd_4 (by rw [bs_tl]; simp) (st_zero (by omega) (by decide) (by omega) t2 (fun h => absurd h (by decide))) ?_
    show jnV _ 4 _ v = _
    unfold jnV
    rw [if_neg (fun h => by rw [w2] at h; exact absurd h.2 (by decide)), if_neg (by decide), if_neg (by decide), if_neg (by decide), if_pos rfl]
theorem less_nilT (l : List UInt8) : Op.bytesLess l [] = false := by cases l <;> rfl
theorem rd_mo {kvs : List KV} {p : Ps} {ah : Nat} (R : Rdn kvs p ah) (h1 : 1 ≤ ah) (h2 : ah ≤ 5) (hp : p.mo = []) : ∀ (n : Nat) (mo : List (ByteArray × ByteArray)), mo.length = n →
    (∀ x ∈ mo, (x.1.toList == []) = false ∧ kdR x.1 = 5) → (∀ (j : Nat) (x y : ByteArray × ByteArray), mo[j]? = some x → mo[j + 1]? = some y → Op.bytesLess y.1.toList x.1.toList = false ∧ (y.1.toList == x.1.toList) = false) →
    ∃ ah', 1 ≤ ah' ∧ ah' ≤ 6 ∧ Rdn (kvs ++ mo) { p with mo := mo } ah'
  | 0, mo, hn, _, _ => by
    obtain rfl := List.length_eq_zero_iff.1 hn
    refine ⟨ah, h1, by omega, ?_⟩
    have e : ({ p with mo := [] } : Ps) = p := by rw [← hp]
    rw [e, List.append_nil]
    exact R
  | n + 1, mo, hn, hk, hs => by
    have hne : mo ≠ [] := fun e => by rw [e] at hn; cases hn
    obtain ⟨us, v, rfl⟩ : ∃ l' y, mo = l' ++ [y] := ⟨mo.dropLast, mo.getLast hne, (List.dropLast_concat_getLast hne).symm⟩
    have hlen : us.length = n := by simpa using hn
    obtain ⟨a, a1, a2, ih⟩ := rd_mo R h1 h2 hp n us hlen (fun x hx => hk x (List.mem_append_left _ hx)) (fun j x y hx hy => by
      have hy2 := (List.getElem?_eq_some_iff.1 hy).1
      exact hs j x y (by rw [List.getElem?_append_left (by omega)]; exact hx) (by rw [List.getElem?_append_left hy2]; exact hy))
    obtain ⟨k1, k2⟩ := hk v (List.mem_append_right _ (List.mem_singleton.2 rfl))
    have hlast : Op.bytesLess v.1.toList (lkey us).toList = false ∧ (v.1.toList == (lkey us).toList) = false := by
      cases n with
      | zero =>
        obtain rfl := List.length_eq_zero_iff.1 hlen
        rw [show (lkey []).toList = [] by decide +kernel]
        exact ⟨less_nilT _, k1⟩
      | succ m =>
        have hx : us[m]? = some us[m] := List.getElem?_eq_getElem (by omega)
        have h9 := hs m us[m] v (by rw [List.getElem?_append_left (by omega)]; exact hx) (by rw [List.getElem?_append_right (by omega), hlen, Nat.sub_self]; rfl)
        rw [lkey_at hx (by omega)]
        exact h9
    refine ⟨6, by omega, by omega, ?_⟩
    rw [← List.append_assoc]
    obtain ⟨key, value⟩ := v
    refine ih.snocK k2 (fun e => ?_) (st_zero (by omega) (by decide) (by omega) hlast.2 (fun _ => hlast.1)) ?_
    · have k3 : (key.toList == []) = false := k1
      rw [Lib.toList_data, e] at k3
      exact absurd k3 (by decide)
    · show jnV _ 5 key value = _
      unfold jnV
      rw [if_neg (fun h => by omega), if_neg (by decide), if_neg (by decide), if_neg (by decide), if_neg (by decide)]
theorem txt_mem : ∀ (l : List KV) (x : KV), x ∈ l → (pcT x).length ≤ (txtT l).length
  | [], x, h => by cases h
  | a :: t, x, h => by
    have e : txtT (a :: t) = [38] ++ pcT a ++ txtT t := by simp [txtT]
    rw [e, List.length_append, List.length_append]
    rcases List.mem_cons.1 h with rfl | h
    · omega
    · have := txt_mem t x h
      omega
theorem wS_mem {l : List KV} {x : KV} (h : x ∈ l) : x.2.size ≤ (wS l).length := by
  have h1 : (pcT x).length ≤ (wS l).length := by
    cases l with
    | nil => cases h
    | cons a t =>
      have e : wS (a :: t) = scm ++ pcT a ++ txtT t := rfl
      rw [e, List.length_append, List.length_append]
      rcases List.mem_cons.1 h with rfl | h
      · omega
      · have := txt_mem t x h
        omega
  have h2 := esc_ge x.2.data.toList
  have h3 : x.2.data.toList.length = x.2.size := by simp
  unfold pcT at h1
  rw [List.length_append, List.length_append] at h1
  omega
theorem ck_zero {k : Lk} (h : ckN k = 0) : fmB k = true ∧ odB k = true ∧ dbB k = false ∧ (wS (prm k)).length ≤ 4096 := by
  unfold ckN at h
  split at h
  · cases h
  rename_i h1
  split at h
  · cases h
  rename_i h2
  split at h
  · cases h
  rename_i h3
  split at h
  · cases h
  rename_i h4
  exact ⟨by simpa using h1, by simpa using h2, by simpa using h3, by omega⟩
/-- a link in plain terms -/
def psOf (k : Lk) : Ps := ⟨k.l, k.nm, k.ts, k.ps, k.rs, (List.range k.dn).map fun i => (k.ky i, (k.dv i).s)⟩
theorem sp_facts {k : Lk} (h : fmB k = true) : winB k.ts ⟨#[]⟩ = false ∧ winB k.ps ⟨#[]⟩ = false ∧ (∀ x ∈ k.rs, RnOk x ∧ x.1 + x.2 ≤ 4096) ∧ ∀ i, i < k.dn → spB (k.ky i) (k.dv i) = false := by
  unfold fmB at h
  simp only [Bool.and_eq_true, Bool.not_eq_true'] at h
  obtain ⟨h1, h2, h3, h4⟩ := h
  refine ⟨h1, h2, fun x hx => ?_, fun i hi => ?_⟩
  · rw [List.any_eq_false] at h3
    have h5 := h3 x hx
    unfold srB at h5
    simp only [Bool.or_eq_true, decide_eq_true_eq, not_or] at h5
    unfold RnOk
    omega
  · unfold spA at h4
    rw [List.any_eq_false] at h4
    have h5 := h4 i (List.mem_range.2 hi)
    simpa using h5
theorem sp_key {key : ByteArray} {t : T} (h : spB key t = false) : (key.toList == []) = false ∧ ∃ s l ky dv, t = .mk 2 0 s 0 l 0 ky dv := by
  unfold spB at h
  rw [Bool.or_eq_false_iff, Bool.or_eq_false_iff, Bool.or_eq_false_iff, Bool.or_eq_false_iff] at h
  obtain ⟨h1, h2, h3, h4, h5⟩ := h
  refine ⟨h1, ?_⟩
  cases t with
  | no => exact absurd h2 (by decide)
  | mk k n s ln l dn ky dv =>
    have e1 : k = 2 := by simpa [T.k] using h2
    have e2 : n = 0 := by simpa [T.n] using h3
    have e3 : ln = 0 := by have h9 : ¬ 0 < ln := of_decide_eq_false h4; omega
    have e4 : dn = 0 := by have h9 : ¬ 0 < dn := of_decide_eq_false h5; omega
    subst e1 e2 e3 e4
    exact ⟨s, l, ky, dv, rfl⟩
/-- the parameters of a link that may be written are read as it -/
theorem rd_prm {k : Lk} (hl : k.l.length = 32) (h : ckN k = 0) : ∃ ah, Rdn (prm k) (psOf k) ah := by
  obtain ⟨hf, ho, hd, hw⟩ := ck_zero h
  obtain ⟨f1, f2, f3, f4⟩ := sp_facts hf
  unfold odB at ho
  rw [Bool.and_eq_true] at ho
  unfold dbB at hd
  rw [Bool.or_eq_false_iff, Bool.or_eq_false_iff, ht_tw, ht_tw] at hd
  obtain ⟨d1, d2, d3⟩ := hd
  unfold mdB at d1
  rw [List.any_eq_false] at d1
  have hso := soB_iff.1 ho.2
  obtain ⟨a1, l1, u1, R1⟩ := rd_dn (rd_xt hl) rfl k.nm
  obtain ⟨a2, l2, u2, R2⟩ := rd_so R1 l1 u1 rfl k.rs f3 ho.1 (fun hne => by
    have h0 : ¬ k.rs.length = 0 := fun e => hne (List.length_eq_zero_iff.1 e)
    have hm : (bs [115, 111], bs (rsT k.rs)) ∈ prm k := by
      unfold prm
      rw [if_neg h0]
      simp
    exact Nat.le_trans (wS_mem hm) hw)
  obtain ⟨a3, l3, u3, R3⟩ := rd_ts R2 l2 u2 rfl _ k.ts rfl f1 d2
  obtain ⟨a4, l4, u4, R4⟩ := rd_ps R3 l3 u3 rfl _ k.ps rfl f2 d3
  obtain ⟨a5, l5, u5, R5⟩ := rd_mo R4 l4 u4 rfl _ ((List.range k.dn).map fun i => (k.ky i, (k.dv i).s)) rfl (fun x hx => by
    obtain ⟨i, hi, rfl⟩ := List.mem_map.1 hx
    have h9 := d1 i hi
    simp only [Bool.or_eq_true, Bool.not_eq_true', not_or] at h9
    exact ⟨(sp_key (f4 i (List.mem_range.1 hi))).1, by simpa using h9.1⟩) (fun j x y hx hy => by
    have hj := (List.getElem?_eq_some_iff.1 hy).1
    rw [List.length_map, List.length_range] at hj
    have ex : x = (k.ky j, (k.dv j).s) := by
      rw [List.getElem?_map, List.getElem?_range (by omega)] at hx
      exact (Option.some.inj hx).symm
    have ey : y = (k.ky (j + 1), (k.dv (j + 1)).s) := by
      rw [List.getElem?_map, List.getElem?_range hj] at hy
      exact (Option.some.inj hy).symm
    subst ex ey
    have h9 := d1 (j + 1) (List.mem_range.2 hj)
    simp only [Bool.or_eq_true, not_or] at h9
    refine ⟨hso j hj, ?_⟩
    have h8 := h9.2
    simpa using h8)
  refine ⟨a5, ?_⟩
  have e : prm k = ((((([(bs [120, 116], infoV k)] ++ if k.nm.toList == [] then [] else [(bs [100, 110], k.nm)]) ++ if k.rs.length = 0 then [] else [(bs [115, 111], bs (rsT k.rs))]) ++ k.ts.map fun t => (bs [116, 114], t)) ++ k.ps.map fun t => (bs [120, 46, 112, 101], t)) ++ (List.range k.dn).map fun i => (k.ky i, (k.dv i).s)) := by
    unfold prm
    simp only [List.append_assoc, List.cons_append, List.nil_append]
  rw [e]
  exact R5
/-- a link that may be written is read as it was -/
theorem pg_prm {k : Lk} (hl : k.l.length = 32) (h : ckN k = 0) : pgR (bs (wS (prm k))) = (psOf k, 0, 0) := by
  obtain ⟨hf, ho, hd, hw⟩ := ck_zero h
  obtain ⟨ah, R⟩ := rd_prm hl h
  have hne : (prm k).map pcT ≠ [] := by unfold prm; simp
  have hJ : wS (prm k) = scm ++ jnM 38 ((prm k).map pcT) := by
    cases hp : prm k with
    | nil => unfold prm at hp; cases hp
    | cons a t => simp [wS, txtT, jnM, List.flatMap_map]
  have hz : (bs (wS (prm k))).size ≤ 4096 := by rw [bs_size]; exact hw
  have hpre : Lib.hasPrefix (bs (wS (prm k))).data.toList [109, 97, 103, 110, 101, 116, 58, 63] = true := by
    rw [bs_tl, hJ, ← Lib.hasPrefix_of_take, Bool.and_eq_true, decide_eq_true_eq, beq_iff_eq]
    exact ⟨by rw [List.length_append]; exact Nat.le_add_right 8 _, List.take_left' rfl⟩
  have hdrop : ((bs (wS (prm k))).extract 8 (bs (wS (prm k))).size).data.toList = jnM 38 ((prm k).map pcT) := by
    rw [extL, bs_size, bs_tl, List.take_length, hJ]
    exact List.drop_left' rfl
  have hP := R (pieces ((bs (wS (prm k))).extract 8 (bs (wS (prm k))).size) 38) (pieces_cut _ 38 (by rw [ByteArray.size_extract]; omega) _ hne (fun x hx => by
    obtain ⟨y, _, rfl⟩ := List.mem_map.1 hx
    exact pc_no y) hdrop)
  unfold pgR
  rw [if_neg (by omega), if_neg (by rw [hpre]; decide)]
  unfold pgM
  rw [hP]
theorem rl_psOf {S : Nat → Prop} {w : World} {k : Lk} {tr pe on mo : Value} (hf : fmB k = true) (R : RL4 S w (lkOf (psOf k)) tr pe on mo) : RL4 S w k tr pe on mo := by
  refine ⟨R.1, R.2.1, R.2.2.1, ?_⟩
  obtain ⟨_, _, _, f4⟩ := sp_facts hf
  have hlen : (lkOf (psOf k)).dn = k.dn := by simp [lkOf, psOf]
  obtain ⟨a, ca, e, hc⟩ := R.2.2.2
  refine ⟨a, ca, by rw [e, hlen], ?_⟩
  rcases hc with h0 | ⟨b, o, rfl, hS, hb, hc⟩
  · exact .inl (by rw [← hlen]; exact h0)
  refine .inr ⟨b, o, rfl, hS, hb, fun i hi => ?_⟩
  obtain ⟨x', y', hv, hk, h5⟩ := hc i (by rw [hlen]; exact hi)
  have hg : (psOf k).mo.getD i (⟨#[]⟩, ⟨#[]⟩) = (k.ky i, (k.dv i).s) := by
    show ((List.range k.dn).map fun i => (k.ky i, (k.dv i).s)).getD i _ = _
    rw [List.getD_eq_getElem?_getD, List.getElem?_map, List.getElem?_range hi]
    rfl
  obtain ⟨_, s, l, ky, dv, hd⟩ := sp_key (f4 i hi)
  have ek : (lkOf (psOf k)).ky i = k.ky i := by show ((psOf k).mo.getD i (⟨#[]⟩, ⟨#[]⟩)).1 = _; rw [hg]
  have ev : (lkOf (psOf k)).dv i = .mk 2 0 s 0 (fun _ => .no) 0 (fun _ => ⟨#[]⟩) (fun _ => .no) := by
    show T.mk 2 0 ((psOf k).mo.getD i (⟨#[]⟩, ⟨#[]⟩)).2 0 (fun _ => .no) 0 (fun _ => ⟨#[]⟩) (fun _ => .no) = _
    rw [hg, hd]
    rfl
  rw [ek] at hk
  rw [ev] at hv h5
  rw [hd]
  obtain ⟨⟨a1, c1, r1, _⟩, a2, c2, r2, _⟩ := hv
  exact ⟨x', y', ⟨⟨a1, c1, r1, .inl rfl⟩, a2, c2, r2, .inl rfl⟩, hk, h5⟩
end Go.Proofs.YtchgkfmmeaemnaaGreatDoor
