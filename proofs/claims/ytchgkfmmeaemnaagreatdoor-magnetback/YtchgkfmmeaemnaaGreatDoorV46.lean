import Derived.Test.YtchgkfmmeaemnaaGreatDoorV44
import Derived.Test.YtchgkfmmeaemnaaGreatDoorV23
namespace Go.Proofs.YtchgkfmmeaemnaaGreatDoor
open Go.Shelf Go.RowKit Go.Deep
/-- a text cut at a sign that its parts don't have -/
theorem pcs_cut (s : ByteArray) (m : UInt8) (hs : s.size ≤ 4096) : ∀ (L : List (List UInt8)) (f fr : Nat), L ≠ [] → (∀ x ∈ L, m ∉ x) → fr ≤ s.size → s.size - fr < f → s.data.toList.drop fr = jnM m L → (pcs s m f fr).map (fun x => x.1.2.data.toList) = L
  | [], _, _, h, _, _, _, _ => absurd rfl h
  | [a], f, fr, _, hm, hfr, hf, e => by
    obtain ⟨f, rfl⟩ : ∃ g, f = g + 1 := ⟨f - 1, by omega⟩
    have e1 : s.data.toList.drop fr = a := by rw [e]; simp [jnM]
    have e8 := Lib.size_eq s
    rw [pcs_end (by rw [e1]; exact ix_none (hm a (by simp)))]
    have e2 : (pk fr (s.extract fr s.size)).1.2 = s.extract fr s.size := by rw [pk_val (by omega) (by rw [ByteArray.size_extract]; omega)]
    simp only [List.map_cons, List.map_nil]
    rw [e2, extL, e8, List.take_length, e1]
  | a :: b :: t, f, fr, _, hm, hfr, hf, e => by
    obtain ⟨f, rfl⟩ : ∃ g, f = g + 1 := ⟨f - 1, by omega⟩
    have e8 := Lib.size_eq s
    have e1 : s.data.toList.drop fr = a ++ m :: jnM m (b :: t) := by rw [e]; simp [jnM]
    have hl : (s.data.toList.drop fr).length = s.size - fr := by rw [List.length_drop, ← e8]
    have hl2 : a.length + 1 + (jnM m (b :: t)).length = s.size - fr := by rw [← hl, e1, List.length_append, List.length_cons]; omega
    have hn : Lib.indexByte (s.data.toList.drop fr) m = (a.length : Int) := by rw [e1]; exact ix_first (hm a (by simp))
    have e3 : s.data.toList.drop (fr + a.length + 1) = jnM m (b :: t) := by
      have e4 : s.data.toList.drop (fr + a.length + 1) = (s.data.toList.drop fr).drop (a.length + 1) := by rw [List.drop_drop]; rfl
      rw [e4, e1, show a ++ m :: jnM m (b :: t) = (a ++ [m]) ++ jnM m (b :: t) by simp, List.drop_left' (by simp)]
    have e2 : (pk fr (s.extract fr (fr + a.length))).1.2 = s.extract fr (fr + a.length) := by rw [pk_val (by omega) (by rw [ByteArray.size_extract]; omega)]
    rw [pcs_go hn, List.map_cons, pcs_cut s m hs (b :: t) f (fr + a.length + 1) (by simp) (fun x hx => hm x (List.mem_cons_of_mem _ hx)) (by omega) (by omega) e3]
    rw [e2, extL, List.drop_take, show fr + a.length - fr = a.length by omega, e1, List.take_left' rfl]
theorem pieces_cut (s : ByteArray) (m : UInt8) (hs : s.size ≤ 4096) (L : List (List UInt8)) (h0 : L ≠ []) (hm : ∀ x ∈ L, m ∉ x) (h : s.data.toList = jnM m L) : (pieces s m).map (fun x => x.1.2.data.toList) = L :=
  pcs_cut s m hs L _ 0 h0 hm (Nat.zero_le _) (by omega) (by rw [List.drop_zero]; exact h)
theorem esc_no (l : List UInt8) : 61 ∉ esc l ∧ 38 ∉ esc l := by
  constructor
  · intro h; exact absurd rfl (okB_facts 61 (esc_ok _ _ h)).2.2.2.1
  · intro h; exact absurd rfl (okB_facts 38 (esc_ok _ _ h)).2.2.1
theorem pc_no (x : KV) : 38 ∉ pcT x := by
  unfold pcT
  intro h
  rcases List.mem_append.1 h with h | h
  · exact (esc_no _).2 h
  · rcases List.mem_append.1 h with h | h
    · exact absurd h (by decide)
    · exact (esc_no _).2 h
/-- a part as it is written is taken as what it was -/
theorem tk_of {p : Ps} {ah : Nat} {s key value : ByteArray} (h : s.data.toList = pcT (key, value)) (hk : key.data.toList ≠ []) : tkR p ah s = tk3 p ah key value := by
  have e : s.data.toList = esc key.data.toList ++ 61 :: esc value.data.toList := by rw [h]; simp [pcT]
  have hi : Lib.indexByte s.data.toList 61 = ((esc key.data.toList).length : Int) := by rw [e]; exact ix_first (esc_no _).1
  have hpos : 1 ≤ (esc key.data.toList).length := Nat.le_trans (List.length_pos_iff.2 hk) (esc_ge _)
  have t1 : s.data.toList.take (esc key.data.toList).length = esc key.data.toList := by rw [e, List.take_left' rfl]
  have t2 : s.data.toList.drop ((esc key.data.toList).length + 1) = esc value.data.toList := by
    rw [e, show esc key.data.toList ++ 61 :: esc value.data.toList = (esc key.data.toList ++ [61]) ++ esc value.data.toList by simp, List.drop_left' (by simp)]
  unfold tkR
  rw [hi, Int.toNat_natCast, if_neg (by omega), t1, t2, uneL_esc, uneL_esc, if_neg (by simp), if_neg (by simp)]
/-- these parameters are read so -/
def Rdn (kvs : List KV) (p : Ps) (ah : Nat) : Prop := ∀ l : List Pc, (l.map fun x => x.1.2.data.toList) = kvs.map pcT → prS l = (p, ah, none)
theorem Rdn.zero : Rdn [] zP 0 := fun l h => by
  obtain rfl : l = [] := List.map_eq_nil_iff.1 h
  rfl
theorem Rdn.snoc {kvs : List KV} {p p' : Ps} {ah : Nat} {key value : ByteArray} (R : Rdn kvs p ah) (hk : key.data.toList ≠ []) (hs : stR p ah (kdR key + 1) key value = 0) (hl : lyR p (kdR key + 1) key value = (p', 0)) : Rdn (kvs ++ [(key, value)]) p' (kdR key + 1) := by
  intro l h
  rw [List.map_append] at h
  obtain ⟨l1, l2, rfl, h1, h2⟩ := List.map_eq_append_iff.1 h
  obtain ⟨y, rfl, h3⟩ : ∃ y, l2 = [y] ∧ y.1.2.data.toList = pcT (key, value) := by
    cases l2 with
    | nil => simp at h2
    | cons y t =>
      cases t with
      | nil => exact ⟨y, rfl, by simpa using h2⟩
      | cons z t => simp at h2
  rw [prS_snoc, R l1 h1, stQ_no _ rfl]
  simp only
  rw [tk_of h3 hk]
  have e : tk3 p ah key value = (p', kdR key + 1, 0, 0) := by
    unfold tk3
    rw [if_neg (by rw [hs]; decide), hl]
  rw [e]
  rfl
theorem st_zero {p : Ps} {ah k : Nat} {key value : ByteArray} (h0 : ah ≠ 0) (h1 : k ≠ 1) (h2 : ah ≤ k) (h3 : agR p ah k key value = false) (h4 : k = 6 → Op.bytesLess key.toList (lkey p.mo).toList = false) : stR p ah k key value = 0 := by
  unfold stR
  rw [if_neg (fun h => h0 h.1), if_neg (fun h => h1 h.1), if_neg (fun h => h1 h.1), if_neg (by omega), if_neg (by rw [h3]; decide), if_neg (fun h => by rw [h4 h.1] at h; exact absurd h.2 (by decide))]
theorem hex_at : ∀ (xs : List Int) (j : Nat), j < xs.length → (Hx2.hexI xs).getD (2 * j) 0 = Hx2.dgI (xs.getD j 0 / 16) ∧ (Hx2.hexI xs).getD (2 * j + 1) 0 = Hx2.dgI (xs.getD j 0 % 16)
  | [], j, h => absurd h (Nat.not_lt_zero j)
  | x :: xs, 0, _ => ⟨rfl, rfl⟩
  | x :: xs, j + 1, h => by
    have ih := hex_at xs j (by simpa using h)
    have e : Hx2.hexI (x :: xs) = Hx2.dgI (x / 16) :: Hx2.dgI (x % 16) :: Hx2.hexI xs := rfl
    rw [e, show 2 * (j + 1) = 2 * j + 1 + 1 by omega]
    exact ih
theorem dv_dgI0 : ∀ n : Fin 16, Hx.dv (((UInt8.ofNat (Hx2.dgI (n.val : Int)).toNat).toNat : Nat) : Int) = n.val := by decide +kernel
theorem dv_dgI {d : Int} (h0 : 0 ≤ d) (h1 : d < 16) : Hx.dv (((UInt8.ofNat (Hx2.dgI d).toNat).toNat : Nat) : Int) = d := by
  have h := dv_dgI0 ⟨d.toNat, by omega⟩
  simpa [Int.toNat_of_nonneg h0] using h
/-- the digits of a text are read as the text -/
theorem fst_hex {l : List UInt8} (hl : l.length = 32) : fstR (inB ++ (Hx2.strI (hxL l)).data.toList) = some l := by
  have hxl : (hxL l).length = 64 := by unfold hxL; rw [Hx2.hexI_len, List.length_map, hl]
  have hD : (Hx2.strI (hxL l)).data.toList = (hxL l).map fun n => UInt8.ofNat n.toNat := strI_tl _
  have hDl : (Hx2.strI (hxL l)).data.toList.length = 64 := by rw [hD, List.length_map, hxl]
  generalize hd : (Hx2.strI (hxL l)).data.toList = D at *
  have hdr : (inB ++ D).drop 13 = D := List.drop_left' rfl
  have hsz : (⟨D.toArray⟩ : ByteArray).size = 64 := by rw [tx_len, hDl]
  have hbt : ∀ i, i < 64 → Hx.bt ⟨D.toArray⟩ i = (((UInt8.ofNat ((hxL l).getD i 0).toNat).toNat : Nat) : Int) := by
    intro i hi
    unfold Hx.bt
    rw [dif_pos (by rw [hsz]; exact hi)]
    have e : (⟨D.toArray⟩ : ByteArray)[i]'(by rw [hsz]; exact hi) = D[i]'(by omega) := rfl
    rw [e]
    have e2 : D[i]'(by omega) = UInt8.ofNat ((hxL l).getD i 0).toNat := by
      have h9 : D[i]? = some (UInt8.ofNat ((hxL l).getD i 0).toNat) := by
        rw [hD, List.getElem?_map, List.getD_eq_getElem?_getD, List.getElem?_eq_getElem (by omega)]
        rfl
      rw [List.getElem?_eq_getElem (by omega)] at h9
      exact Option.some.inj h9
    rw [e2]
  have hlj : ∀ j, j < 32 → (l.map fun x => (x.toNat : Int)).getD j 0 = ((l.getD j 0).toNat : Int) := by
    intro j hj
    rw [List.getD_eq_getElem?_getD, List.getD_eq_getElem?_getD, List.getElem?_map, List.getElem?_eq_getElem (by omega)]
    rfl
  have hdv : ∀ j, j < 32 → Hx.dv (Hx.bt ⟨D.toArray⟩ (2 * j)) = ((l.getD j 0).toNat : Int) / 16 ∧ Hx.dv (Hx.bt ⟨D.toArray⟩ (2 * j + 1)) = ((l.getD j 0).toNat : Int) % 16 := by
    intro j hj
    have h1 := hex_at (l.map fun x => (x.toNat : Int)) j (by rw [List.length_map, hl]; exact hj)
    rw [hlj j hj] at h1
    have h2 : (hxL l).getD (2 * j) 0 = _ := h1.1
    have h3 : (hxL l).getD (2 * j + 1) 0 = _ := h1.2
    have hb := (l.getD j 0).toNat_lt
    rw [hbt (2 * j) (by omega), hbt (2 * j + 1) (by omega), h2, h3]
    exact ⟨dv_dgI (by omega) (by omega), dv_dgI (by omega) (by omega)⟩
  have hgs : Hx.goodS ⟨D.toArray⟩ := by
    refine ⟨by rw [hsz], fun i hi => ?_⟩
    rw [hsz] at hi
    obtain ⟨j, hj⟩ : ∃ j, i = 2 * j ∨ i = 2 * j + 1 := ⟨i / 2, by omega⟩
    have h1 := hdv j (by omega)
    rcases hj with rfl | rfl
    · rw [h1.1]; omega
    · rw [h1.2]; omega
  have hpre : Lib.hasPrefix (inB ++ D) [117, 114, 110, 58, 98, 116, 109, 104, 58, 49, 50, 50, 48] = true := by
    rw [← Lib.hasPrefix_of_take, Bool.and_eq_true, decide_eq_true_eq, beq_iff_eq]
    exact ⟨by rw [List.length_append]; exact Nat.le_add_right 13 _, List.take_left' rfl⟩
  unfold fstR
  rw [hdr, if_pos ⟨by rw [List.length_append, hDl]; rfl, hpre, Hx.goodB_iff.2 hgs⟩, Hx.resL_yes hgs, hsz]
  congr 1
  unfold byL Hx.unL
  apply List.ext_getElem
  · simp [hl]
  · intro j h1 h2
    have hj : j < 32 := by omega
    obtain ⟨d1, d2⟩ := hdv j hj
    simp only [List.getElem_map, List.getElem_range]
    rw [d1, d2]
    have e : l.getD j 0 = l[j] := by rw [List.getD_eq_getElem?_getD, List.getElem?_eq_getElem h2]; rfl
    rw [e, show 16 * (((l[j]).toNat : Int) / 16) + ((l[j]).toNat : Int) % 16 = ((l[j]).toNat : Int) by omega, Int.toNat_natCast]
    simp
theorem rrO_rn {s : ByteArray} {x : Int × Int} (h : RnOk x ∧ x.1 + x.2 ≤ 4096) (hs : s.data.toList = rnT x) : rrO s = some x := by
  obtain ⟨a, b⟩ := x
  obtain ⟨⟨⟨h1, h2⟩, h3, h4⟩, h5⟩ := h
  simp only at h1 h2 h3 h4 h5
  obtain ⟨n, rfl⟩ : ∃ n : Nat, a = (n : Int) := ⟨a.toNat, by omega⟩
  by_cases hb : b = 1
  · subst hb
    have e : s.data.toList = Lib.decDigits n := by rw [hs]; unfold rnT; rw [if_pos rfl, Lib.itoa_nonneg]
    exact rrO_one e (by omega)
  · obtain ⟨m, hm⟩ : ∃ m : Nat, (n : Int) + b - 1 = (m : Int) := ⟨((n : Int) + b - 1).toNat, by omega⟩
    have e : s.data.toList = Lib.decDigits n ++ 45 :: Lib.decDigits m := by
      rw [hs]; unfold rnT
      rw [if_neg hb]
      simp only
      rw [hm, Lib.itoa_nonneg, Lib.itoa_nonneg]
      simp
    rw [rrO_two e (by omega) (by omega) (by omega)]
    congr 2
    omega
theorem rd_txt : ∀ (n : Nat) (rs : List (Int × Int)) (l : List Pc), rs.length = n → (∀ x ∈ rs, RnOk x ∧ x.1 + x.2 ≤ 4096) → (l.map fun x => x.1.2.data.toList) = rs.map rnT → rdG l = some rs
  | 0, rs, l, hn, _, h => by
    obtain rfl := List.length_eq_zero_iff.1 hn
    obtain rfl : l = [] := List.map_eq_nil_iff.1 h
    rfl
  | n + 1, rs, l, hn, hok, h => by
    have hne : rs ≠ [] := fun e => by rw [e] at hn; cases hn
    obtain ⟨rs', y, rfl⟩ : ∃ l' y, rs = l' ++ [y] := ⟨rs.dropLast, rs.getLast hne, (List.dropLast_concat_getLast hne).symm⟩
    rw [List.map_append] at h
    obtain ⟨l1, l2, rfl, h1, h2⟩ := List.map_eq_append_iff.1 h
    obtain ⟨z, rfl, h3⟩ : ∃ z, l2 = [z] ∧ z.1.2.data.toList = rnT y := by
      cases l2 with
      | nil => simp at h2
      | cons z t =>
        cases t with
        | nil => exact ⟨z, rfl, by simpa using h2⟩
        | cons z t => simp at h2
    exact rdG_yes z (rd_txt n rs' l1 (by simpa using hn) (fun x hx => hok x (List.mem_append_left _ hx)) h1) (rrO_rn (hok y (List.mem_append_right _ (List.mem_singleton.2 rfl))) h3)
theorem rn_no (x : Int × Int) (h : RnOk x) : 44 ∉ rnT x := by
  obtain ⟨a, b⟩ := x
  obtain ⟨⟨h1, h2⟩, h3, h4⟩ := h
  simp only at h1 h2 h3 h4
  obtain ⟨n, rfl⟩ : ∃ n : Nat, a = (n : Int) := ⟨a.toNat, by omega⟩
  obtain ⟨m, hm⟩ : ∃ m : Nat, (n : Int) + b - 1 = (m : Int) := ⟨((n : Int) + b - 1).toNat, by omega⟩
  unfold rnT
  simp only
  rw [hm, Lib.itoa_nonneg, Lib.itoa_nonneg]
  split
  · exact digit_no rfl
  · intro h
    rcases List.mem_append.1 h with h | h
    · rcases List.mem_append.1 h with h | h
      · exact digit_no rfl h
      · exact absurd h (by decide)
    · exact digit_no rfl h
/-- runs are read as they were written -/
theorem rd_rs {rs : List (Int × Int)} (h0 : rs ≠ []) (hok : ∀ x ∈ rs, RnOk x ∧ x.1 + x.2 ≤ 4096) (hz : (bs (rsT rs)).size ≤ 4096) : rdG (pieces (bs (rsT rs)) 44) = some rs := by
  refine rd_txt _ rs _ rfl hok (pieces_cut _ 44 hz _ (fun e => h0 (List.map_eq_nil_iff.1 e)) (fun x hx => ?_) ?_)
  · obtain ⟨y, hy, rfl⟩ := List.mem_map.1 hx
    exact rn_no y (hok y hy).1
  · rw [bs_tl]
    unfold rsT
    cases rs with
    | nil => exact absurd rfl h0
    | cons a t =>
      simp only [List.map_cons, jnM]
      rw [Lib.join_cons]
      unfold Lib.joinTail
      rw [← List.flatMap_def]
end Go.Proofs.YtchgkfmmeaemnaaGreatDoor
