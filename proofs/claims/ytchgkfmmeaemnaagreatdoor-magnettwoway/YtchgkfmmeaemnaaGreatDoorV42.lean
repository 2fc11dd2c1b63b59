import Derived.Test.YtchgkfmmeaemnaaGreatDoorV41
import Derived.Test.YtchgkfmmeaemnaaGreatDoorV01
import Derived.Test.YtchgkfmmeaemnaaGreatDoorV33
import Derived.Test.YtchgkfmmeaemnaaGreatDoorV11
namespace Go.Proofs.YtchgkfmmeaemnaaGreatDoor
open Go.Shelf Go.RowKit Go.Deep
/-- the key and the value that a part is read as -/
def kvK (s : ByteArray) : ByteArray := ⟨(uneL (s.data.toList.take (Lib.indexByte s.data.toList 61).toNat)).1.toArray⟩
def kvW (s : ByteArray) : ByteArray := ⟨(uneL (s.data.toList.drop ((Lib.indexByte s.data.toList 61).toNat + 1))).1.toArray⟩
def kv (x : Pc) : KV := (kvK x.1.2, kvW x.1.2)
theorem tk_kv {p : Ps} {ah : Nat} {s : ByteArray} (h : (tkR p ah s).2.2.2 = 0) : s.data.toList = pcT (kvK s, kvW s) ∧ tkR p ah s = tk3 p ah (kvK s) (kvW s) := by
  by_cases h1 : Lib.indexByte s.data.toList 61 < 1
  · unfold tkR at h
    rw [if_pos h1] at h
    simp at h
  by_cases h2 : 0 ≤ (uneL (s.data.toList.take (Lib.indexByte s.data.toList 61).toNat)).2
  · unfold tkR at h
    rw [if_neg h1, if_pos h2] at h
    simp at h
  by_cases h3 : 0 ≤ (uneL (s.data.toList.drop ((Lib.indexByte s.data.toList 61).toNat + 1))).2
  · unfold tkR at h
    rw [if_neg h1, if_neg h2, if_pos h3] at h
    simp at h
  refine ⟨?_, by unfold tkR; rw [if_neg h1, if_neg h2, if_neg h3]; rfl⟩
  have e1 := uneL_back _ (by omega : (uneL (s.data.toList.take (Lib.indexByte s.data.toList 61).toNat)).2 < 0)
  have e2 := uneL_back _ (by omega : (uneL (s.data.toList.drop ((Lib.indexByte s.data.toList 61).toNat + 1))).2 < 0)
  have e3 : pcT (kvK s, kvW s) = esc (uneL (s.data.toList.take (Lib.indexByte s.data.toList 61).toNat)).1 ++ ([61] ++ esc (uneL (s.data.toList.drop ((Lib.indexByte s.data.toList 61).toNat + 1))).1) := by
    unfold pcT kvK kvW
    simp
  rw [e3, e1, e2]
  obtain ⟨n, hn⟩ : ∃ n : Nat, Lib.indexByte s.data.toList 61 = (n : Int) := ⟨(Lib.indexByte s.data.toList 61).toNat, by omega⟩
  have h9 := (Lib.indexByte_some hn).1
  rw [hn, Int.toNat_natCast]
  obtain ⟨hlt, hg⟩ := List.getElem?_eq_some_iff.1 h9
  have e4 : s.data.toList.drop n = 61 :: s.data.toList.drop (n + 1) := by rw [List.drop_eq_getElem_cons hlt, hg]
  have e5 := List.take_append_drop n s.data.toList
  rw [e4] at e5
  exact e5.symm
/-- texts joined by a sign -/
def jnM (m : UInt8) : List (List UInt8) → List UInt8
  | [] => []
  | a :: t => a ++ t.flatMap fun x => [m] ++ x
theorem extL (s : ByteArray) (a b : Nat) : (s.extract a b).data.toList = (s.data.toList.take b).drop a := by
  rw [ByteArray.data_extract, Array.toList_extract, List.extract_eq_take_drop]
  rw [List.drop_take]
theorem pcs_ne (s : ByteArray) (m : UInt8) (f fr : Nat) : pcs s m f fr ≠ [] := by
  cases f with
  | zero => simp [pcs]
  | succ f => rw [pcs]; split <;> simp
theorem pcs_join (s : ByteArray) (m : UInt8) (hs : s.size ≤ 4096) : ∀ (f fr : Nat), fr ≤ s.size → s.size - fr < f → jnM m ((pcs s m f fr).map fun x => x.1.2.data.toList) = s.data.toList.drop fr
  | 0, fr, hf, h => by omega
  | f + 1, fr, hf, h => by
    have e8 := Lib.size_eq s
    by_cases h1 : Lib.indexByte (s.data.toList.drop fr) m < 0
    · rw [pcs_end h1]
      have e : (pk fr (s.extract fr s.size)).1.2 = s.extract fr s.size := by rw [pk_val (by omega) (by rw [ByteArray.size_extract]; omega)]
      simp only [List.map_cons, List.map_nil, jnM, List.flatMap_nil, List.append_nil]
      rw [e, extL, e8, List.take_length]
    · obtain ⟨n, hn⟩ : ∃ n : Nat, Lib.indexByte (s.data.toList.drop fr) m = (n : Int) := ⟨(Lib.indexByte (s.data.toList.drop fr) m).toNat, by omega⟩
      have h9 := (Lib.indexByte_some hn).1
      obtain ⟨hlt, hg⟩ := List.getElem?_eq_some_iff.1 h9
      rw [List.length_drop] at hlt
      rw [pcs_go hn]
      have e : (pk fr (s.extract fr (fr + n))).1.2 = s.extract fr (fr + n) := by rw [pk_val (by omega) (by rw [ByteArray.size_extract]; omega)]
      have ih := pcs_join s m hs f (fr + n + 1) (by omega) (by omega)
      obtain ⟨a, t, hat⟩ : ∃ a t, pcs s m f (fr + n + 1) = a :: t := by
        cases h5 : pcs s m f (fr + n + 1) with
        | nil => exact absurd h5 (pcs_ne s m f _)
        | cons a t => exact ⟨a, t, rfl⟩
      rw [hat] at ih ⊢
      simp only [List.map_cons, jnM, List.flatMap_cons] at ih ⊢
      rw [e, List.append_assoc, ih, extL]
      have e6 : (s.data.toList.drop fr).drop n = m :: s.data.toList.drop (fr + n + 1) := by
        rw [List.drop_eq_getElem_cons (by rw [List.length_drop]; exact hlt), hg, List.drop_drop]
        rfl
      have e7 := List.take_append_drop n (s.data.toList.drop fr)
      rw [e6] at e7
      rw [← e7, List.drop_take, show fr + n - fr = n by omega]
      rfl
theorem pieces_join (s : ByteArray) (m : UInt8) (hs : s.size ≤ 4096) : jnM m ((pieces s m).map fun x => x.1.2.data.toList) = s.data.toList := by
  have h := pcs_join s m hs (s.size + 1) 0 (Nat.zero_le _) (by omega)
  rw [List.drop_zero] at h
  exact h
theorem prS_kv : ∀ (n : Nat) (l : List Pc), l.length = n → (prS l).2.2 = none → ∀ x ∈ l, x.1.2.data.toList = pcT (kv x)
  | 0, l, hl, _, x, hx => by
    obtain rfl := List.length_eq_zero_iff.1 hl
    cases hx
  | n + 1, l, hl, h, x, hx => by
    have hne : l ≠ [] := fun e => by rw [e] at hl; cases hl
    obtain ⟨l', y, rfl⟩ : ∃ l' y, l = l' ++ [y] := ⟨l.dropLast, l.getLast hne, (List.dropLast_concat_getLast hne).symm⟩
    rw [prS_snoc] at h
    cases h1 : (prS l').2.2 with
    | some q =>
      have e : stQ (prS l') y = prS l' := by rw [stQ, h1]
      rw [e, h1] at h
      cases h
    | none =>
      rw [stQ_no _ h1] at h
      simp only at h
      split at h
      · rename_i h2
        rcases List.mem_append.1 hx with hx | hx
        · exact prS_kv n l' (by simpa using hl) h1 x hx
        · rw [List.mem_singleton] at hx
          rw [hx]
          exact (tk_kv h2).1
      · cases h
theorem jn_wS (l : List Pc) (hne : l ≠ []) (h : ∀ x ∈ l, x.1.2.data.toList = pcT (kv x)) : scm ++ jnM 38 (l.map fun x => x.1.2.data.toList) = wS (l.map kv) := by
  cases l with
  | nil => exact absurd rfl hne
  | cons a t =>
    have e : (t.map fun x => x.1.2.data.toList) = t.map fun x => pcT (kv x) := List.map_congr_left fun x hx => h x (List.mem_cons_of_mem _ hx)
    simp only [List.map_cons, jnM, wS, txtT]
    rw [e, h a List.mem_cons_self, List.flatMap_map, List.flatMap_map]
    simp
/-- a text that is read is what its parts are written as -/
theorem pg_wS {s : ByteArray} (h : (pgR s).2.2 = 0) : pgR s = ((prS (pieces (s.extract 8 s.size) 38)).1, 0, 0) ∧ (prS (pieces (s.extract 8 s.size) 38)).2.2 = none ∧ wS ((pieces (s.extract 8 s.size) 38).map kv) = s.data.toList := by
  by_cases h1 : 4096 < s.size
  · unfold pgR at h; rw [if_pos h1] at h; exact absurd h (by decide)
  cases h2 : Lib.hasPrefix s.data.toList [109, 97, 103, 110, 101, 116, 58, 63] with
  | false => unfold pgR at h; rw [if_neg h1, if_pos h2] at h; exact absurd h (by decide)
  | true =>
    have e : pgR s = pgM s := by unfold pgR; rw [if_neg h1, if_neg (by rw [h2]; decide)]
    have h4 := Lib.hasPrefix_of_take s.data.toList [109, 97, 103, 110, 101, 116, 58, 63]
    rw [h2, Bool.and_eq_true, decide_eq_true_eq, beq_iff_eq] at h4
    have hts : (s.extract 8 s.size).size ≤ 4096 := by rw [ByteArray.size_extract]; omega
    rw [e] at h ⊢
    cases h3 : (prS (pieces (s.extract 8 s.size) 38)).2.2 with
    | some q =>
      have h5 := prS_tell (s.size - 8) _ (pieces (s.extract 8 s.size) 38) rfl (fun x hx => by
        have := pcs_in (s.extract 8 s.size) 38 hts _ 0 (Nat.zero_le _) x hx
        rw [ByteArray.size_extract] at this
        omega) q h3
      unfold pgM at h
      rw [h3] at h
      exact absurd h h5.1
    | none =>
      refine ⟨by unfold pgM; rw [h3], rfl, ?_⟩
      rw [← jn_wS (pieces (s.extract 8 s.size) 38) (pcs_ne _ _ _ _) (prS_kv _ _ rfl h3), pieces_join _ _ hts, extL]
      have e8 := Lib.size_eq s
      rw [e8, List.take_length]
      have h6 := List.take_append_drop 8 s.data.toList
      rw [show s.data.toList.take 8 = scm from h4.2] at h6
      exact h6
end Go.Proofs.YtchgkfmmeaemnaaGreatDoor
namespace Go.Proofs.YtchgkfmmeaemnaaGreatDoor
open Go.Shelf Go.RowKit Go.Deep
theorem strI_tl (ns : List Int) : (Hx2.strI ns).data.toList = ns.map fun n => UInt8.ofNat n.toNat := by
  have h : ∀ (ns : List Int) (b : ByteArray), (ns.foldl (fun r n => r.push (UInt8.ofNat n.toNat)) b).data.toList = b.data.toList ++ ns.map fun n => UInt8.ofNat n.toNat := by
    intro ns
    induction ns with
    | nil => intro b; simp
    | cons n ns ih => intro b; rw [List.foldl_cons, ih]; simp
  unfold Hx2.strI
  rw [h]
  rfl
theorem hexI_app (a b : List Int) : Hx2.hexI (a ++ b) = Hx2.hexI a ++ Hx2.hexI b := by simp [Hx2.hexI]
theorem dv_dg0 : ∀ n : Fin 256, 0 ≤ Hx.dv (n.val : Int) → UInt8.ofNat (Hx2.dgI (Hx.dv (n.val : Int))).toNat = UInt8.ofNat n.val ∧ Hx.dv (n.val : Int) ≤ 15 := by decide +kernel
theorem dv_dg (a : UInt8) (h : 0 ≤ Hx.dv (a.toNat : Int)) : UInt8.ofNat (Hx2.dgI (Hx.dv (a.toNat : Int))).toNat = a ∧ Hx.dv (a.toNat : Int) ≤ 15 := by
  have h1 := dv_dg0 ⟨a.toNat, a.toNat_lt⟩ h
  simp only [UInt8.ofNat_toNat] at h1
  exact h1
theorem hx_un (s : ByteArray) (hg : ∀ i, i < s.size → 0 ≤ Hx.dv (Hx.bt s i)) : ∀ k, 2 * k ≤ s.size → (Hx2.hexI ((byL (Hx.unL s k)).map fun x => (x.toNat : Int))).map (fun n => UInt8.ofNat n.toNat) = s.data.toList.take (2 * k)
  | 0, _ => by simp [Hx.unL, byL, Hx2.hexI]
  | k + 1, hk => by
    have ih := hx_un s hg k (by omega)
    have e8 := Lib.size_eq s
    have b0 : Hx.bt s (2 * k) = (s[2 * k].toNat : Int) := by unfold Hx.bt; rw [dif_pos (by omega)]
    have b1 : Hx.bt s (2 * k + 1) = (s[2 * k + 1].toNat : Int) := by unfold Hx.bt; rw [dif_pos (by omega)]
    have g0 := hg (2 * k) (by omega)
    have g1 := hg (2 * k + 1) (by omega)
    rw [b0] at g0
    rw [b1] at g1
    have d0 := dv_dg _ g0
    have d1 := dv_dg _ g1
    have ht : s.data.toList.take (2 * (k + 1)) = s.data.toList.take (2 * k) ++ [s[2 * k], s[2 * k + 1]] := by
      rw [show 2 * (k + 1) = 2 * k + 1 + 1 by omega, List.take_add_one, List.take_add_one]
      have q0 : s.data.toList[2 * k]? = some s[2 * k] := by rw [List.getElem?_eq_getElem (by omega)]; rfl
      have q1 : s.data.toList[2 * k + 1]? = some s[2 * k + 1] := by rw [List.getElem?_eq_getElem (by omega)]; rfl
      rw [q0, q1]
      simp
    rw [Hx.unL_succ, ht]
    unfold byL at ih ⊢
    rw [List.map_append, List.map_append, hexI_app, List.map_append, ih]
    congr 1
    rw [b0, b1]
    generalize Hx.dv (s[2 * k].toNat : Int) = x at *
    generalize Hx.dv (s[2 * k + 1].toNat : Int) = y at *
    have hx : ((UInt8.ofNat (16 * x + y).toNat).toNat : Int) = 16 * x + y := by
      rw [UInt8.toNat_ofNat', Nat.mod_eq_of_lt (by omega)]
      omega
    simp only [List.map_cons, List.map_nil, Hx2.hexI, List.flatMap_cons, List.flatMap_nil, List.append_nil]
    rw [hx, show (16 * x + y) / 16 = x by omega, show (16 * x + y) % 16 = y by omega, d0.1, d1.1]
/-- the infohash's value is written as it was read -/
theorem inf_val {l h : List UInt8} (hf : fstR l = some h) : l = inB ++ (Hx2.strI (hxL h)).data.toList := by
  unfold fstR at hf
  split at hf
  · rename_i hc
    have e := Option.some.inj hf
    have h4 := Lib.hasPrefix_of_take l [117, 114, 110, 58, 98, 116, 109, 104, 58, 49, 50, 50, 48]
    rw [hc.2.1, Bool.and_eq_true, decide_eq_true_eq, beq_iff_eq] at h4
    have hgs := Hx.goodB_iff.1 hc.2.2
    have hz : (⟨(l.drop 13).toArray⟩ : ByteArray).size = 64 := by rw [tx_len, List.length_drop, hc.1]
    rw [Hx.resL_yes hgs, hz] at e
    have h5 := hx_un ⟨(l.drop 13).toArray⟩ hgs.2 32 (by rw [hz]; decide)
    rw [strI_tl]
    unfold hxL
    rw [← e, h5]
    have h6 := List.take_append_drop 13 l
    rw [show l.take 13 = inB from h4.2] at h6
    rw [show (⟨(l.drop 13).toArray⟩ : ByteArray).data.toList = l.drop 13 from rfl, List.take_of_length_le (by rw [List.length_drop, hc.1]; decide)]
    exact h6.symm
  · cases hf
theorem pl_val {s : ByteArray} {n : Nat} (h : plO s = some n) : Lib.itoa (n : Int) = s.data.toList := by
  unfold plO at h
  split at h
  · rename_i v _
    split at h
    · rename_i h2
      have h3 := Option.some.inj h
      have h4 := beq_iff_eq.1 h2.2.2
      rw [Lib.toList_data, Lib.toList_data] at h4
      rw [← h3, Int.toNat_of_nonneg h2.1]
      exact h4
    · cases h
  · cases h
/-- a run is written as it was read -/
theorem rr_val {s : ByteArray} {r : Int × Int} (h : rrO s = some r) : rnT r = s.data.toList := by
  unfold rrO at h
  split at h
  · cases h
  · rename_i a ha
    have h1 := pl_val ha
    split at h
    · rename_i hc
      have h2 := Option.some.inj h
      rw [← h2]
      unfold rnT
      rw [if_pos rfl, h1]
      unfold ctR at hc ⊢
      split at hc
      · rename_i h5; rw [if_pos h5]
      · simp at hc
    · rename_i hc
      split at h
      · cases h
      · rename_i b hb
        have h3 := pl_val hb
        split at h
        · rename_i h4
          have h2 := Option.some.inj h
          rw [← h2]
          unfold rnT
          rw [if_neg (by simp only; omega)]
          simp only
          rw [show (a : Int) + ((b : Int) - (a : Int) + 1) - 1 = (b : Int) by omega, h1, h3]
          unfold ctR at hc ⊢
          split at hc
          · exact absurd rfl hc
          · rename_i h5
            rw [if_neg h5]
            obtain ⟨n, hn⟩ : ∃ n : Nat, Lib.indexByte s.data.toList 45 = (n : Int) := ⟨(Lib.indexByte s.data.toList 45).toNat, by omega⟩
            have e8 := Lib.size_eq s
            simp only
            rw [hn, Int.toNat_natCast, extL, extL, e8, List.take_length, List.drop_zero]
            obtain ⟨hlt, hg⟩ := List.getElem?_eq_some_iff.1 (Lib.indexByte_some hn).1
            have e4 : s.data.toList.drop n = 45 :: s.data.toList.drop (n + 1) := by rw [List.drop_eq_getElem_cons hlt, hg]
            have e5 := List.take_append_drop n s.data.toList
            rw [e4] at e5
            rw [List.append_assoc]
            exact e5
        · cases h
theorem rdG_val : ∀ (n : Nat) (l : List Pc) (rs : List (Int × Int)), l.length = n → rdG l = some rs → rs.length = n ∧ rs.map rnT = l.map fun x => x.1.2.data.toList
  | 0, l, rs, hl, h => by
    obtain rfl := List.length_eq_zero_iff.1 hl
    have e : rs = [] := (Option.some.inj h).symm
    subst e
    exact ⟨rfl, rfl⟩
  | n + 1, l, rs, hl, h => by
    have hne : l ≠ [] := fun e => by rw [e] at hl; cases hl
    obtain ⟨l', y, rfl⟩ : ∃ l' y, l = l' ++ [y] := ⟨l.dropLast, l.getLast hne, (List.dropLast_concat_getLast hne).symm⟩
    rw [rdG_snoc] at h
    cases h1 : rdG l' with
    | none => rw [h1] at h; cases h
    | some rs' =>
      cases h2 : rrO y.1.2 with
      | none => rw [h1, h2] at h; cases h
      | some r =>
        rw [h1, h2] at h
        have e := Option.some.inj h
        subst e
        have ih := rdG_val n l' rs' (by simpa using hl) h1
        refine ⟨by rw [List.length_append, ih.1]; rfl, ?_⟩
        rw [List.map_append, List.map_append, ih.2]
        simp [rr_val h2]
/-- runs are written as they were read -/
theorem rs_val {v : ByteArray} (hv : v.size ≤ 4096) {rs : List (Int × Int)} (h : rdG (pieces v 44) = some rs) : bs (rsT rs) = v ∧ rs.length ≠ 0 := by
  have h1 := rdG_val _ _ rs rfl h
  have hne := pcs_ne v 44 (v.size + 1) 0
  refine ⟨?_, fun e => hne (List.length_eq_zero_iff.1 (by have := h1.1; unfold pieces at this; omega))⟩
  have h2 : rsT rs = v.data.toList := by
    rw [← pieces_join v 44 hv]
    unfold rsT
    rw [h1.2]
    cases h3 : pieces v 44 with
    | nil => exact absurd h3 hne
    | cons a t =>
      simp only [List.map_cons, jnM]
      rw [Lib.join_cons]
      unfold Lib.joinTail
      rw [← List.flatMap_def]
  rw [h2]
  apply ByteArray.ext
  simp [bs]
end Go.Proofs.YtchgkfmmeaemnaaGreatDoor
