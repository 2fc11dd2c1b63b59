import Derived.Test.YtchgkfmmeaemnaaGreatDoorV24
namespace Go.Proofs.YtchgkfmmeaemnaaGreatDoor
open Go.Shelf Go.RowKit Go.Deep
/-- runs as they may be read -/
def RsOk (rs : List (Int × Int)) : Prop := (∀ x ∈ rs, RnOk x ∧ x.1 + x.2 ≤ 4096) ∧ apB rs = true
theorem RsOk.nil : RsOk [] := ⟨fun x hx => (by cases hx), rfl⟩
theorem plO_le {s : ByteArray} {n : Nat} (h : plO s = some n) : n ≤ 4095 := by
  unfold plO at h
  split at h
  · split at h
    · rename_i h2
      have h3 := Option.some.inj h
      omega
    · cases h
  · cases h
theorem rrO_ok4 {s : ByteArray} {r : Int × Int} (h : rrO s = some r) : RnOk r ∧ r.1 + r.2 ≤ 4096 := by
  unfold rrO at h
  split at h
  · cases h
  · rename_i a ha
    have h1 := plO_le ha
    split at h
    · have h2 := Option.some.inj h
      subst h2
      unfold RnOk
      simp only
      omega
    · split at h
      · cases h
      · rename_i b hb
        have h3 := plO_le hb
        split at h
        · rename_i h4
          have h2 := Option.some.inj h
          subst h2
          unfold RnOk
          simp only
          omega
        · cases h
theorem rdGk_ok : ∀ (n : Nat) (l : List Pc) (rs : List (Int × Int)), l.length = n → rdG l = some rs → ∀ x ∈ rs, RnOk x ∧ x.1 + x.2 ≤ 4096
  | 0, l, rs, hl, h => by
    obtain rfl := List.length_eq_zero_iff.1 hl
    have e : rs = [] := (Option.some.inj h).symm
    subst e
    intro x hx; cases hx
  | n + 1, l, rs, hl, h => by
    have hne : l ≠ [] := fun e => by rw [e] at hl; cases hl
    obtain ⟨l', y, rfl⟩ : ∃ l' y, l = l' ++ [y] := ⟨l.dropLast, l.getLast hne, (List.dropLast_concat_getLast hne).symm⟩
    have ih := rdGk_ok n l'
    rw [rdG_snoc] at h
    cases h1 : rdG l' with
    | none => rw [h1] at h; cases h
    | some rs' =>
      cases h2 : rrO y.1.2 with
      | none => rw [h1, h2] at h; cases h
      | some r =>
        rw [h1, h2] at h
        have e := Option.some.inj h
        subst e
        intro x hx
        rcases List.mem_append.1 hx with hx | hx
        · exact ih rs' (by simpa using hl) h1 x hx
        · rw [List.mem_singleton] at hx
          rw [hx]
          exact rrO_ok4 h2
theorem lyR_rs {p : Ps} (h : RsOk p.rs) (k : Nat) (key value : ByteArray) (hk : 1 ≤ k) : RsOk (lyR p k key value).1.rs := by
  unfold lyR
  split
  · cases hf : fstR value.data.toList with
    | none => rw [liR_no hf]; exact h
    | some x => rw [liR_yes hf]; exact h
  split
  · unfold loR
    cases hr : rdG (pieces value 44) with
    | none => exact h
    | some rs =>
      simp only
      split
      · rename_i ha
        exact ⟨rdGk_ok _ _ _ rfl hr, ha⟩
      · exact h
  · rename_i h1 h3
    have hj : k - 1 ≠ 2 := by omega
    unfold jnV
    repeat' split
    all_goals first | exact h | exact absurd (by assumption) hj
theorem tkR_rs {p : Ps} (h : RsOk p.rs) (ah : Nat) (s : ByteArray) : RsOk (tkR p ah s).1.rs := by
  unfold tkR
  split
  · exact h
  split
  · exact h
  split
  · exact h
  unfold tk3
  split
  · exact h
  · exact lyR_rs h _ _ _ (by omega)
theorem prS_rs : ∀ (n : Nat) (l : List Pc), l.length = n → RsOk (prS l).1.rs
  | 0, l, hl => by
    obtain rfl := List.length_eq_zero_iff.1 hl
    exact RsOk.nil
  | n + 1, l, hl => by
    have hne : l ≠ [] := fun e => by rw [e] at hl; cases hl
    obtain ⟨l', y, rfl⟩ : ∃ l' y, l = l' ++ [y] := ⟨l.dropLast, l.getLast hne, (List.dropLast_concat_getLast hne).symm⟩
    have ih := prS_rs n l' (by simpa using hl)
    rw [prS_snoc]
    cases h : (prS l').2.2 with
    | some q =>
      have e : stQ (prS l') y = prS l' := by rw [stQ, h]
      rw [e]; exact ih
    | none =>
      rw [stQ_no _ h]
      exact tkR_rs ih _ _
theorem pgR_rs (s : ByteArray) : RsOk (pgR s).1.rs := by
  unfold pgR
  split
  · exact RsOk.nil
  · split
    · exact RsOk.nil
    · unfold pgM
      split
      · exact RsOk.nil
      · exact prS_rs _ _ rfl
end Go.Proofs.YtchgkfmmeaemnaaGreatDoor
namespace Go.Proofs.YtchgkfmmeaemnaaGreatDoor
open Go.Shelf Go.RowKit Go.Deep
/-- a piece lies within the text -/
theorem pcs_in (s : ByteArray) (m : UInt8) (hs : s.size ≤ 4096) : ∀ (f fr : Nat), fr ≤ s.size → ∀ x ∈ pcs s m f fr, x.1.1 + x.1.2.size ≤ s.size
  | 0, fr, hf, x, hx => by
    have e : x = pk fr (s.extract fr s.size) := by simpa [pcs] using hx
    rw [e, pk_val (by omega) (by rw [ByteArray.size_extract]; omega)]
    simp only [ByteArray.size_extract]
    omega
  | f + 1, fr, hf, x, hx => by
    by_cases h : Lib.indexByte (s.data.toList.drop fr) m < 0
    · rw [pcs_end h] at hx
      have e : x = pk fr (s.extract fr s.size) := by simpa using hx
      rw [e, pk_val (by omega) (by rw [ByteArray.size_extract]; omega)]
      simp only [ByteArray.size_extract]
      omega
    · obtain ⟨n, hn⟩ : ∃ n : Nat, Lib.indexByte (s.data.toList.drop fr) m = (n : Int) := ⟨(Lib.indexByte (s.data.toList.drop fr) m).toNat, by omega⟩
      have h9 := (List.getElem?_eq_some_iff.1 (Lib.indexByte_some hn).1).1
      rw [List.length_drop] at h9
      have e8 := Lib.size_eq s
      rw [pcs_go hn] at hx
      rcases List.mem_cons.1 hx with hx | hx
      · rw [hx, pk_val (by omega) (by rw [ByteArray.size_extract]; omega)]
        simp only [ByteArray.size_extract]
        omega
      · exact pcs_in s m hs f (fr + n + 1) (by omega) x hx
theorem tkR_pos (p : Ps) (ah : Nat) (s : ByteArray) : 0 ≤ (tkR p ah s).2.2.1 ∧ (tkR p ah s).2.2.1 ≤ s.size := by
  have e8 := Lib.size_eq s
  unfold tkR
  split
  · exact ⟨by show (0 : Int) ≤ 0; omega, by show (0 : Int) ≤ _; omega⟩
  split
  · rename_i h1 h
    have h9 := (uneL_len (s.data.toList.take (Lib.indexByte s.data.toList 61).toNat)).2
    rw [List.length_take] at h9
    refine ⟨h, ?_⟩
    show (uneL _).2 ≤ _
    omega
  split
  · rename_i h1 h2 h
    have h9 := (uneL_len (s.data.toList.drop ((Lib.indexByte s.data.toList 61).toNat + 1))).2
    rw [List.length_drop] at h9
    constructor
    · show (0 : Int) ≤ (((Lib.indexByte s.data.toList 61).toNat + 1 : Nat) : Int) + (uneL _).2
      omega
    · show (((Lib.indexByte s.data.toList 61).toNat + 1 : Nat) : Int) + (uneL _).2 ≤ _
      omega
  · unfold tk3
    split
    · exact ⟨by show (0 : Int) ≤ 0; omega, by show (0 : Int) ≤ _; omega⟩
    · exact ⟨by show (0 : Int) ≤ 0; omega, by show (0 : Int) ≤ _; omega⟩
theorem prS_tell (N : Nat) : ∀ (n : Nat) (l : List Pc), l.length = n → (∀ x ∈ l, x.1.1 + x.1.2.size ≤ N) → ∀ q, (prS l).2.2 = some q → q.2 ≠ 0 ∧ 0 ≤ q.1 ∧ q.1 ≤ 8 + N
  | 0, l, hl, _, q, h => by
    obtain rfl := List.length_eq_zero_iff.1 hl
    cases h
  | n + 1, l, hl, hN, q, h => by
    have hne : l ≠ [] := fun e => by rw [e] at hl; cases hl
    obtain ⟨l', y, rfl⟩ : ∃ l' y, l = l' ++ [y] := ⟨l.dropLast, l.getLast hne, (List.dropLast_concat_getLast hne).symm⟩
    have ih := prS_tell N n l' (by simpa using hl) (fun x hx => hN x (List.mem_append_left _ hx))
    rw [prS_snoc] at h
    cases h1 : (prS l').2.2 with
    | some q' =>
      have e : stQ (prS l') y = prS l' := by rw [stQ, h1]
      rw [e] at h
      exact ih q h
    | none =>
      rw [stQ_no _ h1] at h
      simp only at h
      split at h
      · cases h
      · rename_i h2
        have h3 := Option.some.inj h
        have h4 := tkR_pos (prS l').1 (prS l').2.1 y.1.2
        have h5 := hN y (by simp)
        rw [← h3]
        refine ⟨h2, ?_, ?_⟩
        · show (0 : Int) ≤ 8 + (y.1.1 : Int) + _
          omega
        · show 8 + (y.1.1 : Int) + _ ≤ 8 + (N : Int)
          omega
/-- what a reading tells, refused or not -/
theorem pgR_tell (s : ByteArray) : ((pgR s).2.2 ≠ 0 → (pgR s).1 = zP) ∧ ((pgR s).2.2 = 0 → (pgR s).2.1 = 0) ∧ 0 ≤ (pgR s).2.1 ∧ (pgR s).2.1 ≤ s.size := by
  unfold pgR
  split
  · exact ⟨fun _ => rfl, fun _ => rfl, by show (0 : Int) ≤ 0; omega, by show (0 : Int) ≤ _; omega⟩
  · rename_i h1
    split
    · exact ⟨fun _ => rfl, fun _ => rfl, by show (0 : Int) ≤ 0; omega, by show (0 : Int) ≤ _; omega⟩
    · rename_i h2
      have h8 : 8 ≤ s.size := by
        have h3 : Lib.hasPrefix s.data.toList [109, 97, 103, 110, 101, 116, 58, 63] = true := by simpa using h2
        have h4 := Lib.hasPrefix_of_take s.data.toList [109, 97, 103, 110, 101, 116, 58, 63]
        rw [h3, Bool.and_eq_true, decide_eq_true_eq] at h4
        rw [Lib.size_eq]
        exact h4.1
      have hts : (s.extract 8 s.size).size = s.size - 8 := by rw [ByteArray.size_extract]; omega
      have h5 := prS_tell (s.size - 8) _ (pieces (s.extract 8 s.size) 38) rfl (fun x hx => by
        have := pcs_in (s.extract 8 s.size) 38 (by omega) _ 0 (Nat.zero_le _) x hx
        omega)
      unfold pgM
      split
      · rename_i q hq
        have h6 := h5 q hq
        exact ⟨fun _ => rfl, fun h => absurd h h6.1, h6.2.1, by show q.1 ≤ _; omega⟩
      · exact ⟨fun h => absurd rfl h, fun _ => rfl, by show (0 : Int) ≤ 0; omega, by show (0 : Int) ≤ _; omega⟩
end Go.Proofs.YtchgkfmmeaemnaaGreatDoor
