import Derived.Test.YtnpcbcfjnhjmmaaGreatDoorV23
namespace Go.Proofs.YtnpcbcfjnhjmmaaGreatDoor
open Go.Shelf Go.RowKit Go.Deep
/-- nothing that was read is long -/
structure PBd (p : Ps) : Prop where
  h : p.h.length = 32
  nm : p.nm.size ≤ 4096
  ts : ∀ x ∈ p.ts, x.size ≤ 4096
  ps : ∀ x ∈ p.ps, x.size ≤ 4096
  rs : p.rs.length ≤ 8192
  mo : ∀ x ∈ p.mo, x.1.size ≤ 4096 ∧ x.2.size ≤ 4096
theorem PBd.zero : PBd zP := ⟨by simp [zP], Nat.zero_le _, by simp [zP], by simp [zP], by simp [zP], by simp [zP]⟩
theorem ly_bd {p : Ps} (h : PBd p) (k : Nat) (key value : ByteArray) (hk : key.size ≤ 4096) (hv : value.size ≤ 4096) : PBd (lyR p k key value).1 := by
  have hsn : ∀ (l : List ByteArray), (∀ x ∈ l, x.size ≤ 4096) → ∀ x ∈ l ++ [value], x.size ≤ 4096 := fun l hl x hx => by
    rcases List.mem_append.1 hx with hx | hx
    · exact hl x hx
    · rw [List.mem_singleton] at hx; rw [hx]; exact hv
  have hjn : ∀ j, j ≠ 2 → PBd (jnV p j key value).1 := fun j hj => by
    unfold jnV
    split
    · exact h
    split
    · exact ⟨h.h, hv, h.ts, h.ps, h.rs, h.mo⟩
    split
    · exact ⟨h.h, h.nm, hsn _ h.ts, h.ps, h.rs, h.mo⟩
    split
    · exact ⟨h.h, h.nm, h.ts, hsn _ h.ps, h.rs, h.mo⟩
    · exact ⟨h.h, h.nm, h.ts, h.ps, h.rs, fun x hx => by
        rcases List.mem_append.1 hx with hx | hx
        · exact h.mo x hx
        · rw [List.mem_singleton] at hx; rw [hx]; exact ⟨hk, hv⟩⟩
  unfold lyR
  split
  · cases hf : fstR value.data.toList with
    | none => rw [liR_no hf]; exact h
    | some x =>
      rw [liR_yes hf]
      refine ⟨?_, h.nm, h.ts, h.ps, h.rs, h.mo⟩
      have h9 := fsH_len value.data.toList
      unfold fsH at h9
      rw [hf] at h9
      exact h9
  split
  · unfold loR
    cases hr : rdG (pieces value 44) with
    | none => exact h
    | some rs =>
      simp only
      split
      · exact ⟨h.h, h.nm, h.ts, h.ps, by show rs.length ≤ 8192; rw [rdG_len hr]; exact pieces_len value 44 hv, h.mo⟩
      · exact h
  · rename_i h1 h3
    exact hjn (k - 1) (by omega)
theorem tk_bd {p : Ps} (h : PBd p) (ah : Nat) (s : ByteArray) (hs : s.size ≤ 4096) : PBd (tkR p ah s).1 := by
  have hz : s.data.toList.length = s.size := by simp
  unfold tkR
  split
  · exact h
  split
  · exact h
  split
  · exact h
  unfold tk3
  split
  · exact h
  · refine ly_bd h _ _ _ ?_ ?_
    · have h9 := (uneL_len (s.data.toList.take (Lib.indexByte s.data.toList 61).toNat)).1
      rw [List.length_take] at h9
      show (uneL _).1.toArray.size ≤ 4096
      rw [List.size_toArray]
      omega
    · have h9 := (uneL_len (s.data.toList.drop ((Lib.indexByte s.data.toList 61).toNat + 1))).1
      rw [List.length_drop] at h9
      show (uneL _).1.toArray.size ≤ 4096
      rw [List.size_toArray]
      omega
theorem prS_bd : ∀ (n : Nat) (l : List Pc), l.length = n → PBd (prS l).1
  | 0, l, hl => by
    obtain rfl := List.length_eq_zero_iff.1 hl
    exact PBd.zero
  | n + 1, l, hl => by
    have hne : l ≠ [] := fun e => by rw [e] at hl; cases hl
    obtain ⟨l', y, rfl⟩ : ∃ l' y, l = l' ++ [y] := ⟨l.dropLast, l.getLast hne, (List.dropLast_concat_getLast hne).symm⟩
    have ih := prS_bd n l' (by simpa using hl)
    rw [prS_snoc]
    cases h : (prS l').2.2 with
    | some q =>
      have e : stQ (prS l') y = prS l' := by rw [stQ, h]
      rw [e]; exact ih
    | none =>
      rw [stQ_no _ h]
      exact tk_bd ih _ _ y.2.2
theorem pg_bd (s : ByteArray) : PBd (pgR s).1 ∧ (pgR s).1.ts.length ≤ 8192 ∧ (pgR s).1.ps.length ≤ 8192 ∧ (pgR s).1.mo.length ≤ 8192 := by
  have z : PBd zP ∧ zP.ts.length ≤ 8192 ∧ zP.ps.length ≤ 8192 ∧ zP.mo.length ≤ 8192 := ⟨PBd.zero, by simp [zP], by simp [zP], by simp [zP]⟩
  unfold pgR
  split
  · exact z
  · rename_i h1
    split
    · exact z
    · unfold pgM
      split
      · exact z
      · have hts : (s.extract 8 s.size).size ≤ 4096 := by rw [ByteArray.size_extract]; omega
        have h2 := pieces_len (s.extract 8 s.size) 38 hts
        have h3 := prS_len _ (pieces (s.extract 8 s.size) 38) rfl
        exact ⟨prS_bd _ _ rfl, by show (prS _).1.ts.length ≤ _; omega, by show (prS _).1.ps.length ≤ _; omega, by show (prS _).1.mo.length ≤ _; omega⟩
/-- the link that was read -/
def lkOf (p : Ps) : Lk := ⟨p.h, p.nm, p.ts, p.ps, p.rs, p.mo.length, fun i => (p.mo.getD i (⟨#[]⟩, ⟨#[]⟩)).1, fun i => .mk 2 0 (p.mo.getD i (⟨#[]⟩, ⟨#[]⟩)).2 0 (fun _ => .no) 0 (fun _ => ⟨#[]⟩) (fun _ => .no)⟩
theorem lkOf_ok {p : Ps} (h : PBd p) (h1 : p.ts.length ≤ 8192) (h2 : p.ps.length ≤ 8192) (h3 : p.mo.length ≤ 8192) : (lkOf p).ok := by
  refine ⟨h.h, Nat.le_trans h.nm (by omega), ⟨Nat.le_trans h1 (by omega), fun x hx => Nat.le_trans (h.ts x hx) (by omega)⟩, ⟨Nat.le_trans h2 (by omega), fun x hx => Nat.le_trans (h.ps x hx) (by omega)⟩, Nat.le_trans h.rs (by omega), Nat.le_trans h3 (by omega), fun i hi => ?_⟩
  have hi' : i < p.mo.length := hi
  have hm : p.mo.getD i (⟨#[]⟩, ⟨#[]⟩) ∈ p.mo := by
    rw [List.getD_eq_getElem?_getD, List.getElem?_eq_getElem hi']
    exact List.getElem_mem hi'
  obtain ⟨a, b⟩ := h.mo _ hm
  exact ⟨Nat.le_trans a (by omega), Nat.le_trans b (by omega), Nat.zero_le _, Nat.zero_le _, fun j hj => absurd hj (by omega), fun j hj => absurd hj (by omega)⟩
theorem moC_at : ∀ (l : List (ByteArray × ByteArray)) (i j : Nat) (x : ByteArray × ByteArray), l[i]? = some x → j < 6 → (moC l)[i * 6 + j]? = (p6 x.1 x.2)[j]?
  | [], i, j, x, h, _ => by simp at h
  | y :: l, 0, j, x, h, hj => by
    obtain rfl : y = x := by simpa using h
    have e : moC (y :: l) = p6 y.1 y.2 ++ moC l := by simp [moC, p6]
    rw [e, Nat.zero_mul, Nat.zero_add, List.getElem?_append_left (by simpa [p6] using hj)]
  | y :: l, i + 1, j, x, h, hj => by
    have e : moC (y :: l) = p6 y.1 y.2 ++ moC l := by simp [moC, p6]
    rw [e, List.getElem?_append_right (by simp [p6]; omega), show (i + 1) * 6 + j - (p6 y.1 y.2).length = i * 6 + j by simp [p6]; omega]
    exact moC_at l i j x (by simpa using h) hj
theorem rd_of {w : World} {B : Nat} {v : Value} {p : Ps} (h : OM B w v p.mo) : RD (fun _ => True) w (lkOf p).dn (lkOf p).ky (lkOf p).dv v := by
  have h' := h
  rcases h.2 with ⟨rfl, h0⟩ | ⟨g, cap, cur, rfl, hB, hg, _, _, _, _⟩
  · exact ⟨none, 0, by show _ = Value.slice none p.mo.length 0; rw [h0], .inl h0⟩
  · refine ⟨_, _, rfl, .inr ⟨g, 0, rfl, trivial, (Array.getElem?_eq_some_iff.1 hg).1, fun i hi => ?_⟩⟩
    have hi' : i < p.mo.length := hi
    have hx : p.mo[i]? = some (p.mo.getD i (⟨#[]⟩, ⟨#[]⟩)) := by rw [List.getD_eq_getElem?_getD, List.getElem?_eq_getElem hi']; rfl
    have hc : ∀ j, j < 6 → w.cell? ⟨g, i * 6 + j, none⟩ = (p6 (p.mo.getD i (⟨#[]⟩, ⟨#[]⟩)).1 (p.mo.getD i (⟨#[]⟩, ⟨#[]⟩)).2)[j]? := fun j hj => by
      rw [World.ownsRow.cellAt h' (i * 6 + j) (by omega)]
      exact moC_at p.mo i j _ hx hj
    refine ⟨.slice none 0 0, .slice none 0 0, ⟨⟨none, 0, rfl, .inl rfl⟩, ⟨none, 0, rfl, .inl rfl⟩⟩, ?_, ?_, ?_, ?_, ?_, ?_⟩
    · rw [show 0 + i * 6 = i * 6 + 0 by omega]; exact hc 0 (by omega)
    · rw [show 0 + i * 6 + 1 = i * 6 + 1 by omega]; exact hc 1 (by omega)
    · rw [show 0 + i * 6 + 1 + 1 = i * 6 + 2 by omega]; exact hc 2 (by omega)
    · rw [show 0 + i * 6 + 1 + 2 = i * 6 + 3 by omega]; exact hc 3 (by omega)
    · rw [show 0 + i * 6 + 1 + 3 = i * 6 + 4 by omega]; exact hc 4 (by omega)
    · rw [show 0 + i * 6 + 1 + 4 = i * 6 + 5 by omega]; exact hc 5 (by omega)
theorem rl4_of {B : Nat} {w : World} {p : Ps} {tr pe on mo : Value} (h : LO B w p tr pe on mo) : RL4 (fun _ => True) w (lkOf p) tr pe on mo :=
  ⟨(texts_of h.o1).move (fun _ _ _ => trivial) (Nat.le_refl _) (fun _ _ _ => rfl), (texts_of h.o2).move (fun _ _ _ => trivial) (Nat.le_refl _) (fun _ _ _ => rfl), (OR.rr h.o3).move (fun _ _ _ => trivial) (Nat.le_refl _) (fun _ _ _ => rfl), rd_of h.o4⟩
end Go.Proofs.YtnpcbcfjnhjmmaaGreatDoor
