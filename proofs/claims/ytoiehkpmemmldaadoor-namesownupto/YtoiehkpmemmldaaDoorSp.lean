import Derived.Test.YtoiehkpmemmldaaDoorJn
import Derived.Lib.Bytealg
import Derived.Lib.Split
namespace Go.Proofs.YtoiehkpmemmldaaDoor
open Go.RowKit
theorem ba_ext' {s t : ByteArray} (h : s.data.toList = t.data.toList) : s = t := ba_ext (by rw [ByteArray.toList_eq, ByteArray.toList_eq, h])
theorem ix_cases : ∀ l : List UInt8, (47 ∉ l ∧ Lib.indexByte l 47 = -1) ∨ ((47 : UInt8) ∈ l ∧ ∃ i : Nat, Lib.indexByte l 47 = i ∧ i < l.length ∧ 47 ∉ l.take i ∧ l = l.take i ++ 47 :: l.drop (i + 1))
  | [] => .inl ⟨by simp, rfl⟩
  | b :: l => by
    by_cases hb : b = 47
    · subst hb
      exact .inr ⟨by simp, 0, by simp [Lib.indexByte], by simp, by simp, by simp⟩
    · have hb' : ¬ 47 = b := fun e => hb e.symm
      rcases ix_cases l with ⟨h1, h2⟩ | ⟨h1, i, h2, h3, h4, h5⟩
      · exact .inl ⟨by simp [hb', h1], by simp [Lib.indexByte, hb, h2]⟩
      · refine .inr ⟨by simp [h1], i + 1, ?_, by simp; omega, by simp [hb', h4], by simpa using h5⟩
        have : ¬ ((i : Int) = -1) := by omega
        simp [Lib.indexByte, hb, h2, this]
/-- where a text's first slash is; -1: nowhere -/
def six (s : ByteArray) : Int := Lib.indexByte s.data.toList 47
theorem six_cases (s : ByteArray) : (47 ∉ s.data.toList ∧ six s = -1) ∨ ((47 : UInt8) ∈ s.data.toList ∧ ∃ i : Nat, six s = i ∧ i < s.size ∧ 47 ∉ (s.extract 0 i).data.toList ∧ s.data.toList = (s.extract 0 i).data.toList ++ 47 :: (s.extract (i + 1) s.size).data.toList) := by
  rcases ix_cases s.data.toList with h | ⟨h1, i, h2, h3, h4, h5⟩
  · exact .inl h
  · refine .inr ⟨h1, i, h2, by simpa using h3, ?_, ?_⟩
    · rw [ext_data]; simpa using h4
    · rw [ext_data, ext_drop]; simpa using h5
/-- a text parted at its first n slashes -/
def spb : Nat → ByteArray → List ByteArray
  | 0, s => [s]
  | n + 1, s => if six s < 0 then [s] else s.extract 0 (six s).toNat :: spb n (s.extract ((six s).toNat + 1) s.size)
theorem spb_miss {s : ByteArray} (h : six s = -1) (n : Nat) : spb n s = [s] := by
  cases n with
  | zero => rfl
  | succ n => rw [spb, if_pos (by omega)]
theorem spb_hit {s : ByteArray} {i : Nat} (h : six s = i) (n : Nat) : spb (n + 1) s = s.extract 0 i :: spb n (s.extract (i + 1) s.size) := by
  rw [spb, if_neg (by omega), h, Int.toNat_natCast]
theorem spb_ne : ∀ (n : Nat) (s : ByteArray), (spb n s).length ≠ 0
  | 0, s => by simp [spb]
  | n + 1, s => by rw [spb]; split <;> simp
theorem spb_len : ∀ (n : Nat) (s : ByteArray), (spb n s).length ≤ n + 1
  | 0, s => by simp [spb]
  | n + 1, s => by
    rw [spb]; split
    · simp
    · have := spb_len n (s.extract ((six s).toNat + 1) s.size); simp; omega
theorem spb_size : ∀ (n : Nat) (s : ByteArray), ∀ x ∈ spb n s, x.size ≤ s.size
  | 0, s, x, h => by simp [spb] at h; subst h; exact Nat.le_refl _
  | n + 1, s, x, h => by
    rw [spb] at h; split at h
    · simp at h; subst h; exact Nat.le_refl _
    · rcases List.mem_cons.1 h with rfl | h
      · simp; omega
      · have := spb_size n _ x h; simp at this; omega
/-- parted and joined again -/
theorem spb_join : ∀ (n : Nat) (s : ByteArray), Lib.join ((spb n s).map (·.data.toList)) [47] = s.data.toList
  | 0, s => by simp [spb, Lib.join_one]
  | n + 1, s => by
    rcases six_cases s with ⟨_, h⟩ | ⟨_, i, h, _, _, h5⟩
    · rw [spb_miss h]; simp [Lib.join_one]
    · rw [spb_hit h]
      have ih := spb_join n (s.extract (i + 1) s.size)
      have hne := spb_ne n (s.extract (i + 1) s.size)
      match hl : spb n (s.extract (i + 1) s.size), hne with
      | a :: r, _ =>
        rw [hl, List.map_cons] at ih
        rw [List.map_cons, List.map_cons, Lib.join_cons]
        rw [Lib.join_cons] at ih
        rw [h5, ← ih]
        simp [Lib.joinTail]
/-- how many pieces: the same pieces, where there are fewer than asked for -/
theorem spb_more : ∀ (n m : Nat) (s : ByteArray), (spb n s).length ≤ n → n ≤ m → spb m s = spb n s
  | 0, m, s, h, _ => by simp [spb] at h
  | n + 1, m, s, h, hm => by
    obtain ⟨m', rfl⟩ : ∃ m', m = m' + 1 := ⟨m - 1, by omega⟩
    rcases six_cases s with ⟨_, h1⟩ | ⟨_, i, h1, _⟩
    · rw [spb_miss h1, spb_miss h1]
    · rw [spb_hit h1] at h ⊢
      rw [spb_hit h1, spb_more n m' _ (by simpa using h) (by omega)]
theorem spb_grow : ∀ (n m : Nat) (s : ByteArray), n ≤ m → (spb n s).length ≤ (spb m s).length
  | 0, m, s, _ => by have := spb_ne m s; simp [spb]; omega
  | n + 1, m, s, hm => by
    obtain ⟨m', rfl⟩ : ∃ m', m = m' + 1 := ⟨m - 1, by omega⟩
    rcases six_cases s with ⟨_, h1⟩ | ⟨_, i, h1, _⟩
    · rw [spb_miss h1, spb_miss h1]; exact Nat.le_refl _
    · rw [spb_hit h1, spb_hit h1]
      have := spb_grow n m' (s.extract (i + 1) s.size) (by omega)
      simp; omega
/-- joined and parted again -/
theorem join_spb : ∀ (p : List ByteArray) (n : Nat) (s : ByteArray), p.length ≠ 0 → p.length ≤ n + 1 → (∀ x ∈ p, (47 : UInt8) ∉ x.data.toList) → Lib.join (p.map (·.data.toList)) [47] = s.data.toList → spb n s = p
  | [], _, _, h, _, _, _ => by simp at h
  | [x], n, s, _, _, hp, hs => by
    rw [List.map_cons, List.map_nil, Lib.join_one] at hs
    obtain rfl := ba_ext' hs
    rcases six_cases x with ⟨_, h1⟩ | ⟨h1, _⟩
    · exact spb_miss h1 n
    · exact absurd h1 (hp x (by simp))
  | x :: y :: r, n, s, _, hn, hp, hs => by
    obtain ⟨n', rfl⟩ : ∃ n', n = n' + 1 := ⟨n - 1, by simp at hn; omega⟩
    have hj : s.data.toList = x.data.toList ++ 47 :: Lib.join ((y :: r).map (·.data.toList)) [47] := by
      rw [← hs, List.map_cons, Lib.join_cons, List.map_cons, Lib.join_cons]; simp [Lib.joinTail]
    have hx : (47 : UInt8) ∉ x.data.toList := hp x (by simp)
    rcases six_cases s with ⟨h1, _⟩ | ⟨_, i, h1, _, h3, h4⟩
    · exact absurd (by rw [hj]; simp) h1
    · have key : ∀ (a b c d : List UInt8), (47 : UInt8) ∉ a → 47 ∉ c → a ++ 47 :: b = c ++ 47 :: d → a = c ∧ b = d := by
        intro a
        induction a with
        | nil =>
          intro b c d _ hc h
          match c, hc with
          | [], _ => simpa using h
          | q :: c, hc => simp at h hc; exact absurd h.1 hc.1
        | cons q a ih =>
          intro b c d ha hc h
          match c, hc with
          | [], _ => simp at h ha; exact absurd h.1.symm ha.1
          | z :: c, hc =>
            simp at h ha hc
            obtain ⟨e1, e2⟩ := ih b c d ha.2 hc.2 h.2
            exact ⟨by rw [h.1, e1], e2⟩
      obtain ⟨e1, e2⟩ := key _ _ _ _ h3 hx (h4.symm.trans hj)
      rw [spb_hit h1, ba_ext' e1]
      have := join_spb (y :: r) n' (s.extract (i + 1) s.size) (by simp) (by simp at hn ⊢; omega) (fun z hz => hp z (List.mem_cons_of_mem _ hz)) e2.symm
      rw [this]
end Go.Proofs.YtoiehkpmemmldaaDoor
