import Derived.Test.YtfpokhcddjgfmabDoorBp
namespace Go.Proofs.YtfpokhcddjgfmabDoor
open Go.RowKit
theorem dl_append (a b : ByteArray) : (a ++ b).data.toList = a.data.toList ++ b.data.toList := by rw [ByteArray.data_append, Array.toList_append]
theorem sz_append (a b : ByteArray) : (a ++ b).size = a.size + b.size := ByteArray.size_append
theorem bt_left {a r : ByteArray} {i : Nat} (h : i < a.size) : bt (a ++ r) i = bt a i := by
  rw [bt_list, bt_list, dl_append, List.getElem?_append_left (by simpa using h)]
theorem bt_right {a r : ByteArray} {i : Nat} : bt (a ++ r) (a.size + i) = bt r i := by
  rw [bt_list, bt_list, dl_append, List.getElem?_append_right (by simp)]; simp
/-- the sequence at i has n bytes -/
def FS (s : ByteArray) (i n : Nat) : Prop := (n = 1 ∧ bt s i < 128) ∨ (n = 2 ∧ (192 ≤ bt s i ∧ bt s i < 224) ∧ C2 s i) ∨ (n = 3 ∧ (224 ≤ bt s i ∧ bt s i < 240) ∧ C3 s i) ∨ (n = 4 ∧ (240 ≤ bt s i ∧ bt s i < 248) ∧ C4 s i)
theorem fs_fm {s : ByteArray} {i n : Nat} (h : FS s i n) : fm s i = n := by
  rcases h with ⟨rfl, h⟩ | ⟨rfl, h, c⟩ | ⟨rfl, h, c⟩ | ⟨rfl, h, c⟩
  · exact fm1 h
  · rw [fm2 h, if_pos c]
  · rw [fm3 h, if_pos c]
  · rw [fm4 h, if_pos c]
theorem fm_fs {s : ByteArray} {i : Nat} (h : fm s i ≠ 0) : FS s i (fm s i) := by
  by_cases h1 : bt s i < 128
  · rw [fm1 h1]; exact .inl ⟨rfl, h1⟩
  by_cases h2 : 192 ≤ bt s i ∧ bt s i < 224
  · by_cases c : C2 s i
    · rw [fm2 h2, if_pos c]; exact .inr (.inl ⟨rfl, h2, c⟩)
    · rw [fm2 h2, if_neg c] at h; exact absurd rfl h
  by_cases h3 : 224 ≤ bt s i ∧ bt s i < 240
  · by_cases c : C3 s i
    · rw [fm3 h3, if_pos c]; exact .inr (.inr (.inl ⟨rfl, h3, c⟩))
    · rw [fm3 h3, if_neg c] at h; exact absurd rfl h
  by_cases h4 : 240 ≤ bt s i ∧ bt s i < 248
  · by_cases c : C4 s i
    · rw [fm4 h4, if_pos c]; exact .inr (.inr (.inr ⟨rfl, h4, c⟩))
    · rw [fm4 h4, if_neg c] at h; exact absurd rfl h
  · exact absurd (fm0 (by omega)) h
theorem fs_len {s : ByteArray} {i n : Nat} (h : FS s i n) (hi : i < s.size) : 1 ≤ n ∧ i + n ≤ s.size := by
  rcases h with ⟨rfl, h⟩ | ⟨rfl, h, c⟩ | ⟨rfl, h, c⟩ | ⟨rfl, h, c⟩
  · omega
  · exact ⟨by omega, c.1⟩
  · exact ⟨by omega, c.1⟩
  · exact ⟨by omega, c.1⟩
/-- a sequence within a stays in a and more -/
theorem fs_left {a r : ByteArray} {i n : Nat} (h : FS a i n) (hi : i < a.size) : FS (a ++ r) i n := by
  have hs := sz_append a r
  have b0 := bt_left (r := r) hi
  have b1 : i + 1 < a.size → bt (a ++ r) (i + 1) = bt a (i + 1) := fun h => bt_left h
  have b2 : i + 2 < a.size → bt (a ++ r) (i + 2) = bt a (i + 2) := fun h => bt_left h
  have b3 : i + 3 < a.size → bt (a ++ r) (i + 3) = bt a (i + 3) := fun h => bt_left h
  rcases h with ⟨rfl, h⟩ | ⟨rfl, h, c⟩ | ⟨rfl, h, c⟩ | ⟨rfl, h, c⟩
  · exact .inl ⟨rfl, by rw [b0]; exact h⟩
  · refine .inr (.inl ⟨rfl, by rw [b0]; exact h, ?_⟩)
    unfold C2 at c ⊢
    rw [b0, b1 (by omega)]; exact ⟨by omega, c.2⟩
  · refine .inr (.inr (.inl ⟨rfl, by rw [b0]; exact h, ?_⟩))
    unfold C3 at c ⊢
    rw [b0, b1 (by omega), b2 (by omega)]; exact ⟨by omega, c.2⟩
  · refine .inr (.inr (.inr ⟨rfl, by rw [b0]; exact h, ?_⟩))
    unfold C4 at c ⊢
    rw [b0, b1 (by omega), b2 (by omega), b3 (by omega)]; exact ⟨by omega, c.2⟩
/-- a sequence of a and more that ends within a is one of a -/
theorem fs_back {a r : ByteArray} {i n : Nat} (h : FS (a ++ r) i n) (hi : i < a.size) (hn : i + n ≤ a.size) : FS a i n := by
  have b0 := bt_left (r := r) hi
  have b1 : i + 1 < a.size → bt (a ++ r) (i + 1) = bt a (i + 1) := fun h => bt_left h
  have b2 : i + 2 < a.size → bt (a ++ r) (i + 2) = bt a (i + 2) := fun h => bt_left h
  have b3 : i + 3 < a.size → bt (a ++ r) (i + 3) = bt a (i + 3) := fun h => bt_left h
  rcases h with ⟨rfl, h⟩ | ⟨rfl, h, c⟩ | ⟨rfl, h, c⟩ | ⟨rfl, h, c⟩
  · exact .inl ⟨rfl, by rw [← b0]; exact h⟩
  · refine .inr (.inl ⟨rfl, by rw [← b0]; exact h, ?_⟩)
    unfold C2 at c ⊢
    rw [b0, b1 (by omega)] at c; exact ⟨by omega, c.2⟩
  · refine .inr (.inr (.inl ⟨rfl, by rw [← b0]; exact h, ?_⟩))
    unfold C3 at c ⊢
    rw [b0, b1 (by omega), b2 (by omega)] at c; exact ⟨by omega, c.2⟩
  · refine .inr (.inr (.inr ⟨rfl, by rw [← b0]; exact h, ?_⟩))
    unfold C4 at c ⊢
    rw [b0, b1 (by omega), b2 (by omega), b3 (by omega)] at c; exact ⟨by omega, c.2⟩
/-- behind a the sequences are those of what follows -/
theorem fm_right (a r : ByteArray) (j : Nat) : fm (a ++ r) (a.size + j) = fm r j := by
  have hs := sz_append a r
  have b0 : bt (a ++ r) (a.size + j) = bt r j := bt_right
  have b1 : bt (a ++ r) (a.size + j + 1) = bt r (j + 1) := by rw [Nat.add_assoc]; exact bt_right
  have b2 : bt (a ++ r) (a.size + j + 2) = bt r (j + 2) := by rw [Nat.add_assoc]; exact bt_right
  have b3 : bt (a ++ r) (a.size + j + 3) = bt r (j + 3) := by rw [Nat.add_assoc]; exact bt_right
  have e2 : C2 (a ++ r) (a.size + j) ↔ C2 r j := by unfold C2; rw [b0, b1, hs]; constructor <;> (rintro ⟨x, y⟩; exact ⟨by omega, y⟩)
  have e3 : C3 (a ++ r) (a.size + j) ↔ C3 r j := by unfold C3; rw [b0, b1, b2, hs]; constructor <;> (rintro ⟨x, y⟩; exact ⟨by omega, y⟩)
  have e4 : C4 (a ++ r) (a.size + j) ↔ C4 r j := by unfold C4; rw [b0, b1, b2, b3, hs]; constructor <;> (rintro ⟨x, y⟩; exact ⟨by omega, y⟩)
  unfold fm
  rw [b0]
  simp only [e2, e3, e4]
/-- a fault of a is one ahead of a plain sign too -/
theorem fm_fault {a r : ByteArray} {i : Nat} (hi : i < a.size) (h : fm a i = 0) (h0 : bt r 0 < 128) : fm (a ++ r) i = 0 := by
  refine Classical.byContradiction fun hc => ?_
  have hf := fm_fs hc
  generalize fm (a ++ r) i = n at hf
  by_cases hn : i + n ≤ a.size
  · have h1 := fs_back hf hi hn
    have h2 := fs_fm h1
    rw [h] at h2
    have := (fs_len h1 hi).1
    omega
  · have bk : bt (a ++ r) a.size < 128 := by have := bt_right (a := a) (r := r) (i := 0); rw [Nat.add_zero] at this; rw [this]; exact h0
    rcases hf with ⟨rfl, h⟩ | ⟨rfl, h, c⟩ | ⟨rfl, h, c⟩ | ⟨rfl, h, c⟩
    · omega
    · have e : a.size = i + 1 := by omega
      rw [e] at bk
      have := c.2.1; omega
    · unfold C3 at c
      by_cases e : a.size = i + 1
      · rw [e] at bk; omega
      · have e : a.size = i + 2 := by omega
        rw [e] at bk; omega
    · unfold C4 at c
      by_cases e : a.size = i + 1
      · rw [e] at bk; omega
      by_cases e : a.size = i + 2
      · rw [e] at bk; omega
      · have e : a.size = i + 3 := by omega
        rw [e] at bk; omega
theorem ua_left (a r : ByteArray) : ∀ (n i : Nat), a.size - i ≤ n → i ≤ a.size → ua a i = -1 → ua (a ++ r) i = ua (a ++ r) a.size := by
  intro n
  induction n with
  | zero => intro i h1 h2 _; rw [show i = a.size by omega]
  | succ n ih =>
    intro i h1 h2 hu
    by_cases hi : i < a.size
    · have hf : fm a i ≠ 0 := fun e => by rw [ua_bad hi e] at hu; omega
      rw [ua_on hi hf] at hu
      have h3 := fm_fs hf
      have h4 := fs_fm (fs_left (r := r) h3 hi)
      have h5 := fs_len h3 hi
      rw [ua_on (by rw [sz_append]; omega) (by rw [h4]; exact hf), h4]
      exact ih _ (by omega) h5.2 hu
    · rw [show i = a.size by omega]
theorem ua_right (a r : ByteArray) : ∀ (n j : Nat), r.size - j ≤ n → ua (a ++ r) (a.size + j) = if ua r j = -1 then -1 else a.size + ua r j := by
  intro n
  induction n with
  | zero =>
    intro j h
    rw [ua_end (by rw [sz_append]; omega), ua_end (by omega), if_pos rfl]
  | succ n ih =>
    intro j h
    by_cases hj : j < r.size
    · by_cases hf : fm r j = 0
      · rw [ua_bad (by rw [sz_append]; omega) (by rw [fm_right]; exact hf), ua_bad hj hf, if_neg (by omega)]; omega
      · have := fs_len (fm_fs hf) hj
        rw [ua_on (by rw [sz_append]; omega) (by rw [fm_right]; exact hf), ua_on hj hf, fm_right, Nat.add_assoc]
        exact ih _ (by omega)
    · rw [ua_end (by rw [sz_append]; omega), ua_end hj, if_pos rfl]
theorem ua_app {a r : ByteArray} (h : ua a 0 = -1) : ua (a ++ r) 0 = if ua r 0 = -1 then -1 else a.size + ua r 0 := by
  rw [ua_left a r a.size 0 (by omega) (Nat.zero_le _) h]
  exact ua_right a r r.size 0 (by omega)
theorem ua_keep {a r : ByteArray} (h0 : bt r 0 < 128) : ∀ (n i : Nat), a.size - i ≤ n → ¬ ua a i = -1 → ua (a ++ r) i = ua a i := by
  intro n
  induction n with
  | zero => intro i h hu; exact absurd (ua_end (by omega)) hu
  | succ n ih =>
    intro i h hu
    by_cases hi : i < a.size
    · by_cases hf : fm a i = 0
      · rw [ua_bad (by rw [sz_append]; omega) (fm_fault hi hf h0), ua_bad hi hf]
      · have h3 := fm_fs hf
        have h4 := fs_fm (fs_left (r := r) h3 hi)
        have h5 := fs_len h3 hi
        rw [ua_on hi hf] at hu ⊢
        rw [ua_on (by rw [sz_append]; omega) (by rw [h4]; exact hf), h4]
        exact ih _ (by omega) hu
    · exact absurd (ua_end hi) hu
end Go.Proofs.YtfpokhcddjgfmabDoor
