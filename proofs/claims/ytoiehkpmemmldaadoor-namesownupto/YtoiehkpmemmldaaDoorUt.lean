import Derived.Laws.RangeAny
namespace Go.Proofs.YtoiehkpmemmldaaDoor
open Go

def bt (s : ByteArray) (i : Nat) : Nat := (s.get! i).toNat
theorem bt_lt (s : ByteArray) (i : Nat) : bt s i < 256 := (s.get! i).toNat_lt
/-- a later byte -/
def ct (x : Nat) : Prop := 128 ≤ x ∧ x ≤ 191
/-- the width that a first byte tells -/
def wd (c : Nat) : Nat := if c < 128 then 1 else if 192 ≤ c ∧ c < 224 then 2 else if 224 ≤ c ∧ c < 240 then 3 else if 240 ≤ c ∧ c < 248 then 4 else 0
def C2 (s : ByteArray) (i : Nat) : Prop := i + 2 ≤ s.size ∧ (128 ≤ bt s (i+1) ∧ bt s (i+1) ≤ 191) ∧ 194 ≤ bt s i
def C3 (s : ByteArray) (i : Nat) : Prop := i + 3 ≤ s.size ∧ (128 ≤ bt s (i+1) ∧ bt s (i+1) ≤ 191) ∧ (128 ≤ bt s (i+2) ∧ bt s (i+2) ≤ 191) ∧ 2048 ≤ (bt s i - 224) * 4096 + (bt s (i+1) - 128) * 64 + (bt s (i+2) - 128) ∧ ¬ (55296 ≤ (bt s i - 224) * 4096 + (bt s (i+1) - 128) * 64 + (bt s (i+2) - 128) ∧ (bt s i - 224) * 4096 + (bt s (i+1) - 128) * 64 + (bt s (i+2) - 128) ≤ 57343)
def C4 (s : ByteArray) (i : Nat) : Prop := i + 4 ≤ s.size ∧ (128 ≤ bt s (i+1) ∧ bt s (i+1) ≤ 191) ∧ (128 ≤ bt s (i+2) ∧ bt s (i+2) ≤ 191) ∧ (128 ≤ bt s (i+3) ∧ bt s (i+3) ≤ 191) ∧ 65536 ≤ (bt s i - 240) * 262144 + (bt s (i+1) - 128) * 4096 + (bt s (i+2) - 128) * 64 + (bt s (i+3) - 128) ∧ (bt s i - 240) * 262144 + (bt s (i+1) - 128) * 4096 + (bt s (i+2) - 128) * 64 + (bt s (i+3) - 128) ≤ 1114111
instance (s : ByteArray) (i : Nat) : Decidable (C2 s i) := by unfold C2; infer_instance
instance (s : ByteArray) (i : Nat) : Decidable (C3 s i) := by unfold C3; infer_instance
instance (s : ByteArray) (i : Nat) : Decidable (C4 s i) := by unfold C4; infer_instance

/-- how many bytes the well-formed sequence at i has, 0 where there is none -/
def fm (s : ByteArray) (i : Nat) : Nat :=
  if bt s i < 128 then 1 else if 192 ≤ bt s i ∧ bt s i < 224 then (if C2 s i then 2 else 0) else if 224 ≤ bt s i ∧ bt s i < 240 then (if C3 s i then 3 else 0)
  else if 240 ≤ bt s i ∧ bt s i < 248 then (if C4 s i then 4 else 0) else 0
theorem fm1 {s : ByteArray} {i : Nat} (h : bt s i < 128) : fm s i = 1 := by simp [fm, h]
theorem fm2 {s : ByteArray} {i : Nat} (h : 192 ≤ bt s i ∧ bt s i < 224) : fm s i = if C2 s i then 2 else 0 := by
  unfold fm; rw [if_neg (by omega), if_pos h]
theorem fm3 {s : ByteArray} {i : Nat} (h : 224 ≤ bt s i ∧ bt s i < 240) : fm s i = if C3 s i then 3 else 0 := by
  unfold fm; rw [if_neg (by omega), if_neg (by omega), if_pos h]
theorem fm4 {s : ByteArray} {i : Nat} (h : 240 ≤ bt s i ∧ bt s i < 248) : fm s i = if C4 s i then 4 else 0 := by
  unfold fm; rw [if_neg (by omega), if_neg (by omega), if_neg (by omega), if_pos h]
theorem fm0 {s : ByteArray} {i : Nat} (h : (128 ≤ bt s i ∧ bt s i < 192) ∨ 248 ≤ bt s i) : fm s i = 0 := by
  unfold fm; rw [if_neg (by omega), if_neg (by omega), if_neg (by omega), if_neg (by omega)]

theorem dec_eq (s : ByteArray) (i : Nat) : Utf8.decode s i = 
  (if bt s i < 128 then (bt s i, 1)
  else if bt s i / 32 = 6 ∧ i + 1 < s.size ∧ bt s (i+1) / 64 = 2 then
    (if 128 ≤ (bt s i % 32) * 64 + bt s (i+1) % 64 then ((bt s i % 32) * 64 + bt s (i+1) % 64, 2) else (65533, 1))
  else if (bt s i / 16 = 14 ∧ i + 1 < s.size ∧ bt s (i+1) / 64 = 2) ∧ i + 2 < s.size ∧ bt s (i+2) / 64 = 2 then
    (if 2048 ≤ (bt s i % 16) * 4096 + (bt s (i+1) % 64) * 64 + bt s (i+2) % 64 ∧ Utf8.valid ((bt s i % 16) * 4096 + (bt s (i+1) % 64) * 64 + bt s (i+2) % 64 : Nat) = true then ((bt s i % 16) * 4096 + (bt s (i+1) % 64) * 64 + bt s (i+2) % 64, 3) else (65533, 1))
  else if ((bt s i / 8 = 30 ∧ i + 1 < s.size ∧ bt s (i+1) / 64 = 2) ∧ i + 2 < s.size ∧ bt s (i+2) / 64 = 2) ∧ i + 3 < s.size ∧ bt s (i+3) / 64 = 2 then
    (if 65536 ≤ (bt s i % 8) * 262144 + (bt s (i+1) % 64) * 4096 + (bt s (i+2) % 64) * 64 + bt s (i+3) % 64 ∧ Utf8.valid ((bt s i % 8) * 262144 + (bt s (i+1) % 64) * 4096 + (bt s (i+2) % 64) * 64 + bt s (i+3) % 64 : Nat) = true then ((bt s i % 8) * 262144 + (bt s (i+1) % 64) * 4096 + (bt s (i+2) % 64) * 64 + bt s (i+3) % 64, 4) else (65533, 1))
  else (65533, 1)) := by
  simp only [Utf8.decode, Bool.and_eq_true, decide_eq_true_eq, beq_iff_eq, Utf8.runeError, ge_iff_le]
  rfl
theorem valid_iff (n : Nat) : Utf8.valid (n : Int) = true ↔ (n < 55296 ∨ (57344 ≤ n ∧ n ≤ 1114111)) := by
  simp only [Utf8.valid, Bool.or_eq_true, Bool.and_eq_true, decide_eq_true_eq]; omega
theorem dec1 {s : ByteArray} {i : Nat} (h : bt s i < 128) : Utf8.decode s i = (bt s i, 1) := by rw [dec_eq, if_pos h]
theorem dec0 {s : ByteArray} {i : Nat} (h : (128 ≤ bt s i ∧ bt s i < 192) ∨ 248 ≤ bt s i) : Utf8.decode s i = (65533, 1) := by
  have := bt_lt s i
  rw [dec_eq, if_neg (by omega), if_neg (by omega), if_neg (by omega), if_neg (by omega)]
theorem dec2 {s : ByteArray} {i : Nat} (h : 192 ≤ bt s i ∧ bt s i < 224) : Utf8.decode s i = if C2 s i then ((bt s i - 192) * 64 + (bt s (i+1) - 128), 2) else (65533, 1) := by
  have := bt_lt s (i+1)
  rw [dec_eq, if_neg (by omega)]
  by_cases k : i + 1 < s.size ∧ bt s (i+1) / 64 = 2
  · rw [if_pos ⟨by omega, k⟩]
    by_cases m : C2 s i
    · rw [if_pos m]; unfold C2 at m; rw [if_pos (by omega)]; exact congrArg (·, 2) (by omega)
    · rw [if_neg m]; unfold C2 at m; rw [if_neg (by omega)]
  · have m : ¬ C2 s i := by unfold C2; omega
    rw [if_neg m, if_neg (by omega), if_neg (by omega), if_neg (by omega)]
theorem dec3 {s : ByteArray} {i : Nat} (h : 224 ≤ bt s i ∧ bt s i < 240) : Utf8.decode s i = if C3 s i then ((bt s i - 224) * 4096 + (bt s (i+1) - 128) * 64 + (bt s (i+2) - 128), 3) else (65533, 1) := by
  have := bt_lt s (i+1); have := bt_lt s (i+2)
  rw [dec_eq, if_neg (by omega), if_neg (by omega)]
  by_cases k : (i + 1 < s.size ∧ bt s (i+1) / 64 = 2) ∧ i + 2 < s.size ∧ bt s (i+2) / 64 = 2
  · rw [if_pos ⟨⟨by omega, k.1⟩, k.2⟩]; simp only [valid_iff]
    have e : (bt s i % 16) * 4096 + (bt s (i+1) % 64) * 64 + bt s (i+2) % 64 = (bt s i - 224) * 4096 + (bt s (i+1) - 128) * 64 + (bt s (i+2) - 128) := by omega
    simp only [e]
    by_cases m : C3 s i
    · rw [if_pos m]; unfold C3 at m; rw [if_pos (by omega)]
    · rw [if_neg m]; unfold C3 at m; rw [if_neg (by omega)]
  · have m : ¬ C3 s i := by unfold C3; omega
    rw [if_neg m, if_neg (by omega), if_neg (by omega)]
theorem dec4 {s : ByteArray} {i : Nat} (h : 240 ≤ bt s i ∧ bt s i < 248) : Utf8.decode s i = if C4 s i then ((bt s i - 240) * 262144 + (bt s (i+1) - 128) * 4096 + (bt s (i+2) - 128) * 64 + (bt s (i+3) - 128), 4) else (65533, 1) := by
  have := bt_lt s (i+1); have := bt_lt s (i+2); have := bt_lt s (i+3)
  rw [dec_eq, if_neg (by omega), if_neg (by omega), if_neg (by omega)]
  by_cases k : ((i + 1 < s.size ∧ bt s (i+1) / 64 = 2) ∧ i + 2 < s.size ∧ bt s (i+2) / 64 = 2) ∧ i + 3 < s.size ∧ bt s (i+3) / 64 = 2
  · rw [if_pos ⟨⟨⟨by omega, k.1.1⟩, k.1.2⟩, k.2⟩]; simp only [valid_iff]
    have e : (bt s i % 8) * 262144 + (bt s (i+1) % 64) * 4096 + (bt s (i+2) % 64) * 64 + bt s (i+3) % 64 = (bt s i - 240) * 262144 + (bt s (i+1) - 128) * 4096 + (bt s (i+2) - 128) * 64 + (bt s (i+3) - 128) := by omega
    simp only [e]
    by_cases m : C4 s i
    · rw [if_pos m]; unfold C4 at m; rw [if_pos (by omega)]
    · rw [if_neg m]; unfold C4 at m; rw [if_neg (by omega)]
  · have m : ¬ C4 s i := by unfold C4; omega
    rw [if_neg m, if_neg (by omega)]

theorem fm_zero {s : ByteArray} {i : Nat} (h : fm s i = 0) : Utf8.decode s i = (65533, 1) := by
  by_cases h1 : bt s i < 128
  · rw [fm1 h1] at h; omega
  by_cases h2 : 192 ≤ bt s i ∧ bt s i < 224
  · rw [fm2 h2] at h; rw [dec2 h2]; split at h <;> simp_all
  by_cases h3 : 224 ≤ bt s i ∧ bt s i < 240
  · rw [fm3 h3] at h; rw [dec3 h3]; split at h <;> simp_all
  by_cases h4 : 240 ≤ bt s i ∧ bt s i < 248
  · rw [fm4 h4] at h; rw [dec4 h4]; split at h <;> simp_all
  exact dec0 (by omega)
/-- what a sequence that is there decodes to -/
theorem fm_some {s : ByteArray} {i : Nat} (h : fm s i ≠ 0) : (Utf8.decode s i).2 = fm s i ∧ ((Utf8.decode s i).1 = 65533 → fm s i = 3 ∧ i + 3 ≤ s.size ∧ bt s i = 239 ∧ bt s (i+1) = 191 ∧ bt s (i+2) = 189) := by
  by_cases h1 : bt s i < 128
  · rw [dec1 h1, fm1 h1]; exact ⟨rfl, fun h => absurd h (by show ¬ bt s i = _; omega)⟩
  by_cases h2 : 192 ≤ bt s i ∧ bt s i < 224
  · rw [fm2 h2] at h ⊢; rw [dec2 h2]
    by_cases c : C2 s i
    · rw [if_pos c, if_pos c]; refine ⟨rfl, fun h => absurd h ?_⟩
      show ¬ (bt s i - 192) * 64 + (bt s (i+1) - 128) = 65533
      unfold C2 at c; omega
    · rw [if_neg c] at h; exact absurd rfl h
  by_cases h3 : 224 ≤ bt s i ∧ bt s i < 240
  · rw [fm3 h3] at h ⊢; rw [dec3 h3]
    by_cases c : C3 s i
    · rw [if_pos c, if_pos c]; refine ⟨rfl, fun h => ?_⟩
      have h' : (bt s i - 224) * 4096 + (bt s (i+1) - 128) * 64 + (bt s (i+2) - 128) = 65533 := h
      unfold C3 at c; omega
    · rw [if_neg c] at h; exact absurd rfl h
  by_cases h4 : 240 ≤ bt s i ∧ bt s i < 248
  · rw [fm4 h4] at h ⊢; rw [dec4 h4]
    by_cases c : C4 s i
    · rw [if_pos c, if_pos c]; refine ⟨rfl, fun h => ?_⟩
      have h' : (bt s i - 240) * 262144 + (bt s (i+1) - 128) * 4096 + (bt s (i+2) - 128) * 64 + (bt s (i+3) - 128) = 65533 := h
      unfold C4 at c; omega
    · rw [if_neg c] at h; exact absurd rfl h
  exact absurd (fm0 (by omega)) h
theorem fm_le {s : ByteArray} {i : Nat} (h : i < s.size) : i + fm s i ≤ s.size ∧ fm s i ≤ 4 := by
  have c2 : C2 s i → i + 2 ≤ s.size := fun c => c.1
  have c3 : C3 s i → i + 3 ≤ s.size := fun c => c.1
  have c4 : C4 s i → i + 4 ≤ s.size := fun c => c.1
  unfold fm; repeat' split
  all_goals simp_all
  all_goals omega
/-- a sign of 128 and above: all its bytes are of 128 and above; one below is its one byte -/
theorem dec_bytes (s : ByteArray) (i : Nat) : ((Utf8.decode s i).1 < 128 → (Utf8.decode s i).2 = 1 ∧ (Utf8.decode s i).1 = bt s i) ∧ (128 ≤ (Utf8.decode s i).1 → ∀ j, i ≤ j → j < i + (Utf8.decode s i).2 → 128 ≤ bt s j) := by
  by_cases h1 : bt s i < 128
  · rw [dec1 h1]; exact ⟨fun _ => ⟨rfl, rfl⟩, fun h => absurd h (by show ¬ 128 ≤ bt s i; omega)⟩
  have one : ∀ j, i ≤ j → j < i + 1 → 128 ≤ bt s j := by
    intro j a b; have : j = i := by omega
    rw [this]; omega
  by_cases h2 : 192 ≤ bt s i ∧ bt s i < 224
  · rw [dec2 h2]
    split
    · rename_i c; unfold C2 at c
      refine ⟨fun h => absurd h (by show ¬ (bt s i - 192) * 64 + (bt s (i+1) - 128) < 128; omega), fun _ j a b => ?_⟩
      have b' : j < i + 2 := b
      rcases (by omega : j = i ∨ j = i+1) with rfl | rfl <;> omega
    · exact ⟨fun h => absurd h (by decide), fun _ => one⟩
  by_cases h3 : 224 ≤ bt s i ∧ bt s i < 240
  · rw [dec3 h3]
    split
    · rename_i c; unfold C3 at c
      refine ⟨fun h => absurd h (by show ¬ (bt s i - 224) * 4096 + (bt s (i+1) - 128) * 64 + (bt s (i+2) - 128) < 128; omega), fun _ j a b => ?_⟩
      have b' : j < i + 3 := b
      rcases (by omega : j = i ∨ j = i+1 ∨ j = i+2) with rfl | rfl | rfl <;> omega
    · exact ⟨fun h => absurd h (by decide), fun _ => one⟩
  by_cases h4 : 240 ≤ bt s i ∧ bt s i < 248
  · rw [dec4 h4]
    split
    · rename_i c; unfold C4 at c
      refine ⟨fun h => absurd h (by show ¬ (bt s i - 240) * 262144 + (bt s (i+1) - 128) * 4096 + (bt s (i+2) - 128) * 64 + (bt s (i+3) - 128) < 128; omega), fun _ j a b => ?_⟩
      have b' : j < i + 4 := b
      rcases (by omega : j = i ∨ j = i+1 ∨ j = i+2 ∨ j = i+3) with rfl | rfl | rfl | rfl <;> omega
    · exact ⟨fun h => absurd h (by decide), fun _ => one⟩
  have := bt_lt s i
  rw [dec0 (by omega)]
  exact ⟨fun h => absurd h (by decide), fun _ => one⟩
theorem dec_pos (s : ByteArray) (i : Nat) : 1 ≤ (Utf8.decode s i).2 ∧ (i < s.size → i + (Utf8.decode s i).2 ≤ s.size) := by
  by_cases h : fm s i = 0
  · rw [fm_zero h]; exact ⟨by decide, fun h => h⟩
  · rw [(fm_some h).1]; exact ⟨by omega, fun h => (fm_le h).1⟩

/-- the first place, from i on, at which no sequence is; -1: none -/
def ua (s : ByteArray) (i : Nat) : Int := if _h : i < s.size then (if fm s i = 0 then (i : Int) else ua s (i + fm s i)) else -1
termination_by s.size - i
decreasing_by omega
theorem ua_end {s : ByteArray} {i : Nat} (h : ¬ i < s.size) : ua s i = -1 := by rw [ua, dif_neg h]
theorem ua_bad {s : ByteArray} {i : Nat} (h : i < s.size) (f : fm s i = 0) : ua s i = i := by rw [ua, dif_pos h, if_pos f]
theorem ua_on {s : ByteArray} {i : Nat} (h : i < s.size) (f : fm s i ≠ 0) : ua s i = ua s (i + fm s i) := by rw [ua, dif_pos h, if_neg f]
theorem ua_ge (s : ByteArray) : ∀ (n i : Nat), s.size - i ≤ n → (ua s i = -1 ∨ ((i : Int) ≤ ua s i ∧ ua s i < s.size)) := by
  intro n
  induction n with
  | zero => intro i h; left; exact ua_end (by omega)
  | succ n ih =>
    intro i h
    by_cases k : i < s.size
    · by_cases f : fm s i = 0
      · rw [ua_bad k f]; right; omega
      · rw [ua_on k f]; rcases ih (i + fm s i) (by omega) with e | e <;> omega
    · left; exact ua_end k
theorem ua_neg {s : ByteArray} (h : ¬ ua s 0 = -1) : 0 ≤ ua s 0 ∧ ua s 0 < s.size := by
  rcases ua_ge s s.size 0 (by omega) with e | e
  · exact absurd e h
  · exact e
end Go.Proofs.YtoiehkpmemmldaaDoor
