import Derived.Laws.BitsAllLaws
namespace Go.Proofs.YtkeemkjokdbhlaaGreatDoor
/-- a list's byte -/
def byt (l : List UInt8) (i : Nat) : UInt8 := l.getD i 0
/-- bit i, the high bit first -/
def bit (l : List UInt8) (i : Nat) : Bool := (byt l (i / 8)).toNat.testBit (7 - i % 8)
def mk (j : Nat) : Nat := 2 ^ (7 - j)
theorem mk_lt (j : Nat) : mk j < 256 := by
  have : 2 ^ (7 - j) ≤ 2 ^ 7 := Nat.pow_le_pow_right (by omega) (by omega)
  unfold mk; omega
theorem mk_pos (j : Nat) : 0 < mk j := Nat.pos_of_ne_zero (by unfold mk; exact Nat.ne_of_gt (Nat.two_pow_pos _))
theorem and_mk_fin : ∀ (x : Fin 256) (j : Fin 8), ((x.val &&& mk j.val) == 0) = !(x.val.testBit (7 - j.val)) := by decide +kernel
theorem and_mk (c : UInt8) (j : Nat) (hj : j < 8) : ((c.toNat &&& mk j) == 0) = !(c.toNat.testBit (7 - j)) := and_mk_fin ⟨c.toNat, c.toNat_lt⟩ ⟨j, hj⟩
theorem div_mk_fin : ∀ (x : Fin 256) (j : Fin 8), (x.val / mk j.val % 2 == 1) = x.val.testBit (7 - j.val) := by decide +kernel
theorem div_mk (c : UInt8) (j : Nat) (hj : j < 8) : (c.toNat / mk j % 2 == 1) = c.toNat.testBit (7 - j) := div_mk_fin ⟨c.toNat, c.toNat_lt⟩ ⟨j, hj⟩
theorem add_mk_fin : ∀ (x : Fin 256) (j : Fin 8), x.val.testBit (7 - j.val) = false → x.val + mk j.val = (x.val ||| mk j.val) ∧ x.val + mk j.val < 256 := by decide +kernel
theorem add_mk (c : UInt8) (j : Nat) (hj : j < 8) (h : c.toNat.testBit (7 - j) = false) : c.toNat + mk j = (c.toNat ||| mk j) ∧ c.toNat + mk j < 256 := add_mk_fin ⟨c.toNat, c.toNat_lt⟩ ⟨j, hj⟩ h
/-- the byte with its bit j on -/
def on (c : UInt8) (j : Nat) : UInt8 := UInt8.ofNat (c.toNat ||| mk j)
def off (c : UInt8) (j : Nat) : UInt8 := UInt8.ofNat (c.toNat &&& (255 - mk j))
theorem or_lt (c : UInt8) (j : Nat) : (c.toNat ||| mk j) < 256 := Nat.or_lt_two_pow (n := 8) c.toNat_lt (mk_lt j)
theorem on_toNat (c : UInt8) (j : Nat) : (on c j).toNat = (c.toNat ||| mk j) := by
  unfold on; rw [UInt8.toNat_ofNat']; exact Nat.mod_eq_of_lt (or_lt c j)
theorem off_toNat (c : UInt8) (j : Nat) : (off c j).toNat = (c.toNat &&& (255 - mk j)) := by
  unfold off; rw [UInt8.toNat_ofNat']; exact Nat.mod_eq_of_lt (Nat.lt_of_le_of_lt Nat.and_le_left c.toNat_lt)
theorem on_bit (c : UInt8) (j k : Nat) (hj : j < 8) (hk : k < 8) : (on c j).toNat.testBit (7 - k) = (decide (k = j) || c.toNat.testBit (7 - k)) := by
  rw [on_toNat, Nat.testBit_or]; unfold mk; rw [Nat.testBit_two_pow, Bool.or_comm]
  congr 1
  exact decide_eq_decide.2 (by omega)
theorem off_fin : ∀ (j k : Fin 8), (255 - mk j.val).testBit (7 - k.val) = !decide (k.val = j.val) := by decide +kernel
theorem off_bit (c : UInt8) (j k : Nat) (hj : j < 8) (hk : k < 8) : (off c j).toNat.testBit (7 - k) = (!decide (k = j) && c.toNat.testBit (7 - k)) := by
  rw [off_toNat, Nat.testBit_and, off_fin ⟨j, hj⟩ ⟨k, hk⟩, Bool.and_comm]
theorem byt_set (l : List UInt8) (q k : Nat) (c : UInt8) (hq : q < l.length) : byt (l.set q c) k = if k = q then c else byt l k := by
  unfold byt
  simp only [List.getD_eq_getElem?_getD, List.getElem?_set]
  by_cases h : q = k
  · subst h; simp [hq]
  · rw [if_neg h, if_neg (fun h' => h h'.symm)]
theorem bit_set_on (l : List UInt8) (i k : Nat) (hi : i / 8 < l.length) : bit (l.set (i / 8) (on (byt l (i / 8)) (i % 8))) k = (decide (k = i) || bit l k) := by
  unfold bit
  rw [byt_set _ _ _ _ hi]
  by_cases h : k / 8 = i / 8
  · rw [if_pos h, on_bit _ _ _ (Nat.mod_lt _ (by omega)) (Nat.mod_lt _ (by omega)), h]
    congr 1
    exact decide_eq_decide.2 (by omega)
  · rw [if_neg h]
    have : k ≠ i := fun h' => h (by rw [h'])
    simp [this]
theorem bit_set_off (l : List UInt8) (i k : Nat) (hi : i / 8 < l.length) : bit (l.set (i / 8) (off (byt l (i / 8)) (i % 8))) k = (!decide (k = i) && bit l k) := by
  unfold bit
  rw [byt_set _ _ _ _ hi]
  by_cases h : k / 8 = i / 8
  · rw [if_pos h, off_bit _ _ _ (Nat.mod_lt _ (by omega)) (Nat.mod_lt _ (by omega)), h]
    congr 2
    exact decide_eq_decide.2 (by omega)
  · rw [if_neg h]
    have : k ≠ i := fun h' => h (by rw [h'])
    simp [this]
theorem bit_beyond (l : List UInt8) (i : Nat) (h : 8 * l.length ≤ i) : bit l i = false := by
  unfold bit byt
  rw [List.getD_eq_getElem?_getD, List.getElem?_eq_none (by omega)]
  simp
theorem bits_ext {l r : List UInt8} (hl : l.length = r.length) (h : ∀ i, bit l i = bit r i) : l = r := by
  apply List.ext_getElem hl
  intro q h1 h2
  have hq : ∀ k, k < 8 → l[q].toNat.testBit k = r[q].toNat.testBit k := by
    intro k hk
    have := h (8 * q + (7 - k))
    unfold bit byt at this
    rw [show (8 * q + (7 - k)) / 8 = q by omega, show 7 - (8 * q + (7 - k)) % 8 = k by omega] at this
    simpa [List.getD_eq_getElem?_getD, List.getElem?_eq_getElem h1, List.getElem?_eq_getElem h2] using this
  apply UInt8.toNat_inj.1
  apply Nat.eq_of_testBit_eq
  intro k
  by_cases hk : k < 8
  · exact hq k hk
  · have h3 : ∀ c : UInt8, c.toNat.testBit k = false := fun c => Nat.testBit_lt_two_pow (Nat.lt_of_lt_of_le c.toNat_lt (Nat.pow_le_pow_right (n := 2) (i := 8) (by omega) (by omega)))
    rw [h3, h3]
/-- the bitfield of n bits that has just the bits of f -/
def BF (n : Nat) (f : Nat → Bool) (r : List UInt8) : Prop := r.length = (n + 7) / 8 ∧ ∀ i, bit r i = (decide (i < n) && f i)
theorem BF.unique {n : Nat} {f g : Nat → Bool} {r s : List UInt8} (h : BF n f r) (k : BF n g s) (e : ∀ i, i < n → f i = g i) : r = s := by
  apply bits_ext (h.1.trans k.1.symm)
  intro i
  rw [h.2, k.2]
  by_cases hi : i < n
  · rw [e i hi]
  · simp [hi]
theorem bit_zeros (m i : Nat) : bit (List.replicate m 0) i = false := by
  unfold bit byt
  simp only [List.getD_eq_getElem?_getD, List.getElem?_replicate]
  split <;> simp
/-- what Check answers -/
def ck (n : Int) (l : List UInt8) : Int :=
  if n < 0 ∨ 65536 < n then 40 else if (l.length : Int) ≠ (n + 7) / 8 then 41 else if (List.range (8 * l.length)).any (fun i => decide (n ≤ i) && bit l i) then 42 else 0
theorem ck_ok {n : Int} {l : List UInt8} (h : ck n l = 0) : 0 ≤ n ∧ n ≤ 65536 ∧ l.length = (n.toNat + 7) / 8 ∧ ∀ i, n.toNat ≤ i → bit l i = false := by
  unfold ck at h
  split at h
  · simp at h
  · split at h
    · simp at h
    · split at h
      · simp at h
      · rename_i h1 h2 h3
        refine ⟨by omega, by omega, by omega, fun i hi => ?_⟩
        by_cases hb : 8 * l.length ≤ i
        · exact bit_beyond l i hb
        · simp only [List.any_eq_true, List.mem_range, Bool.and_eq_true, decide_eq_true_eq, not_exists, not_and] at h3
          have := h3 i (by omega) (by omega)
          simpa using this
theorem ck_bf {n : Int} {l : List UInt8} (h : ck n l = 0) : BF n.toNat (bit l) l := by
  obtain ⟨_, _, h3, h4⟩ := ck_ok h
  refine ⟨h3, fun i => ?_⟩
  by_cases hi : i < n.toNat
  · simp [hi]
  · rw [h4 i (by omega)]; simp
theorem spare_fin : ∀ (x : Fin 256) (r : Fin 8), 0 < r.val → (x.val % (2 * mk r.val) == 0) = (List.range 8).all (fun j => decide (j < r.val) || !(x.val.testBit (7 - j))) := by decide +kernel
end Go.Proofs.YtkeemkjokdbhlaaGreatDoor
