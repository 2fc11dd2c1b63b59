import Derived.Test.YtcanbkgcgjaimaaPa
namespace Go.Proofs.Ytcanbkgcgjaimaa
open Go.Shelf Go.RowKit
/-- what the library's OnesCount64 reckons, step by step, as the walk spells it -/
def oc1 (x : Int) : Int := IntKind.u64.wrap (bits .and .u64 (x / 2) 6148914691236517205 + bits .and .u64 x 6148914691236517205)
def oc2 (y : Int) : Int := IntKind.u64.wrap (bits .and .u64 (y / 4) 3689348814741910323 + bits .and .u64 y 3689348814741910323)
def oc3 (y : Int) : Int := bits .and .u64 (IntKind.u64.wrap (y / 16 + y)) 1085102592571150095
def oc4 (y : Int) : Int := IntKind.u64.wrap (y + y / 256)
def oc5 (y : Int) : Int := IntKind.u64.wrap (y + y / 65536)
def oc6 (y : Int) : Int := IntKind.u64.wrap (y + y / 4294967296)
def oc (x : Int) : Int := bits .and .i64 (wrap64 (oc6 (oc5 (oc4 (oc3 (oc2 (oc1 x))))))) 127
theorem ones64 (x : Int) (_h0 : 0 ≤ x) (_h1 : x ≤ 16384) (w : World) :
    Calls Try.prog 21 #[.int .u64 x] w fun e w' => e = .returned (.int .i64 (oc x)) ∧ w' = w := by
  go_enter Try.func21, Try.ntmps21
  go_wp2
  go_ret
  exact ⟨rfl, rfl⟩
theorem ones17 (x : Int) (h0 : 0 ≤ x) (h1 : x ≤ 16384) (w : World) :
    Calls Try.prog 17 #[.int .u64 x] w fun e w' => e = .returned (.int .i64 (oc x)) ∧ w' = w := by
  go_enter Try.func17, Try.ntmps17
  go_wp2_with (go_at_call 21; refine (ones64 _ (by omega) (by omega) _).mono ?_; rintro e w' ⟨rfl, rfl⟩)
  go_ret
  exact ⟨rfl, rfl⟩
def pwb (n : Int) : Bool := n == 2 || n == 4 || n == 8 || n == 16 || n == 32 || n == 64 || n == 128 || n == 256 || n == 512
theorem oc_pow0 : ∀ a : Fin 513, 2 ≤ a.val → (oc ((a.val : Nat) : Int) != 1) = !pwb ((a.val : Nat) : Int) := by decide +kernel
theorem oc_pow (x : Int) (h0 : 2 ≤ x) (h1 : x ≤ 512) : (oc x != 1) = !pwb x := by
  have h := oc_pow0 ⟨x.toNat, by omega⟩ (by simp only; omega)
  have e : ((x.toNat : Nat) : Int) = x := by omega
  simp only [e] at h
  exact h
theorem p2s : p2 1 = 2 ∧ p2 2 = 4 ∧ p2 3 = 8 ∧ p2 4 = 16 ∧ p2 5 = 32 ∧ p2 6 = 64 ∧ p2 7 = 128 ∧ p2 8 = 256 ∧ p2 9 = 512 := by decide
theorem LG.range {l : Int} {r : Nat} (h : LG l r) (hr : 1 ≤ r) : 2 ≤ l ∧ l ≤ 512 := by
  rcases h with ⟨h1, h2, h3⟩ | ⟨h1, _⟩
  · have a := p2_mono h1; have b := p2_mono h2; have := p2s; omega
  · omega
theorem LG.pwb {l : Int} {r : Nat} (h : LG l r) : pwb l = decide (1 ≤ r) := by
  obtain ⟨e1, e2, e3, e4, e5, e6, e7, e8, e9⟩ := p2s
  unfold Ytcanbkgcgjaimaa.pwb
  rcases h with ⟨h1, h2, h3⟩ | ⟨h1, h2⟩
  · rw [decide_eq_true h1]
    match r, h1, h2 with
    | 1, _, _ => rw [h3, e1]; rfl
    | 2, _, _ => rw [h3, e2]; rfl
    | 3, _, _ => rw [h3, e3]; rfl
    | 4, _, _ => rw [h3, e4]; rfl
    | 5, _, _ => rw [h3, e5]; rfl
    | 6, _, _ => rw [h3, e6]; rfl
    | 7, _, _ => rw [h3, e7]; rfl
    | 8, _, _ => rw [h3, e8]; rfl
    | 9, _, _ => rw [h3, e9]; rfl
  · subst h1
    have a1 := h2 1; have a2 := h2 2; have a3 := h2 3; have a4 := h2 4; have a5 := h2 5; have a6 := h2 6; have a7 := h2 7; have a8 := h2 8; have a9 := h2 9
    rw [e1] at a1; rw [e2] at a2; rw [e3] at a3; rw [e4] at a4; rw [e5] at a5; rw [e6] at a6; rw [e7] at a7; rw [e8] at a8; rw [e9] at a9
    simp at a1 a2 a3 a4 a5 a6 a7 a8 a9 ⊢
    omega
/-- a number outside 2 .. 512, or one whose bits are not one, is no power -/
theorem LG.bad {l : Int} {r : Nat} (h : LG l r) (hl : l < 2 ∨ 512 < l ∨ oc l ≠ 1) : r = 0 := by
  rcases Nat.eq_zero_or_pos r with g | g
  · exact g
  · have hr := h.range g
    have hp := oc_pow l hr.1 hr.2
    rw [h.pwb, decide_eq_true (show 1 ≤ r from g)] at hp
    simp at hp
    omega
theorem LG.good {l : Int} {r : Nat} (h : LG l r) (h1 : 2 ≤ l) (h2 : l ≤ 512) (h3 : oc l = 1) : 1 ≤ r := by
  have hp := oc_pow l h1 h2
  rw [h.pwb, h3] at hp
  simp at hp
  omega
/-! ### tree.Height -/
theorem len_char : ∀ (f m : Nat), m < 2 ^ f → m < 2 ^ (Lib.bitLenAux f m) ∧ (0 < m → 2 ^ (Lib.bitLenAux f m) ≤ 2 * m)
  | 0, m, h => by
    have : m = 0 := by simpa using h
    subst this; exact ⟨by simp [Lib.bitLenAux], by omega⟩
  | f + 1, m, h => by
    simp only [Lib.bitLenAux]
    split
    · rename_i h0; subst h0; exact ⟨by simp, by omega⟩
    · obtain ⟨a, b⟩ := len_char f (m / 2) (by rw [Nat.pow_succ] at h; omega)
      rw [Nat.add_comm 1, Nat.pow_succ]
      refine ⟨by omega, fun _ => ?_⟩
      rcases Nat.eq_zero_or_pos (m / 2) with g | g
      · rw [g]
        have e : Lib.bitLenAux f 0 = 0 := by cases f <;> simp [Lib.bitLenAux]
        rw [e]; omega
      · have := b g; omega
theorem len_RI (n : Int) (h0 : 1 ≤ n) (h1 : n ≤ 1048576) : RI n (Lib.bitLen (n.toNat - 1)) := by
  obtain ⟨a, b⟩ := len_char 64 (n.toNat - 1) (by omega)
  have a' : n.toNat - 1 < 2 ^ Lib.bitLen (n.toNat - 1) := a
  have b' : 0 < n.toNat - 1 → 2 ^ Lib.bitLen (n.toNat - 1) ≤ 2 * (n.toNat - 1) := b
  refine ⟨?_, fun j hj => ?_⟩
  · unfold p2; omega
  · have hs := p2_mono (show j + 1 ≤ _ from hj)
    rw [p2_succ] at hs
    have hz : 0 < n.toNat - 1 := by
      rcases Nat.eq_zero_or_pos (n.toNat - 1) with g | g
      · rw [g] at hj
        have e : Lib.bitLen 0 = 0 := rfl
        rw [e] at hj; omega
      · exact g
    have := b' hz
    unfold p2 at hs ⊢
    omega
theorem trise19 (n : Int) (h0 : 1 ≤ n) (h1 : n ≤ 1048576) (w : World) :
    Calls Try.prog 19 #[.int .i64 n] w fun e w' => ∃ r : Nat, e = .returned (.int .i64 r) ∧ RI n r ∧ w' = w := by
  have hr := len_RI n h0 h1
  go_enter Try.func19, Try.ntmps19
  go_wp2_with fail
  refine (Any.bits_Len lays125 (n - 1) _ (by omega) (by omega)).mono ?_
  rintro e w' ⟨rfl, rfl⟩
  rw [show (n - 1).toNat = n.toNat - 1 by omega]
  generalize Lib.bitLen (n.toNat - 1) = r at *
  have H : Hid (RI n r) := hr
  clear hr
  go_wp2
  go_ret
  exact ⟨r, rfl, H.out, rfl⟩
end Go.Proofs.Ytcanbkgcgjaimaa
