import Derived.Test.YtpojcdepifeniaaDoorOpenR
import Derived.Test.YtpojcdepifeniaaDoorCheck
namespace Go.Proofs.YtpojcdepifeniaaDoor
open Go.RowKit
/-- k is the first place from 'fr' on, below n, whose bit is 'on'; else n -/
def NX (n : Nat) (l : List UInt8) (fr : Nat) (on : Bool) (k : Nat) : Prop := fr ≤ k ∧ k ≤ n ∧ (∀ j, fr ≤ j → j < k → bit l j = !on) ∧ (k < n → bit l k = on)
theorem NX.unique {n : Nat} {l : List UInt8} {fr : Nat} {on : Bool} {k k' : Nat} (h : NX n l fr on k) (h' : NX n l fr on k') : k = k' := by
  obtain ⟨a1, a2, a3, a4⟩ := h
  obtain ⟨b1, b2, b3, b4⟩ := h'
  rcases Nat.lt_trichotomy k k' with h | h | h
  · have h1 := a4 (by omega)
    have h2 := b3 k a1 h
    rw [h1] at h2; cases on <;> simp at h2
  · exact h
  · have h1 := b4 (by omega)
    have h2 := a3 k' b1 h
    rw [h1] at h2; cases on <;> simp at h2
/-- what Next answers -/
def NR (n : Int) (l : List UInt8) (fr : Int) (on : Bool) (r er : Int) : Prop :=
  (ck n l ≠ 0 ∧ r = 0 ∧ er = ck n l) ∨ (ck n l = 0 ∧ (fr < 0 ∨ n < fr) ∧ r = 0 ∧ er = 43) ∨ (ck n l = 0 ∧ 0 ≤ fr ∧ fr ≤ n ∧ er = 0 ∧ ∃ k : Nat, r = k ∧ NX n.toNat l fr.toNat on k)
theorem NR.unique {n : Int} {l : List UInt8} {fr : Int} {on : Bool} {r er r' er' : Int} (h : NR n l fr on r er) (h' : NR n l fr on r' er') : r = r' ∧ er = er' := by
  rcases h with ⟨a1, a2, a3⟩ | ⟨a1, a2, a3, a4⟩ | ⟨a1, a2, a3, a4, k, a5, a6⟩
  · rcases h' with ⟨b1, b2, b3⟩ | ⟨b1, _⟩ | ⟨b1, _⟩
    · exact ⟨by omega, by omega⟩
    · exact absurd b1 a1
    · exact absurd b1 a1
  · rcases h' with ⟨b1, b2, b3⟩ | ⟨b1, b2, b3, b4⟩ | ⟨b1, b2, b3, b4⟩
    · exact absurd a1 b1
    · exact ⟨by omega, by omega⟩
    · omega
  · rcases h' with ⟨b1, b2, b3⟩ | ⟨b1, b2, b3, b4⟩ | ⟨b1, b2, b3, b4, k', b5, b6⟩
    · exact absurd a1 b1
    · omega
    · have := NX.unique a6 b6
      exact ⟨by omega, by omega⟩
set_option maxHeartbeats 1000000 in
theorem next21 (n : Int) (h0 : -9223372036854775808 ≤ n) (h1 : n ≤ 9223372036854775807) (v : Value) (l : List UInt8) (fr : Int) (g0 : -9223372036854775808 ≤ fr) (g1 : fr ≤ 9223372036854775807) (on : Bool) (w : World) (hr : RB w v l) (hm : MT w) (hl : l.length ≤ 140737488351232) :
    Calls Tryd.prog 21 #[.int .i64 n, v, .int .i64 fr, .bool on] w fun e w' => ∃ r er, e = .returned (.tuple #[.int .i64 r, .int .i64 er]) ∧ NR n l fr on r er ∧ ∃ nq, w' = w.drewN nq := by
  have HC : Hid (Calls Tryd.prog 10 #[.int .i64 n, v] w fun e w' => e = .returned (.int .i64 (ck n l)) ∧ ∃ nq, w' = w.drewN nq) := check10 n h0 h1 v l w hr hm hl
  have HR : Hid (RB w v l ∧ MT w) := ⟨hr, hm⟩
  clear hm
  obtain ⟨a, c, rfl, _⟩ := hr
  by_cases hck : ck n l = 0
  · obtain ⟨k0, k1, k2, k3⟩ := ck_ok hck
    obtain ⟨m, rfl⟩ := Int.eq_ofNat_of_zero_le k0
    have HCK : Hid (ck m l = 0 ∧ l.length = ((m : Int).toNat + 7) / 8) := ⟨hck, k2⟩
    rw [hck] at HC
    clear k3 k2 hck
    by_cases hfr : fr < 0 ∨ (m : Int) < fr
    · have HF : Hid (fr < 0 ∨ (m : Int) < fr) := hfr
      rcases hfr with hf | hf
      · go_enter Tryd.func21, Tryd.ntmps21
        go_wp2_with (go_at_call 10; refine HC.out.mono ?_; rintro e w1 ⟨rfl, nq, rfl⟩)
        go_ret2
        exact ⟨0, 43, rfl, .inr (.inl ⟨HCK.out.1, HF.out, rfl, rfl⟩), nq, rfl⟩
      · go_enter Tryd.func21, Tryd.ntmps21
        go_wp2_with (go_at_call 10; refine HC.out.mono ?_; rintro e w1 ⟨rfl, nq, rfl⟩)
        go_ret2
        exact ⟨0, 43, rfl, .inr (.inl ⟨HCK.out.1, HF.out, rfl, rfl⟩), nq, rfl⟩
    · obtain ⟨f, rfl⟩ := Int.eq_ofNat_of_zero_le (show 0 ≤ fr by omega)
      have hf1 : f ≤ m := by omega
      have hd : decide (m < f) = false := by simp; omega
      clear hfr g0 g1 h0 h1 k0
      go_enter Tryd.func21, Tryd.ntmps21
      go_wp2_with (go_at_call 10; refine HC.out.mono ?_; rintro e w1 ⟨rfl, nq0, rfl⟩)
      go_loopw [11] (fun i wr => ∃ (k nq : Nat), f ≤ k ∧ k ≤ m ∧ i = .int .i64 k ∧ wr = w.drewN nq ∧ ∀ j, f ≤ j → j < k → bit l j = !on) (fun i _ => m - (intOf i).toNat)
      case atStart => exact ⟨f, nq0, Nat.le_refl _, hf1, rfl, rfl, fun j h1 h2 => absurd h1 (by omega)⟩
      case round =>
        obtain ⟨k, nq, hk1, hk2, rfl, rfl, hb⟩ := hrel
        have HB : Hid (∀ j, f ≤ j → j < k → bit l j = !on) := hb
        clear hb
        by_cases hlt : k < m
        · have HC2 : Hid (Calls Tryd.prog 28 #[.slice a l.length c, .int .i64 k] (w.drewN nq) fun e w' => e = .returned (.bool (bit l k)) ∧ ∃ n, w' = (w.drewN nq).drewN n) :=
            has28 _ l k _ (HR.out.1.keep (belowDrew _ _)) (HR.out.2.keep (belowDrew _ _)) (by have := HCK.out.2; omega) hl
          by_cases hbit : bit l k = on
          · have HN : Hid (NX (m : Int).toNat l (f : Int).toNat on k) := ⟨hk1, hk2, HB.out, fun _ => hbit⟩
            rw [hbit] at HC2
            clear hbit
            cases on
            all_goals
              go_wp2_with (go_at_call 28; refine HC2.out.mono ?_; rintro e w1 ⟨rfl, nr, rfl⟩)
              go_ret2
              exact ⟨k, 0, rfl, .inr (.inr ⟨HCK.out.1, by omega, by omega, rfl, k, rfl, HN.out⟩), _, rfl⟩
          · have hbf : bit l k = !on := by cases on <;> simpa using hbit
            rw [hbf] at HC2
            have HB2 : Hid (∀ j, f ≤ j → j < k + 1 → bit l j = !on) := fun j h1 h2 => by
              by_cases h : j = k
              · rw [h]; exact hbf
              · exact HB.out j h1 (by omega)
            clear hbit hbf HB
            cases on
            all_goals
              go_wp2_with (go_at_call 28; refine HC2.out.mono ?_; rintro e w1 ⟨rfl, nr, rfl⟩)
              exact ⟨⟨k + 1, _, by omega, by omega, by go_num, rfl, HB2.out⟩, by simp [intOf]; omega⟩
        · obtain rfl : k = m := by omega
          go_wp2
          go_ret2
          exact ⟨k, 0, rfl, .inr (.inr ⟨HCK.out.1, by omega, by omega, rfl, k, rfl, ⟨hk1, by omega, HB.out, fun h => absurd h (by omega)⟩⟩), _, rfl⟩
  · have HCK : Hid (ck n l ≠ 0) := hck
    have hz : (ck n l != 0) = true := by simpa using hck
    clear hck
    generalize hzz : ck n l = z at *
    have HZ : Hid (ck n l = z) := hzz
    clear hzz
    go_enter Tryd.func21, Tryd.ntmps21
    go_wp2_with (go_at_call 10; refine HC.out.mono ?_; rintro e w1 ⟨rfl, nq, rfl⟩)
    go_ret2
    exact ⟨0, z, rfl, .inl ⟨by rw [HZ.out]; exact HCK.out, rfl, HZ.out.symm⟩, nq, rfl⟩
set_option maxHeartbeats 1000000 in
theorem next24 (n : Int) (h0 : -9223372036854775808 ≤ n) (h1 : n ≤ 9223372036854775807) (v : Value) (l : List UInt8) (fr : Int) (g0 : -9223372036854775808 ≤ fr) (g1 : fr ≤ 9223372036854775807) (on : Bool) (w : World) (hr : RB w v l) (hl : l.length ≤ 140737488351232) :
    Calls Tryd.prog 24 #[.int .i64 n, v, .int .i64 fr, .bool on] w fun e w' => ∃ r er, e = .returned (.tuple #[.int .i64 r, .int .i64 er]) ∧ NR n l fr on r er ∧ Below w.heap.size w w' := by
  have HC : Hid (Calls Tryd.prog 11 #[.int .i64 n, v] w fun e w' => e = .returned (.int .i64 (ck n l)) ∧ ∃ nq, w' = w.drewN nq) := check11 n h0 h1 v l w hr hl
  have HR : Hid (RB w v l) := hr
  obtain ⟨a, c, rfl, _⟩ := hr
  by_cases hck : ck n l = 0
  · obtain ⟨k0, k1, k2, k3⟩ := ck_ok hck
    obtain ⟨m, rfl⟩ := Int.eq_ofNat_of_zero_le k0
    have HCK : Hid (ck m l = 0 ∧ l.length = ((m : Int).toNat + 7) / 8) := ⟨hck, k2⟩
    rw [hck] at HC
    clear k3 k2 hck
    by_cases hfr : fr < 0 ∨ (m : Int) < fr
    · have HF : Hid (fr < 0 ∨ (m : Int) < fr) := hfr
      rcases hfr with hf | hf
      · go_enter Tryd.func24, Tryd.ntmps24
        go_wp2_with (go_at_call 11; refine HC.out.mono ?_; rintro e w1 ⟨rfl, nq, rfl⟩)
        go_ret2
        exact ⟨0, 43, rfl, .inr (.inl ⟨HCK.out.1, HF.out, rfl, rfl⟩), belowDrew _ _⟩
      · go_enter Tryd.func24, Tryd.ntmps24
        go_wp2_with (go_at_call 11; refine HC.out.mono ?_; rintro e w1 ⟨rfl, nq, rfl⟩)
        go_ret2
        exact ⟨0, 43, rfl, .inr (.inl ⟨HCK.out.1, HF.out, rfl, rfl⟩), belowDrew _ _⟩
    · obtain ⟨f, rfl⟩ := Int.eq_ofNat_of_zero_le (show 0 ≤ fr by omega)
      have hf1 : f ≤ m := by omega
      have hd : decide (m < f) = false := by simp; omega
      clear hfr g0 g1 h0 h1 k0
      go_enter Tryd.func24, Tryd.ntmps24
      go_wp2_with (go_at_call 11; refine HC.out.mono ?_; rintro e w1 ⟨rfl, nq0, rfl⟩)
      refine (open32 _ l _ (HR.out.keep (belowDrew _ _)) (by have := HCK.out.2; omega)).mono ?_
      rintro e w2 ⟨v2, rfl, ho, hb2⟩
      obtain ⟨a2, c2, rfl⟩ := ho.form
      have hb : Below w.heap.size w w2 := (belowDrew w nq0).trans hb2
      rw [bl_len] at *
      have HO : Hid (OB w.heap.size w2 (.slice a2 (8 * l.length) c2) (bl l (8 * l.length)) ∧ Below w.heap.size w w2) := ⟨ho, hb⟩
      clear ho hb hb2
      go_wp2
      go_loopw [12] (fun i wr => ∃ (k nq : Nat), f ≤ k ∧ k ≤ m ∧ i = .int .i64 k ∧ wr = w2.drewN nq ∧ ∀ j, f ≤ j → j < k → bit l j = !on) (fun i _ => m - (intOf i).toNat)
      case atStart => exact ⟨f, 0, Nat.le_refl _, hf1, rfl, rfl, fun j h1 h2 => absurd h1 (by omega)⟩
      case round =>
        obtain ⟨k, nq, hk1, hk2, rfl, rfl, hb⟩ := hrel
        have HB : Hid (∀ j, f ≤ j → j < k → bit l j = !on) := hb
        clear hb
        by_cases hlt : k < m
        · have hk8 : k < 8 * l.length := by have := HCK.out.2; omega
          obtain ⟨g, rfl, _, _, hc, _⟩ := HO.out.1.at k hk8
          rw [lb_bl l _ k hk8] at hc
          by_cases hbit : bit l k = on
          · have HN : Hid (NX (m : Int).toNat l (f : Int).toNat on k) := ⟨hk1, hk2, HB.out, fun _ => hbit⟩
            rw [hbit] at hc
            clear hbit
            cases on
            all_goals
              go_wp2
              go_ret2
              exact ⟨k, 0, rfl, .inr (.inr ⟨HCK.out.1, by omega, by omega, rfl, k, rfl, HN.out⟩), belowN HO.out.2 _⟩
          · have hbf : bit l k = !on := by cases on <;> simpa using hbit
            rw [hbf] at hc
            have HB2 : Hid (∀ j, f ≤ j → j < k + 1 → bit l j = !on) := fun j h1 h2 => by
              by_cases h : j = k
              · rw [h]; exact hbf
              · exact HB.out j h1 (by omega)
            clear hbit hbf HB
            cases on
            all_goals
              go_wp2
              go_roundw
              case rel => exact ⟨k + 1, _, by omega, by omega, by go_num, rfl, HB2.out⟩
              case measure => simp [intOf]; omega
        · obtain rfl : k = m := by omega
          go_wp2
          go_ret2
          exact ⟨k, 0, rfl, .inr (.inr ⟨HCK.out.1, by omega, by omega, rfl, k, rfl, ⟨hk1, by omega, HB.out, fun h => absurd h (by omega)⟩⟩), belowN HO.out.2 _⟩
  · have HCK : Hid (ck n l ≠ 0) := hck
    have hz : (ck n l != 0) = true := by simpa using hck
    clear hck
    generalize hzz : ck n l = z at *
    have HZ : Hid (ck n l = z) := hzz
    clear hzz
    go_enter Tryd.func24, Tryd.ntmps24
    go_wp2_with (go_at_call 11; refine HC.out.mono ?_; rintro e w1 ⟨rfl, nq, rfl⟩)
    go_ret2
    exact ⟨0, z, rfl, .inl ⟨by rw [HZ.out]; exact HCK.out, rfl, HZ.out.symm⟩, belowDrew _ _⟩
set_option maxHeartbeats 1000000 in
theorem nexts7 (n : Int) (h0 : -9223372036854775808 ≤ n) (h1 : n ≤ 9223372036854775807) (v : Value) (l : List UInt8) (fr : Int) (g0 : -9223372036854775808 ≤ fr) (g1 : fr ≤ 9223372036854775807) (on : Bool) (w : World) (hr : RB w v l) (hm : MT w) (hl : l.length ≤ 140737488351232) :
    Calls Tryd.prog 7 #[.int .i64 n, v, .int .i64 fr, .bool on] w fun e w' => e = .returned (.bool true) ∧ Below w.heap.size w w' := by
  have HR : Hid (RB w v l ∧ MT w) := ⟨hr, hm⟩
  clear hm
  obtain ⟨a, c, rfl, _⟩ := hr
  go_enter Tryd.func7, Tryd.ntmps7
  go_wp2_with (go_at_call 9; refine (copied9 HR.out.1 hl).mono ?_; rintro e w1 ⟨v1, rfl, ho, hb1⟩)
  obtain ⟨a1, c1, rfl⟩ := ho.form
  go_wp2_with (go_at_call 21; refine (next21 n h0 h1 _ l fr g0 g1 on _ ho.rb (HR.out.2.keep hb1) hl).mono ?_; rintro e w2 ⟨r, er, rfl, hN, nq, rfl⟩)
  have HN : Hid (NR n l fr on r er) := hN
  clear hN
  go_wp2_with (go_at_call 24; refine (next24 n h0 h1 _ l fr g0 g1 on _ ((HR.out.1.keep hb1).keep (belowDrew _ _)) hl).mono ?_; rintro e w3 ⟨r', er', rfl, hN', hb3⟩; obtain ⟨rfl, rfl⟩ := NR.unique HN.out hN'; clear hN')
  have hb13 : Below w1.heap.size w1 w3 := (belowDrew w1 nq).trans hb3
  have hb2 : Below w.heap.size w w3 := hb1.trans (hb13.mono hb1.size)
  have HE : Hid (RB w3 (.slice a1 l.length c1) l ∧ RB w3 (.slice a l.length c) l ∧ Below w.heap.size w w3) := ⟨ho.rb.keep hb13, HR.out.1.keep hb2, hb2⟩
  clear ho hb1 hb3 hb13 hb2 HR HN
  go_wp2_with (go_at_call 12; refine (same12 _ _ l _ hl HE.out.1 HE.out.2.1).mono ?_; rintro e w4 ⟨rfl, n4, rfl⟩)
  go_ret
  exact ⟨rfl, belowN HE.out.2.2 _⟩
end Go.Proofs.YtpojcdepifeniaaDoor
