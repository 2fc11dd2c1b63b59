import Derived.Test.YtbldlanokcfcmaaEb
namespace Go.Proofs.Ytbldlanokcfcmaa
open Go.RowKit
set_option maxHeartbeats 1000000 in
theorem rbodyT (id : Int) (v : Value) (l : List UInt8) (w : World) (hr : RB w v l) : Calls Try.prog 7 #[.int .i64 id, v] w (QE w (bdL id l) (bdN id l)) := by
  have HR : Hid (RB w v l) := hr
  obtain ⟨a, c, rfl, _, _⟩ := hr
  by_cases h : id < 0
  · have HE : Hid (bdL id l = [] ∧ bdN id l = 211) := ⟨by unfold bdL; rw [if_pos (.inl h)], by unfold bdN; rw [if_pos (.inl h)]⟩
    have q : decide (id < 0) = true := decide_eq_true h
    clear h
    go_enter Try.func7, Try.ntmps7
    go_wp2
    go_ret2
    rw [HE.out.1, HE.out.2]
    exact ⟨_, _, rfl, rb_nil _, Below.refl _ _⟩
  have q : decide (id < 0) = false := decide_eq_false h
  by_cases h3 : 255 < id
  · have HE : Hid (bdL id l = [] ∧ bdN id l = 211) := ⟨by unfold bdL; rw [if_pos (.inr h3)], by unfold bdN; rw [if_pos (.inr h3)]⟩
    have q3 : decide (255 < id) = true := decide_eq_true h3
    clear h h3
    go_enter Try.func7, Try.ntmps7
    go_wp2
    go_ret2
    rw [HE.out.1, HE.out.2]
    exact ⟨_, _, rfl, rb_nil _, Below.refl _ _⟩
  have q3 : decide (255 < id) = false := decide_eq_false h3
  have hn : ¬ (id < 0 ∨ 255 < id) := by omega
  by_cases h2 : 32766 < l.length
  · have HE : Hid (bdL id l = [] ∧ bdN id l = 213) := ⟨by unfold bdL; rw [if_neg hn, if_pos h2], by unfold bdN; rw [if_neg hn, if_pos h2]⟩
    have q4 : decide ((32766 : Int) < (l.length : Int)) = true := decide_eq_true (by omega)
    clear h h3 hn
    go_enter Try.func7, Try.ntmps7
    go_wp2
    go_ret2
    rw [HE.out.1, HE.out.2]
    exact ⟨_, _, rfl, rb_nil _, Below.refl _ _⟩
  have HE : Hid (bdL id l = [20, UInt8.ofNat id.toNat] ++ l ∧ bdN id l = 0) := ⟨by unfold bdL; rw [if_neg hn, if_neg h2]; rfl, by unfold bdN; rw [if_neg hn, if_neg h2]⟩
  have q4 : decide ((32766 : Int) < (l.length : Int)) = false := decide_eq_false (by omega)
  have hid : 0 ≤ id ∧ id ≤ 255 := by omega
  have hb0 : Below w.heap.size w (w.alloc (.cells #[.int .u8 20, .int .u8 id] 5)) := (Below.refl _ _).alloc (Nat.le_refl _) _
  have HO : Hid (OW w.heap.size (w.alloc (.cells #[.int .u8 20, .int .u8 id] 5)) (.slice (some ⟨w.heap.size, 0, none⟩) 2 2) [20, UInt8.ofNat id.toNat] ∧ RB (w.alloc (.cells #[.int .u8 20, .int .u8 id] 5)) (.slice a l.length c) l ∧ Below w.heap.size w (w.alloc (.cells #[.int .u8 20, .int .u8 id] 5))) := ⟨two_ow w id hid.1 hid.2, HR.out.keep hb0, hb0⟩
  have hm : id % 256 = id := by omega
  have HL : Hid (l.length ≤ 32766) := Nat.le_of_not_lt h2
  clear h h3 hn hb0 h2
  go_enter Try.func7, Try.ntmps7
  go_wp2_with (at_builtin; refine append_bytes rfl _ _ rfl rfl HO.out.1 rfl HO.out.2.1 (by simp) (by have := HL.out; simp; omega) ?_; intro v' w1 ho1 hb1; obtain ⟨a', c', rfl⟩ := ho1.form)
  go_ret2
  rw [HE.out.1, HE.out.2]
  exact ⟨_, _, rfl, ho1.rb, HO.out.2.2.trans hb1⟩
theorem bdL_len (id : Int) (l : List UInt8) : (bdL id l).length ≤ 140737488351232 := by
  unfold bdL
  split
  · simp
  · split
    · simp
    · simp only [List.length_cons]; omega
set_option maxHeartbeats 1000000 in
theorem bodiesLaw (id : Int) (v : Value) (l : List UInt8) (w : World) (hr : RB w v l) (hl : l.length ≤ 140737488351232) : Calls Try.prog 3 #[.int .i64 id, v] w fun e w' => e = .returned (.bool true) ∧ Below w.heap.size w w' := by
  have HR : Hid (RB w v l) := hr
  have HL : Hid (l.length ≤ 140737488351232) := hl
  obtain ⟨a, c, rfl, _, _⟩ := hr
  go_enter Try.func3, Try.ntmps3
  go_wp2_with fail
  refine (copied HR.out HL.out).mono ?_
  rintro e w1 ⟨v1, rfl, o1, b1⟩
  obtain ⟨a1, c1, rfl⟩ := o1.form
  have H1 : Hid (RB w1 (.slice a1 l.length c1) l ∧ RB w1 (.slice a l.length c) l ∧ Below w.heap.size w w1) := ⟨o1.rb, HR.out.keep b1, b1⟩
  clear o1 b1
  go_wp2_with fail
  refine (bodyT id _ l w1 H1.out.1 HL.out).mono ?_
  rintro e w2 ⟨a2, c2, rfl, r2, b2⟩
  have H2 : Hid (RB w2 (.slice a1 l.length c1) l ∧ RB w2 (.slice a l.length c) l ∧ Below w.heap.size w w2 ∧ RB w2 (.slice a2 (bdL id l).length c2) (bdL id l)) := ⟨H1.out.1.keep b2, H1.out.2.1.keep b2, H1.out.2.2.trans (b2.mono H1.out.2.2.size), r2⟩
  clear r2 b2
  go_wp2_with fail
  refine (rbodyT id _ l w2 H2.out.2.1).mono ?_
  rintro e w3 ⟨a3, c3, rfl, r3, b3⟩
  have H3 : Hid (RB w3 (.slice a1 l.length c1) l ∧ RB w3 (.slice a l.length c) l ∧ Below w.heap.size w w3 ∧ RB w3 (.slice a2 (bdL id l).length c2) (bdL id l) ∧ RB w3 (.slice a3 (bdL id l).length c3) (bdL id l)) := ⟨H2.out.1.keep b3, H2.out.2.1.keep b3, H2.out.2.2.1.trans (b3.mono H2.out.2.2.1.size), H2.out.2.2.2.keep b3, r3⟩
  clear r3 b3
  go_wp2_with fail
  refine (same _ _ _ w3 (bdL_len id l) H3.out.2.2.2.1 H3.out.2.2.2.2).mono ?_
  rintro e w4 ⟨rfl, nn, rfl⟩
  have H4 : Hid (RB (w3.drewN nn) (.slice a1 l.length c1) l ∧ RB (w3.drewN nn) (.slice a l.length c) l ∧ Below w.heap.size w (w3.drewN nn)) := ⟨H3.out.1.keep (belowDrew w3 nn), H3.out.2.1.keep (belowDrew w3 nn), belowN H3.out.2.2.1 nn⟩
  go_wp2_with fail
  refine (same _ _ _ _ HL.out H4.out.1 H4.out.2.1).mono ?_
  rintro e w5 ⟨rfl, nm, rfl⟩
  go_wp2
  go_ret
  exact ⟨rfl, belowN H3.out.2.2.1 _⟩
def opN (l : List UInt8) : Int := if 32768 < l.length then 213 else if l.length < 2 ∨ byt l 0 ≠ 20 then 210 else 0
def opL (l : List UInt8) : List UInt8 := if 32768 < l.length then [] else if l.length < 2 ∨ byt l 0 ≠ 20 then [] else l.drop 2
def opI (l : List UInt8) : Int := if 32768 < l.length then 0 else if l.length < 2 ∨ byt l 0 ≠ 20 then 0 else (byt l 1).toNat
/-- a number, bytes and an error were answered -/
def QO (w : World) (l : List UInt8) (e : Ending) (w' : World) : Prop := ∃ a c, e = .returned (.tuple #[.int .i64 (opI l), .slice a (opL l).length c, .int .i64 (opN l)]) ∧ RB w' (.slice a (opL l).length c) (opL l) ∧ Below w.heap.size w w'
theorem rb_drop {w : World} {g o c : Nat} {l : List UInt8} (h : RB w (.slice (some ⟨g, o, none⟩) l.length c) l) (hl : 2 ≤ l.length) : RB w (.slice (some ⟨g, o + 2, none⟩) (l.length - 2) (c - 2)) (l.drop 2) := by
  obtain ⟨a, c', e, hle, h⟩ := h
  simp only [Value.slice.injEq] at e
  obtain ⟨rfl, -, rfl⟩ := e
  refine ⟨_, _, by rw [List.length_drop], by rw [List.length_drop]; omega, ?_⟩
  rcases h with h | ⟨g', o', e, h1, h2⟩
  · rw [h] at hl; simp at hl
  · cases e
    exact .inr ⟨g, o + 2, rfl, h1, fun i hi => by
      rw [List.length_drop] at hi
      rw [byt_drop, Nat.add_assoc]
      exact h2 (2 + i) (by omega)⟩
end Go.Proofs.Ytbldlanokcfcmaa
