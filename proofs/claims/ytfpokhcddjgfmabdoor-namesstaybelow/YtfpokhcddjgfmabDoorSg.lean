import Derived.Test.YtfpokhcddjgfmabDoorUs
namespace Go.Proofs.YtfpokhcddjgfmabDoor
open Go.RowKit
def sM : ByteArray := ⟨#[109]⟩
theorem ua_M : ua sM 0 = -1 := ua_ascii sM (by decide) 1 0 (by decide)
theorem ua_range (s : ByteArray) : ua s 0 = -1 ∨ (0 ≤ ua s 0 ∧ ua s 0 < s.size) := by
  by_cases h : ua s 0 = -1
  · exact .inl h
  · exact .inr (ua_neg h)
theorem ua_amb (a b : ByteArray) (h : ua a 0 = -1) : ua (a ++ sM ++ b) 0 = if ua b 0 = -1 then -1 else a.size + 1 + ua b 0 := by
  have h1 : ua (a ++ sM) 0 = -1 := by rw [ua_app h, ua_M, if_pos rfl]
  rw [ua_app h1, sz_append]; rfl
theorem ua_amb' (a b : ByteArray) (h : ¬ ua a 0 = -1) : ua (a ++ sM ++ b) 0 = ua a 0 := by
  rw [ByteArray.append_assoc]
  exact ua_keep (by rw [bt_left (by decide)]; decide) a.size 0 (by omega) h
theorem iter_b (w : World) (s : ByteArray) (pos : Nat) : Below w.heap.size w (w.iter s pos) := (Below.refl _ _).alloc (Nat.le_refl _) _
theorem utfB (s : ByteArray) (w : World) (hs : s.size ≤ maxLen) : Calls Tryd.prog 14 #[.string s] w fun e w' => e = .returned (.int .i64 (ua s 0)) ∧ Below w.heap.size w w' := by
  refine (utf9 s w hs).mono ?_
  rintro e w' ⟨rfl, pos, rfl⟩
  exact ⟨rfl, iter_b w s pos⟩
set_option maxHeartbeats 1000000 in
theorem signs5 (a b : ByteArray) (w : World) (ha : a.size ≤ 140737488351232) (hb : b.size ≤ 140737488351232) :
    Calls Tryd.prog 5 #[.string a, .string b] w fun e w' => e = .returned (.bool true) ∧ Below w.heap.size w w' := by
  have HX : Hid (∀ w, Calls Tryd.prog 14 #[.string a] w fun e w' => e = .returned (.int .i64 (ua a 0)) ∧ Below w.heap.size w w') := fun w => utfB a w (by unfold maxLen; omega)
  have HY : Hid (∀ w, Calls Tryd.prog 14 #[.string b] w fun e w' => e = .returned (.int .i64 (ua b 0)) ∧ Below w.heap.size w w') := fun w => utfB b w (by unfold maxLen; omega)
  have HZ : Hid (∀ w, Calls Tryd.prog 14 #[.string (a ++ b)] w fun e w' => e = .returned (.int .i64 (ua (a ++ b) 0)) ∧ Below w.heap.size w w') := fun w => utfB _ w (by rw [sz_append]; unfold maxLen; omega)
  have HM : Hid (∀ w, Calls Tryd.prog 14 #[.string (a ++ ⟨#[109]⟩ ++ b)] w fun e w' => e = .returned (.int .i64 (ua (a ++ sM ++ b) 0)) ∧ Below w.heap.size w w') := fun w => utfB _ w (by
    have e : (⟨#[109]⟩ : ByteArray).size = 1 := rfl
    rw [sz_append, sz_append, e]; unfold maxLen; omega)
  have hx := ua_range a
  have hy := ua_range b
  by_cases h1 : ua a 0 = -1
  · have e1 := ua_app (r := b) h1
    have e2 := ua_amb a b h1
    rw [e1] at HZ
    rw [e2] at HM
    rw [h1] at HX
    clear e1 e2 h1 hx
    by_cases h2 : ua b 0 = -1
    · rw [if_pos h2] at HZ HM
      rw [h2] at HY
      clear h2 hy
      go_enter Tryd.func5, Tryd.ntmps5
      go_wp2_with fail
      refine (awake11 _).mono ?_
      rintro e w1 ⟨rfl, hb1⟩
      have B1 : Hid (Below w.heap.size w w1) := hb1
      clear hb1
      go_wp2_with fail
      refine (HX.out _).mono ?_
      rintro e w2 ⟨rfl, hb2⟩
      have B2 : Hid (Below w.heap.size w w2) := B1.out.trans (hb2.mono B1.out.size)
      clear hb2 B1
      go_wp2_with fail
      refine (HY.out _).mono ?_
      rintro e w3 ⟨rfl, hb3⟩
      have B3 : Hid (Below w.heap.size w w3) := B2.out.trans (hb3.mono B2.out.size)
      clear hb3 B2
      go_wp2_with fail
      refine (HZ.out _).mono ?_
      rintro e w4 ⟨rfl, hb4⟩
      have B4 : Hid (Below w.heap.size w w4) := B3.out.trans (hb4.mono B3.out.size)
      clear hb4 B3
      go_wp2_with fail
      refine (HM.out _).mono ?_
      rintro e w5 ⟨rfl, hb5⟩
      have B5 : Hid (Below w.heap.size w w5) := B4.out.trans (hb5.mono B4.out.size)
      clear hb5 B4
      go_wp2
      go_ret
      exact ⟨rfl, B5.out⟩
    · rw [if_neg h2] at HZ HM
      have y0 : 0 ≤ ua b 0 := by omega
      have y1 : ua b 0 < b.size := by omega
      have y2 : ¬ ua b 0 = -1 := h2
      clear h2 hy
      generalize ua b 0 = y at *
      go_enter Tryd.func5, Tryd.ntmps5
      go_wp2_with fail
      refine (awake11 _).mono ?_
      rintro e w1 ⟨rfl, hb1⟩
      have B1 : Hid (Below w.heap.size w w1) := hb1
      clear hb1
      go_wp2_with fail
      refine (HX.out _).mono ?_
      rintro e w2 ⟨rfl, hb2⟩
      have B2 : Hid (Below w.heap.size w w2) := B1.out.trans (hb2.mono B1.out.size)
      clear hb2 B1
      go_wp2_with fail
      refine (HY.out _).mono ?_
      rintro e w3 ⟨rfl, hb3⟩
      have B3 : Hid (Below w.heap.size w w3) := B2.out.trans (hb3.mono B2.out.size)
      clear hb3 B2
      go_wp2_with fail
      refine (HZ.out _).mono ?_
      rintro e w4 ⟨rfl, hb4⟩
      have B4 : Hid (Below w.heap.size w w4) := B3.out.trans (hb4.mono B3.out.size)
      clear hb4 B3
      go_wp2_with fail
      refine (HM.out _).mono ?_
      rintro e w5 ⟨rfl, hb5⟩
      have B5 : Hid (Below w.heap.size w w5) := B4.out.trans (hb5.mono B4.out.size)
      clear hb5 B4
      go_wp2
      go_ret
      exact ⟨by simp, B5.out⟩
  · have e2 := ua_amb' a b h1
    rw [e2] at HM
    have x0 : 0 ≤ ua a 0 := by omega
    have x1 : ua a 0 < a.size := by omega
    have x2 : ¬ ua a 0 = -1 := h1
    clear e2 h1 hx
    generalize ua a 0 = x at *
    generalize ua (a ++ b) 0 = z at *
    have y3 : -1 ≤ ua b 0 := by omega
    have y4 : ua b 0 < b.size := by omega
    clear hy
    generalize ua b 0 = y at *
    go_enter Tryd.func5, Tryd.ntmps5
    go_wp2_with fail
    refine (awake11 _).mono ?_
    rintro e w1 ⟨rfl, hb1⟩
    have B1 : Hid (Below w.heap.size w w1) := hb1
    clear hb1
    go_wp2_with fail
    refine (HX.out _).mono ?_
    rintro e w2 ⟨rfl, hb2⟩
    have B2 : Hid (Below w.heap.size w w2) := B1.out.trans (hb2.mono B1.out.size)
    clear hb2 B1
    go_wp2_with fail
    refine (HY.out _).mono ?_
    rintro e w3 ⟨rfl, hb3⟩
    have B3 : Hid (Below w.heap.size w w3) := B2.out.trans (hb3.mono B2.out.size)
    clear hb3 B2
    go_wp2_with fail
    refine (HZ.out _).mono ?_
    rintro e w4 ⟨rfl, hb4⟩
    have B4 : Hid (Below w.heap.size w w4) := B3.out.trans (hb4.mono B3.out.size)
    clear hb4 B3
    go_wp2_with fail
    refine (HM.out _).mono ?_
    rintro e w5 ⟨rfl, hb5⟩
    have B5 : Hid (Below w.heap.size w w5) := B4.out.trans (hb5.mono B4.out.size)
    clear hb5 B4
    go_wp2
    go_ret
    exact ⟨by simp, B5.out⟩
end Go.Proofs.YtfpokhcddjgfmabDoor
