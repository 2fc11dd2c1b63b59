import Derived.Test.YtphehachmgfcaaaDoorMakeR
namespace Go.Proofs.YtphehachmgfcaaaDoor
open Go.RowKit
theorem nilRB (w : World) : RB w (.slice none 0 0) [] := ⟨none, 0, rfl, .inl rfl⟩
set_option maxHeartbeats 1000000 in
theorem makes4 (n : Int) (h0 : -9223372036854775808 ≤ n) (h1 : n ≤ 9223372036854775807) (w : World) (hm : MT w) :
    Calls Tryd.prog 4 #[.int .i64 n] w fun e w' => e = .returned (.bool true) ∧ Below w.heap.size w w' := by
  by_cases h : n < 0 ∨ 65536 < n
  · clear hm
    have HH : Hid (n < 0 ∨ 65536 < n) := h
    clear h
    go_enter Tryd.func4, Tryd.ntmps4
    go_wp2_with (first
      | (go_at_call 13; refine (make13_no n HH.out _).mono ?_; rintro e w1 ⟨rfl, rfl⟩)
      | (go_at_call 14; refine (make14_no n HH.out _).mono ?_; rintro e w1 ⟨rfl, rfl⟩)
      | (go_at_call 15; refine (full15_no n HH.out _).mono ?_; rintro e w1 ⟨rfl, rfl⟩)
      | (go_at_call 16; refine (full16_no n HH.out _).mono ?_; rintro e w1 ⟨rfl, rfl⟩)
      | (go_at_call 12; refine (same12 _ _ [] _ (by simp) (nilRB _) (nilRB _)).mono ?_; rintro e w1 ⟨rfl, nq, rfl⟩))
    go_ret
    exact ⟨rfl, belowN (Below.refl _ _) _⟩
  · obtain ⟨m, rfl⟩ := Int.eq_ofNat_of_zero_le (show 0 ≤ n by omega)
    have hm2 : m ≤ 65536 := by omega
    have HM : Hid (MT w) := hm
    clear h h0 h1 hm
    go_enter Tryd.func4, Tryd.ntmps4
    go_wp2_with (go_at_call 13; refine (make13_ow m hm2 _).mono ?_; rintro e w1 ⟨v1, rfl, ho1, hb1⟩)
    obtain ⟨a1, c1, rfl⟩ := ho1.form
    go_wp2_with (go_at_call 14; refine (make14 m hm2 _).mono ?_; rintro e w2 ⟨v2, l2, rfl, ho2, hbf2, hb2⟩)
    obtain rfl := BF.unique (BF.zeros m) hbf2 (fun _ _ => rfl)
    obtain ⟨a2, c2, rfl⟩ := ho2.form
    have r1 := ho1.rb.keep hb2
    have r2 := ho2.rb
    have hb : Below w.heap.size w w2 := hb1.trans (hb2.mono hb1.size)
    rw [List.length_replicate] at *
    have HR : Hid (RB w2 (.slice a1 ((m + 7) / 8) c1) (List.replicate ((m + 7) / 8) 0) ∧ RB w2 (.slice a2 ((m + 7) / 8) c2) (List.replicate ((m + 7) / 8) 0)) := ⟨r1, r2⟩
    have HB : Hid (Below w.heap.size w w2) := hb
    clear r1 r2 ho1 ho2 hb1 hb2 hb hbf2
    refine (same12 _ _ _ _ (by simp; omega) HR.out.1 HR.out.2).mono ?_
    rintro e w3 ⟨rfl, nq, rfl⟩
    go_wp2_with (go_at_call 15; refine (full15 m hm2 _ (HM.out.keep (belowN HB.out _))).mono ?_; rintro e w3 ⟨v3, l3, rfl, ho3, hbf3, hb3⟩)
    obtain ⟨a3, c3, rfl⟩ := ho3.form
    go_wp2_with (go_at_call 16; refine (full16 m hm2 _).mono ?_; rintro e w4 ⟨v4, l4, rfl, ho4, hbf4, hb4⟩)
    obtain rfl := BF.unique hbf3 hbf4 (fun _ _ => rfl)
    obtain ⟨a4, c4, rfl⟩ := ho4.form
    have hl3 := hbf3.1
    have r3 := ho3.rb.keep hb4
    have r4 := ho4.rb
    have hbE : Below w.heap.size w w4 := (belowN HB.out nq).trans ((hb3.mono (HB.out.size)).trans (hb4.mono (Nat.le_trans HB.out.size hb3.size)))
    have HR2 : Hid (RB w4 (.slice a3 l3.length c3) l3 ∧ RB w4 (.slice a4 l3.length c4) l3 ∧ Below w.heap.size w w4) := ⟨r3, r4, hbE⟩
    clear r3 r4 ho3 ho4 hb3 hb4 hbE hbf3 hbf4 HR HM HB
    refine (same12 _ _ _ _ (by omega) HR2.out.1 HR2.out.2.1).mono ?_
    rintro e w5 ⟨rfl, nq5, rfl⟩
    go_wp2
    go_ret
    exact ⟨rfl, belowN HR2.out.2.2 _⟩
end Go.Proofs.YtphehachmgfcaaaDoor
