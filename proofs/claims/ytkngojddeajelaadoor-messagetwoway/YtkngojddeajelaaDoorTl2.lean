import Derived.Test.YtkngojddeajelaaDoorAx
namespace Go.Proofs.YtkngojddeajelaaDoor
open Go.RowKit
theorem decS_err {l : List UInt8} (h : decE l ≠ 0) : decS l = ⟨zm, [], [], []⟩ := by unfold decS; exact if_neg h
set_option maxHeartbeats 2000000 in
set_option maxRecDepth 100000 in
theorem twoWayLaw (w : World) (v : Value) (l : List UInt8) (hl : l.length ≤ 140737488351232) (hr : RB w v l) (hk : KT w) :
    Calls Tryd.prog 3 #[v] w fun e w' => e = .returned (.bool true) ∧ Below w.heap.size w w' := by
  obtain ⟨a, c, rfl, _⟩ := id hr
  have HO : Hid (RB w (.slice a l.length c) l ∧ KT w) := ⟨hr, hk⟩
  clear hr hk
  go_enter Tryd.func3, Tryd.ntmps3
  go_wp2_with fail
  refine (awakeT w HO.out.2).mono ?_
  rintro e w1 ⟨rfl, b1⟩
  have H1 : Hid (RB w1 (.slice a l.length c) l ∧ KT w1 ∧ Below w.heap.size w w1) := ⟨HO.out.1.keep b1, HO.out.2.below b1 HO.out.2.pos, b1⟩
  clear b1 HO
  go_wp2_with fail
  refine (decodeT w1 _ l hl H1.out.1 H1.out.2.1).mono ?_
  rintro e w2 ⟨d1, h1, rfl, q1, q2, q3⟩
  have M1 := MM.of_dec q1 q2
  obtain ⟨m1, hm1⟩ : ∃ m, m = ({ (decS l).m with d := d1, h := h1 } : Mv) := ⟨_, rfl⟩
  rw [← hm1] at M1 ⊢
  have hz2 := heapNew w2 (.cells z40 28)
  have hi1 := info_msg M1.ok
  have ho1 := M1.ok.one
  have hs1 : z40.size = m1.cs.size := M1.ok.size.symm
  have bX : Below w2.heap.size w2 ((w2.alloc (.cells z40 28)).setRow w2.heap.size m1.cs) := belowSetRow ((Below.refl _ _).alloc (Nat.le_refl _) _) (Nat.le_refl _) _
  have b9 : Below w1.heap.size w1 ((w2.alloc (.cells z40 28)).setRow w2.heap.size m1.cs) := q3.trans (bX.mono q3.size)
  have H2 : Hid (MB ((w2.alloc (.cells z40 28)).setRow w2.heap.size m1.cs) w2.heap.size m1 ∧ MM ((w2.alloc (.cells z40 28)).setRow w2.heap.size m1.cs) m1 (decS l).D (decS l).hb ∧ RB ((w2.alloc (.cells z40 28)).setRow w2.heap.size m1.cs) (.slice a l.length c) l ∧ KT ((w2.alloc (.cells z40 28)).setRow w2.heap.size m1.cs) ∧ Below w.heap.size w ((w2.alloc (.cells z40 28)).setRow w2.heap.size m1.cs)) := ⟨MB.setRow (m := zm) hz2, M1.keep bX, H1.out.1.keep b9, H1.out.2.1.below b9 H1.out.2.1.pos, H1.out.2.2.trans (b9.mono H1.out.2.2.size)⟩
  have HV : Hid (decE l = 0 → valE m1 = 0 ∧ encB m1 (decS l).D (decS l).hb = l) := by
    intro h0
    rw [hm1]
    refine two_way l h0 d1 h1 ?_ ?_
    · have h9 := M1.sd; rw [hm1] at h9; exact h9
    · have h9 := M1.sh; rw [hm1] at h9; exact h9
  have HM1 : Hid (m1 = { (decS l).m with d := d1, h := h1 }) := hm1
  clear M1 bX b9 q1 q2 q3 hm1 H1
  generalize hdE : decE l = dE at *
  have HDE : Hid (decE l = dE) := hdE
  clear hdE
  have hc := H2.out.1.cells
  go_wp2_with (first | (refine wpList_store_row rfl 28 _ _ rfl w2.heap.size m1.cs rfl rfl 28 z40 hz2 hi1 hs1 ho1 ?_))
  generalize (w2.alloc (.cells z40 28)).setRow w2.heap.size m1.cs = X at *
  generalize w2.heap.size = G1 at *
  refine (numLT X _).mono ?_
  rintro e w9 ⟨rfl, rfl⟩
  by_cases h0 : dE = 0
  · subst h0
    have HVV : Hid (valE m1 = 0 ∧ encB m1 (decS l).D (decS l).hb = l) := HV.out rfl
    go_wp2_with (first | (refine wpList_load_row rfl 28 _ rfl G1 rfl 28 m1.cs (0, 0) _ hc Tryd.underlying28 rfl hi1 ?_))
    refine (validT X m1 H2.out.2.1.ok H2.out.2.2.2.1 H2.out.2.1.big.1 H2.out.2.1.big.2).mono ?_
    rintro e w3 ⟨rfl, b3⟩
    rw [HVV.out.1]
    have H3 : Hid (MB w3 G1 m1 ∧ MM w3 m1 (decS l).D (decS l).hb ∧ RB w3 (.slice a l.length c) l ∧ KT w3 ∧ Below w.heap.size w w3) := ⟨H2.out.1.below b3, H2.out.2.1.keep b3, H2.out.2.2.1.keep b3, H2.out.2.2.2.1.below b3 H2.out.2.2.2.1.pos, H2.out.2.2.2.2.trans (b3.mono H2.out.2.2.2.2.size)⟩
    clear b3 hc
    have hc := H3.out.1.cells
    go_wp2_with (first | (refine wpList_load_row rfl 28 _ rfl G1 rfl 28 m1.cs (0, 0) _ hc Tryd.underlying28 rfl hi1 ?_))
    refine (encodeT w3 m1 (decS l).D (decS l).hb H3.out.2.1 H3.out.2.2.2.1).mono ?_
    rintro e w4 ⟨v4, rfl, o4, b4⟩
    rw [HVV.out.1]
    obtain ⟨va, vn, vc, rfl⟩ := o4.form3
    have H4 : Hid (RB w4 (.slice va vn vc) l ∧ RB w4 (.slice a l.length c) l ∧ Below w.heap.size w w4) := ⟨by have h9 := o4.rb; rw [HVV.out.2] at h9; exact h9, H3.out.2.2.1.keep b4, H3.out.2.2.2.2.trans (b4.mono H3.out.2.2.2.2.size)⟩
    clear o4 b4 hc
    go_wp2_with (first | (go_at_call 11; refine (numLT _ _).mono ?_; rintro e w9 ⟨rfl, rfl⟩) | (go_at_call 15; refine (same _ _ l w4 hl H4.out.1 H4.out.2.1).mono ?_; rintro e w5 ⟨rfl, nq, rfl⟩))
    go_ret
    exact ⟨rfl, belowN H4.out.2.2 nq⟩
  · have HSM : Hid (Calls Tryd.prog 12 #[.agg m1.cs, .agg z40] X fun e w' => e = .returned (.bool true) ∧ Below X.heap.size X w') := by
      have hS := decS_err (l := l) (by rw [HDE.out]; exact h0)
      have hM := H2.out.2.1
      rw [hS] at hM
      exact msameT X m1 zm [] [] hM (MM.nil zm_ok rfl rfl) (by rw [HM1.out, hS])
    go_wp2_with (first | (refine wpList_load_row rfl 28 _ rfl G1 rfl 28 m1.cs (0, 0) _ hc Tryd.underlying28 rfl hi1 ?_))
    refine HSM.out.mono ?_
    rintro e w3 ⟨rfl, b3⟩
    have H3 : Hid (Below w.heap.size w w3) := H2.out.2.2.2.2.trans (b3.mono H2.out.2.2.2.2.size)
    clear b3
    go_wp2
    go_ret
    exact ⟨rfl, H3.out⟩
end Go.Proofs.YtkngojddeajelaaDoor
