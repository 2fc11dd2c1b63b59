import Derived.Test.YtkngojddeajelaaDoorAx
namespace Go.Proofs.YtkngojddeajelaaDoor
open Go.RowKit
set_option maxHeartbeats 2000000 in
set_option maxRecDepth 100000 in
theorem backLaw (w : World) (m : Mv) (D hb : List UInt8) (hm : MM w m D hb) (hk : KT w) :
    Calls Tryd.prog 4 #[.agg m.cs] w fun e w' => e = .returned (.bool true) ∧ Below w.heap.size w w' := by
  have b0 : Below w.heap.size w (w.alloc (.cells m.cs 28)) := (Below.refl _ _).alloc (Nat.le_refl _) _
  have HA : Hid (KT (w.alloc (.cells m.cs 28)) ∧ MB (w.alloc (.cells m.cs 28)) w.heap.size m ∧ MM (w.alloc (.cells m.cs 28)) m D hb ∧ Below w.heap.size w (w.alloc (.cells m.cs 28))) := ⟨hk.below b0 hk.pos, heapNew w _, hm.keep b0, b0⟩
  have him := info_msg hm.ok
  have HBW : Hid (valE m = 0 → decE (encB m D hb) = 0 ∧ (decS (encB m D hb)).D = D ∧ (decS (encB m D hb)).hb = hb ∧ (∀ d' h', ({ (decS (encB m D hb)).m with d := d', h := h' } : Mv) = { m with d := d', h := h' }) ∧ (encB m D hb).length ≤ 32768) := fun h0 => back_way m hm.ok D hb h0 hm.sd hm.sh
  clear b0 hk hm
  go_enter Tryd.func4, Tryd.ntmps4
  go_wp2_with fail
  generalize w.alloc (.cells m.cs 28) = w0 at *
  refine (awakeT w0 HA.out.1).mono ?_
  rintro e w1 ⟨rfl, b1⟩
  have H1 : Hid (KT w1 ∧ MB w1 w.heap.size m ∧ MM w1 m D hb ∧ Below w.heap.size w w1) := ⟨HA.out.1.below b1 HA.out.1.pos, HA.out.2.1.below b1, HA.out.2.2.1.keep b1, HA.out.2.2.2.trans (b1.mono HA.out.2.2.2.size)⟩
  clear b1 HA
  have hc := H1.out.2.1.cells
  go_wp2_with (first | (refine wpList_load_row rfl 28 _ rfl w.heap.size rfl 28 m.cs (0, 0) _ hc Tryd.underlying28 rfl him ?_))
  refine (validT w1 m H1.out.2.2.1.ok H1.out.1 H1.out.2.2.1.big.1 H1.out.2.2.1.big.2).mono ?_
  rintro e w2 ⟨rfl, b2⟩
  have H2 : Hid (KT w2 ∧ MB w2 w.heap.size m ∧ MM w2 m D hb ∧ Below w.heap.size w w2) := ⟨H1.out.1.below b2 H1.out.1.pos, H1.out.2.1.below b2, H1.out.2.2.1.keep b2, H1.out.2.2.2.trans (b2.mono H1.out.2.2.2.size)⟩
  clear b2 H1 hc
  have hc := H2.out.2.1.cells
  generalize hvE : valE m = vE at *
  have HVE : Hid (valE m = vE) := hvE
  clear hvE
  go_wp2_with (first | (refine wpList_load_row rfl 28 _ rfl w.heap.size rfl 28 m.cs (0, 0) _ hc Tryd.underlying28 rfl him ?_))
  refine (encodeT w2 m D hb H2.out.2.2.1 H2.out.1).mono ?_
  rintro e w3 ⟨v3, rfl, o3, b3⟩
  rw [HVE.out]
  obtain ⟨va, vc, rfl⟩ := o3.form
  have H3 : Hid (KT w3 ∧ MB w3 w.heap.size m ∧ MM w3 m D hb ∧ Below w.heap.size w w3 ∧ RB w3 (.slice va (encB m D hb).length vc) (encB m D hb)) := ⟨H2.out.1.below b3 H2.out.1.pos, H2.out.2.1.below b3, H2.out.2.2.1.keep b3, H2.out.2.2.2.trans (b3.mono H2.out.2.2.2.size), o3.rb⟩
  clear b3 o3 H2 hc
  by_cases h0 : vE = 0
  · subst h0
    obtain ⟨k1, k2, k3, k4, k5⟩ := HBW.out rfl
    have HK : Hid (decE (encB m D hb) = 0 ∧ (decS (encB m D hb)).D = D ∧ (decS (encB m D hb)).hb = hb ∧ (∀ d' h', ({ (decS (encB m D hb)).m with d := d', h := h' } : Mv) = { m with d := d', h := h' }) ∧ (encB m D hb).length ≤ 32768) := ⟨k1, k2, k3, k4, k5⟩
    clear k1 k2 k3 k4 k5
    generalize hEB : encB m D hb = EB at *
    have hle := HK.out.2.2.2.2
    go_wp2_with (first | (go_at_call 11; refine (numLT _ _).mono ?_; rintro e w9 ⟨rfl, rfl⟩))
    refine (decodeT w3 _ EB (by omega) H3.out.2.2.2.2 H3.out.1).mono ?_
    rintro e w4 ⟨d1, h1, rfl, q1, q2, q3⟩
    have M1 := MM.of_dec q1 q2
    rw [HK.out.1, HK.out.2.2.2.1]
    rw [HK.out.2.2.2.1, HK.out.2.1, HK.out.2.2.1] at M1
    obtain ⟨m1, hm1⟩ : ∃ m1, m1 = ({ m with d := d1, h := h1 } : Mv) := ⟨_, rfl⟩
    rw [← hm1] at M1 ⊢
    have hz2 := heapNew w4 (.cells z40 28)
    have hi1 := info_msg M1.ok
    have ho1 := M1.ok.one
    have hs1 : z40.size = m1.cs.size := M1.ok.size.symm
    have bX : Below w4.heap.size w4 ((w4.alloc (.cells z40 28)).setRow w4.heap.size m1.cs) := belowSetRow ((Below.refl _ _).alloc (Nat.le_refl _) _) (Nat.le_refl _) _
    have b9 : Below w3.heap.size w3 ((w4.alloc (.cells z40 28)).setRow w4.heap.size m1.cs) := q3.trans (bX.mono q3.size)
    have H4 : Hid (MB ((w4.alloc (.cells z40 28)).setRow w4.heap.size m1.cs) w.heap.size m ∧ MB ((w4.alloc (.cells z40 28)).setRow w4.heap.size m1.cs) w4.heap.size m1 ∧ MM ((w4.alloc (.cells z40 28)).setRow w4.heap.size m1.cs) m D hb ∧ MM ((w4.alloc (.cells z40 28)).setRow w4.heap.size m1.cs) m1 D hb ∧ RB ((w4.alloc (.cells z40 28)).setRow w4.heap.size m1.cs) (.slice va EB.length vc) EB ∧ Below w.heap.size w ((w4.alloc (.cells z40 28)).setRow w4.heap.size m1.cs) ∧ m1 = { m with d := m1.d, h := m1.h }) := ⟨H3.out.2.1.below b9, MB.setRow (m := zm) hz2, H3.out.2.2.1.keep b9, M1.keep bX, H3.out.2.2.2.2.keep b9, H3.out.2.2.2.1.trans (b9.mono H3.out.2.2.2.1.size), by rw [hm1]⟩
    clear M1 bX b9 q1 q2 q3 hm1 H3
    go_wp2_with (first | (refine wpList_store_row rfl 28 _ _ rfl w4.heap.size m1.cs rfl rfl 28 z40 hz2 hi1 hs1 ho1 ?_))
    clear hz2
    generalize (w4.alloc (.cells z40 28)).setRow w4.heap.size m1.cs = X at *
    generalize w4.heap.size = G1 at *
    refine (wrap_yes _ EB hle X H4.out.2.2.2.2.1).mono ?_
    rintro e w5 ⟨v5, rfl, o5, b5⟩
    have H5 : Hid (MB w5 w.heap.size m ∧ MB w5 G1 m1 ∧ MM w5 m D hb ∧ MM w5 m1 D hb ∧ Below w.heap.size w w5) := ⟨H4.out.1.below b5, H4.out.2.1.below b5, H4.out.2.2.1.keep b5, H4.out.2.2.2.1.keep b5, H4.out.2.2.2.2.2.1.trans (b5.mono H4.out.2.2.2.2.2.1.size)⟩
    have HMM : Hid (m1 = { m with d := m1.d, h := m1.h }) := H4.out.2.2.2.2.2.2
    clear o5 b5 H4
    have hc1 := H5.out.1.cells
    have hc2 := H5.out.2.1.cells
    go_wp2_with (first | (go_at_call 11; refine (numLT _ _).mono ?_; rintro e w9 ⟨rfl, rfl⟩) | (refine wpList_load_msg rfl _ rfl w.heap.size rfl m hc1 him ?_) | (refine wpList_load_msg rfl _ rfl G1 rfl m1 hc2 hi1 ?_) | (go_at_call 12; refine (msameT w5 m m1 D hb H5.out.2.2.1 H5.out.2.2.2.1 HMM.out).mono ?_; rintro e w6 ⟨rfl, b6⟩; have HF : Hid (Below w.heap.size w w6) := H5.out.2.2.2.2.trans (b6.mono H5.out.2.2.2.2.size); clear b6))
    go_ret
    exact ⟨rfl, HF.out⟩
  · have hE0 : encB m D hb = [] := by unfold encB; rw [HVE.out, if_neg h0]
    have HE0 : Hid ((encB m D hb).length = 0) := by rw [hE0]; rfl
    clear hE0 HBW
    generalize hEL : (encB m D hb).length = EL at *
    have hEL0 : EL = 0 := HE0.out
    subst hEL0
    go_wp2_with (first | (go_at_call 11; refine (numLT _ _).mono ?_; rintro e w9 ⟨rfl, rfl⟩))
    go_ret
    exact ⟨rfl, H3.out.2.2.2.1⟩
end Go.Proofs.YtkngojddeajelaaDoor
