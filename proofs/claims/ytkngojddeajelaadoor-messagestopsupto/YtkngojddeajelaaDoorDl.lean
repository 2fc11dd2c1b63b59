import Derived.Test.YtkngojddeajelaaDoorRu
namespace Go.Proofs.YtkngojddeajelaaDoor
open Go.RowKit
/-- what was read, as a message in memory -/
theorem MM.of_dec {w w' : World} {l : List UInt8} {d h : Value} (hd : OW w.heap.size w' d (decS l).D) (hh : OH w.heap.size w' h (decS l).hb) : MM w' { (decS l).m with d := d, h := h } (decS l).D (decS l).hb := by
  have hl : (decS l).m.r.length = 32 ∧ (decS l).D.length ≤ 32768 ∧ (decS l).hb.length ≤ 32768 := by
    unfold decS
    by_cases hE : decE l = 0
    · rw [if_pos hE]
      unfold decE at hE
      split at hE
      · omega
      · rename_i h1
        cases hr : rowFor (kindB l) with
        | none => rw [hr] at hE; simp at hE
        | some r =>
          rw [hr] at hE
          simp only at hE ⊢
          split at hE
          · rename_i hfit
            have hnds := fit_NDS r (rowFor_mem hr).1 l hfit
            refine ⟨tks_r _ _ (zr_len 32) hnds, ?_⟩
            have key : ∀ (cs : List Nat) (s : Ds), s.l.length ≤ 32768 → s.D.length ≤ 32768 → s.hb.length ≤ 32768 → (Ds.tks cs s).D.length ≤ 32768 ∧ (Ds.tks cs s).hb.length ≤ 32768 := by
              intro cs
              induction cs with
              | nil => intro s _ h2 h3; exact ⟨h2, h3⟩
              | cons c cs ih =>
                intro s h1 h2 h3
                refine ih (Ds.tk c s) (Nat.le_trans (rst_le c s.l) h1) ?_ ?_
                · show (dD c s.l s.D).length ≤ _
                  unfold dD; split <;> assumption
                · show (dH c s.l s.hb).length ≤ _
                  unfold dH; split <;> assumption
            exact key r.cs ⟨zmk r.k, [], [], l⟩ (by simp only; omega) (by simp) (by simp)
          · omega
    · rw [if_neg hE]
      exact ⟨zr_len 32, by simp, by simp⟩
  exact ⟨⟨hl.1, hd.form3, hh.form⟩, hd.rb, hh.rh, by omega, by omega⟩
set_option maxHeartbeats 1000000 in
set_option maxRecDepth 100000 in
theorem decodesLaw (w : World) (v : Value) (l : List UInt8) (hl : l.length ≤ 140737488351232) (hr : RB w v l) (hk : KT w) :
    Calls Tryd.prog 5 #[v] w fun e w' => e = .returned (.bool true) ∧ Below w.heap.size w w' := by
  obtain ⟨a, c, rfl, _⟩ := id hr
  have HO : Hid (OW w.heap.size w (.slice none 0 0) [] ∧ RB w (.slice a l.length c) l ∧ ([] : List UInt8).length + l.length ≤ 140737488351232 ∧ KT w) := ⟨World.ownsRow_nil _ _ _ _, hr, by simpa using hl, hk⟩
  clear hr hk
  go_enter Tryd.func5, Tryd.ntmps5
  go_wp2_with (first | (at_builtin; refine append_bytes rfl _ _ rfl rfl HO.out.1 rfl HO.out.2.1 (Nat.le_refl _) HO.out.2.2.1 ?_; intro v1 w1 o1 b1; simp only [List.nil_append] at o1; obtain ⟨ca, cn, cc, rfl⟩ := o1.form3))
  have H1 : Hid (RB w1 (.slice a l.length c) l ∧ RB w1 (.slice ca cn cc) l ∧ KT w1 ∧ Below w.heap.size w w1) := ⟨HO.out.2.1.keep b1, o1.rb, HO.out.2.2.2.below b1 HO.out.2.2.2.pos, b1⟩
  clear o1 b1 HO
  refine (decodeT w1 _ l hl H1.out.1 H1.out.2.2.1).mono ?_
  rintro e w2 ⟨d1, h1, rfl, q1, q2, q3⟩
  have M1 := MM.of_dec q1 q2
  obtain ⟨m1, hm1⟩ : ∃ m, m = ({ (decS l).m with d := d1, h := h1 } : Mv) := ⟨_, rfl⟩
  rw [← hm1] at M1 ⊢
  have hz2 := heapNew w2 (.cells z40 28)
  have hi1 := info_msg M1.ok
  have ho1 := M1.ok.one
  have hs1 : z40.size = m1.cs.size := M1.ok.size.symm
  have bX : Below w2.heap.size w2 ((w2.alloc (.cells z40 28)).setRow w2.heap.size m1.cs) := belowSetRow ((Below.refl _ _).alloc (Nat.le_refl _) _) (Nat.le_refl _) _
  have H2 : Hid (MB ((w2.alloc (.cells z40 28)).setRow w2.heap.size m1.cs) w2.heap.size m1 ∧ MM ((w2.alloc (.cells z40 28)).setRow w2.heap.size m1.cs) m1 (decS l).D (decS l).hb ∧ RB ((w2.alloc (.cells z40 28)).setRow w2.heap.size m1.cs) (.slice a l.length c) l ∧ RB ((w2.alloc (.cells z40 28)).setRow w2.heap.size m1.cs) (.slice ca cn cc) l ∧ Below w.heap.size w ((w2.alloc (.cells z40 28)).setRow w2.heap.size m1.cs)) := ⟨MB.setRow (m := zm) hz2, M1.keep bX, (H1.out.1.keep q3).keep bX, (H1.out.2.1.keep q3).keep bX, (H1.out.2.2.2.trans (q3.mono H1.out.2.2.2.size)).trans (bX.mono (Nat.le_trans H1.out.2.2.2.size q3.size))⟩
  have HM1 : Hid (m1 = { (decS l).m with d := d1, h := h1 }) := hm1
  clear M1 bX q1 q2 q3 hm1 H1
  generalize hdE : decE l = dE at *
  have HDE : Hid (decE l = dE) := hdE
  clear hdE
  go_wp2_with (first | (refine wpList_store_row rfl 28 _ _ rfl w2.heap.size m1.cs rfl rfl 28 z40 hz2 hi1 hs1 ho1 ?_))
  clear hz2 ho1 hs1
  generalize (w2.alloc (.cells z40 28)).setRow w2.heap.size m1.cs = X at *
  generalize w2.heap.size = G1 at *
  refine (rDecodeT X _ l hl H2.out.2.2.2.1).mono ?_
  rintro e w3 ⟨d2, h2, rfl, q1, q2, q3⟩
  rw [HDE.out]
  have M2 := MM.of_dec q1 q2
  obtain ⟨m2, hm2⟩ : ∃ m, m = ({ (decS l).m with d := d2, h := h2 } : Mv) := ⟨_, rfl⟩
  rw [← hm2] at M2 ⊢
  have hz2 := heapNew w3 (.cells z40 28)
  have hi2 := info_msg M2.ok
  have ho1 := M2.ok.one
  have hs1 : z40.size = m2.cs.size := M2.ok.size.symm
  have bX : Below w3.heap.size w3 ((w3.alloc (.cells z40 28)).setRow w3.heap.size m2.cs) := belowSetRow ((Below.refl _ _).alloc (Nat.le_refl _) _) (Nat.le_refl _) _
  have b9 : Below X.heap.size X ((w3.alloc (.cells z40 28)).setRow w3.heap.size m2.cs) := q3.trans (bX.mono q3.size)
  have H3 : Hid (MB ((w3.alloc (.cells z40 28)).setRow w3.heap.size m2.cs) G1 m1 ∧ MB ((w3.alloc (.cells z40 28)).setRow w3.heap.size m2.cs) w3.heap.size m2 ∧ MM ((w3.alloc (.cells z40 28)).setRow w3.heap.size m2.cs) m1 (decS l).D (decS l).hb ∧ MM ((w3.alloc (.cells z40 28)).setRow w3.heap.size m2.cs) m2 (decS l).D (decS l).hb ∧ RB ((w3.alloc (.cells z40 28)).setRow w3.heap.size m2.cs) (.slice a l.length c) l ∧ RB ((w3.alloc (.cells z40 28)).setRow w3.heap.size m2.cs) (.slice ca cn cc) l ∧ Below w.heap.size w ((w3.alloc (.cells z40 28)).setRow w3.heap.size m2.cs) ∧ m2 = { m1 with d := m2.d, h := m2.h }) := ⟨H2.out.1.below b9, MB.setRow (m := zm) hz2, H2.out.2.1.keep b9, M2.keep bX, H2.out.2.2.1.keep b9, H2.out.2.2.2.1.keep b9, H2.out.2.2.2.2.trans (b9.mono H2.out.2.2.2.2.size), by rw [HM1.out, hm2]⟩
  clear M2 bX b9 q1 q2 q3 hm2 HM1
  have hc1 := H3.out.1.cells
  have hc2 := H3.out.2.1.cells
  go_wp2_with (first | (refine wpList_store_row rfl 28 _ _ rfl w3.heap.size m2.cs rfl rfl 28 z40 hz2 hi2 hs1 ho1 ?_) | (refine wpList_load_msg rfl _ rfl G1 rfl m1 hc1 hi1 ?_) | (refine wpList_load_msg rfl _ rfl w3.heap.size rfl m2 hc2 hi2 ?_) | (go_at_call 12; refine (msameT _ m1 m2 _ _ H3.out.2.2.1 H3.out.2.2.2.1 H3.out.2.2.2.2.2.2.2).mono ?_; rintro e w4 ⟨rfl, b4⟩; have H4 : Hid (RB w4 (.slice a l.length c) l ∧ RB w4 (.slice ca cn cc) l ∧ Below w.heap.size w w4) := ⟨H3.out.2.2.2.2.1.keep b4, H3.out.2.2.2.2.2.1.keep b4, H3.out.2.2.2.2.2.2.1.trans (b4.mono H3.out.2.2.2.2.2.2.1.size)⟩; clear b4) | (go_at_call 15; refine (same _ _ l w4 hl H4.out.1 H4.out.2.1).mono ?_; rintro e w5 ⟨rfl, nq, rfl⟩))
  go_ret
  exact ⟨rfl, belowN H4.out.2.2 nq⟩
end Go.Proofs.YtkngojddeajelaaDoor
