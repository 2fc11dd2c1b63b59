import Derived.Test.YtkngojddeajelaaDoorH3
namespace Go.Proofs.YtkngojddeajelaaDoor
open Go.RowKit
theorem sz_gds (bs : List (List UInt8)) : Fm.sz (gds bs) ≤ Fm.sz bs := by
  induction bs with
  | nil => exact Nat.le_refl _
  | cons b bs ih =>
    unfold gds at ih ⊢
    rw [List.takeWhile_cons]
    split
    · rw [Fm.sz_cons, Fm.sz_cons]; omega
    · exact Nat.zero_le _
set_option maxHeartbeats 2000000 in
set_option maxRecDepth 100000 in
theorem unwiresLaw (w : World) (v : Value) (l : List UInt8) (hl : l.length ≤ 16777216) (hr : RB w v l) (hk : KT w) :
    Calls Tryd.prog 8 #[v] w fun e w' => e = .returned (.bool true) ∧ Below w.heap.size w w' := by
  obtain ⟨a, c, rfl, _⟩ := id hr
  have HO : Hid (OW w.heap.size w (.slice none 0 0) [] ∧ RB w (.slice a l.length c) l ∧ ([] : List UInt8).length + l.length ≤ 140737488351232 ∧ KT w) := ⟨World.ownsRow_nil _ _ _ _, hr, by simp; omega, hk⟩
  clear hr hk
  go_enter Tryd.func8, Tryd.ntmps8
  go_wp2_with (first | (at_builtin; refine append_bytes rfl _ _ rfl rfl HO.out.1 rfl HO.out.2.1 (Nat.le_refl _) HO.out.2.2.1 ?_; intro v1 w1 o1 b1; simp only [List.nil_append] at o1; obtain ⟨ca, cn, cc, rfl⟩ := o1.form3))
  have H1 : Hid (RB w1 (.slice a l.length c) l ∧ RB w1 (.slice ca cn cc) l ∧ KT w1 ∧ Below w.heap.size w w1) := ⟨HO.out.2.1.keep b1, o1.rb, HO.out.2.2.2.below b1 HO.out.2.2.2.pos, b1⟩
  clear o1 b1 HO
  refine (unwireT w1 _ l hl H1.out.1 H1.out.2.2.1).mono ?_
  rintro e w2 ⟨bs, er, ⟨r, hrd⟩, v2, ms, rfl, om, mo, b2⟩
  obtain ⟨ma, mc, rfl⟩ := om.form
  have hszl : Fm.sz (gds bs) ≤ 16777216 := by
    have h9 := (hrd.frames rfl).2.2.1
    have h8 : Fm.sz (gds bs) ≤ Fm.sz bs := sz_gds bs
    omega
  have H2 : Hid (RB w2 (.slice a l.length c) l ∧ RB w2 (.slice ca cn cc) l ∧ Below w.heap.size w w2 ∧ RMS w2 (.slice ma ms.length mc) ms ∧ MsOf ms (gds bs) ∧ Fm.Rd false l [] bs false r er ∧ ms.length ≤ 140737488351232) := ⟨H1.out.1.keep b2, H1.out.2.1.keep b2, H1.out.2.2.2.trans (b2.mono H1.out.2.2.2.size), om.rms, mo, hrd, by have h7 := mo.1; have h6 := sz_ge (gds bs); omega⟩
  clear hrd om mo b2 H1
  generalize hSG : Fm.sz (gds bs) = SG at *
  generalize hUE : unwE bs er = UE at *
  have HS : Hid (Fm.sz (gds bs) = SG ∧ unwE bs er = UE) := ⟨hSG, hUE⟩
  clear hSG hUE
  generalize hML : ms.length = ML at *
  go_wp2_with fail
  refine (rUnwireT w2 _ l hl H2.out.2.1).mono ?_
  rintro e w3 ⟨bs2, er2, ⟨r2, hrd2⟩, v3, ns, rfl, om, mo, b3⟩
  obtain ⟨_, e1, _, _, e2⟩ := H2.out.2.2.2.2.2.1.det hrd2
  subst e1 e2
  rw [HS.out.1, HS.out.2]
  obtain ⟨na, nc, rfl⟩ := om.form
  have H3 : Hid (RB w3 (.slice a l.length c) l ∧ RB w3 (.slice ca cn cc) l ∧ Below w.heap.size w w3 ∧ RMS w3 (.slice ma ML mc) ms ∧ RMS w3 (.slice na ns.length nc) ns ∧ MsEq ms ns ∧ ms.length ≤ 140737488351232) := ⟨H2.out.1.keep b3, H2.out.2.1.keep b3, H2.out.2.2.1.trans (b3.mono H2.out.2.2.1.size), H2.out.2.2.2.1.keep b3, om.rms, H2.out.2.2.2.2.1.eq mo, by rw [hML]; exact H2.out.2.2.2.2.2.2⟩
  clear om mo b3 hrd2 H2 hML
  go_wp2_with (first | (go_at_call 22; refine (rowSameT w3 _ _ ms ns H3.out.2.2.2.1 H3.out.2.2.2.2.1 H3.out.2.2.2.2.2.1 H3.out.2.2.2.2.2.2).mono ?_; rintro e w4 ⟨rfl, b4⟩; have H4 : Hid (RB w4 (.slice a l.length c) l ∧ RB w4 (.slice ca cn cc) l ∧ Below w.heap.size w w4) := ⟨H3.out.1.keep b4, H3.out.2.1.keep b4, H3.out.2.2.1.trans (b4.mono H3.out.2.2.1.size)⟩; clear b4) | (go_at_call 15; refine (same _ _ l w4 (by omega) H4.out.1 H4.out.2.1).mono ?_; rintro e w5 ⟨rfl, nq, rfl⟩))
  go_ret
  exact ⟨rfl, belowN H4.out.2.2 nq⟩
end Go.Proofs.YtkngojddeajelaaDoor
