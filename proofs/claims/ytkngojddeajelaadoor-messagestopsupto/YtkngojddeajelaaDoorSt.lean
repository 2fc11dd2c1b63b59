import Derived.Test.YtkngojddeajelaaDoorH4
namespace Go.Proofs.YtkngojddeajelaaDoor
open Go.RowKit
theorem stop_way {w : World} {ms : List Mg} (hm : ∀ x ∈ ms, MM w x.m x.D x.hb) (h : wirE ms = 0) {bad more : List UInt8} (hb : bad.length ≤ 32768) (hd : decE bad ≠ 0) {bs : List (List UInt8)} {r : List UInt8} {er : Int} (x : Fm.Rd false (wirB ms ++ frm bad ++ more) [] bs false r er) : gds bs = encs ms ∧ unwE bs er = decE bad ∧ Fm.sz (gds bs) = (wirB ms).length := by
  rw [List.append_assoc] at x
  obtain ⟨bs', rfl, x2⟩ := rd_wire ms (fun y hy => (hm y hy).enc_le) x
  obtain ⟨bs2, rfl, _⟩ := rd_inv hb x2
  have hg := encs_good hm h
  have e0 : gds (bad :: bs2) = [] := by unfold gds; rw [List.takeWhile_cons]; simp [hd]
  have e1 : gds (encs ms ++ bad :: bs2) = encs ms := by rw [gds_app _ _ hg, e0, List.append_nil]
  refine ⟨e1, ?_, by rw [e1, sz_encs]⟩
  rw [unwE_app _ _ _ hg]
  exact unwE_stop (n := 0) rfl (by rw [e0]; rfl)
theorem stop_big {w : World} {ms : List Mg} (hm : ∀ x ∈ ms, MM w x.m x.D x.hb) (h : wirE ms = 0) {more : List UInt8} {bs : List (List UInt8)} {r : List UInt8} {er : Int} (x : Fm.Rd false (wirB ms ++ [0, 0, 128, 1] ++ more) [] bs false r er) : gds bs = encs ms ∧ unwE bs er = 102 ∧ Fm.sz (gds bs) = (wirB ms).length := by
  rw [List.append_assoc] at x
  obtain ⟨bs', rfl, x2⟩ := rd_wire ms (fun y hy => (hm y hy).enc_le) x
  obtain ⟨rfl, rfl⟩ := rd_big x2 (by simp) (by rw [Fm.nm_app _ _ (by decide)]; decide)
  have hg := encs_good hm h
  have e1 : gds (encs ms ++ []) = encs ms := by rw [gds_app _ _ hg]; show encs ms ++ [] = _; rw [List.append_nil]
  refine ⟨e1, ?_, by rw [e1, sz_encs]⟩
  rw [unwE_app _ _ _ hg]
  rfl
set_option maxHeartbeats 4000000 in
set_option maxRecDepth 100000 in
theorem stopsLaw (w : World) (v bv mv : Value) (ms : List Mg) (bad more : List UInt8) (hr : RMS w v ms) (hbr : RB w bv bad) (hmr : RB w mv more) (hb : mgW ms ≤ 1048576) (hbl : bad.length ≤ 1048576) (hml : more.length ≤ 1048576) (hk : KT w) :
    Calls Tryd.prog 6 #[v, bv, mv] w fun e w' => e = .returned (.bool true) ∧ Below w.heap.size w w' := by
  obtain ⟨a, c, rfl, _⟩ := id hr
  obtain ⟨ba, bc', rfl, _⟩ := id hbr
  obtain ⟨ma, mc, rfl, _⟩ := id hmr
  have hsz := wirB_bulk (w := w) ms (fun x hx => hr.mem x hx)
  have HO : Hid (RMS w (.slice a ms.length c) ms ∧ RB w (.slice ba bad.length bc') bad ∧ RB w (.slice ma more.length mc) more ∧ mgW ms ≤ 1048576 ∧ KT w ∧ (wirB ms).length ≤ 6291456 ∧ ms.length ≤ 1048576 ∧ bad.length ≤ 1048576 ∧ more.length ≤ 1048576) := ⟨hr, hbr, hmr, hb, hk, by omega, by omega, hbl, hml⟩
  clear hr hbr hmr hb hk hsz
  generalize hlen : ms.length = len at *
  have HN : Hid (ms.length = len) := hlen
  clear hlen
  have hlm : len ≤ 1048576 := HO.out.2.2.2.2.2.2.1
  generalize hBL : bad.length = bal at *
  have HB : Hid (bad.length = bal) := hBL
  clear hBL
  generalize hMO : more.length = mol at *
  have HM : Hid (more.length = mol) := hMO
  clear hMO
  go_enter Tryd.func6, Tryd.ntmps6
  go_wp2_with fail
  refine (farMsgsT w _ ms HO.out.1 HO.out.2.2.2.1).mono ?_
  rintro e w1 ⟨rfl, b1⟩
  have H1 : Hid (KT w1 ∧ Below w.heap.size w w1) := ⟨HO.out.2.2.2.2.1.below b1 HO.out.2.2.2.2.1.pos, b1⟩
  clear b1
  go_wp2_with fail
  refine (awakeT w1 H1.out.1).mono ?_
  rintro e w2 ⟨rfl, b2⟩
  have H2 : Hid (KT w2 ∧ Below w.heap.size w w2 ∧ RMS w2 (.slice a len c) ms) := ⟨H1.out.1.below b2 H1.out.1.pos, H1.out.2.trans (b2.mono H1.out.2.size), HO.out.1.keep (H1.out.2.trans (b2.mono H1.out.2.size))⟩
  clear b2 H1
  go_wp2_with fail
  refine (wireT w2 _ ms H2.out.2.2 H2.out.1 (by have := HN.out; omega)).mono ?_
  rintro e w3 ⟨v3, rfl, o3, b3⟩
  obtain ⟨va, vc, rfl⟩ := o3.form
  have H3 : Hid (KT w3 ∧ Below w.heap.size w w3 ∧ RMS w3 (.slice a len c) ms ∧ RB w3 (.slice ba bal bc') bad ∧ RB w3 (.slice ma mol mc) more ∧ RB w3 (.slice va (if wirE ms = 0 then wirB ms else []).length vc) (if wirE ms = 0 then wirB ms else [])) := by
    have bb : Below w.heap.size w w3 := H2.out.2.1.trans (b3.mono H2.out.2.1.size)
    exact ⟨H2.out.1.below b3 H2.out.1.pos, bb, HO.out.1.keep bb, HO.out.2.1.keep bb, HO.out.2.2.1.keep bb, o3.rb⟩
  clear b3 o3 H2
  generalize hWB : (if wirE ms = 0 then wirB ms else []) = WB at *
  have HWB : Hid ((if wirE ms = 0 then wirB ms else []) = WB) := hWB
  clear hWB
  generalize hWE : wirE ms = WE at *
  have HWE : Hid (wirE ms = WE) := hWE
  clear hWE
  generalize hbl' : WB.length = bl at *
  have HBL : Hid (WB.length = bl) := hbl'
  clear hbl'
  go_wp2_with fail
  refine (decodeT w3 _ bad (by have := HB.out; omega) H3.out.2.2.2.1 H3.out.1).mono ?_
  rintro e w4 ⟨d1, h1, rfl, q1, q2, q3⟩
  have M1 := MM.of_dec q1 q2
  obtain ⟨m1, hm1⟩ : ∃ m1, m1 = ({ (decS bad).m with d := d1, h := h1 } : Mv) := ⟨_, rfl⟩
  rw [← hm1] at M1 ⊢
  have hz2 := heapNew w4 (.cells z40 28)
  have hi1 := info_msg M1.ok
  have ho1 := M1.ok.one
  have hs1 : z40.size = m1.cs.size := M1.ok.size.symm
  have bX : Below w4.heap.size w4 ((w4.alloc (.cells z40 28)).setRow w4.heap.size m1.cs) := belowSetRow ((Below.refl _ _).alloc (Nat.le_refl _) _) (Nat.le_refl _) _
  have b9 : Below w3.heap.size w3 ((w4.alloc (.cells z40 28)).setRow w4.heap.size m1.cs) := q3.trans (bX.mono q3.size)
  have H4 : Hid (KT ((w4.alloc (.cells z40 28)).setRow w4.heap.size m1.cs) ∧ Below w.heap.size w ((w4.alloc (.cells z40 28)).setRow w4.heap.size m1.cs) ∧ RMS ((w4.alloc (.cells z40 28)).setRow w4.heap.size m1.cs) (.slice a len c) ms ∧ RB ((w4.alloc (.cells z40 28)).setRow w4.heap.size m1.cs) (.slice ba bal bc') bad ∧ RB ((w4.alloc (.cells z40 28)).setRow w4.heap.size m1.cs) (.slice ma mol mc) more ∧ RB ((w4.alloc (.cells z40 28)).setRow w4.heap.size m1.cs) (.slice va bl vc) WB) :=
    ⟨H3.out.1.below b9 H3.out.1.pos, H3.out.2.1.trans (b9.mono H3.out.2.1.size), H3.out.2.2.1.keep b9, H3.out.2.2.2.1.keep b9, H3.out.2.2.2.2.1.keep b9, H3.out.2.2.2.2.2.keep b9⟩
  clear q1 q2 q3 H3 bX b9 M1 hm1
  generalize hDE : decE bad = DE at *
  have HDE : Hid (decE bad = DE) := hDE
  clear hDE
  by_cases hw0 : WE = 0
  · subst hw0
    by_cases hd0 : DE = 0
    · subst hd0
      go_wp2_with (first | (refine wpList_store_row rfl 28 _ _ rfl w4.heap.size m1.cs rfl rfl 28 z40 hz2 hi1 hs1 ho1 ?_) | (go_at_call 11; refine (numLT _ _).mono ?_; rintro e w9 ⟨rfl, rfl⟩))
      go_ret
      exact ⟨rfl, H4.out.2.1⟩
    · have HWW : Hid (WB = wirB ms ∧ wirE ms = 0 ∧ bl = (wirB ms).length) := by
        have h1 : WB = wirB ms := by rw [← HWB.out, if_pos rfl]
        exact ⟨h1, HWE.out, by rw [← HBL.out, h1]⟩
      go_wp2_with (first | (refine wpList_store_row rfl 28 _ _ rfl w4.heap.size m1.cs rfl rfl 28 z40 hz2 hi1 hs1 ho1 ?_) | (go_at_call 11; refine (numLT _ _).mono ?_; rintro e w9 ⟨rfl, rfl⟩))
      clear hz2
      generalize (w4.alloc (.cells z40 28)).setRow w4.heap.size m1.cs = X at *
      by_cases hbs : bal ≤ 32768
      · refine (wrap_yes _ bad (by rw [HB.out]; exact hbs) X H4.out.2.2.2.1).mono ?_
        rintro e Y ⟨v5, rfl, o5, b5⟩
        obtain ⟨wa, wn, wc, rfl⟩ := o5.form3
        have HG : Hid (KT Y ∧ Below w.heap.size w Y ∧ RMS Y (.slice a len c) ms ∧ RB Y (.slice ma mol mc) more ∧ RB Y (.slice va bl vc) WB ∧ RB Y (.slice wa wn wc) (frm bad) ∧ (frm bad).length ≤ 1048580) := ⟨H4.out.1.below b5 H4.out.1.pos, H4.out.2.1.trans (b5.mono H4.out.2.1.size), H4.out.2.2.1.keep b5, H4.out.2.2.2.2.1.keep b5, H4.out.2.2.2.2.2.keep b5, o5.rb, by rw [frm_len, HB.out]; omega⟩
        clear H4 o5 b5
        go_wp2_with (first | (go_at_call 11; refine (numLT _ _).mono ?_; rintro e w9 ⟨rfl, rfl⟩))
        have hjl : WB.length + (frm bad).length ≤ 140737488351232 := by rw [HWW.out.1]; have h1 := HO.out.2.2.2.2.2.1; have h2 := HG.out.2.2.2.2.2.2; omega
        refine (joinedT Y _ _ WB (frm bad) HG.out.2.2.2.2.1 HG.out.2.2.2.2.2.1 hjl).mono ?_
        rintro e w6 ⟨v6, rfl, o6, b6⟩
        obtain ⟨ta, tn, tc, rfl⟩ := o6.form3
        have HI : Hid (KT w6 ∧ Below w.heap.size w w6 ∧ RMS w6 (.slice a len c) ms ∧ RB w6 (.slice ma mol mc) more ∧ RB w6 (.slice ta tn tc) (wirB ms ++ frm bad)) := ⟨HG.out.1.below b6 HG.out.1.pos, HG.out.2.1.trans (b6.mono HG.out.2.1.size), HG.out.2.2.1.keep b6, HG.out.2.2.2.1.keep b6, by have h9 := o6.rb; rw [HWW.out.1] at h9; exact h9⟩
        have HT : Hid ((wirB ms ++ frm bad).length + more.length ≤ 16777216) := by show (wirB ms ++ frm bad).length + more.length ≤ 16777216; rw [List.length_append, HM.out]; have h1 := HO.out.2.2.2.2.2.1; have h2 := HG.out.2.2.2.2.2.2; omega
        clear HG o6 b6 hjl
        go_wp2_with fail
        refine (joinedT w6 _ _ (wirB ms ++ frm bad) more HI.out.2.2.2.2 HI.out.2.2.2.1 (by have := HT.out; omega)).mono ?_
        rintro e w7 ⟨v7, rfl, o7, b7⟩
        obtain ⟨ua, un, uc, rfl⟩ := o7.form3
        have HJ : Hid (KT w7 ∧ Below w.heap.size w w7 ∧ RMS w7 (.slice a len c) ms ∧ RB w7 (.slice ua un uc) (wirB ms ++ frm bad ++ more)) := ⟨HI.out.1.below b7 HI.out.1.pos, HI.out.2.1.trans (b7.mono HI.out.2.1.size), HI.out.2.2.1.keep b7, o7.rb⟩
        clear HI o7 b7
        go_wp2_with fail
        refine (unwireT w7 _ (wirB ms ++ frm bad ++ more) (by rw [List.length_append]; exact HT.out) HJ.out.2.2.2 HJ.out.1).mono ?_
        rintro e w11 ⟨bs1, er1, ⟨r1, hrd1⟩, v11, ns1, rfl, o11, hms1, b11⟩
        obtain ⟨k1, k2, k3⟩ := stop_way (w := w7) (ms := ms) (fun y hy => HJ.out.2.2.1.mem y hy) HWW.out.2.1 (by rw [HB.out]; exact hbs) (by rw [HDE.out]; exact hd0) hrd1
        rw [k2, k3, ← HWW.out.2.2, HDE.out]
        rw [k1] at hms1
        obtain ⟨xa, xc, rfl⟩ := o11.form
        have HK : Hid (Below w.heap.size w w11 ∧ RMS w11 (.slice a len c) ms ∧ RMS w11 (.slice xa ns1.length xc) ns1 ∧ MsEq ns1 ms ∧ ns1.length = len) :=
          ⟨HJ.out.2.1.trans (b11.mono HJ.out.2.1.size), HJ.out.2.2.1.keep b11, o11.rms, ms_back (w := w7) (fun y hy => HJ.out.2.2.1.mem y hy) HWW.out.2.1 hms1, by rw [hms1.1]; unfold encs; rw [List.length_map]; exact HN.out⟩
        clear HJ b11 o11 hms1 k1 k2 k3 hrd1
        generalize hnl : ns1.length = nl1 at *
        obtain rfl : nl1 = len := HK.out.2.2.2.2
        have HN1 : Hid (ns1.length = nl1) := hnl
        clear hnl
        have hblk : bl ≤ 6291456 := by rw [HWW.out.2.2]; exact HO.out.2.2.2.2.2.1
        go_wp2_with (first | (go_at_call 11; refine (numLT _ _).mono ?_; rintro e w9 ⟨rfl, rfl⟩))
        refine (rowSameT w11 _ _ ns1 ms HK.out.2.2.1 HK.out.2.1 HK.out.2.2.2.1 (by rw [HN1.out]; omega)).mono ?_
        rintro e w12 ⟨rfl, b12⟩
        have HZ : Hid (Below w.heap.size w w12) := HK.out.1.trans (b12.mono HK.out.1.size)
        clear HK b12
        go_wp2
        go_ret
        exact ⟨rfl, HZ.out⟩
      · refine (wrap_no _ _ _ (by omega) (by omega) X).mono ?_
        rintro e Y0 ⟨rfl, rfl⟩
        go_wp2_with (first | (go_at_call 11; refine (numLT _ _).mono ?_; rintro e w9 ⟨rfl, rfl⟩))
        have hc4 := heapNew X (.cells (bc [0, 0, 128, 1]) 5)
        have b5 : Below X.heap.size X (X.alloc (.cells (bc [0, 0, 128, 1]) 5)) := (Below.refl _ _).alloc (Nat.le_refl _) _
        have hr4 : RB (X.alloc (.cells (bc [0, 0, 128, 1]) 5)) (.slice (some ⟨X.heap.size, 0, none⟩) 4 4) [0, 0, 128, 1] := rb_new rfl
        have HG : Hid (KT (X.alloc (.cells (bc [0, 0, 128, 1]) 5)) ∧ Below w.heap.size w (X.alloc (.cells (bc [0, 0, 128, 1]) 5)) ∧ RMS (X.alloc (.cells (bc [0, 0, 128, 1]) 5)) (.slice a len c) ms ∧ RB (X.alloc (.cells (bc [0, 0, 128, 1]) 5)) (.slice ma mol mc) more ∧ RB (X.alloc (.cells (bc [0, 0, 128, 1]) 5)) (.slice va bl vc) WB ∧ RB (X.alloc (.cells (bc [0, 0, 128, 1]) 5)) (.slice (some ⟨X.heap.size, 0, none⟩) 4 4) [0, 0, 128, 1] ∧ ([0, 0, 128, 1] : List UInt8).length ≤ 1048580) := ⟨H4.out.1.below b5 H4.out.1.pos, H4.out.2.1.trans (b5.mono H4.out.2.1.size), H4.out.2.2.1.keep b5, H4.out.2.2.2.2.1.keep b5, H4.out.2.2.2.2.2.keep b5, hr4, by decide⟩
        clear H4 b5 hr4 hc4
        rw [show #[Value.int .u8 0, Value.int .u8 0, Value.int .u8 128, Value.int .u8 1] = bc [0, 0, 128, 1] from rfl]
        generalize X.alloc (.cells (bc [0, 0, 128, 1]) 5) = Y at *
        have hjl : WB.length + ([0, 0, 128, 1]).length ≤ 140737488351232 := by rw [HWW.out.1]; have h1 := HO.out.2.2.2.2.2.1; have h2 := HG.out.2.2.2.2.2.2; omega
        refine (joinedT Y _ _ WB ([0, 0, 128, 1]) HG.out.2.2.2.2.1 HG.out.2.2.2.2.2.1 hjl).mono ?_
        rintro e w6 ⟨v6, rfl, o6, b6⟩
        obtain ⟨ta, tn, tc, rfl⟩ := o6.form3
        have HI : Hid (KT w6 ∧ Below w.heap.size w w6 ∧ RMS w6 (.slice a len c) ms ∧ RB w6 (.slice ma mol mc) more ∧ RB w6 (.slice ta tn tc) (wirB ms ++ [0, 0, 128, 1])) := ⟨HG.out.1.below b6 HG.out.1.pos, HG.out.2.1.trans (b6.mono HG.out.2.1.size), HG.out.2.2.1.keep b6, HG.out.2.2.2.1.keep b6, by have h9 := o6.rb; rw [HWW.out.1] at h9; exact h9⟩
        have HT : Hid ((wirB ms ++ [0, 0, 128, 1]).length + more.length ≤ 16777216) := by show (wirB ms ++ [0, 0, 128, 1]).length + more.length ≤ 16777216; rw [List.length_append, HM.out]; have h1 := HO.out.2.2.2.2.2.1; have h2 := HG.out.2.2.2.2.2.2; omega
        clear HG o6 b6 hjl
        go_wp2_with fail
        refine (joinedT w6 _ _ (wirB ms ++ [0, 0, 128, 1]) more HI.out.2.2.2.2 HI.out.2.2.2.1 (by have := HT.out; omega)).mono ?_
        rintro e w7 ⟨v7, rfl, o7, b7⟩
        obtain ⟨ua, un, uc, rfl⟩ := o7.form3
        have HJ : Hid (KT w7 ∧ Below w.heap.size w w7 ∧ RMS w7 (.slice a len c) ms ∧ RB w7 (.slice ua un uc) (wirB ms ++ [0, 0, 128, 1] ++ more)) := ⟨HI.out.1.below b7 HI.out.1.pos, HI.out.2.1.trans (b7.mono HI.out.2.1.size), HI.out.2.2.1.keep b7, o7.rb⟩
        clear HI o7 b7
        go_wp2_with fail
        refine (unwireT w7 _ (wirB ms ++ [0, 0, 128, 1] ++ more) (by rw [List.length_append]; exact HT.out) HJ.out.2.2.2 HJ.out.1).mono ?_
        rintro e w11 ⟨bs1, er1, ⟨r1, hrd1⟩, v11, ns1, rfl, o11, hms1, b11⟩
        obtain ⟨k1, k2, k3⟩ := stop_big (w := w7) (ms := ms) (fun y hy => HJ.out.2.2.1.mem y hy) HWW.out.2.1 hrd1
        rw [k2, k3, ← HWW.out.2.2]
        rw [k1] at hms1
        obtain ⟨xa, xc, rfl⟩ := o11.form
        have HK : Hid (Below w.heap.size w w11 ∧ RMS w11 (.slice a len c) ms ∧ RMS w11 (.slice xa ns1.length xc) ns1 ∧ MsEq ns1 ms ∧ ns1.length = len) :=
          ⟨HJ.out.2.1.trans (b11.mono HJ.out.2.1.size), HJ.out.2.2.1.keep b11, o11.rms, ms_back (w := w7) (fun y hy => HJ.out.2.2.1.mem y hy) HWW.out.2.1 hms1, by rw [hms1.1]; unfold encs; rw [List.length_map]; exact HN.out⟩
        clear HJ b11 o11 hms1 k1 k2 k3 hrd1
        generalize hnl : ns1.length = nl1 at *
        obtain rfl : nl1 = len := HK.out.2.2.2.2
        have HN1 : Hid (ns1.length = nl1) := hnl
        clear hnl
        have hblk : bl ≤ 6291456 := by rw [HWW.out.2.2]; exact HO.out.2.2.2.2.2.1
        go_wp2_with (first | (go_at_call 11; refine (numLT _ _).mono ?_; rintro e w9 ⟨rfl, rfl⟩))
        refine (rowSameT w11 _ _ ns1 ms HK.out.2.2.1 HK.out.2.1 HK.out.2.2.2.1 (by rw [HN1.out]; omega)).mono ?_
        rintro e w12 ⟨rfl, b12⟩
        have HZ : Hid (Below w.heap.size w w12) := HK.out.1.trans (b12.mono HK.out.1.size)
        clear HK b12
        go_wp2
        go_ret
        exact ⟨rfl, HZ.out⟩
  · go_wp2_with (first | (refine wpList_store_row rfl 28 _ _ rfl w4.heap.size m1.cs rfl rfl 28 z40 hz2 hi1 hs1 ho1 ?_) | (go_at_call 11; refine (numLT _ _).mono ?_; rintro e w9 ⟨rfl, rfl⟩))
    go_ret
    exact ⟨rfl, H4.out.2.1⟩
end Go.Proofs.YtkngojddeajelaaDoor
