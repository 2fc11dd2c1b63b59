import Derived.Test.YtjhnkdhbjpddcaaDoorGe
namespace Go.Proofs.YtjhnkdhbjpddcaaDoor
open Go.RowKit
set_option maxHeartbeats 4000000 in
set_option maxRecDepth 100000 in
theorem stale14 (m : Nat) (hm : m ≤ 65536) (v u : Value) (l r : List UInt8) (w : World) (hr : RB w v l) (hs : RB w u r) (ht : MT w) (hl : ck m l = 0) (hl2 : ck m r = 0) :
    Calls Tryd.prog 14 #[.int .i64 (m : Int), v, u] w fun e w' => e = .returned (.bool true) ∧ Below w.heap.size w w' := by
  obtain ⟨ca, za, ra, na, CA⟩ := cs_of hm hl
  obtain ⟨cb, zb, rb, nb, CB⟩ := cs_of hm hl2
  have HCA : Hid (Cs m l ca za ra na) := CA
  have HCB : Hid (Cs m r cb zb rb nb) := CB
  have h8 : l.length = (m + 7) / 8 := by have := (ck_ok hl).2.2.1; simpa using this
  have h9 : r.length = (m + 7) / 8 := by have := (ck_ok hl2).2.2.1; simpa using this
  obtain ⟨bn, hbn⟩ : ∃ bn, bn = (m + 7) / 8 := ⟨_, rfl⟩
  rw [← hbn] at h8 h9
  have hb8 : bn ≤ 8192 := by omega
  have HL : Hid (l.length = bn ∧ r.length = bn) := ⟨h8, h9⟩
  have HW : Hid (RB w v l ∧ RB w u r ∧ MT w) := ⟨hr, hs, ht⟩
  have C1 : Hid (∀ w', Below w.heap.size w w' → Calls Tryd.prog 10 #[v] w' fun e w2 => ∃ a c, e = .returned (.slice a bn c) ∧ OW w'.heap.size w2 (.slice a bn c) l ∧ Below w'.heap.size w' w2) := fun w' hb => by
    refine (copied9 (hr.keep hb) (by omega)).mono ?_
    rintro e w2 ⟨x, rfl, h1, h2⟩
    obtain ⟨a, c, rfl⟩ := h1.form
    rw [h8] at h1 ⊢
    exact ⟨a, c, rfl, h1, h2⟩
  have C2 : Hid (∀ w', Below w.heap.size w w' → Calls Tryd.prog 10 #[u] w' fun e w2 => ∃ a c, e = .returned (.slice a bn c) ∧ OW w'.heap.size w2 (.slice a bn c) r ∧ Below w'.heap.size w' w2) := fun w' hb => by
    refine (copied9 (hs.keep hb) (by omega)).mono ?_
    rintro e w2 ⟨x, rfl, h1, h2⟩
    obtain ⟨a, c, rfl⟩ := h1.form
    rw [h9] at h1 ⊢
    exact ⟨a, c, rfl, h1, h2⟩
  obtain ⟨va, vc, hv, hr_⟩ := hr; clear hr_
  subst hv
  obtain ⟨ua, uc, hu, hs_⟩ := hs; clear hs_
  subst hu
  rw [h8] at C1 HW ⊢
  rw [h9] at C2 HW ⊢
  have hcz := CA.cz
  have hcz2 := CB.cz
  have lz1 := CA.lz
  have lz2 := CB.lz
  clear CA CB ht hl hl2 h8 h9 hbn
  subst hcz
  subst hcz2
  go_enter Tryd.func14, Tryd.ntmps14
  go_wp2_with fail
  refine (C1.out _ (Below.refl _ _)).mono ?_
  rintro e w1 ⟨ga, gc, rfl, o1, b1⟩
  have S1 : Hid (Below w.heap.size w w1 ∧ OW w.heap.size w1 (.slice ga bn gc) l ∧ All w1.heap.size w1 [] ∧ w1.heap.size ≤ w1.heap.size ∧ MT w1) := ⟨b1, o1, All.nil _ _, Nat.le_refl _, HW.out.2.2.keep b1⟩
  have HG : Hid (∀ g, (Value.slice ga bn gc).ownBlock = some g → g < w1.heap.size) := fun g hg => (o1.blk g hg).2
  clear o1 b1
  go_wp2_with fail
  refine (HCA.out.cnt _ _ S1.out.2.1.rb S1.out.2.2.2.2).mono ?_
  rintro e w2 ⟨rfl, b⟩
  have S2 : Hid (Below w.heap.size w w2 ∧ OW w.heap.size w2 (.slice ga bn gc) l ∧ All w1.heap.size w2 [] ∧ w1.heap.size ≤ w2.heap.size ∧ MT w2) := ⟨S1.out.1.trans (b.mono S1.out.1.size), S1.out.2.1.grow b, S1.out.2.2.1.keep b, Nat.le_trans S1.out.2.2.2.1 b.size, S1.out.2.2.2.2.keep b⟩
  clear S1 b
  go_wp2_with fail
  refine (HCA.out.one _ _ S2.out.2.1.rb S2.out.2.2.2.2).mono ?_
  rintro e w3 ⟨a3, c3, rfl, o, b⟩
  have S3 : Hid (Below w.heap.size w w3 ∧ OW w.heap.size w3 (.slice ga bn gc) l ∧ All w1.heap.size w3 [Fc.z (.slice a3 za.length c3) za] ∧ w1.heap.size ≤ w3.heap.size ∧ MT w3) := ⟨S2.out.1.trans (b.mono S2.out.1.size), S2.out.2.1.grow b, S2.out.2.2.1.add b S2.out.2.2.2.1 _ o, Nat.le_trans S2.out.2.2.2.1 b.size, S2.out.2.2.2.2.keep b⟩
  clear S2 o b
  go_wp2_with fail
  refine (HCA.out.run _ _ S3.out.2.1.rb S3.out.2.2.2.2).mono ?_
  rintro e w4 ⟨a4, c4, rfl, o, b⟩
  have S4 : Hid (Below w.heap.size w w4 ∧ OW w.heap.size w4 (.slice ga bn gc) l ∧ All w1.heap.size w4 [Fc.u (.slice a4 ra.length c4) ra, Fc.z (.slice a3 za.length c3) za] ∧ w1.heap.size ≤ w4.heap.size ∧ MT w4) := ⟨S3.out.1.trans (b.mono S3.out.1.size), S3.out.2.1.grow b, S3.out.2.2.1.add b S3.out.2.2.2.1 _ o, Nat.le_trans S3.out.2.2.2.1 b.size, S3.out.2.2.2.2.keep b⟩
  clear S3 o b
  go_wp2_with fail
  refine (HCA.out.not _ _ S4.out.2.1.rb S4.out.2.2.2.2).mono ?_
  rintro e w5 ⟨a5, c5, rfl, o, b⟩
  have S5 : Hid (Below w.heap.size w w5 ∧ OW w.heap.size w5 (.slice ga bn gc) l ∧ All w1.heap.size w5 [Fc.b (.slice a5 na.length c5) na, Fc.u (.slice a4 ra.length c4) ra, Fc.z (.slice a3 za.length c3) za] ∧ w1.heap.size ≤ w5.heap.size ∧ MT w5) := ⟨S4.out.1.trans (b.mono S4.out.1.size), S4.out.2.1.grow b, S4.out.2.2.1.add b S4.out.2.2.2.1 _ o, Nat.le_trans S4.out.2.2.2.1 b.size, S4.out.2.2.2.2.keep b⟩
  clear S4 o b
  go_wp2_with fail
  go_loopw [16] (fun t wr => ∃ (k : Nat) (cur : List UInt8), k ≤ bn ∧ t = .int .i64 k ∧ Hid (OW w.heap.size wr (.slice ga bn gc) cur ∧ cur.length = bn ∧ (∀ j, j < k → byt cur j = byt r j) ∧ Fr (fun q => (Value.slice ga bn gc).ownBlock ≠ some q) w5 wr)) (fun t _ => bn - (intOf t).toNat)
  case atStart => exact ⟨0, l, Nat.zero_le _, rfl, S5.out.2.1, HL.out.1, fun j hj => absurd hj (Nat.not_lt_zero _), Fr.refl _ _⟩
  case round =>
    obtain ⟨k, cur, hk, rfl, H⟩ := hrel
    by_cases hlt : k < bn
    · obtain ⟨g, rfl, hg, q1, q2⟩ := H.out.1.at k hlt
      obtain ⟨ug, uo, rfl, q3⟩ : ∃ ug uo, ua = some ⟨ug, uo, none⟩ ∧ wr.cell? ⟨ug, uo + k, none⟩ = some (.int .u8 ((byt r k).toNat : Int)) := by
        obtain ⟨a', c', e, hh⟩ := HW.out.2.1
        simp only [Value.slice.injEq] at e
        obtain ⟨rfl, _, rfl⟩ := e
        rcases hh with hh | ⟨ug, uo, rfl, hu, hh⟩
        · have := HL.out.2; rw [hh] at this; simp at this; omega
        · refine ⟨ug, uo, rfl, ?_⟩
          have e1 := (S5.out.1.cell (p := ⟨ug, uo + k, none⟩) hu).trans (hh k (by rw [HL.out.2]; exact hlt))
          exact (World.cell?_of_block (w := w5) (H.out.2.2.2.block ug (Nat.lt_of_lt_of_le hu S5.out.1.size) (fun e => by simp [Value.ownBlock] at e; omega))).trans e1
      have HN : Hid (OW w.heap.size (wr.setCell ⟨g, k, none⟩ (.int .u8 ((byt r k).toNat : Int))) (.slice (some ⟨g, 0, none⟩) bn gc) (cur.set k (byt r k)) ∧ (cur.set k (byt r k)).length = bn ∧ (∀ j, j < k + 1 → byt (cur.set k (byt r k)) j = byt r j) ∧ Fr (fun q => (Value.slice (some ⟨g, 0, none⟩) bn gc).ownBlock ≠ some q) w5 (wr.setCell ⟨g, k, none⟩ (.int .u8 ((byt r k).toNat : Int)))) := by
        refine ⟨H.out.1.stored k _, by rw [List.length_set]; exact H.out.2.1, fun j hj => ?_, H.out.2.2.2.setCell g k _ (fun _ x => x rfl)⟩
        rw [byt_set _ _ _ _ (by rw [H.out.2.1]; exact hlt)]
        split
        · rename_i e; rw [e]
        · exact H.out.2.2.1 j (by omega)
      clear H
      generalize cur.set k (byt r k) = cur2 at *
      generalize ((byt r k).toNat : Int) = y at *
      go_wp2
      exact ⟨⟨k + 1, cur2, by omega, by go_num, HN⟩, by simp [intOf]; omega⟩
    · obtain rfl : k = bn := by omega
      obtain ⟨w6, hw6⟩ : ∃ x, x = wr := ⟨_, rfl⟩
      subst hw6
      have S6 : Hid (Below w.heap.size w w6 ∧ OW w.heap.size w6 (.slice ga k gc) r ∧ All w1.heap.size w6 [Fc.b (.slice a5 na.length c5) na, Fc.u (.slice a4 ra.length c4) ra, Fc.z (.slice a3 za.length c3) za] ∧ w1.heap.size ≤ w6.heap.size ∧ MT w6) := by
        have hcur : cur = r := by
          apply List.ext_getElem (by rw [H.out.2.1, HL.out.2])
          intro j h1 h2
          have := H.out.2.2.1 j (by rw [H.out.2.1] at h1; exact h1)
          rwa [getD_byt _ _ h1, getD_byt _ _ h2] at this
        have hfr := H.out.2.2.2
        have hbel : Below w.heap.size w w6 := ⟨hfr.os.trans S5.out.1.os, hfr.tape.trans S5.out.1.tape, hfr.output.trans S5.out.1.output, Nat.le_trans S5.out.1.size hfr.size, fun q hq => (hfr.block q (Nat.lt_of_lt_of_le hq S5.out.1.size) (fun e => by have := (H.out.1.blk q e).1; omega)).trans (S5.out.1.block q hq)⟩
        have ho := H.out.1
        rw [hcur] at ho
        exact ⟨hbel, ho, S5.out.2.2.1.fr hfr (fun q hq e => by have := HG.out q e; omega), Nat.le_trans S5.out.2.2.2.1 hfr.size, HW.out.2.2.keep hbel⟩
      clear S5 H hk hlt
      go_wp2_with fail
      refine (HCB.out.cnt _ _ S6.out.2.1.rb S6.out.2.2.2.2).mono ?_
      rintro e w7 ⟨rfl, b⟩
      have S7 : Hid (Below w.heap.size w w7 ∧ OW w.heap.size w7 (.slice ga k gc) r ∧ All w1.heap.size w7 [Fc.b (.slice a5 na.length c5) na, Fc.u (.slice a4 ra.length c4) ra, Fc.z (.slice a3 za.length c3) za] ∧ w1.heap.size ≤ w7.heap.size ∧ MT w7) := ⟨S6.out.1.trans (b.mono S6.out.1.size), S6.out.2.1.grow b, S6.out.2.2.1.keep b, Nat.le_trans S6.out.2.2.2.1 b.size, S6.out.2.2.2.2.keep b⟩
      clear S6 b
      go_wp2_with fail
      refine (HCB.out.one _ _ S7.out.2.1.rb S7.out.2.2.2.2).mono ?_
      rintro e w8 ⟨a8, c8, rfl, o, b⟩
      have S8 : Hid (Below w.heap.size w w8 ∧ OW w.heap.size w8 (.slice ga k gc) r ∧ All w1.heap.size w8 [Fc.z (.slice a8 zb.length c8) zb, Fc.b (.slice a5 na.length c5) na, Fc.u (.slice a4 ra.length c4) ra, Fc.z (.slice a3 za.length c3) za] ∧ w1.heap.size ≤ w8.heap.size ∧ MT w8) := ⟨S7.out.1.trans (b.mono S7.out.1.size), S7.out.2.1.grow b, S7.out.2.2.1.add b S7.out.2.2.2.1 _ o, Nat.le_trans S7.out.2.2.2.1 b.size, S7.out.2.2.2.2.keep b⟩
      clear S7 o b
      go_wp2_with fail
      refine (HCB.out.run _ _ S8.out.2.1.rb S8.out.2.2.2.2).mono ?_
      rintro e w9 ⟨a9, c9, rfl, o, b⟩
      have S9 : Hid (Below w.heap.size w w9 ∧ OW w.heap.size w9 (.slice ga k gc) r ∧ All w1.heap.size w9 [Fc.u (.slice a9 rb.length c9) rb, Fc.z (.slice a8 zb.length c8) zb, Fc.b (.slice a5 na.length c5) na, Fc.u (.slice a4 ra.length c4) ra, Fc.z (.slice a3 za.length c3) za] ∧ w1.heap.size ≤ w9.heap.size ∧ MT w9) := ⟨S8.out.1.trans (b.mono S8.out.1.size), S8.out.2.1.grow b, S8.out.2.2.1.add b S8.out.2.2.2.1 _ o, Nat.le_trans S8.out.2.2.2.1 b.size, S8.out.2.2.2.2.keep b⟩
      clear S8 o b
      go_wp2_with fail
      refine (HCB.out.not _ _ S9.out.2.1.rb S9.out.2.2.2.2).mono ?_
      rintro e w10 ⟨a10, c10, rfl, o, b⟩
      have S10 : Hid (Below w.heap.size w w10 ∧ OW w.heap.size w10 (.slice ga k gc) r ∧ All w1.heap.size w10 [Fc.b (.slice a10 nb.length c10) nb, Fc.u (.slice a9 rb.length c9) rb, Fc.z (.slice a8 zb.length c8) zb, Fc.b (.slice a5 na.length c5) na, Fc.u (.slice a4 ra.length c4) ra, Fc.z (.slice a3 za.length c3) za] ∧ w1.heap.size ≤ w10.heap.size ∧ MT w10) := ⟨S9.out.1.trans (b.mono S9.out.1.size), S9.out.2.1.grow b, S9.out.2.2.1.add b S9.out.2.2.2.1 _ o, Nat.le_trans S9.out.2.2.2.1 b.size, S9.out.2.2.2.2.keep b⟩
      clear S9 o b
      go_wp2_with fail
      refine (C1.out _ S10.out.1).mono ?_
      rintro e w11 ⟨x11, y11, rfl, o, b⟩
      have S11 : Hid (Below w.heap.size w w11 ∧ OW w.heap.size w11 (.slice ga k gc) r ∧ All w1.heap.size w11 [Fc.b (.slice a10 nb.length c10) nb, Fc.u (.slice a9 rb.length c9) rb, Fc.z (.slice a8 zb.length c8) zb, Fc.b (.slice a5 na.length c5) na, Fc.u (.slice a4 ra.length c4) ra, Fc.z (.slice a3 za.length c3) za] ∧ w1.heap.size ≤ w11.heap.size ∧ MT w11) := ⟨S10.out.1.trans (b.mono S10.out.1.size), S10.out.2.1.grow b, S10.out.2.2.1.keep b, Nat.le_trans S10.out.2.2.2.1 b.size, S10.out.2.2.2.2.keep b⟩
      have R11 : Hid (RB w11 (.slice x11 k y11) l) := o.rb
      clear S10 o b
      go_wp2_with fail
      refine (HCA.out.one _ _ R11.out S11.out.2.2.2.2).mono ?_
      rintro e w12 ⟨a12, c12, rfl, o, b⟩
      have S12 : Hid (Below w.heap.size w w12 ∧ OW w.heap.size w12 (.slice ga k gc) r ∧ All w1.heap.size w12 [Fc.z (.slice a12 za.length c12) za, Fc.b (.slice a10 nb.length c10) nb, Fc.u (.slice a9 rb.length c9) rb, Fc.z (.slice a8 zb.length c8) zb, Fc.b (.slice a5 na.length c5) na, Fc.u (.slice a4 ra.length c4) ra, Fc.z (.slice a3 za.length c3) za] ∧ w1.heap.size ≤ w12.heap.size ∧ MT w12) := ⟨S11.out.1.trans (b.mono S11.out.1.size), S11.out.2.1.grow b, S11.out.2.2.1.add b S11.out.2.2.2.1 _ o, Nat.le_trans S11.out.2.2.2.1 b.size, S11.out.2.2.2.2.keep b⟩
      clear S11 o b
      clear R11
      go_wp2_with fail
      refine (C2.out _ S12.out.1).mono ?_
      rintro e w13 ⟨x13, y13, rfl, o, b⟩
      have S13 : Hid (Below w.heap.size w w13 ∧ OW w.heap.size w13 (.slice ga k gc) r ∧ All w1.heap.size w13 [Fc.z (.slice a12 za.length c12) za, Fc.b (.slice a10 nb.length c10) nb, Fc.u (.slice a9 rb.length c9) rb, Fc.z (.slice a8 zb.length c8) zb, Fc.b (.slice a5 na.length c5) na, Fc.u (.slice a4 ra.length c4) ra, Fc.z (.slice a3 za.length c3) za] ∧ w1.heap.size ≤ w13.heap.size ∧ MT w13) := ⟨S12.out.1.trans (b.mono S12.out.1.size), S12.out.2.1.grow b, S12.out.2.2.1.keep b, Nat.le_trans S12.out.2.2.2.1 b.size, S12.out.2.2.2.2.keep b⟩
      have R13 : Hid (RB w13 (.slice x13 k y13) r) := o.rb
      clear S12 o b
      go_wp2_with fail
      refine (HCB.out.one _ _ R13.out S13.out.2.2.2.2).mono ?_
      rintro e w14 ⟨a14, c14, rfl, o, b⟩
      have S14 : Hid (Below w.heap.size w w14 ∧ OW w.heap.size w14 (.slice ga k gc) r ∧ All w1.heap.size w14 [Fc.z (.slice a14 zb.length c14) zb, Fc.z (.slice a12 za.length c12) za, Fc.b (.slice a10 nb.length c10) nb, Fc.u (.slice a9 rb.length c9) rb, Fc.z (.slice a8 zb.length c8) zb, Fc.b (.slice a5 na.length c5) na, Fc.u (.slice a4 ra.length c4) ra, Fc.z (.slice a3 za.length c3) za] ∧ w1.heap.size ≤ w14.heap.size ∧ MT w14) := ⟨S13.out.1.trans (b.mono S13.out.1.size), S13.out.2.1.grow b, S13.out.2.2.1.add b S13.out.2.2.2.1 _ o, Nat.le_trans S13.out.2.2.2.1 b.size, S13.out.2.2.2.2.keep b⟩
      clear S13 o b
      clear R13
      go_wp2_with fail
      refine (C1.out _ S14.out.1).mono ?_
      rintro e w15 ⟨x15, y15, rfl, o, b⟩
      have S15 : Hid (Below w.heap.size w w15 ∧ OW w.heap.size w15 (.slice ga k gc) r ∧ All w1.heap.size w15 [Fc.z (.slice a14 zb.length c14) zb, Fc.z (.slice a12 za.length c12) za, Fc.b (.slice a10 nb.length c10) nb, Fc.u (.slice a9 rb.length c9) rb, Fc.z (.slice a8 zb.length c8) zb, Fc.b (.slice a5 na.length c5) na, Fc.u (.slice a4 ra.length c4) ra, Fc.z (.slice a3 za.length c3) za] ∧ w1.heap.size ≤ w15.heap.size ∧ MT w15) := ⟨S14.out.1.trans (b.mono S14.out.1.size), S14.out.2.1.grow b, S14.out.2.2.1.keep b, Nat.le_trans S14.out.2.2.2.1 b.size, S14.out.2.2.2.2.keep b⟩
      have R15 : Hid (RB w15 (.slice x15 k y15) l) := o.rb
      clear S14 o b
      go_wp2_with fail
      refine (HCA.out.run _ _ R15.out S15.out.2.2.2.2).mono ?_
      rintro e w16 ⟨a16, c16, rfl, o, b⟩
      have S16 : Hid (Below w.heap.size w w16 ∧ OW w.heap.size w16 (.slice ga k gc) r ∧ All w1.heap.size w16 [Fc.u (.slice a16 ra.length c16) ra, Fc.z (.slice a14 zb.length c14) zb, Fc.z (.slice a12 za.length c12) za, Fc.b (.slice a10 nb.length c10) nb, Fc.u (.slice a9 rb.length c9) rb, Fc.z (.slice a8 zb.length c8) zb, Fc.b (.slice a5 na.length c5) na, Fc.u (.slice a4 ra.length c4) ra, Fc.z (.slice a3 za.length c3) za] ∧ w1.heap.size ≤ w16.heap.size ∧ MT w16) := ⟨S15.out.1.trans (b.mono S15.out.1.size), S15.out.2.1.grow b, S15.out.2.2.1.add b S15.out.2.2.2.1 _ o, Nat.le_trans S15.out.2.2.2.1 b.size, S15.out.2.2.2.2.keep b⟩
      clear S15 o b
      clear R15
      go_wp2_with fail
      refine (C2.out _ S16.out.1).mono ?_
      rintro e w17 ⟨x17, y17, rfl, o, b⟩
      have S17 : Hid (Below w.heap.size w w17 ∧ OW w.heap.size w17 (.slice ga k gc) r ∧ All w1.heap.size w17 [Fc.u (.slice a16 ra.length c16) ra, Fc.z (.slice a14 zb.length c14) zb, Fc.z (.slice a12 za.length c12) za, Fc.b (.slice a10 nb.length c10) nb, Fc.u (.slice a9 rb.length c9) rb, Fc.z (.slice a8 zb.length c8) zb, Fc.b (.slice a5 na.length c5) na, Fc.u (.slice a4 ra.length c4) ra, Fc.z (.slice a3 za.length c3) za] ∧ w1.heap.size ≤ w17.heap.size ∧ MT w17) := ⟨S16.out.1.trans (b.mono S16.out.1.size), S16.out.2.1.grow b, S16.out.2.2.1.keep b, Nat.le_trans S16.out.2.2.2.1 b.size, S16.out.2.2.2.2.keep b⟩
      have R17 : Hid (RB w17 (.slice x17 k y17) r) := o.rb
      clear S16 o b
      go_wp2_with fail
      refine (HCB.out.run _ _ R17.out S17.out.2.2.2.2).mono ?_
      rintro e w18 ⟨a18, c18, rfl, o, b⟩
      have S18 : Hid (Below w.heap.size w w18 ∧ OW w.heap.size w18 (.slice ga k gc) r ∧ All w1.heap.size w18 [Fc.u (.slice a18 rb.length c18) rb, Fc.u (.slice a16 ra.length c16) ra, Fc.z (.slice a14 zb.length c14) zb, Fc.z (.slice a12 za.length c12) za, Fc.b (.slice a10 nb.length c10) nb, Fc.u (.slice a9 rb.length c9) rb, Fc.z (.slice a8 zb.length c8) zb, Fc.b (.slice a5 na.length c5) na, Fc.u (.slice a4 ra.length c4) ra, Fc.z (.slice a3 za.length c3) za] ∧ w1.heap.size ≤ w18.heap.size ∧ MT w18) := ⟨S17.out.1.trans (b.mono S17.out.1.size), S17.out.2.1.grow b, S17.out.2.2.1.add b S17.out.2.2.2.1 _ o, Nat.le_trans S17.out.2.2.2.1 b.size, S17.out.2.2.2.2.keep b⟩
      clear S17 o b
      clear R17
      go_wp2_with fail
      refine (C1.out _ S18.out.1).mono ?_
      rintro e w19 ⟨x19, y19, rfl, o, b⟩
      have S19 : Hid (Below w.heap.size w w19 ∧ OW w.heap.size w19 (.slice ga k gc) r ∧ All w1.heap.size w19 [Fc.u (.slice a18 rb.length c18) rb, Fc.u (.slice a16 ra.length c16) ra, Fc.z (.slice a14 zb.length c14) zb, Fc.z (.slice a12 za.length c12) za, Fc.b (.slice a10 nb.length c10) nb, Fc.u (.slice a9 rb.length c9) rb, Fc.z (.slice a8 zb.length c8) zb, Fc.b (.slice a5 na.length c5) na, Fc.u (.slice a4 ra.length c4) ra, Fc.z (.slice a3 za.length c3) za] ∧ w1.heap.size ≤ w19.heap.size ∧ MT w19) := ⟨S18.out.1.trans (b.mono S18.out.1.size), S18.out.2.1.grow b, S18.out.2.2.1.keep b, Nat.le_trans S18.out.2.2.2.1 b.size, S18.out.2.2.2.2.keep b⟩
      have R19 : Hid (RB w19 (.slice x19 k y19) l) := o.rb
      clear S18 o b
      go_wp2_with fail
      refine (HCA.out.not _ _ R19.out S19.out.2.2.2.2).mono ?_
      rintro e w20 ⟨a20, c20, rfl, o, b⟩
      have S20 : Hid (Below w.heap.size w w20 ∧ OW w.heap.size w20 (.slice ga k gc) r ∧ All w1.heap.size w20 [Fc.b (.slice a20 na.length c20) na, Fc.u (.slice a18 rb.length c18) rb, Fc.u (.slice a16 ra.length c16) ra, Fc.z (.slice a14 zb.length c14) zb, Fc.z (.slice a12 za.length c12) za, Fc.b (.slice a10 nb.length c10) nb, Fc.u (.slice a9 rb.length c9) rb, Fc.z (.slice a8 zb.length c8) zb, Fc.b (.slice a5 na.length c5) na, Fc.u (.slice a4 ra.length c4) ra, Fc.z (.slice a3 za.length c3) za] ∧ w1.heap.size ≤ w20.heap.size ∧ MT w20) := ⟨S19.out.1.trans (b.mono S19.out.1.size), S19.out.2.1.grow b, S19.out.2.2.1.add b S19.out.2.2.2.1 _ o, Nat.le_trans S19.out.2.2.2.1 b.size, S19.out.2.2.2.2.keep b⟩
      clear S19 o b
      clear R19
      go_wp2_with fail
      refine (C2.out _ S20.out.1).mono ?_
      rintro e w21 ⟨x21, y21, rfl, o, b⟩
      have S21 : Hid (Below w.heap.size w w21 ∧ OW w.heap.size w21 (.slice ga k gc) r ∧ All w1.heap.size w21 [Fc.b (.slice a20 na.length c20) na, Fc.u (.slice a18 rb.length c18) rb, Fc.u (.slice a16 ra.length c16) ra, Fc.z (.slice a14 zb.length c14) zb, Fc.z (.slice a12 za.length c12) za, Fc.b (.slice a10 nb.length c10) nb, Fc.u (.slice a9 rb.length c9) rb, Fc.z (.slice a8 zb.length c8) zb, Fc.b (.slice a5 na.length c5) na, Fc.u (.slice a4 ra.length c4) ra, Fc.z (.slice a3 za.length c3) za] ∧ w1.heap.size ≤ w21.heap.size ∧ MT w21) := ⟨S20.out.1.trans (b.mono S20.out.1.size), S20.out.2.1.grow b, S20.out.2.2.1.keep b, Nat.le_trans S20.out.2.2.2.1 b.size, S20.out.2.2.2.2.keep b⟩
      have R21 : Hid (RB w21 (.slice x21 k y21) r) := o.rb
      clear S20 o b
      go_wp2_with fail
      refine (HCB.out.not _ _ R21.out S21.out.2.2.2.2).mono ?_
      rintro e w22 ⟨a22, c22, rfl, o, b⟩
      have S22 : Hid (Below w.heap.size w w22 ∧ OW w.heap.size w22 (.slice ga k gc) r ∧ All w1.heap.size w22 [Fc.b (.slice a22 nb.length c22) nb, Fc.b (.slice a20 na.length c20) na, Fc.u (.slice a18 rb.length c18) rb, Fc.u (.slice a16 ra.length c16) ra, Fc.z (.slice a14 zb.length c14) zb, Fc.z (.slice a12 za.length c12) za, Fc.b (.slice a10 nb.length c10) nb, Fc.u (.slice a9 rb.length c9) rb, Fc.z (.slice a8 zb.length c8) zb, Fc.b (.slice a5 na.length c5) na, Fc.u (.slice a4 ra.length c4) ra, Fc.z (.slice a3 za.length c3) za] ∧ w1.heap.size ≤ w22.heap.size ∧ MT w22) := ⟨S21.out.1.trans (b.mono S21.out.1.size), S21.out.2.1.grow b, S21.out.2.2.1.add b S21.out.2.2.2.1 _ o, Nat.le_trans S21.out.2.2.2.1 b.size, S21.out.2.2.2.2.keep b⟩
      clear S21 o b
      clear R21
      go_wp2_with fail
      have HLn : Hid (za.length ≤ 65536 ∧ zb.length ≤ 65536 ∧ ra.length ≤ 65536 ∧ rb.length ≤ 65536 ∧ na.length ≤ 8192 ∧ nb.length ≤ 8192) := ⟨HCA.out.lz, HCB.out.lz, HCA.out.lr, HCB.out.lr, HCA.out.ln, HCB.out.ln⟩
      have T22 : Hid (All w1.heap.size w22 [Fc.b (.slice a22 nb.length c22) nb, Fc.b (.slice a20 na.length c20) na, Fc.u (.slice a18 rb.length c18) rb, Fc.u (.slice a16 ra.length c16) ra, Fc.z (.slice a14 zb.length c14) zb, Fc.z (.slice a12 za.length c12) za, Fc.b (.slice a10 nb.length c10) nb, Fc.u (.slice a9 rb.length c9) rb, Fc.z (.slice a8 zb.length c8) zb, Fc.b (.slice a5 na.length c5) na, Fc.u (.slice a4 ra.length c4) ra, Fc.z (.slice a3 za.length c3) za] ∧ Below w.heap.size w w22) := ⟨S22.out.2.2.1, S22.out.1⟩
      clear S22
      refine (same19 _ _ _ w22 (by have := HLn.out; omega) (OZ.rz (show OZ w1.heap.size w22 (.slice a3 za.length c3) za from T22.out.1 (Fc.z (.slice a3 za.length c3) za) (by simp))) (OZ.rz (show OZ w1.heap.size w22 (.slice a12 za.length c12) za from T22.out.1 (Fc.z (.slice a12 za.length c12) za) (by simp)))).mono ?_
      rintro e wx ⟨rfl, nq, rfl⟩
      have T23 : Hid (All w1.heap.size (w22.drewN nq) [Fc.b (.slice a22 nb.length c22) nb, Fc.b (.slice a20 na.length c20) na, Fc.u (.slice a18 rb.length c18) rb, Fc.u (.slice a16 ra.length c16) ra, Fc.z (.slice a14 zb.length c14) zb, Fc.z (.slice a12 za.length c12) za, Fc.b (.slice a10 nb.length c10) nb, Fc.u (.slice a9 rb.length c9) rb, Fc.z (.slice a8 zb.length c8) zb, Fc.b (.slice a5 na.length c5) na, Fc.u (.slice a4 ra.length c4) ra, Fc.z (.slice a3 za.length c3) za] ∧ Below w.heap.size w (w22.drewN nq)) := ⟨T22.out.1.keep (belowDrew _ _), belowN T22.out.2 nq⟩
      generalize w22.drewN nq = w23 at *
      clear T22
      go_wp2_with fail
      refine (same19 _ _ _ w23 (by have := HLn.out; omega) (OZ.rz (show OZ w1.heap.size w23 (.slice a8 zb.length c8) zb from T23.out.1 (Fc.z (.slice a8 zb.length c8) zb) (by simp))) (OZ.rz (show OZ w1.heap.size w23 (.slice a14 zb.length c14) zb from T23.out.1 (Fc.z (.slice a14 zb.length c14) zb) (by simp)))).mono ?_
      rintro e wx ⟨rfl, nq, rfl⟩
      have T24 : Hid (All w1.heap.size (w23.drewN nq) [Fc.b (.slice a22 nb.length c22) nb, Fc.b (.slice a20 na.length c20) na, Fc.u (.slice a18 rb.length c18) rb, Fc.u (.slice a16 ra.length c16) ra, Fc.z (.slice a14 zb.length c14) zb, Fc.z (.slice a12 za.length c12) za, Fc.b (.slice a10 nb.length c10) nb, Fc.u (.slice a9 rb.length c9) rb, Fc.z (.slice a8 zb.length c8) zb, Fc.b (.slice a5 na.length c5) na, Fc.u (.slice a4 ra.length c4) ra, Fc.z (.slice a3 za.length c3) za] ∧ Below w.heap.size w (w23.drewN nq)) := ⟨T23.out.1.keep (belowDrew _ _), belowN T23.out.2 nq⟩
      generalize w23.drewN nq = w24 at *
      clear T23
      go_wp2_with fail
      refine (same19R _ _ _ w24 (by have := HLn.out; omega) (OU.rq (show OU w1.heap.size w24 (.slice a4 ra.length c4) ra from T24.out.1 (Fc.u (.slice a4 ra.length c4) ra) (by simp))) (OU.rq (show OU w1.heap.size w24 (.slice a16 ra.length c16) ra from T24.out.1 (Fc.u (.slice a16 ra.length c16) ra) (by simp)))).mono ?_
      rintro e wx ⟨rfl, nq, rfl⟩
      have T25 : Hid (All w1.heap.size (w24.drewN nq) [Fc.b (.slice a22 nb.length c22) nb, Fc.b (.slice a20 na.length c20) na, Fc.u (.slice a18 rb.length c18) rb, Fc.u (.slice a16 ra.length c16) ra, Fc.z (.slice a14 zb.length c14) zb, Fc.z (.slice a12 za.length c12) za, Fc.b (.slice a10 nb.length c10) nb, Fc.u (.slice a9 rb.length c9) rb, Fc.z (.slice a8 zb.length c8) zb, Fc.b (.slice a5 na.length c5) na, Fc.u (.slice a4 ra.length c4) ra, Fc.z (.slice a3 za.length c3) za] ∧ Below w.heap.size w (w24.drewN nq)) := ⟨T24.out.1.keep (belowDrew _ _), belowN T24.out.2 nq⟩
      generalize w24.drewN nq = w25 at *
      clear T24
      go_wp2_with fail
      refine (same19R _ _ _ w25 (by have := HLn.out; omega) (OU.rq (show OU w1.heap.size w25 (.slice a9 rb.length c9) rb from T25.out.1 (Fc.u (.slice a9 rb.length c9) rb) (by simp))) (OU.rq (show OU w1.heap.size w25 (.slice a18 rb.length c18) rb from T25.out.1 (Fc.u (.slice a18 rb.length c18) rb) (by simp)))).mono ?_
      rintro e wx ⟨rfl, nq, rfl⟩
      have T26 : Hid (All w1.heap.size (w25.drewN nq) [Fc.b (.slice a22 nb.length c22) nb, Fc.b (.slice a20 na.length c20) na, Fc.u (.slice a18 rb.length c18) rb, Fc.u (.slice a16 ra.length c16) ra, Fc.z (.slice a14 zb.length c14) zb, Fc.z (.slice a12 za.length c12) za, Fc.b (.slice a10 nb.length c10) nb, Fc.u (.slice a9 rb.length c9) rb, Fc.z (.slice a8 zb.length c8) zb, Fc.b (.slice a5 na.length c5) na, Fc.u (.slice a4 ra.length c4) ra, Fc.z (.slice a3 za.length c3) za] ∧ Below w.heap.size w (w25.drewN nq)) := ⟨T25.out.1.keep (belowDrew _ _), belowN T25.out.2 nq⟩
      generalize w25.drewN nq = w26 at *
      clear T25
      go_wp2_with fail
      refine (same12 _ _ _ w26 (by have := HLn.out; omega) (OW.rb (show OW w1.heap.size w26 (.slice a5 na.length c5) na from T26.out.1 (Fc.b (.slice a5 na.length c5) na) (by simp))) (OW.rb (show OW w1.heap.size w26 (.slice a20 na.length c20) na from T26.out.1 (Fc.b (.slice a20 na.length c20) na) (by simp)))).mono ?_
      rintro e wx ⟨rfl, nq, rfl⟩
      have T27 : Hid (All w1.heap.size (w26.drewN nq) [Fc.b (.slice a22 nb.length c22) nb, Fc.b (.slice a20 na.length c20) na, Fc.u (.slice a18 rb.length c18) rb, Fc.u (.slice a16 ra.length c16) ra, Fc.z (.slice a14 zb.length c14) zb, Fc.z (.slice a12 za.length c12) za, Fc.b (.slice a10 nb.length c10) nb, Fc.u (.slice a9 rb.length c9) rb, Fc.z (.slice a8 zb.length c8) zb, Fc.b (.slice a5 na.length c5) na, Fc.u (.slice a4 ra.length c4) ra, Fc.z (.slice a3 za.length c3) za] ∧ Below w.heap.size w (w26.drewN nq)) := ⟨T26.out.1.keep (belowDrew _ _), belowN T26.out.2 nq⟩
      generalize w26.drewN nq = w27 at *
      clear T26
      go_wp2_with fail
      refine (same12 _ _ _ w27 (by have := HLn.out; omega) (OW.rb (show OW w1.heap.size w27 (.slice a10 nb.length c10) nb from T27.out.1 (Fc.b (.slice a10 nb.length c10) nb) (by simp))) (OW.rb (show OW w1.heap.size w27 (.slice a22 nb.length c22) nb from T27.out.1 (Fc.b (.slice a22 nb.length c22) nb) (by simp)))).mono ?_
      rintro e wx ⟨rfl, nq, rfl⟩
      have T28 : Hid (All w1.heap.size (w27.drewN nq) [Fc.b (.slice a22 nb.length c22) nb, Fc.b (.slice a20 na.length c20) na, Fc.u (.slice a18 rb.length c18) rb, Fc.u (.slice a16 ra.length c16) ra, Fc.z (.slice a14 zb.length c14) zb, Fc.z (.slice a12 za.length c12) za, Fc.b (.slice a10 nb.length c10) nb, Fc.u (.slice a9 rb.length c9) rb, Fc.z (.slice a8 zb.length c8) zb, Fc.b (.slice a5 na.length c5) na, Fc.u (.slice a4 ra.length c4) ra, Fc.z (.slice a3 za.length c3) za] ∧ Below w.heap.size w (w27.drewN nq)) := ⟨T27.out.1.keep (belowDrew _ _), belowN T27.out.2 nq⟩
      generalize w27.drewN nq = w28 at *
      clear T27
      go_wp2_with fail
      go_ret
      exact ⟨rfl, T28.out.2⟩
end Go.Proofs.YtjhnkdhbjpddcaaDoor
