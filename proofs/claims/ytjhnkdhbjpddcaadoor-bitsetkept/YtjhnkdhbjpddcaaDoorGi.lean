import Derived.Test.YtjhnkdhbjpddcaaDoorGh
namespace Go.Proofs.YtjhnkdhbjpddcaaDoor
open Go.RowKit
set_option maxHeartbeats 8000000 in
set_option maxRecDepth 100000 in
theorem lists13 (m : Nat) (hm : m ≤ 65536) (v u : Value) (l r : List UInt8) (w : World) (hr : RB w v l) (hs : RB w u r) (ht : MT w) (hl : ck m l = 0) (hl2 : ck m r = 0) :
    Calls Tryd.prog 13 #[.int .i64 (m : Int), v, u] w fun e w' => e = .returned (.bool true) ∧ Below w.heap.size w w' := by
  obtain ⟨ca, za, ra, na, CA⟩ := cs_of hm hl
  obtain ⟨cb, zb, rb, nb, CB⟩ := cs_of hm hl2
  obtain ⟨i3, hi3, x0, x1, x2⟩ := info_parts info3
  obtain ⟨i55, hi55, y0, y1, y2⟩ := info_parts info60
  have HI : Hid ((Tryd.prog.info? 3 = some i3 ∧ i3.zero = some (.int .i64 0) ∧ i3.size = 1 ∧ i3.bytes = 8) ∧ (Tryd.prog.info? 55 = some i55 ∧ i55.zero = some (.agg #[.int .i64 0, .int .i64 0]) ∧ i55.size = 2 ∧ i55.bytes = 16)) := ⟨⟨hi3, x0, x1, x2⟩, hi55, y0, y1, y2⟩
  clear hi3 x0 x1 x2 hi55 y0 y1 y2
  have HCA : Hid (∀ w', Below w.heap.size w w' → (Calls Tryd.prog 5 #[.int .i64 (m : Int), v] w' fun e w2 => ∃ a c, e = .returned (.tuple #[.slice a za.length c, .int .i64 0]) ∧ OZ w'.heap.size w2 (.slice a za.length c) za ∧ Below w'.heap.size w' w2) ∧ (Calls Tryd.prog 26 #[.int .i64 (m : Int), v] w' fun e w2 => ∃ a c, e = .returned (.tuple #[.slice a ra.length c, .int .i64 0]) ∧ OU w'.heap.size w2 (.slice a ra.length c) ra ∧ Below w'.heap.size w' w2)) := fun w' hb => ⟨CA.one w' v (hr.keep hb) (ht.keep hb), CA.run w' v (hr.keep hb) (ht.keep hb)⟩
  have HCB : Hid (∀ w', Below w.heap.size w w' → (Calls Tryd.prog 5 #[.int .i64 (m : Int), u] w' fun e w2 => ∃ a c, e = .returned (.tuple #[.slice a zb.length c, .int .i64 0]) ∧ OZ w'.heap.size w2 (.slice a zb.length c) zb ∧ Below w'.heap.size w' w2) ∧ (Calls Tryd.prog 26 #[.int .i64 (m : Int), u] w' fun e w2 => ∃ a c, e = .returned (.tuple #[.slice a rb.length c, .int .i64 0]) ∧ OU w'.heap.size w2 (.slice a rb.length c) rb ∧ Below w'.heap.size w' w2)) := fun w' hb => ⟨CB.one w' u (hs.keep hb) (ht.keep hb), CB.run w' u (hs.keep hb) (ht.keep hb)⟩
  have l1 := CA.lz
  have l2 := CB.lz
  have l3 := CA.lr
  have l4 := CB.lr
  have HLn : Hid (za.length ≤ 65536 ∧ zb.length ≤ 65536 ∧ ra.length ≤ 65536 ∧ rb.length ≤ 65536) := ⟨l1, l2, l3, l4⟩
  obtain ⟨va, vc, hv, hr_⟩ := hr
  subst hv
  obtain ⟨ua, uc, hu, hs_⟩ := hs
  subst hu
  clear hr_ hs_ CA CB ht hl hl2
  generalize l.length = ln at *
  generalize r.length = rn at *
  go_enter Tryd.func13, Tryd.ntmps13
  go_wp2_with fail
  refine (HCA.out _ (Below.refl _ _)).1.mono ?_
  rintro e w1 ⟨a1, c1, rfl, o1, b1⟩
  have HG : Hid (∀ g, (Value.slice a1 za.length c1).ownBlock = some g → w.heap.size ≤ g ∧ g < w1.heap.size) := fun g hg => World.ownsRow.lt o1 g hg
  have S1 : Hid (Below w.heap.size w w1 ∧ OZ w.heap.size w1 (.slice a1 za.length c1) za ∧ All w1.heap.size w1 [] ∧ w1.heap.size ≤ w1.heap.size) := ⟨b1, o1, All.nil _ _, Nat.le_refl _⟩
  clear o1 b1
  go_wp2_with fail
  refine (HCB.out _ S1.out.1).1.mono ?_
  rintro e w2 ⟨a2, c2, rfl, o, b⟩
  have S2 : Hid (Below w.heap.size w w2 ∧ OZ w.heap.size w2 (.slice a1 za.length c1) za ∧ All w1.heap.size w2 [Fc.z (.slice a2 zb.length c2) zb] ∧ w1.heap.size ≤ w2.heap.size) := ⟨S1.out.1.trans (b.mono S1.out.1.size), S1.out.2.1.grow b, S1.out.2.2.1.add b S1.out.2.2.2 _ o, Nat.le_trans S1.out.2.2.2 b.size⟩
  clear S1 o b
  go_wp2_with fail
  refine (HCA.out _ S2.out.1).1.mono ?_
  rintro e w3 ⟨a3, c3, rfl, o, b⟩
  have S3 : Hid (Below w.heap.size w w3 ∧ OZ w.heap.size w3 (.slice a1 za.length c1) za ∧ All w1.heap.size w3 [Fc.z (.slice a3 za.length c3) za, Fc.z (.slice a2 zb.length c2) zb] ∧ w1.heap.size ≤ w3.heap.size) := ⟨S2.out.1.trans (b.mono S2.out.1.size), S2.out.2.1.grow b, S2.out.2.2.1.add b S2.out.2.2.2 _ o, Nat.le_trans S2.out.2.2.2 b.size⟩
  clear S2 o b
  go_wp2_with fail
  refine (HCA.out _ S3.out.1).2.mono ?_
  rintro e w4 ⟨a4, c4, rfl, o, b⟩
  have S4 : Hid (LS w w1 (.slice a1 za.length c1) (.slice a4 ra.length c4) za ra [Fc.z (.slice a3 za.length c3) za, Fc.z (.slice a2 zb.length c2) zb] w4) := ⟨S3.out.1.trans (b.mono S3.out.1.size), S3.out.2.1.grow b, ownsRow_base o S3.out.1.size, S3.out.2.2.1.keep b, Nat.le_trans S3.out.2.2.2 b.size, Off.of S3.out.2.2.1 (fun g hg => (HG.out g hg).2) (fun g hg => (World.ownsRow.lt o g hg).1)⟩
  have HG2 : Hid (∀ g, (Value.slice a4 ra.length c4).ownBlock = some g → w.heap.size ≤ g) := fun g hg => Nat.le_trans S3.out.1.size (World.ownsRow.lt o g hg).1
  clear S3 o b
  go_wp2_with fail
  refine (HCB.out _ S4.out.bel).2.mono ?_
  rintro e w5 ⟨a5, c5, rfl, o, b⟩
  have S5 : Hid (LS w w1 (.slice a1 za.length c1) (.slice a4 ra.length c4) za ra [Fc.u (.slice a5 rb.length c5) rb, Fc.z (.slice a3 za.length c3) za, Fc.z (.slice a2 zb.length c2) zb] w5) := S4.out.add b _ o
  clear S4 o b
  go_wp2_with fail
  refine (HCA.out _ S5.out.bel).2.mono ?_
  rintro e w6 ⟨a6, c6, rfl, o, b⟩
  have S6 : Hid (LS w w1 (.slice a1 za.length c1) (.slice a4 ra.length c4) za ra [Fc.u (.slice a6 ra.length c6) ra, Fc.u (.slice a5 rb.length c5) rb, Fc.z (.slice a3 za.length c3) za, Fc.z (.slice a2 zb.length c2) zb] w6) := S5.out.add b _ o
  clear S5 o b
  go_wp2_with fail
  refine (same19 _ _ _ w6 (by have := HLn.out; omega) (OZ.rz S6.out.l) (OZ.rz (show OZ w1.heap.size w6 (.slice a3 za.length c3) za from S6.out.al (Fc.z (.slice a3 za.length c3) za) (by simp)))).mono ?_
  rintro e wx ⟨rfl, nq, rfl⟩
  have S7 : Hid (LS w w1 (.slice a1 za.length c1) (.slice a4 ra.length c4) za ra [Fc.u (.slice a6 ra.length c6) ra, Fc.u (.slice a5 rb.length c5) rb, Fc.z (.slice a3 za.length c3) za, Fc.z (.slice a2 zb.length c2) zb] (w6.drewN nq)) := S6.out.keep (belowDrew _ _)
  generalize w6.drewN nq = w7 at *
  clear S6
  go_wp2_with fail
  refine (same19R _ _ _ w7 (by have := HLn.out; omega) (OU.rq S7.out.r) (OU.rq (show OU w1.heap.size w7 (.slice a6 ra.length c6) ra from S7.out.al (Fc.u (.slice a6 ra.length c6) ra) (by simp)))).mono ?_
  rintro e wx ⟨rfl, nq, rfl⟩
  have S8 : Hid (LS w w1 (.slice a1 za.length c1) (.slice a4 ra.length c4) za ra [Fc.u (.slice a6 ra.length c6) ra, Fc.u (.slice a5 rb.length c5) rb, Fc.z (.slice a3 za.length c3) za, Fc.z (.slice a2 zb.length c2) zb] (w7.drewN nq)) := S7.out.keep (belowDrew _ _)
  generalize w7.drewN nq = w8 at *
  clear S7
  go_wp2_with (first | (at_builtin; refine append_ownL (B := w8.heap.size) i3 _ 8 rfl _ _ rfl Tryd.underlying26 HI.out.1.1 HI.out.1.2.1 HI.out.1.2.2.1 HI.out.1.2.2.2 rfl (by omega) rfl (World.ownsRow_nil _ _ _ _) rfl (show OZ w1.heap.size w8 (.slice a2 zb.length c2) zb from S8.out.al (Fc.z (.slice a2 zb.length c2) zb) (by simp)) (ints_one _) (Nat.le_refl _) (by unfold maxLen; omega) (by omega) ?_; intro v9 w9 q1 q2; rw [Nat.zero_add, List.nil_append] at q1; obtain ⟨a9, c9, hv9⟩ := ownsRow_form q1; subst hv9; have S9 : Hid (LS w w1 (.slice a1 za.length c1) (.slice a4 ra.length c4) za ra (Fc.z (.slice a9 zb.length c9) zb :: [Fc.u (.slice a6 ra.length c6) ra, Fc.u (.slice a5 rb.length c5) rb, Fc.z (.slice a3 za.length c3) za, Fc.z (.slice a2 zb.length c2) zb]) w9) := S8.out.add (Below.ofGrown q2 (fun k hk => by cases hk)) (Fc.z (.slice a9 zb.length c9) zb) q1; clear q1 q2 S8) | (at_builtin; refine append_ownL (B := w9.heap.size) i55 _ 16 rfl _ _ rfl Tryd.underlying50 HI.out.2.1 HI.out.2.2.1 HI.out.2.2.2.1 HI.out.2.2.2.2 rfl (by omega) rfl (World.ownsRow_nil _ _ _ _) rfl (show OU w1.heap.size w9 (.slice a5 rb.length c5) rb from S9.out.al (Fc.u (.slice a5 rb.length c5) rb) (by simp)) (flat_one _) (Nat.le_refl _) (by unfold maxLen; omega) (by omega) ?_; intro v10 w10 q1 q2; rw [Nat.zero_add, List.nil_append] at q1; obtain ⟨a10, c10, hv10⟩ := ownsRow_form q1; subst hv10; have S10 : Hid (LS w w1 (.slice a1 za.length c1) (.slice a4 ra.length c4) za ra (Fc.u (.slice a10 rb.length c10) rb :: [Fc.z (.slice a9 zb.length c9) zb, Fc.u (.slice a6 ra.length c6) ra, Fc.u (.slice a5 rb.length c5) rb, Fc.z (.slice a3 za.length c3) za, Fc.z (.slice a2 zb.length c2) zb]) w10) := S9.out.add (Below.ofGrown q2 (fun k hk => by cases hk)) (Fc.u (.slice a10 rb.length c10) rb) q1; clear q1 q2 S9))
  go_loopw [22] (fun t wr => ∃ k : Nat, k ≤ za.length ∧ t = .int .i64 k ∧ Hid (LR w10 w.heap.size (.slice a1 za.length c1) (.slice a4 ra.length c4) (.slice a1 za.length c1) za.length (.slice a4 ra.length c4) ra.length wr)) (fun t _ => za.length - (intOf t).toNat)
  case atStart => exact ⟨0, Nat.zero_le _, rfl, LR.start S10.out.l S10.out.r⟩
  case round =>
    obtain ⟨k, hk, rfl, H⟩ := hrel
    by_cases hlt : k < za.length
    · obtain ⟨g, x, hga, q1, q2, q3⟩ := H.out.setL k hlt
      have HN := q3 (.int .i64 (-1 - (k : Int)))
      subst hga
      have HX : Hid (LR w10 w.heap.size (.slice (some ⟨g, 0, none⟩) za.length c1) (.slice a4 ra.length c4) (.slice (some ⟨g, 0, none⟩) za.length c1) za.length (.slice a4 ra.length c4) ra.length (wr.setCell ⟨g, k, none⟩ (.int .i64 (-1 - (k : Int))))) := HN
      clear HN q3 H
      go_wp2
      exact ⟨⟨k + 1, by omega, by go_num, HX⟩, by simp [intOf]; omega⟩
    · obtain rfl : k = za.length := by omega
      have H1 : Hid (LR w10 w.heap.size (.slice a1 za.length c1) (.slice a4 ra.length c4) (.slice a1 za.length c1) za.length (.slice a4 ra.length c4) ra.length wr) := H
      obtain ⟨wz, hwz⟩ : ∃ x, x = wr := ⟨_, rfl⟩
      subst hwz
      clear H hk hlt
      go_wp2
      go_loopw [23] (fun t wr => ∃ k : Nat, k ≤ ra.length ∧ t = .int .i64 k ∧ Hid (LR w10 w.heap.size (.slice a1 za.length c1) (.slice a4 ra.length c4) (.slice a1 za.length c1) za.length (.slice a4 ra.length c4) ra.length wr)) (fun t _ => ra.length - (intOf t).toNat)
      case atStart => exact ⟨0, Nat.zero_le _, rfl, H1⟩
      case round =>
        clear H1
        obtain ⟨k, hk, rfl, H⟩ := hrel
        by_cases hlt : k < ra.length
        · obtain ⟨g, x, hga, q1, q2, q3⟩ := H.out.setR (k * 2) (by omega)
          have HN := q3 (.int .i64 (-1 - (k : Int)))
          subst hga
          obtain ⟨g', y, hga', p1, p2, p3⟩ := HN.setR (k * 2 + 1) (by omega)
          cases hga'
          have HX : Hid (LR w10 w.heap.size (.slice a1 za.length c1) (.slice (some ⟨g, 0, none⟩) ra.length c4) (.slice a1 za.length c1) za.length (.slice (some ⟨g, 0, none⟩) ra.length c4) ra.length ((wr.setCell ⟨g, k * 2, none⟩ (.int .i64 (-1 - (k : Int)))).setCell ⟨g, k * 2 + 1, none⟩ (.int .i64 (-5)))) := p3 (.int .i64 (-5))
          clear HN q3 H p3
          go_wp2
          exact ⟨⟨k + 1, by omega, by go_num, HX⟩, by simp [intOf]; omega⟩
        · obtain rfl : k = ra.length := by omega
          have H2 : Hid (LR w10 w.heap.size (.slice a1 za.length c1) (.slice a4 ra.length c4) (.slice a1 za.length c1) za.length (.slice a4 ra.length c4) ra.length wr) := H
          obtain ⟨wy, hwy⟩ : ∃ x, x = wr := ⟨_, rfl⟩
          subst hwy
          clear H hk hlt
          go_wp2
          go_loopw [7, 13, 24] (fun x y t wr => ∃ (k n q : Nat) (la : Option Addr) (lc : Nat) (xa : Option Addr) (xc : Nat), k ≤ 70 ∧ n ≤ 65606 ∧ q ≤ 65606 ∧ x = .slice la n lc ∧ y = .slice xa q xc ∧ t = .int .i64 k ∧ Hid (n = za.length + k ∧ q = ra.length + k ∧ LR w10 w.heap.size (.slice a1 za.length c1) (.slice a4 ra.length c4) (.slice la n lc) n (.slice xa q xc) q wr)) (fun _ _ t _ => 70 - (intOf t).toNat)
          case atStart => exact ⟨0, za.length, ra.length, _, _, _, _, by omega, by omega, by omega, rfl, rfl, rfl, rfl, rfl, H2.out⟩
          case round =>
            clear H2
            obtain ⟨k, n, q, la, lc, xa, xc, hk, hn, hq, rfl, rfl, rfl, H⟩ := hrel
            by_cases hlt : k < 70
            · have HA : Hid (LR w10 w.heap.size (.slice a1 za.length c1) (.slice a4 ra.length c4) (.slice la n lc) n (.slice xa q xc) q (wr.alloc (.cells #[.int .i64 (-100 - (k : Int))] 3))) := H.out.2.2.keep ((Below.refl _ _).alloc (Nat.le_refl _) _)
              have HE : Hid (n = za.length + k ∧ q = ra.length + k ∧ w.heap.size ≤ wr.heap.size) := ⟨H.out.1, H.out.2.1, Nat.le_trans S10.out.bel.size H.out.2.2.fr.size⟩
              obtain ⟨xs, hxs⟩ := HA.out.l
              have HX : Hid ((wr.alloc (.cells #[.int .i64 (-100 - (k : Int))] 3)).ownsRow w.heap.size 3 1 (.slice la n lc) n xs) := hxs
              have hB : w.heap.size ≤ (wr.alloc (.cells #[.int .i64 (-100 - (k : Int))] 3)).heap.size := Nat.le_trans HE.out.2.2 (by simp)
              have HK : Hid (w.heap.size ≤ (wr.alloc (.cells #[.int .i64 (-100 - (k : Int))] 3)).heap.size) := hB
              clear hxs H hB
              go_wp2_with (first
                | (at_builtin; refine append_bothL i3 _ 8 rfl _ _ rfl Tryd.underlying26 HI.out.1.1 HI.out.1.2.1 HI.out.1.2.2.1 HI.out.1.2.2.2 rfl (by omega) (show 0 < 1 by omega) rfl HX.out ⟨wr.heap.size, 0, none⟩ 1 rfl rfl (cell_one_new _ _ _) (by simp [Value.oneCell']) HK.out (by unfold maxLen; omega) (by omega) ?_; intro v1 w11 q1 q2 q3 q4; obtain ⟨b1, d1, hv1⟩ := ownsRow_form q1; subst hv1; have HL := HA.out.appL q1 q3 q4; have HL2 := HL.keep (w' := w11.alloc (.cells #[.int .i64 (-100 - (k : Int)), .int .i64 9] 55)) ((Below.refl _ _).alloc (Nat.le_refl _) _); have HB : Hid (LR w10 w.heap.size (.slice a1 za.length c1) (.slice a4 ra.length c4) (.slice b1 (n + 1) d1) (n + 1) (.slice xa q xc) q (w11.alloc (.cells #[.int .i64 (-100 - (k : Int)), .int .i64 9] 55)) ∧ w.heap.size ≤ (w11.alloc (.cells #[.int .i64 (-100 - (k : Int)), .int .i64 9] 55)).heap.size) := ⟨HL2, Nat.le_trans HK.out (Nat.le_trans q3.size (by simp))⟩; obtain ⟨ys, hys⟩ := HL2.r; have HY : Hid ((w11.alloc (.cells #[.int .i64 (-100 - (k : Int)), .int .i64 9] 55)).ownsRow w.heap.size 55 2 (.slice xa q xc) q ys) := hys; clear q1 q2 q3 q4 HL HL2 hys HA HX HK)
                | (at_builtin; refine append_bothL i55 _ 16 rfl _ _ rfl Tryd.underlying50 HI.out.2.1 HI.out.2.2.1 HI.out.2.2.2.1 HI.out.2.2.2.2 rfl (by omega) (show 0 < 1 by omega) rfl HY.out ⟨w11.heap.size, 0, none⟩ 1 rfl rfl (cells_two_new _ _ _ _) (by simp [Value.oneCell']) HB.out.2 (by unfold maxLen; omega) (by omega) ?_; intro v2 w12 q1 q2 q3 q4; obtain ⟨b2, d2, hv2⟩ := ownsRow_form q1; subst hv2; have HZ : Hid (LR w10 w.heap.size (.slice a1 za.length c1) (.slice a4 ra.length c4) (.slice b1 (n + 1) d1) (n + 1) (.slice b2 (q + 1) d2) (q + 1) w12) := HB.out.1.appR q1 q3 q4; clear q1 q2 q3 q4 HB HY))
              exact ⟨⟨k + 1, n + 1, q + 1, b1, d1, b2, d2, by omega, by have := HE.out; omega, by have := HE.out; omega, rfl, rfl, by go_num, by have := HE.out.1; omega, by have := HE.out.2.1; omega, HZ.out⟩, by simp [intOf]; omega⟩
            · obtain rfl : k = 70 := by omega
              have HT : Hid (LR w10 w.heap.size (.slice a1 za.length c1) (.slice a4 ra.length c4) (.slice la n lc) n (.slice xa q xc) q wr ∧ n = za.length + 70 ∧ q = ra.length + 70) := ⟨H.out.2.2, H.out.1, H.out.2.1⟩
              have HZ : Hid (Below w.heap.size w wr ∧ All w1.heap.size wr [Fc.u (.slice a10 rb.length c10) rb, Fc.z (.slice a9 zb.length c9) zb, Fc.u (.slice a6 ra.length c6) ra, Fc.u (.slice a5 rb.length c5) rb, Fc.z (.slice a3 za.length c3) za, Fc.z (.slice a2 zb.length c2) zb] ∧ w1.heap.size ≤ wr.heap.size) := ⟨H.out.2.2.bel S10.out.bel (fun g hg => (HG.out g hg).1) HG2.out, All.lr H.out.2.2 S10.out.al S10.out.off, Nat.le_trans S10.out.sz H.out.2.2.fr.size⟩
              obtain ⟨w11, hw11⟩ : ∃ x, x = wr := ⟨_, rfl⟩
              subst hw11
              clear H hk hlt S10
              have T11 : Hid (All w1.heap.size w11 [Fc.u (.slice a10 rb.length c10) rb, Fc.z (.slice a9 zb.length c9) zb, Fc.u (.slice a6 ra.length c6) ra, Fc.u (.slice a5 rb.length c5) rb, Fc.z (.slice a3 za.length c3) za, Fc.z (.slice a2 zb.length c2) zb] ∧ Below w.heap.size w w11 ∧ w1.heap.size ≤ w11.heap.size) := ⟨HZ.out.2.1, HZ.out.1, HZ.out.2.2⟩
              have hnE : (n : Int) = (za.length : Int) + 70 := by have := HT.out.2.1; omega
              have hqE : (q : Int) = (ra.length : Int) + 70 := by have := HT.out.2.2; omega
              clear HZ HT
              go_wp2_with fail
              refine (same19 _ _ _ w11 (by have := HLn.out; omega) (OZ.rz (show OZ w1.heap.size w11 (.slice a2 zb.length c2) zb from T11.out.1 (Fc.z (.slice a2 zb.length c2) zb) (by simp))) (OZ.rz (show OZ w1.heap.size w11 (.slice a9 zb.length c9) zb from T11.out.1 (Fc.z (.slice a9 zb.length c9) zb) (by simp)))).mono ?_
              rintro e wx ⟨rfl, nq, rfl⟩
              have T12 : Hid (All w1.heap.size (w11.drewN nq) [Fc.u (.slice a10 rb.length c10) rb, Fc.z (.slice a9 zb.length c9) zb, Fc.u (.slice a6 ra.length c6) ra, Fc.u (.slice a5 rb.length c5) rb, Fc.z (.slice a3 za.length c3) za, Fc.z (.slice a2 zb.length c2) zb] ∧ Below w.heap.size w (w11.drewN nq) ∧ w1.heap.size ≤ (w11.drewN nq).heap.size) := ⟨T11.out.1.keep (belowDrew _ _), belowN T11.out.2.1 nq, T11.out.2.2⟩
              generalize w11.drewN nq = w12 at *
              clear T11
              go_wp2_with fail
              refine (same19R _ _ _ w12 (by have := HLn.out; omega) (OU.rq (show OU w1.heap.size w12 (.slice a5 rb.length c5) rb from T12.out.1 (Fc.u (.slice a5 rb.length c5) rb) (by simp))) (OU.rq (show OU w1.heap.size w12 (.slice a10 rb.length c10) rb from T12.out.1 (Fc.u (.slice a10 rb.length c10) rb) (by simp)))).mono ?_
              rintro e wx ⟨rfl, nq, rfl⟩
              have T13 : Hid (All w1.heap.size (w12.drewN nq) [Fc.u (.slice a10 rb.length c10) rb, Fc.z (.slice a9 zb.length c9) zb, Fc.u (.slice a6 ra.length c6) ra, Fc.u (.slice a5 rb.length c5) rb, Fc.z (.slice a3 za.length c3) za, Fc.z (.slice a2 zb.length c2) zb] ∧ Below w.heap.size w (w12.drewN nq) ∧ w1.heap.size ≤ (w12.drewN nq).heap.size) := ⟨T12.out.1.keep (belowDrew _ _), belowN T12.out.2.1 nq, T12.out.2.2⟩
              generalize w12.drewN nq = w13 at *
              clear T12
              go_wp2_with fail
              refine (HCA.out _ T13.out.2.1).1.mono ?_
              rintro e w14 ⟨a14, c14, rfl, o, b⟩
              have T14 : Hid (All w1.heap.size w14 [Fc.z (.slice a14 za.length c14) za, Fc.u (.slice a10 rb.length c10) rb, Fc.z (.slice a9 zb.length c9) zb, Fc.u (.slice a6 ra.length c6) ra, Fc.u (.slice a5 rb.length c5) rb, Fc.z (.slice a3 za.length c3) za, Fc.z (.slice a2 zb.length c2) zb] ∧ Below w.heap.size w w14 ∧ w1.heap.size ≤ w14.heap.size) := ⟨T13.out.1.add b T13.out.2.2 _ o, T13.out.2.1.trans (b.mono T13.out.2.1.size), Nat.le_trans T13.out.2.2 b.size⟩
              clear T13 o b
              go_wp2_with fail
              refine (HCA.out _ T14.out.2.1).2.mono ?_
              rintro e w15 ⟨a15, c15, rfl, o, b⟩
              have T15 : Hid (All w1.heap.size w15 [Fc.u (.slice a15 ra.length c15) ra, Fc.z (.slice a14 za.length c14) za, Fc.u (.slice a10 rb.length c10) rb, Fc.z (.slice a9 zb.length c9) zb, Fc.u (.slice a6 ra.length c6) ra, Fc.u (.slice a5 rb.length c5) rb, Fc.z (.slice a3 za.length c3) za, Fc.z (.slice a2 zb.length c2) zb] ∧ Below w.heap.size w w15 ∧ w1.heap.size ≤ w15.heap.size) := ⟨T14.out.1.add b T14.out.2.2 _ o, T14.out.2.1.trans (b.mono T14.out.2.1.size), Nat.le_trans T14.out.2.2 b.size⟩
              clear T14 o b
              go_wp2_with fail
              refine (same19 _ _ _ w15 (by have := HLn.out; omega) (OZ.rz (show OZ w1.heap.size w15 (.slice a14 za.length c14) za from T15.out.1 (Fc.z (.slice a14 za.length c14) za) (by simp))) (OZ.rz (show OZ w1.heap.size w15 (.slice a3 za.length c3) za from T15.out.1 (Fc.z (.slice a3 za.length c3) za) (by simp)))).mono ?_
              rintro e wx ⟨rfl, nq, rfl⟩
              have T16 : Hid (All w1.heap.size (w15.drewN nq) [Fc.u (.slice a15 ra.length c15) ra, Fc.z (.slice a14 za.length c14) za, Fc.u (.slice a10 rb.length c10) rb, Fc.z (.slice a9 zb.length c9) zb, Fc.u (.slice a6 ra.length c6) ra, Fc.u (.slice a5 rb.length c5) rb, Fc.z (.slice a3 za.length c3) za, Fc.z (.slice a2 zb.length c2) zb] ∧ Below w.heap.size w (w15.drewN nq) ∧ w1.heap.size ≤ (w15.drewN nq).heap.size) := ⟨T15.out.1.keep (belowDrew _ _), belowN T15.out.2.1 nq, T15.out.2.2⟩
              generalize w15.drewN nq = w16 at *
              clear T15
              go_wp2_with fail
              refine (same19R _ _ _ w16 (by have := HLn.out; omega) (OU.rq (show OU w1.heap.size w16 (.slice a15 ra.length c15) ra from T16.out.1 (Fc.u (.slice a15 ra.length c15) ra) (by simp))) (OU.rq (show OU w1.heap.size w16 (.slice a6 ra.length c6) ra from T16.out.1 (Fc.u (.slice a6 ra.length c6) ra) (by simp)))).mono ?_
              rintro e wx ⟨rfl, nq, rfl⟩
              have T17 : Hid (All w1.heap.size (w16.drewN nq) [Fc.u (.slice a15 ra.length c15) ra, Fc.z (.slice a14 za.length c14) za, Fc.u (.slice a10 rb.length c10) rb, Fc.z (.slice a9 zb.length c9) zb, Fc.u (.slice a6 ra.length c6) ra, Fc.u (.slice a5 rb.length c5) rb, Fc.z (.slice a3 za.length c3) za, Fc.z (.slice a2 zb.length c2) zb] ∧ Below w.heap.size w (w16.drewN nq) ∧ w1.heap.size ≤ (w16.drewN nq).heap.size) := ⟨T16.out.1.keep (belowDrew _ _), belowN T16.out.2.1 nq, T16.out.2.2⟩
              generalize w16.drewN nq = w17 at *
              clear T16
              go_wp2_with fail
              go_ret
              exact ⟨rfl, T17.out.2.1⟩
end Go.Proofs.YtjhnkdhbjpddcaaDoor
