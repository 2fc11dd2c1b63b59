import Derived.Test.YtbpggbibdoifmaaBs
namespace Go.Proofs.Ytbpggbibdoifmaa
open Go.RowKit
set_option maxHeartbeats 8000000 in
set_option maxRecDepth 100000 in
theorem breaksIn (v cv mv : Value) (L : List (List UInt8)) (n : Int) (zs : List Int) (more : List UInt8) (hl : L.length + (L.map List.length).sum ≤ 1048576) (hml : more.length ≤ 1048576) (hzl : zs.length ≤ 1048576) (hz : ∀ z ∈ zs, -9223372036854775808 ≤ z ∧ z ≤ 9223372036854775807) (w : World) (hr : RBS w v L) (hc : RI w cv zs) (hm : RB w mv more) (n1 : 32768 < n) (n2 : n ≤ 4294967295) :
    Calls Try.prog 6 #[v, .int .i64 n, cv, mv] w fun e w' => e = .returned (.bool true) ∧ Below w.heap.size w w' := by
  have HR0 : Hid (RBS w v L) := hr
  have HC : Hid (RI w cv zs) := hc
  have HM : Hid (RB w mv more) := hm
  have HZ : Hid (∀ z ∈ zs, -9223372036854775808 ≤ z ∧ z ≤ 9223372036854775807) := hz
  obtain ⟨a, c, rfl, hle, _⟩ := hr
  have HR : Hid (∀ i, i < L.length → ∃ g o ua uc, a = some ⟨g, o, none⟩ ∧ (∀ wr, Below w.heap.size w wr → wr.cell? ⟨g, o + i, none⟩ = some (.slice ua (L.getD i []).length uc)) ∧ RB w (.slice ua (L.getD i []).length uc) (L.getD i [])) := rbs_get HR0.out
  obtain ⟨ca, cc, rfl, _, _⟩ := hc
  obtain ⟨ma, mc, rfl, _, _⟩ := hm
  have HSZ : Hid (∀ i, sz (gd (L.take i)) ≤ 4194304 ∧ (gd (L.take i)).length ≤ 1048576) := fun i => ⟨by have := sz_gd_take L i; omega, by have := gd_len (L.take i); rw [List.length_take] at this; omega⟩
  have HTL : Hid (∀ i, i < L.length → (L.getD i []).length ≤ 1048576) := fun i hi => by have := mem_le L i hi; omega
  have hLn : L.length ≤ 1048576 := by omega
  clear hz HR0 hl
  obtain ⟨N, rfl⟩ : ∃ N : Nat, n = (N : Int) := ⟨n.toNat, by omega⟩
  have HNB : Hid (32768 < N ∧ N < 4294967296) := by unfold Hid; omega
  go_enter Try.func6, Try.ntmps6
  go_wp2
  go_loopw [9, 10, 11] (fun bv sv t wr => ∃ (i : Nat) (BS : List (List UInt8)) (ba sa : Option Addr) (nb bcap ns scap : Nat), bv = .slice ba nb bcap ∧ sv = .slice sa ns scap ∧ t = .int .i64 i ∧ i ≤ L.length ∧ Hid (WI w L i BS (.slice ba nb bcap) (.slice sa ns scap) nb ns wr)) (fun _ _ t _ => L.length - (intOf t).toNat)
  case atStart => exact ⟨0, [], none, none, 0, 0, 0, 0, rfl, rfl, rfl, Nat.zero_le _, ⟨by simp [gd], rfl, rfl, World.ownsRow_nil _ _ _ _, fun _ => rfl, RR.nil _ _, Below.refl _ _⟩⟩
  case round =>
    obtain ⟨i, BS, ba, sa, nb, bcap, ns, scap, rfl, rfl, rfl, hi, H⟩ := hrel
    by_cases hlt : i < L.length
    · have i0 : (i : Int) < (L.length : Int) := by omega
      have i1 : (0 : Int) ≤ (i : Int) := by omega
      obtain ⟨g, o, ua, uc, rfl, hcell, hrb⟩ := HR.out i hlt
      have HRB : Hid (RB w (.slice ua (L.getD i []).length uc) (L.getD i [])) := hrb
      have hT := HTL.out i hlt
      have HI : Hid (i < L.length) := hlt
      have HNO : Hid (¬ (L.getD i []).length ≤ 32768 → WI w L (i + 1) BS (.slice ba nb bcap) (.slice sa ns scap) nb ns wr) := H.out.no hlt
      have HYE : Hid ((L.getD i []).length ≤ 32768 → gd (L.take (i + 1)) = gd (L.take i) ++ [L.getD i []]) := gd_yes L i hlt
      have HCE : Hid (∀ wr, Below w.heap.size w wr → wr.cell? ⟨g, o + i, none⟩ = some (.slice ua (L.getD i []).length uc)) := hcell
      clear hrb hcell
      generalize L.getD i [] = T at *
      have q0 := HCE.out wr H.out.bel
      by_cases hsm : T.length ≤ 32768
      · have WY : Hid (Calls Try.prog 21 #[.slice ua T.length uc] wr fun e w' => ∃ v', e = .returned (.tuple #[v', .int .i64 0]) ∧ OW wr.heap.size w' v' (frm T) ∧ Below wr.heap.size wr w') := wrap_yes _ T hsm wr (HRB.out.keep H.out.bel)
        have HY2 : Hid (gd (L.take (i + 1)) = gd (L.take i) ++ [T]) := HYE.out hsm
        clear HYE HNO
        go_wp2_with fail
        refine WY.out.mono ?_
        rintro e w1 ⟨fv, rfl, o1, b1⟩
        have H1 : Hid (WI w L i BS (.slice ba nb bcap) (.slice sa ns scap) nb ns w1) := H.out.keep b1
        have O1 : Hid (OW wr.heap.size w1 fv (frm T) ∧ wr.heap.size ≤ w1.heap.size ∧ w.heap.size ≤ wr.heap.size) := ⟨o1, b1.size, H.out.bel.size⟩
        obtain ⟨fa, fn, fc, rfl⟩ := o1.form3
        have q1 := HCE.out w1 H1.out.bel
        have hBSL : BS.length < 1073741824 := by rw [H1.out.bs]; have := (HSZ.out i).2; omega
        have HBS : Hid (BS.length < 1073741824) := hBSL
        clear o1 b1 WY H q0 hBSL
        have HW1 : Hid (HBW w wr.heap.size BS BS T (.slice ba nb bcap) (.slice sa ns scap) (.slice fa fn fc) (w1.alloc (.cells #[.slice ua T.length uc] 22))) := ⟨H1.out.rr.keep ((Below.refl _ _).alloc (Nat.le_refl _) _), H1.out.ow.alloc _, O1.out.1.alloc _, H1.out.bel.alloc H1.out.bel.size _⟩
        have HX : Hid (BS = gd (L.take i) ∧ (fms BS = [] → (.slice ba nb bcap : Value) = .slice none 0 0) ∧ (fms BS).length + (frm T).length ≤ 140737488351232) := ⟨H1.out.bs, H1.out.nil, by rw [fms_len, frm_len, H1.out.bs]; have := (HSZ.out i).1; omega⟩
        clear H1
        go_wp2_with (at_builtin; first | (refine append_ref rfl _ _ rfl rfl HW1.out.rr w1.heap.size _ T rfl (by go_simp) HRB.out HW1.out.bel.size HBS.out ?_; intro v' w2 k1 k2 k3; have HW2 : Hid (HBW w wr.heap.size BS (BS ++ [T]) T (.slice ba nb bcap) v' (.slice fa fn fc) w2) := ⟨k1, k3 _ _ _ _ HW1.out.ow, k3 _ _ _ _ HW1.out.ff, HW1.out.bel.trans k2⟩; obtain ⟨va, vn, vc, hvn, rfl⟩ := k1.form3; have HVN : Hid (vn = (BS ++ [T]).length) := hvn; clear k1 k2 k3 hvn HW1) | (refine append_held rfl _ _ rfl rfl HW2.out.ow HX.out.2.1 rfl HW2.out.ff.rb HW2.out.bel.size HX.out.2.2 ?_; intro v2 w3 k1 k2 k3 _; have HB3 := HW2.out.below k3; rw [← fms_snoc] at k1 k2; obtain ⟨xa, xn, xc, hxn, rfl⟩ := k1.form4; have HW3 : Hid (WI w L (i + 1) (BS ++ [T]) (.slice xa xn xc) (.slice va vn vc) xn vn w3) := ⟨by rw [HY2.out, HX.out.1], hxn, HVN.out, k1, k2, HB3.2, HB3.1⟩; clear k1 k2 k3 HB3 hxn))
        go_roundw
        case rel => exact ⟨i + 1, BS ++ [T], xa, va, xn, xc, vn, vc, rfl, rfl, by go_num, by have := HI.out; omega, HW3.out⟩
        case measure => have := HI.out; simp [intOf]; omega
      · have WN : Hid (Calls Try.prog 21 #[.slice ua T.length uc] wr fun e w' => e = .returned (.tuple #[.slice none 0 0, .int .i64 102]) ∧ wr = w') := wrap_no ua T.length uc (by omega) (by omega) wr
        have HN2 := HNO.out hsm
        have HN3 : Hid (WI w L (i + 1) BS (.slice ba nb bcap) (.slice sa ns scap) nb ns wr) := HN2
        clear HN2 HNO HYE
        go_wp2_with fail
        refine WN.out.mono ?_
        rintro e w1 ⟨rfl, rfl⟩
        go_wp2
        go_roundw
        case rel => exact ⟨i + 1, BS, ba, sa, nb, bcap, ns, scap, rfl, rfl, by go_num, by have := HI.out; omega, HN3.out⟩
        case measure => have := HI.out; simp [intOf]; omega
    · have hiL : i = L.length := by omega
      have HW : Hid (WI w L L.length BS (.slice ba nb bcap) (.slice sa ns scap) nb ns wr) := hiL ▸ H.out
      have hiI : ¬ ((i : Int) < (L.length : Int)) := by omega
      clear H hlt hi
      have TX : Hid (TA w BS (fms BS) (.slice ba nb bcap) (.slice sa ns scap) (wr.alloc (.cells #[Value.int .u8 ((N : Int) / 16777216), Value.int .u8 ((N : Int) / 65536 % 256), Value.int .u8 ((N : Int) / 256 % 256), Value.int .u8 ((N : Int) % 256)] 5)) ∧ RB (wr.alloc (.cells #[Value.int .u8 ((N : Int) / 16777216), Value.int .u8 ((N : Int) / 65536 % 256), Value.int .u8 ((N : Int) / 256 % 256), Value.int .u8 ((N : Int) % 256)] 5)) (.slice (some ⟨wr.heap.size, 0, none⟩) 4 4) (be4 N)) := by
        rw [be4_cells2 N HNB.out.2]
        exact ⟨⟨HW.out.ow.alloc _, HW.out.nil, HW.out.rr.keep ((Below.refl _ _).alloc (Nat.le_refl _) _), HW.out.bel.alloc HW.out.bel.size _⟩, rb_block (heapNew _ _) 4 rfl⟩
      have HBS : Hid (BS = gd L ∧ nb = sz BS ∧ ns = BS.length ∧ sz BS ≤ 4194304 ∧ BS.length ≤ 1048576) := by
        have e : BS = gd L := by rw [HW.out.bs, List.take_length]
        have := HSZ.out L.length
        rw [List.take_length, ← e] at this
        exact ⟨e, by rw [← fms_len]; exact HW.out.nb, HW.out.ns, this.1, this.2⟩
      have NB0 : Hid ((fms BS).length + (be4 N).length ≤ 140737488351232 ∧ (fms BS ++ be4 N).length + more.length ≤ 140737488351232) := by
        rw [List.length_append, fms_len, be4_len]; have := HBS.out; constructor <;> omega
      have RDB : Hid (Rd false (fms BS ++ be4 N ++ more) [] BS false (be4 N ++ more) 102 ∧ (fms BS ++ be4 N ++ more).length ≤ 16777216 ∧ BS.length ≤ 140737488351232 ∧ ∀ b ∈ BS, b.length ≤ 140737488351232) := by
        have := HBS.out
        refine ⟨?_, ?_, by omega, ?_⟩
        · rw [List.append_assoc]
          exact rd_breaks BS (by rw [this.1]; exact gd_small L) N HNB.out.1 HNB.out.2 more
        · rw [List.length_append, List.length_append, fms_len, be4_len]; omega
        · intro b hb
          rw [this.1] at hb
          have := gd_small L b hb
          omega
      have HNBZ : Hid (nb = sz BS) := HBS.out.2.1
      clear HW HBS HSZ HTL HR
      go_wp2_with (at_builtin; first | (refine append_held rfl _ _ rfl rfl TX.out.1.ow TX.out.1.nil rfl TX.out.2 TX.out.1.bel.size NB0.out.1 ?_; intro v1 w1 k1 k2 k3 _; have T1 : Hid (TA w BS (fms BS ++ be4 N) v1 (.slice sa ns scap) w1) := TX.out.1.app k1 k2 k3; obtain ⟨xa, xn, xc, rfl⟩ := k1.form3; clear k1 k2 k3 TX) | (refine append_held rfl _ _ rfl rfl T1.out.ow T1.out.nil rfl (HM.out.keep T1.out.bel) T1.out.bel.size NB0.out.2 ?_; intro v2 w2 k1 k2 k3 _; have T2 : Hid (TA w BS (fms BS ++ be4 N ++ more) v2 (.slice sa ns scap) w2) := T1.out.app k1 k2 k3; obtain ⟨ya, yn, yc, rfl⟩ := k1.form3; clear k1 k2 k3 T1))
      generalize fms BS ++ be4 N ++ more = l at *
      generalize be4 N ++ more = r at *
      refine (new w2 false).mono ?_
      rintro e w3 ⟨rfl, k3, b3⟩
      have k3' : RK w3 w2.heap.size 0 0 (.slice none 0 0) 0 := k3
      have T3 : Hid (TA w BS l (.slice ya yn yc) (.slice sa ns scap) w3 ∧ RK w3 w2.heap.size 0 0 (.slice none 0 0) 0 ∧ w.heap.size ≤ w2.heap.size) := ⟨T2.out.keep b3, k3', T2.out.bel.size⟩
      clear k3 k3' b3 T2 NB0
      generalize w2.heap.size = R at *
      go_wp2_with fail
      refine (pushed w3 R 0 _ _ l zs (.inr rfl) T3.out.2.1 T3.out.1.ow.rb (HC.out.keepR T3.out.1.bel T3.out.2.2) RDB.out.2.1 hzl HZ.out).mono ?_
      rintro e w4 ⟨mv1, bv1, why, met, bs, h1, r1, p1, s1, held1, hv1, rfl, QO1⟩
      obtain ⟨q1, q2, q3, q4, q5⟩ := RDB.out.1.det QO1.rd
      rw [q1, q2, q3, q4, q5] at QO1
      subst q5
      clear q1 q2 q3 q4
      have Q1 : Hid (QO w3 R 0 l mv1 bv1 102 [] BS false r p1 s1 held1 hv1 w4) := QO1
      obtain ⟨ma1, mc1, hmf1⟩ := QO1.om.form
      obtain ⟨ba1, bn1, bc1, hbf1⟩ := QO1.ob.rbs.form3
      have hmf : mv1 = .slice ma1 0 mc1 := hmf1
      clear QO1 hmf1
      subst hmf hbf1
      have hi1 := info_told (.slice ma1 0 mc1) (.slice ba1 bn1 bc1) (.int .i64 102)
      have hone1 : (#[.slice ma1 0 mc1, .slice ba1 bn1 bc1, Value.int .i64 102]).all (·.oneCell') = true := one3 _ _ _ _ _ _ _
      have B5 : Hid (TB w BS l (.slice ya yn yc) (.slice sa ns scap) (.slice ba1 bn1 bc1) (.slice ma1 0 mc1) R w4.heap.size ((w4.alloc (.cells #[.slice none 0 0, .slice none 0 0, .int .i64 0] 36)).setRow w4.heap.size #[.slice ma1 0 mc1, .slice ba1 bn1 bc1, .int .i64 102])) := by
        obtain ⟨g6, b6, _⟩ := box_told w4 (.slice ma1 0 mc1) (.slice ba1 bn1 bc1) 102
        have ta4 := T3.out.1.fr Q1.out.fr ⟨_, _, _, _, T3.out.2.1⟩ T3.out.2.2
        have rq4 := Q1.out.rq
        exact ⟨ta4.keep b6, g6, Q1.out.ob.rbs.keep b6, ⟨_, _, _, _, (b6.block R Q1.out.rk.lt).trans Q1.out.rk, rq4.keep b6⟩⟩
      clear Q1 T3 HC HZ
      obtain ⟨y0, y1, y2, _⟩ := box_cell B5.out.x1
      go_wp2_with (first | (refine wpList_store_row rfl 36 _ _ rfl w4.heap.size _ rfl rfl 36 #[.slice none 0 0, .slice none 0 0, .int .i64 0] (heapNew w4 _) hi1 rfl hone1 ?_))
      refine (sameBodies _ _ BS _ RDB.out.2.2.1 RDB.out.2.2.2 B5.out.b1 (B5.out.ta.rr.rbs B5.out.ta.bel)).mono ?_
      rintro e w7 ⟨rfl, n7, rfl⟩
      have B7 : Hid (TB w BS l (.slice ya yn yc) (.slice sa ns scap) (.slice ba1 bn1 bc1) (.slice ma1 0 mc1) R w4.heap.size (((w4.alloc (.cells #[.slice none 0 0, .slice none 0 0, .int .i64 0] 36)).setRow w4.heap.size #[.slice ma1 0 mc1, .slice ba1 bn1 bc1, .int .i64 102]).drewN n7)) := B5.out.keep (belowDrew _ n7)
      clear y0 y1 y2 B5 hi1 hone1
      generalize World.drewN _ n7 = w7 at *
      generalize w4.heap.size = N1 at *
      have SP : Hid (Calls Try.prog 10 #[.slice ya yn yc] w7 fun e w' => ∃ bv, e = .returned (.tuple #[bv, .int .i64 (nb : Nat), .int .i64 102]) ∧ RBS w' bv BS ∧ Below w7.heap.size w7 w') := splitB RDB.out.2.1 RDB.out.1 HNBZ.out w7 B7.out.ta.ow.rb
      go_wp2_with fail
      refine SP.out.mono ?_
      rintro e w8 ⟨bv8, rfl, rb8, b8⟩
      have B8 : Hid (TB w BS l (.slice ya yn yc) (.slice sa ns scap) (.slice ba1 bn1 bc1) (.slice ma1 0 mc1) R N1 w8 ∧ RBS w8 bv8 BS) := ⟨B7.out.keep b8, rb8⟩
      obtain ⟨ba8, bn8, bc8, rfl⟩ := rb8.form3
      clear rb8 b8 B7 SP
      go_wp2_with fail
      refine (sameBodies _ _ BS _ RDB.out.2.2.1 RDB.out.2.2.2 B8.out.2 (B8.out.1.ta.rr.rbs B8.out.1.ta.bel)).mono ?_
      rintro e w9 ⟨rfl, n9, rfl⟩
      have B9 : Hid (BR (w8.drewN n9) R ∧ Below w.heap.size w (w8.drewN n9)) := ⟨(B8.out.1.keep (belowDrew _ n9)).rk, (B8.out.1.keep (belowDrew _ n9)).ta.bel⟩
      clear B8
      generalize w8.drewN n9 = w9 at *
      go_wp2_with fail
      clear RDB HNBZ HM
      go_loopw [20] (fun t wk => ∃ k : Nat, t = .int .i64 k ∧ k ≤ 2 ∧ Hid (BR wk R ∧ Below w.heap.size w wk)) (fun t _ => 2 - (intOf t).toNat)
      case atStart => exact ⟨0, rfl, by omega, B9.out⟩
      case round =>
        obtain ⟨k, rfl, hk, H⟩ := hrel
        clear B9
        by_cases hk2 : k < 2
        · have HF : Hid (Calls Try.prog 18 #[.pointer (some ⟨R, 0, none⟩)] wr fun e w' => e = .returned (.int .i64 102) ∧ w' = wr) := H.out.1.fault
          have HH : Hid (Calls Try.prog 17 #[.pointer (some ⟨R, 0, none⟩)] wr fun e w' => e = .returned (.int .i64 0) ∧ w' = wr) := H.out.1.held
          have HP : Hid (Calls Try.prog 22 #[.pointer (some ⟨R, 0, none⟩), .slice ma more.length mc] wr fun e w' => e = .returned (.tuple #[.slice none 0 0, .slice none 0 0, .int .i64 103]) ∧ w' = wr) := H.out.1.push _ _ _
          have hkI : (k : Int) < 2 := by omega
          go_wp2_with fail
          refine HF.out.mono ?_
          rintro e wf ⟨rfl, rfl⟩
          go_wp2_with fail
          refine HH.out.mono ?_
          rintro e wf ⟨rfl, rfl⟩
          go_wp2_with fail
          refine HP.out.mono ?_
          rintro e wf ⟨rfl, rfl⟩
          go_wp2
          go_roundw
          case rel => exact ⟨k + 1, by go_num, by omega, H.out⟩
          case measure => simp [intOf]; omega
        · have hkI : ¬ (k : Int) < 2 := by omega
          have HE : Hid (Below w.heap.size w wr) := H.out.2
          clear H
          go_wp2
          go_ret
          exact ⟨rfl, HE.out⟩
end Go.Proofs.Ytbpggbibdoifmaa
