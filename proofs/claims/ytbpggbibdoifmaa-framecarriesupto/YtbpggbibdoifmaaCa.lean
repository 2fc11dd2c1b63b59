import Derived.Test.YtbpggbibdoifmaaCp
import Derived.Test.YtbpggbibdoifmaaHelloEq
namespace Go.Proofs.Ytbpggbibdoifmaa
open Go.RowKit
/-- the loop that wraps, behind a beginning -/
structure WJ (w : World) (P : List UInt8) (L : List (List UInt8)) (i : Nat) (BS : List (List UInt8)) (bv sv : Value) (nb ns : Nat) (wr : World) : Prop where
  bs : BS = gd (L.take i)
  nb : nb = (P ++ fms BS).length
  ns : ns = BS.length
  ow : OW w.heap.size wr bv (P ++ fms BS)
  rr : RR w wr sv BS
  bel : Below w.heap.size w wr
theorem WJ.keep {w : World} {P : List UInt8} {L : List (List UInt8)} {i : Nat} {BS : List (List UInt8)} {bv sv : Value} {nb ns : Nat} {wr w2 : World} (h : WJ w P L i BS bv sv nb ns wr) (hb : Below wr.heap.size wr w2) : WJ w P L i BS bv sv nb ns w2 :=
  ⟨h.bs, h.nb, h.ns, h.ow.grow hb, h.rr.keep hb, h.bel.trans (hb.mono h.bel.size)⟩
theorem WJ.no {w : World} {P : List UInt8} {L : List (List UInt8)} {i : Nat} {BS : List (List UInt8)} {bv sv : Value} {nb ns : Nat} {wr : World} (h : WJ w P L i BS bv sv nb ns wr) (hi : i < L.length) (hb : ¬ (L.getD i []).length ≤ 32768) : WJ w P L (i + 1) BS bv sv nb ns wr :=
  ⟨by rw [gd_no L i hi hb]; exact h.bs, h.nb, h.ns, h.ow, h.rr, h.bel⟩
/-- between the two appends -/
structure HBX (w : World) (P : List UInt8) (B2 : Nat) (BS BT : List (List UInt8)) (T : List UInt8) (bv sv fv : Value) (wx : World) : Prop where
  rr : RR w wx sv BT
  ow : OW w.heap.size wx bv (P ++ fms BS)
  ff : OW B2 wx fv (frm T)
  bel : Below w.heap.size w wx
theorem HBX.below {w : World} {P : List UInt8} {B2 : Nat} {BS BT : List (List UInt8)} {T : List UInt8} {bv sv fv : Value} {wx w3 : World} (h : HBX w P B2 BS BT T bv sv fv wx) (hg : wx.grownBy w3 bv.ownBlock) : Below w.heap.size w w3 ∧ RR w w3 sv BT :=
  ⟨h.bel.trans ((Below.refl _ wx).grown hg h.bel.size (fun k hk => (World.ownsRow.lt h.ow k hk).1)), h.rr.keep5 h.ow hg⟩
/-- behind the first push -/
structure TD (w : World) (hb : List UInt8) (BS : List (List UInt8)) (l : List UInt8) (bv sv mv xv : Value) (R1 R2 N1 : Nat) (wx : World) : Prop where
  ta : TA w BS l bv sv wx
  x1 : wx.heap[N1]? = some (.cells #[mv, xv, .int .i64 0] 36 (0, 0))
  m1 : ∃ B, OM B wx mv [hb]
  b1 : RBS wx xv BS
  r1 : RQ wx R1 0 []
  k2 : RK wx R2 2 0 (.slice none 0 0) 0
theorem TD.keep {w : World} {hb : List UInt8} {BS : List (List UInt8)} {l : List UInt8} {bv sv mv xv : Value} {R1 R2 N1 : Nat} {wx w2 : World} (h : TD w hb BS l bv sv mv xv R1 R2 N1 wx) (hb' : Below wx.heap.size wx w2) : TD w hb BS l bv sv mv xv R1 R2 N1 w2 := by
  obtain ⟨B, m1⟩ := h.m1
  exact ⟨h.ta.keep hb', (hb'.block _ (Array.getElem?_eq_some_iff.1 h.x1).1).trans h.x1, ⟨B, m1.keepB hb'⟩, h.b1.keep hb', h.r1.keep hb', (hb'.block R2 h.k2.lt).trans h.k2⟩
set_option maxHeartbeats 8000000 in
set_option maxRecDepth 100000 in
theorem carriesLaw (hb : List UInt8) (hhl : hb.length = 48) (v cv : Value) (L : List (List UInt8)) (zs : List Int) (hl : L.length + (L.map List.length).sum ≤ 1048576) (hzl : zs.length ≤ 1048576) (hz : ∀ z ∈ zs, -9223372036854775808 ≤ z ∧ z ≤ 9223372036854775807) (w : World) (hr : RBS w v L) (hc : RI w cv zs) :
    Calls Try.prog 5 #[.agg (bc hb), v, cv] w fun e w' => e = .returned (.bool true) ∧ Below w.heap.size w w' := by
  have HZ : Hid (∀ z ∈ zs, -9223372036854775808 ≤ z ∧ z ≤ 9223372036854775807) := hz
  have hH := heapNew w (.cells (bc hb) 44)
  have B0 : Below w.heap.size w (w.alloc (.cells (bc hb) 44)) := (Below.refl _ _).alloc (Nat.le_refl _) _
  have HR0 : Hid (RBS (w.alloc (.cells (bc hb) 44)) v L) := hr.keep B0
  have HC : Hid (RI (w.alloc (.cells (bc hb) 44)) cv zs) := hc.keepB B0
  obtain ⟨a, c, rfl, hle, _⟩ := hr
  obtain ⟨ca, cc, rfl, _, _⟩ := hc
  have HSZ : Hid (∀ i, sz (gd (L.take i)) ≤ 4194304 ∧ (gd (L.take i)).length ≤ 1048576) := fun i => ⟨by have := sz_gd_take L i; omega, by have := gd_len (L.take i); rw [List.length_take] at this; omega⟩
  have HTL : Hid (∀ i, i < L.length → (L.getD i []).length ≤ 1048576) := fun i hi => by have := mem_le L i hi; omega
  have hLn : L.length ≤ 1048576 := by omega
  have HP : Hid ((sgn ++ hb).length = 68) := by unfold Hid; simp [sgn, hhl]
  have HHB : Hid (hb.length = 48) := hhl
  have hi := info_hello hhl
  have G := fun u => greet hb hhl u
  clear hz hl hhl
  go_enter Try.func5, Try.ntmps5
  go_wp2_with (first | (refine wpList_load_row rfl 44 _ rfl w.heap.size rfl 44 (bc hb) (0, 0) _ (heapNew w _) Try.underlying44 rfl hi ?_))
  have HW0 : Hid ((w.alloc (.cells (bc hb) 44)).heap[w.heap.size]? = some (.cells (bc hb) 44 (0, 0)) ∧ Below w.heap.size w (w.alloc (.cells (bc hb) 44))) := ⟨hH, B0⟩
  clear hH B0
  generalize w.alloc (.cells (bc hb) 44) = W0 at *
  have HR : Hid (∀ i, i < L.length → ∃ g o ua uc, a = some ⟨g, o, none⟩ ∧ (∀ wr, Below W0.heap.size W0 wr → wr.cell? ⟨g, o + i, none⟩ = some (.slice ua (L.getD i []).length uc)) ∧ RB W0 (.slice ua (L.getD i []).length uc) (L.getD i [])) := rbs_get HR0.out
  clear HR0
  refine (G _).mono ?_
  rintro e w1 ⟨v1, rfl, o1, b1⟩
  have O1 : Hid (RB w1 v1 (sgn ++ hb) ∧ Below W0.heap.size W0 w1) := ⟨o1.rb, b1⟩
  obtain ⟨a1, n1, c1, hn1, rfl⟩ := o1.form4
  obtain rfl : n1 = 68 := hn1.trans HP.out
  clear o1 b1 hn1 G
  go_wp2_with fail
  refine (copied O1.out.1 (by rw [HP.out]; omega)).mono ?_
  rintro e w2 ⟨v2, rfl, o2, b2⟩
  have O2 : Hid (OW W0.heap.size w2 v2 (sgn ++ hb) ∧ Below W0.heap.size W0 w2) := ⟨o2.mono O1.out.2.size, O1.out.2.trans (b2.mono O1.out.2.size)⟩
  obtain ⟨a2, n2, c2, hn2, rfl⟩ := o2.form4
  have HN2 : Hid (n2 = (sgn ++ hb).length) := hn2
  clear o2 b2 hn2 O1
  generalize hPP : sgn ++ hb = P at *
  have HPP : Hid (sgn ++ hb = P) := hPP
  clear hPP
  go_wp2_with fail
  go_loopw [7, 8, 9] (fun bv sv t wr => ∃ (i : Nat) (BS : List (List UInt8)) (ba sa : Option Addr) (nb bcap ns scap : Nat), bv = .slice ba nb bcap ∧ sv = .slice sa ns scap ∧ t = .int .i64 i ∧ i ≤ L.length ∧ Hid (WJ W0 P L i BS (.slice ba nb bcap) (.slice sa ns scap) nb ns wr)) (fun _ _ t _ => L.length - (intOf t).toNat)
  case atStart => exact ⟨0, [], a2, none, n2, c2, 0, 0, rfl, rfl, rfl, Nat.zero_le _, ⟨by simp [gd], by rw [fms_nil, List.append_nil]; exact HN2.out, rfl, by rw [fms_nil, List.append_nil]; exact O2.out.1, RR.nil _ _, O2.out.2⟩⟩
  case round =>
    obtain ⟨i, BS, ba, sa, nb, bcap, ns, scap, rfl, rfl, rfl, hi, H⟩ := hrel
    clear O2 HN2
    by_cases hlt : i < L.length
    · have i0 : (i : Int) < (L.length : Int) := by omega
      have i1 : (0 : Int) ≤ (i : Int) := by omega
      obtain ⟨g, o, ua, uc, rfl, hcell, hrb⟩ := HR.out i hlt
      have HRB : Hid (RB W0 (.slice ua (L.getD i []).length uc) (L.getD i [])) := hrb
      have hT := HTL.out i hlt
      have HI : Hid (i < L.length) := hlt
      have HNO : Hid (¬ (L.getD i []).length ≤ 32768 → WJ W0 P L (i + 1) BS (.slice ba nb bcap) (.slice sa ns scap) nb ns wr) := H.out.no hlt
      have HYE : Hid ((L.getD i []).length ≤ 32768 → gd (L.take (i + 1)) = gd (L.take i) ++ [L.getD i []]) := gd_yes L i hlt
      have HCE : Hid (∀ wr, Below W0.heap.size W0 wr → wr.cell? ⟨g, o + i, none⟩ = some (.slice ua (L.getD i []).length uc)) := hcell
      clear hrb hcell
      generalize L.getD i [] = T at *
      have q0 := HCE.out wr H.out.bel
      by_cases hsm : T.length ≤ 32768
      · have WY : Hid (Calls Try.prog 21 #[.slice ua T.length uc] wr fun e w' => ∃ v', e = .returned (.tuple #[v', .int .i64 0]) ∧ OW wr.heap.size w' v' (frm T) ∧ Below wr.heap.size wr w') := wrap_yes _ T hsm wr (HRB.out.keep H.out.bel)
        have HY2 : Hid (gd (L.take (i + 1)) = gd (L.take i) ++ [T]) := HYE.out hsm
        have hsmI : (T.length : Int) ≤ 32768 := by omega
        clear HYE HNO
        go_wp2_with fail
        refine WY.out.mono ?_
        rintro e w1 ⟨fv, rfl, o1, b1⟩
        have H1 : Hid (WJ W0 P L i BS (.slice ba nb bcap) (.slice sa ns scap) nb ns w1) := H.out.keep b1
        have O1 : Hid (OW wr.heap.size w1 fv (frm T) ∧ wr.heap.size ≤ w1.heap.size) := ⟨o1, b1.size⟩
        obtain ⟨fa, fn, fc, hfn, rfl⟩ := o1.form4
        obtain rfl : fn = T.length + 4 := by rw [hfn, frm_len]; omega
        have q1 := HCE.out w1 H1.out.bel
        have hBSL : BS.length < 1073741824 := by rw [H1.out.bs]; have := (HSZ.out i).2; omega
        have HBS : Hid (BS.length < 1073741824) := hBSL
        clear o1 b1 WY H q0 hBSL hfn
        have HW1 : Hid (HBX W0 P wr.heap.size BS BS T (.slice ba nb bcap) (.slice sa ns scap) (.slice fa (T.length + 4) fc) (w1.alloc (.cells #[.slice ua T.length uc] 22))) := ⟨H1.out.rr.keep ((Below.refl _ _).alloc (Nat.le_refl _) _), H1.out.ow.alloc _, O1.out.1.alloc _, H1.out.bel.alloc H1.out.bel.size _⟩
        have HX : Hid (BS = gd (L.take i) ∧ (P ++ fms BS = [] → (.slice ba nb bcap : Value) = .slice none 0 0) ∧ (P ++ fms BS).length + (frm T).length ≤ 140737488351232) := by
          refine ⟨H1.out.bs, fun e => ?_, ?_⟩
          · have h2 : (P ++ fms BS).length = 0 := by rw [e]; rfl
            rw [List.length_append, HP.out] at h2
            omega
          · rw [List.length_append, fms_len, frm_len, H1.out.bs, HP.out]; have := (HSZ.out i).1; omega
        clear H1
        go_wp2_with (at_builtin; first | (refine append_ref rfl _ _ rfl rfl HW1.out.rr w1.heap.size _ T rfl (by go_simp) HRB.out HW1.out.bel.size HBS.out ?_; intro v' w2 k1 k2 k3; have HW2 : Hid (HBX W0 P wr.heap.size BS (BS ++ [T]) T (.slice ba nb bcap) v' (.slice fa (T.length + 4) fc) w2) := ⟨k1, k3 _ _ _ _ HW1.out.ow, k3 _ _ _ _ HW1.out.ff, HW1.out.bel.trans k2⟩; obtain ⟨va, vn, vc, hvn, rfl⟩ := k1.form3; have HVN : Hid (vn = (BS ++ [T]).length) := hvn; clear k1 k2 k3 hvn HW1) | (refine append_held rfl _ _ rfl rfl HW2.out.ow HX.out.2.1 rfl HW2.out.ff.rb HW2.out.bel.size HX.out.2.2 ?_; intro v2 w3 k1 k2 k3 _; have HB3 := HW2.out.below k3; rw [List.append_assoc, ← fms_snoc] at k1; obtain ⟨xa, xn, xc, hxn, rfl⟩ := k1.form4; have HW3 : Hid (WJ W0 P L (i + 1) (BS ++ [T]) (.slice xa xn xc) (.slice va vn vc) xn vn w3) := ⟨by rw [HY2.out, HX.out.1], hxn, HVN.out, k1, HB3.2, HB3.1⟩; clear k1 k2 k3 HB3 hxn))
        go_roundw
        case rel => exact ⟨i + 1, BS ++ [T], xa, va, xn, xc, vn, vc, rfl, rfl, by go_num, by have := HI.out; omega, HW3.out⟩
        case measure => have := HI.out; simp [intOf]; omega
      · have WN : Hid (Calls Try.prog 21 #[.slice ua T.length uc] wr fun e w' => e = .returned (.tuple #[.slice none 0 0, .int .i64 102]) ∧ wr = w') := wrap_no ua T.length uc (by omega) (by omega) wr
        have HN2 := HNO.out hsm
        have HN3 : Hid (WJ W0 P L (i + 1) BS (.slice ba nb bcap) (.slice sa ns scap) nb ns wr) := HN2
        have hsmI : ¬ (T.length : Int) ≤ 32768 := by omega
        clear HN2 HNO HYE
        go_wp2_with fail
        refine WN.out.mono ?_
        rintro e w1 ⟨rfl, rfl⟩
        go_wp2
        go_roundw
        case rel => exact ⟨i + 1, BS, ba, sa, nb, bcap, ns, scap, rfl, rfl, by go_num, by have := HI.out; omega, HN3.out⟩
        case measure => have := HI.out; simp [intOf]; omega
    · have hiL : i = L.length := by omega
      have HW : Hid (WJ W0 P L L.length BS (.slice ba nb bcap) (.slice sa ns scap) nb ns wr) := hiL ▸ H.out
      have hiI : ¬ ((i : Int) < (L.length : Int)) := by omega
      clear H hlt hi
      have HBS : Hid (BS = gd L ∧ ns = BS.length ∧ sz BS ≤ 4194304 ∧ BS.length ≤ 1048576 ∧ nb = 68 + sz BS) := by
        have e : BS = gd L := by rw [HW.out.bs, List.take_length]
        have := HSZ.out L.length
        rw [List.take_length, ← e] at this
        exact ⟨e, HW.out.ns, this.1, this.2, by rw [HW.out.nb, List.length_append, HP.out, fms_len]⟩
      have T2 : Hid (TA W0 BS (P ++ fms BS) (.slice ba nb bcap) (.slice sa ns scap) wr) := ⟨HW.out.ow, fun e => by
        have h2 : (P ++ fms BS).length = 0 := by rw [e]; rfl
        rw [List.length_append, HP.out] at h2
        omega, HW.out.rr, HW.out.bel⟩
      have hsmall : ∀ b ∈ BS, b.length ≤ 32768 := by rw [HBS.out.1]; exact gd_small L
      have HSM : Hid (∀ b ∈ BS, b.length ≤ 32768) := hsmall
      have RDB : Hid (Rd true (P ++ fms BS) [hb] BS false [] 0 ∧ (P ++ fms BS).length ≤ 16777216 ∧ BS.length ≤ 140737488351232 ∧ ∀ b ∈ BS, b.length ≤ 140737488351232) := by
        have := HBS.out
        refine ⟨?_, ?_, by omega, ?_⟩
        · rw [← HPP.out]
          exact rd_all hb HHB.out BS hsmall
        · rw [List.length_append, fms_len, HP.out]; omega
        · intro b hb
          have := hsmall b hb
          omega
      clear HW HSZ HTL HR hsmall
      go_wp2_with fail
      refine (new wr true).mono ?_
      rintro e w3 ⟨rfl, k3, b3⟩
      have k3' : RK w3 wr.heap.size 2 0 (.slice none 0 0) 0 := k3
      have T3 : Hid (TA W0 BS (P ++ fms BS) (.slice ba nb bcap) (.slice sa ns scap) w3 ∧ RK w3 wr.heap.size 2 0 (.slice none 0 0) 0 ∧ W0.heap.size ≤ wr.heap.size) := ⟨T2.out.keep b3, k3', T2.out.bel.size⟩
      clear k3 k3' b3 T2
      generalize wr.heap.size = R1 at *
      go_wp2_with fail
      refine (new w3 true).mono ?_
      rintro e w4 ⟨rfl, k4, b4⟩
      have k4' : RK w4 w3.heap.size 2 0 (.slice none 0 0) 0 := k4
      have T4 : Hid (TA W0 BS (P ++ fms BS) (.slice ba nb bcap) (.slice sa ns scap) w4 ∧ RK w4 R1 2 0 (.slice none 0 0) 0 ∧ W0.heap.size ≤ R1 ∧ RK w4 w3.heap.size 2 0 (.slice none 0 0) 0 ∧ R1 < w3.heap.size) := ⟨T3.out.1.keep b4, (b4.block R1 T3.out.2.1.lt).trans T3.out.2.1, T3.out.2.2, k4', T3.out.2.1.lt⟩
      clear k4 k4' b4 T3
      generalize w3.heap.size = R2 at *
      go_wp2_with fail
      refine (pushed w4 R1 2 _ _ (P ++ fms BS) zs (.inl rfl) T4.out.2.1 T4.out.1.ow.rb (HC.out.keepR T4.out.1.bel T4.out.2.2.1) RDB.out.2.1 hzl HZ.out).mono ?_
      rintro e w5 ⟨mv1, bv1, why, met, bs, h1, r1, p1, s1, held1, hv1, rfl, QO1⟩
      obtain ⟨q1, q2, q3, q4, q5⟩ := RDB.out.1.det QO1.rd
      rw [q1, q2, q3, q4, q5] at QO1
      subst q5
      clear q1 q2 q3 q4
      have Q1 : Hid (QO w4 R1 2 (P ++ fms BS) mv1 bv1 0 [hb] BS false [] p1 s1 held1 hv1 w5) := QO1
      obtain ⟨gm, cm, hmf, _, _, _⟩ := QO1.om.one
      obtain ⟨ba1, bn1, bc1, hbf1⟩ := QO1.ob.rbs.form3
      clear QO1
      subst hmf hbf1
      have hi1 := info_told (.slice (some ⟨gm, 0, none⟩) 1 cm) (.slice ba1 bn1 bc1) (.int .i64 0)
      have hone1 : (#[.slice (some ⟨gm, 0, none⟩) 1 cm, .slice ba1 bn1 bc1, Value.int .i64 0]).all (·.oneCell') = true := one3 _ _ _ _ _ _ _
      have B5 : Hid (TD W0 hb BS (P ++ fms BS) (.slice ba nb bcap) (.slice sa ns scap) (.slice (some ⟨gm, 0, none⟩) 1 cm) (.slice ba1 bn1 bc1) R1 R2 w5.heap.size ((w5.alloc (.cells #[.slice none 0 0, .slice none 0 0, .int .i64 0] 36)).setRow w5.heap.size #[.slice (some ⟨gm, 0, none⟩) 1 cm, .slice ba1 bn1 bc1, .int .i64 0]) ∧ R1 < R2 ∧ W0.heap.size ≤ R1) := by
        obtain ⟨g6, b6, _⟩ := box_told w5 (.slice (some ⟨gm, 0, none⟩) 1 cm) (.slice ba1 bn1 bc1) 0
        have ta5 := T4.out.1.fr Q1.out.fr ⟨_, _, _, _, T4.out.2.1⟩ T4.out.2.2.1
        have k25 : RK w5 R2 2 0 (.slice none 0 0) 0 := (Q1.out.fr.block R2 T4.out.2.2.2.1.lt (by have := T4.out.2.2.2.2; omega)).trans T4.out.2.2.2.1
        exact ⟨⟨ta5.keep b6, g6, ⟨_, Q1.out.om.keepB b6⟩, Q1.out.ob.rbs.keep b6, Q1.out.rq.keep b6, (b6.block R2 k25.lt).trans k25⟩, T4.out.2.2.2.2, T4.out.2.2.1⟩
      clear Q1 T4
      obtain ⟨y0, y1, y2, _⟩ := box_cell B5.out.1.x1
      go_wp2_with (first | (refine wpList_store_row rfl 36 _ _ rfl w5.heap.size _ rfl rfl 36 #[.slice none 0 0, .slice none 0 0, .int .i64 0] (heapNew w5 _) hi1 rfl hone1 ?_))
      generalize ((w5.alloc (.cells #[.slice none 0 0, .slice none 0 0, .int .i64 0] 36)).setRow w5.heap.size #[.slice (some ⟨gm, 0, none⟩) 1 cm, .slice ba1 bn1 bc1, .int .i64 0]) = w6 at *
      generalize w5.heap.size = N1 at *
      obtain ⟨Bm, om⟩ := B5.out.1.m1
      obtain ⟨gm', cm', em, _, _, rgm⟩ := om.one
      simp only [Value.slice.injEq, Option.some.injEq, Addr.mk.injEq, true_and, and_true] at em
      obtain ⟨rfl, rfl⟩ := em
      have hh : w6.heap[w.heap.size]? = some (.cells (bc hb) 44 (0, 0)) := (B5.out.1.ta.bel.block _ (Array.getElem?_eq_some_iff.1 HW0.out.1).1).trans HW0.out.1
      have RGM : Hid (∀ n, (w6.drewN n).rangeAt gm 0 (Lib.byteCells hb)) := fun n => rgm
      have RGH : Hid (∀ n, (w6.drewN n).rangeAt w.heap.size 0 (Lib.byteCells hb)) := fun n j y hj => by
        have hj' : j < hb.length := by
          have := (List.getElem?_eq_some_iff.1 hj).1
          rwa [bcl_len] at this
        have := cell_bc hh j hj'
        rw [Nat.zero_add]
        show w6.cell? _ = _
        rw [this, getD_byt _ j hj']
        simpa [Lib.byteCells, List.getElem?_eq_getElem hj'] using hj
      have hgd : Try.prog.eqGuardType Try.prog.depth 44 = false := by kernel_rfl
      have heq := fun u => neq_hello u hb HHB.out
      have SB : Hid (∀ n, Calls Try.prog 12 #[.slice ba1 bn1 bc1, .slice sa ns scap] (w6.drewN n) fun e w' => e = .returned (.bool true) ∧ ∃ m, w' = (w6.drewN n).drewN m) := fun n => sameBodies _ _ BS _ RDB.out.2.2.1 RDB.out.2.2.2 (B5.out.1.b1.keep (belowDrew _ n)) ((B5.out.1.ta.rr.rbs B5.out.1.ta.bel).keep (belowDrew _ n))
      have HQ : Hid (∀ n, Calls Try.prog 17 #[.pointer (some ⟨R1, 0, none⟩)] (w6.drewN n) fun e w' => e = .returned (.int .i64 0) ∧ w' = w6.drewN n) := fun n => heldQ (B5.out.1.r1.keep (belowDrew _ n))
      have FQ : Hid (∀ n, Calls Try.prog 18 #[.pointer (some ⟨R1, 0, none⟩)] (w6.drewN n) fun e w' => e = .returned (.int .i64 0) ∧ w' = w6.drewN n) := fun n => faultQ (B5.out.1.r1.keep (belowDrew _ n))
      clear hh rgm om hi1 hone1
      refine wp_region_quiet_lit (by kernel_rfl) (by kernel_rfl) ?_
      quiet_step (fail)
      quiet_step (fail)
      quiet_step (fail)
      quiet_step (fail)
      quiet_step (fail)
      quiet_step (fail)
      quiet_step (fail)
      quiet_step (fail)
      quiet_step (fail)
      quiet_step (fail)
      quiet_step (fail)
      quiet_step (fail)
      quiet_step (fail)
      refine wpQuiet_load rfl _ rfl gm 0 rfl hb (fun w' hw' => by obtain ⟨m, rfl⟩ := hw'; exact RGM.out _) HHB.out ?_
      refine wpQuiet_load rfl _ rfl w.heap.size 0 rfl hb (fun w' hw' => by obtain ⟨m, rfl⟩ := hw'; exact RGH.out _) HHB.out ?_
      quiet_step (fail)
      quiet_step (fail)
      quiet_step (fail)
      quiet_step (fail)
      quiet_step (fail)
      quiet_step (fail)
      quiet_step ((first | (go_at_call 12; exact Calls.quiet_of (SB.out _)) | (go_at_call 17; exact Calls.quiet_of_same (HQ.out _)) | (go_at_call 18; exact Calls.quiet_of_same (FQ.out _))))
      quiet_step (fail)
      quiet_step (fail)
      quiet_step (fail)
      quiet_step (fail)
      quiet_step ((first | (go_at_call 12; exact Calls.quiet_of (SB.out _)) | (go_at_call 17; exact Calls.quiet_of_same (HQ.out _)) | (go_at_call 18; exact Calls.quiet_of_same (FQ.out _))))
      quiet_step (fail)
      quiet_step (fail)
      quiet_step (fail)
      quiet_step (fail)
      quiet_step ((first | (go_at_call 12; exact Calls.quiet_of (SB.out _)) | (go_at_call 17; exact Calls.quiet_of_same (HQ.out _)) | (go_at_call 18; exact Calls.quiet_of_same (FQ.out _))))
      quiet_step (fail)
      quiet_step (fail)
      refine wpQuiet_nil ?_
      intro _ hw'
      obtain ⟨nz, hw''⟩ := hw'
      subst hw''
      have B7 : Hid (TD W0 hb BS (P ++ fms BS) (.slice ba nb bcap) (.slice sa ns scap) (.slice (some ⟨gm, 0, none⟩) 1 cm) (.slice ba1 bn1 bc1) R1 R2 N1 (w6.drewN nz) ∧ R1 < R2 ∧ W0.heap.size ≤ R1) := ⟨B5.out.1.keep (belowDrew _ nz), B5.out.2⟩
      clear B5 RGM RGH hgd heq SB HQ FQ y0 y1 y2
      generalize w6.drewN nz = w7 at *
      obtain ⟨m, hm⟩ : ∃ m, nb = m + 1 := ⟨nb - 1, by have := HBS.out.2.2.2.2; omega⟩
      subst hm
      have HML : Hid ((P ++ fms BS).length = m + 1) := by rw [List.length_append, fms_len, HP.out]; have := HBS.out.2.2.2.2; unfold Hid; omega
      have U7 : Hid (TA W0 BS (P ++ fms BS) (.slice ba (m + 1) bcap) (.slice sa ns scap) w7 ∧ RK w7 R2 2 0 (.slice none 0 0) 0 ∧ W0.heap.size ≤ R2) := ⟨B7.out.1.ta, B7.out.1.k2, by have := B7.out.2; omega⟩
      clear B7
      have i1 : m ≤ 5242880 := by have := HBS.out; omega
      have i2 : m + 1 ≤ bcap := by
        have h := U7.out.1.ow.rb
        rw [← HML.out] at h ⊢
        exact h.le
      go_wp2_with fail
      have RB7 : Hid (RB w7 (.slice ba m bcap) ((P ++ fms BS).take m) ∧ ((P ++ fms BS).take m).length ≤ 16777216) := ⟨rb_take U7.out.1.ow.rb HML.out, by rw [List.length_take]; omega⟩
      rcases List.eq_nil_or_concat BS with hnil | ⟨I, t, hcon⟩
      · subst hnil
        obtain rfl : m = 67 := by have := HBS.out.2.2.2.2; simp [sz] at this; omega
        obtain rfl : ns = 0 := HBS.out.2.1
        have RD2 : Hid (Rd true ((P ++ fms []).take 67) [] [] true ((P ++ fms []).take 67) 0 ∧ ((P ++ fms []).take 67).length = 67) := by
          refine ⟨?_, by rw [List.length_take, HML.out]; rfl⟩
          rw [fms_nil, List.append_nil, ← HPP.out]; exact rd_none hb
        refine (pushed w7 R2 2 _ _ ((P ++ fms []).take 67) zs (.inl rfl) U7.out.2.1 RB7.out.1 (HC.out.keepR U7.out.1.bel U7.out.2.2) RB7.out.2 hzl HZ.out).mono ?_
        rintro e w8 ⟨mv2, bv2, why, met, bs, h1, r1, p1, s1, held1, hv1, rfl, QO2⟩
        obtain ⟨q1, q2, q3, q4, q5⟩ := RD2.out.1.det QO2.rd
        rw [q1, q2, q3, q4, q5] at QO2
        subst q5
        clear q1 q2 q3 q4
        have Q2 : Hid (QO w7 R2 2 ((P ++ fms []).take 67) mv2 bv2 0 [] [] true ((P ++ fms []).take 67) p1 s1 held1 hv1 w8) := QO2
        obtain ⟨ma2, mc2, hmf1⟩ := QO2.om.form
        obtain ⟨ba2, bn2, bc2, hbf1⟩ := QO2.ob.rbs.form3
        have hmf : mv2 = .slice ma2 0 mc2 := hmf1
        clear QO2 hmf1
        subst hmf hbf1
        have hi1 := info_told (.slice ma2 0 mc2) (.slice ba2 bn2 bc2) (.int .i64 0)
        have hone1 : (#[.slice ma2 0 mc2, .slice ba2 bn2 bc2, Value.int .i64 0]).all (·.oneCell') = true := one3 _ _ _ _ _ _ _
        have E5 : Hid (((w8.alloc (.cells #[.slice none 0 0, .slice none 0 0, .int .i64 0] 36)).setRow w8.heap.size #[.slice ma2 0 mc2, .slice ba2 bn2 bc2, .int .i64 0]).heap[w8.heap.size]? = some (.cells #[.slice ma2 0 mc2, .slice ba2 bn2 bc2, .int .i64 0] 36 (0, 0)) ∧ RQ ((w8.alloc (.cells #[.slice none 0 0, .slice none 0 0, .int .i64 0] 36)).setRow w8.heap.size #[.slice ma2 0 mc2, .slice ba2 bn2 bc2, .int .i64 0]) R2 0 ((P ++ fms []).take 67) ∧ Below w.heap.size w ((w8.alloc (.cells #[.slice none 0 0, .slice none 0 0, .int .i64 0] 36)).setRow w8.heap.size #[.slice ma2 0 mc2, .slice ba2 bn2 bc2, .int .i64 0])) := by
          obtain ⟨g6, b6, _⟩ := box_told w8 (.slice ma2 0 mc2) (.slice ba2 bn2 bc2) 0
          have ta5 := U7.out.1.fr Q2.out.fr ⟨_, _, _, _, U7.out.2.1⟩ U7.out.2.2
          exact ⟨g6, Q2.out.rq.keep b6, HW0.out.2.trans ((ta5.keep b6).bel.mono HW0.out.2.size)⟩
        have FQ : Hid (Calls Try.prog 18 #[.pointer (some ⟨R2, 0, none⟩)] ((w8.alloc (.cells #[.slice none 0 0, .slice none 0 0, .int .i64 0] 36)).setRow w8.heap.size #[.slice ma2 0 mc2, .slice ba2 bn2 bc2, .int .i64 0]) fun e w' => e = .returned (.int .i64 0) ∧ w' = ((w8.alloc (.cells #[.slice none 0 0, .slice none 0 0, .int .i64 0] 36)).setRow w8.heap.size #[.slice ma2 0 mc2, .slice ba2 bn2 bc2, .int .i64 0])) := faultQ E5.out.2.1
        have HQ : Hid (Calls Try.prog 17 #[.pointer (some ⟨R2, 0, none⟩)] ((w8.alloc (.cells #[.slice none 0 0, .slice none 0 0, .int .i64 0] 36)).setRow w8.heap.size #[.slice ma2 0 mc2, .slice ba2 bn2 bc2, .int .i64 0]) fun e w' => e = .returned (.int .i64 67) ∧ w' = ((w8.alloc (.cells #[.slice none 0 0, .slice none 0 0, .int .i64 0] 36)).setRow w8.heap.size #[.slice ma2 0 mc2, .slice ba2 bn2 bc2, .int .i64 0])) := by
          have := heldQ E5.out.2.1
          rw [show wt 0 ((P ++ fms []).take 67) = 67 from RD2.out.2] at this
          exact this
        clear Q2 U7 HC HZ RB7 RDB
        obtain ⟨y0, y1, y2, _⟩ := box_cell E5.out.1
        go_wp2_with (first | (refine wpList_store_row rfl 36 _ _ rfl w8.heap.size _ rfl rfl 36 #[.slice none 0 0, .slice none 0 0, .int .i64 0] (heapNew w8 _) hi1 rfl hone1 ?_))
        refine FQ.out.mono ?_
        rintro e w9 ⟨rfl, rfl⟩
        go_wp2_with fail
        refine HQ.out.mono ?_
        rintro e w9 ⟨rfl, rfl⟩
        go_wp2
        go_ret
        exact ⟨rfl, E5.out.2.2⟩
      · have hcon' : BS = I ++ [t] := by simpa using hcon
        clear hcon
        subst hcon'
        obtain rfl : ns = I.length + 1 := by have := HBS.out.2.1; simpa using this
        have RD2 : Hid (Rd true ((P ++ fms (I ++ [t])).take m) [hb] I false ((frm t).take (3 + t.length)) 0 ∧ ((frm t).take (3 + t.length)).length = t.length + 3 ∧ (frm t).take (3 + t.length) ++ (P ++ fms (I ++ [t])).drop m = frm t ∧ t.length ≤ 32768 ∧ I.length ≤ 140737488351232 ∧ ∀ b ∈ I, b.length ≤ 140737488351232) := by
          have h1 := HML.out
          rw [← HPP.out] at h1 ⊢
          have h2 := HBS.out
          rw [List.length_append] at h2
          exact ⟨rd_cut hb HHB.out I t HSM.out m h1, by rw [List.length_take, frm_len]; omega, cut_last hb I t m h1, HSM.out t (by simp), by omega, fun b hb => by have := HSM.out b (List.mem_append_left _ hb); omega⟩
        have htI : (t.length : Int) ≤ 32768 := by have := RD2.out.2.2.2.1; omega
        have hIl : I.length ≤ 1048576 := by have := HBS.out; rw [List.length_append] at this; simp at this; omega
        clear RDB HBS HSM
        generalize P ++ fms (I ++ [t]) = l at *
        generalize (frm t).take (3 + t.length) = r at *
        refine (pushed w7 R2 2 _ _ (l.take m) zs (.inl rfl) U7.out.2.1 RB7.out.1 (HC.out.keepR U7.out.1.bel U7.out.2.2) RB7.out.2 hzl HZ.out).mono ?_
        rintro e w8 ⟨mv2, bv2, why, met, bs, h1, r1, p1, s1, held1, hv1, rfl, QO2⟩
        obtain ⟨q1, q2, q3, q4, q5⟩ := RD2.out.1.det QO2.rd
        rw [q1, q2, q3, q4, q5] at QO2
        subst q5
        clear q1 q2 q3 q4
        have Q2 : Hid (QO w7 R2 2 (l.take m) mv2 bv2 0 [hb] I false r p1 s1 held1 hv1 w8) := QO2
        obtain ⟨gm2, cm2, hmf, _, _, _⟩ := QO2.om.one
        obtain ⟨ba2, bn2, bc2, hbf1⟩ := QO2.ob.rbs.form3
        clear QO2
        subst hmf hbf1
        have hi1 := info_told (.slice (some ⟨gm2, 0, none⟩) 1 cm2) (.slice ba2 bn2 bc2) (.int .i64 0)
        have hone1 : (#[.slice (some ⟨gm2, 0, none⟩) 1 cm2, .slice ba2 bn2 bc2, Value.int .i64 0]).all (·.oneCell') = true := one3 _ _ _ _ _ _ _
        have E5 : Hid (TE W0 w7 I t l r (.slice ba (m + 1) bcap) (.slice sa (I.length + 1) scap) (.slice (some ⟨gm2, 0, none⟩) 1 cm2) (.slice ba2 bn2 bc2) R2 w8.heap.size p1 s1 hv1 held1 ((w8.alloc (.cells #[.slice none 0 0, .slice none 0 0, .int .i64 0] 36)).setRow w8.heap.size #[.slice (some ⟨gm2, 0, none⟩) 1 cm2, .slice ba2 bn2 bc2, .int .i64 0])) := by
          obtain ⟨g6, b6, _⟩ := box_told w8 (.slice (some ⟨gm2, 0, none⟩) 1 cm2) (.slice ba2 bn2 bc2) 0
          have ta5 := U7.out.1.fr Q2.out.fr ⟨_, _, _, _, U7.out.2.1⟩ U7.out.2.2
          exact ⟨ta5.keep b6, g6, Q2.out.ob.rbs.keep b6, (b6.block R2 Q2.out.rk.lt).trans Q2.out.rk, Q2.out.ow.grow b6, ⟨(Q2.out.st rfl).1, (Q2.out.st rfl).2.2, (Q2.out.st rfl).2.1.symm⟩, Q2.out.nil, fun g e => by have := Q2.out.hb g e; omega⟩
        have FQ : Hid (Calls Try.prog 18 #[.pointer (some ⟨R2, 0, none⟩)] ((w8.alloc (.cells #[.slice none 0 0, .slice none 0 0, .int .i64 0] 36)).setRow w8.heap.size #[.slice (some ⟨gm2, 0, none⟩) 1 cm2, .slice ba2 bn2 bc2, .int .i64 0]) fun e w' => e = .returned (.int .i64 0) ∧ w' = ((w8.alloc (.cells #[.slice none 0 0, .slice none 0 0, .int .i64 0] 36)).setRow w8.heap.size #[.slice (some ⟨gm2, 0, none⟩) 1 cm2, .slice ba2 bn2 bc2, .int .i64 0])) := faultQ E5.out.rq
        clear Q2 HC HZ RB7
        obtain ⟨y0, y1, y2, _⟩ := box_cell E5.out.x2
        obtain ⟨sg, ta, tc, rfl, _, hcl, _⟩ := E5.out.ta.rr.last
        have hscp : I.length + 1 ≤ scap := by
          obtain ⟨_, _, e, h, _⟩ := E5.out.ta.rr.rbs E5.out.ta.bel
          simp only [Value.slice.injEq] at e
          rw [List.length_append, List.length_singleton] at h
          omega
        go_wp2_with (first | (refine wpList_store_row rfl 36 _ _ rfl w8.heap.size _ rfl rfl 36 #[.slice none 0 0, .slice none 0 0, .int .i64 0] (heapNew w8 _) hi1 rfl hone1 ?_))
        refine FQ.out.mono ?_
        rintro e w9 ⟨rfl, rfl⟩
        go_wp2_with fail
        clear FQ hi1 hone1
        generalize ((w8.alloc (.cells #[.slice none 0 0, .slice none 0 0, .int .i64 0] 36)).setRow w8.heap.size #[.slice (some ⟨gm2, 0, none⟩) 1 cm2, .slice ba2 bn2 bc2, .int .i64 0]) = w9 at *
        generalize w8.heap.size = N2 at *
        have SB : Hid (∀ n, Calls Try.prog 12 #[.slice ba2 bn2 bc2, .slice (some ⟨sg, 0, none⟩) I.length scap] (w9.drewN n) fun e w' => e = .returned (.bool true) ∧ ∃ m, w' = (w9.drewN n).drewN m) := fun n => sameBodies _ _ I _ RD2.out.2.2.2.2.1 RD2.out.2.2.2.2.2 (E5.out.b2.keep (belowDrew _ n)) ((rbs_init (E5.out.ta.rr.rbs E5.out.ta.bel)).keep (belowDrew _ n))
        have HQ : Hid (∀ n, Calls Try.prog 17 #[.pointer (some ⟨R2, 0, none⟩)] (w9.drewN n) fun e w' => e = .returned (.int .i64 ((t.length : Int) + 3)) ∧ w' = w9.drewN n) := fun n => by
          have := heldQ (E5.out.rq.keep (belowDrew _ n))
          rw [show wt 0 r = t.length + 3 from RD2.out.2.1] at this
          simpa using this
        go_quiet ((first | (go_at_call 12; exact Calls.quiet_of (SB.out _)) | (go_at_call 17; exact Calls.quiet_of_same (HQ.out _))))
        have E9 : Hid (TE W0 w7 I t l r (.slice ba (m + 1) bcap) (.slice (some ⟨sg, 0, none⟩) (I.length + 1) scap) (.slice (some ⟨gm2, 0, none⟩) 1 cm2) (.slice ba2 bn2 bc2) R2 N2 p1 s1 hv1 held1 (w9.drewN nq)) := E5.out.keep (belowDrew _ nq)
        clear E5 SB HQ y0 y1 y2 hcl
        generalize w9.drewN nq = wA at *
        have i3 : ¬ bcap = m := by omega
        go_wp2_with fail
        refine (lastPush E9.out U7.out.1.ow.rb HML.out RD2.out.2.2.1 RD2.out.2.2.2.1 U7.out.2.2 U7.out.1.bel.size U7.out.1.rr).mono ?_
        rintro e wB ⟨ma3, mc3, bg, bcc, ua, uc, sg', ta', tc', rfl, hsg, hc1, hr1, hc2, hr2, hq, hbel⟩
        simp only [Option.some.injEq, Addr.mk.injEq, and_true] at hsg
        subst hsg
        have SM : Hid (∀ n, Calls Try.prog 13 #[.slice ua t.length uc, .slice ta' t.length tc'] (wB.drewN n) fun e w' => e = .returned (.bool true) ∧ ∃ m, w' = (wB.drewN n).drewN m) := fun n => same _ _ t _ (by have := RD2.out.2.2.2.1; omega) (hr1.keep (belowDrew _ n)) (hr2.keep (belowDrew _ n))
        have HQ : Hid (∀ n, Calls Try.prog 17 #[.pointer (some ⟨R2, 0, none⟩)] (wB.drewN n) fun e w' => e = .returned (.int .i64 0) ∧ w' = wB.drewN n) := fun n => heldQ (hq.keep (belowDrew _ n))
        have HB : Hid (∀ n, Below w.heap.size w (wB.drewN n)) := fun n => belowN (HW0.out.2.trans (hbel.mono HW0.out.2.size)) n
        clear hr1 hr2 hq hbel E9 RD2 U7 HML
        go_wp2_with fail
        go_quiet ((first | (go_at_call 13; exact Calls.quiet_of (SM.out _)) | (go_at_call 17; exact Calls.quiet_of_same (HQ.out _))))
        go_wp2
        go_ret
        exact ⟨rfl, HB.out _⟩
end Go.Proofs.Ytbpggbibdoifmaa
