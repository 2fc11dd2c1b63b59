import Derived.Test.YtnpcbcfjnhjmmaaGreatDoorV33
namespace Go.Proofs.YtnpcbcfjnhjmmaaGreatDoor
open Go.Shelf Go.RowKit Go.Deep
attribute [local go_sem] Oper.semAt_some
set_option maxRecDepth 100000 in
set_option maxHeartbeats 8000000 in
theorem iter58 (n : Nat) (hn : 1 ≤ n) (w0 : World) (k : Lk) (hk : k.ok) (hrn : k.rs.length ≤ 4096) (hok : ∀ x ∈ k.rs, RnOk x ∧ x.1 + x.2 ≤ 4096) (tr pe on mo : Value) (hr : RL4 (fun _ => True) w0 k tr pe on mo) (hT : IT w0)
    (lp g : Nat) (J Jx : List KV → World → Prop) (W : World) (hJa : AbidesFrom W.heap.size J) (hw : KW w0 g k tr pe on mo W)
    (hY : ∀ pre x W, J pre W → pre.length < 3 + k.ts.length + k.ps.length + k.dn + 1 → YieldAt Fence.wide (n - 1) Tryz.prog lp (kvV x) W fun e W' =>
      (e = .returned (.bool true) ∧ J (pre ++ [x]) W' ∧ KG w0 g W W') ∨ (e = .returned (.bool false) ∧ Jx (pre ++ [x]) W'))
    (h0 : J [] W) :
    CallsIn Fence.wide n Tryz.prog 74 #[.func (.yield lp) #[] #[], .pointer (some ⟨g, 0, none⟩)] W fun e W' => (∃ v, e = .returned v) ∧
      ((∃ ys, ys = prm k ∧ J ys W') ∨ (∃ pre, pre <+: prm k ∧ Jx pre W')) := by
  refine callsIn_of_wp Tryz.func74 rfl trivial ?_ rfl
  simp only [Tryz.ntmps74, List.size_toArray, List.length_cons, List.length_nil, Nat.reduceAdd, Nat.reduceSub, Array.replicate_succ, Array.replicate_zero, List.push_toArray, List.append_toArray, List.nil_append, List.cons_append]
  have hl := hk.l
  have HJB : Hid (∀ (pre : List KV) (A B : World), J pre A → Below A.heap.size A B → J pre B) := fun pre A B hj hb => hJa pre A B none hj (grown_of_below hb) (fun r e => by cases e)
  have HY := Lib.hid hY
  have HTR : Hid (IT w0 ∧ RL4 (fun _ => True) w0 k tr pe on mo ∧ ∀ x ∈ k.rs, RnOk x ∧ x.1 + x.2 ≤ 4096) := ⟨hT, hr, hok⟩
  obtain ⟨ta, tc, rfl⟩ : ∃ a c, tr = .slice a k.ts.length c := by obtain ⟨p, q, e, _⟩ := hr.1; exact ⟨p, q, e⟩
  obtain ⟨pa, pc, rfl⟩ : ∃ a c, pe = .slice a k.ps.length c := by obtain ⟨p, q, e, _⟩ := hr.2.1; exact ⟨p, q, e⟩
  obtain ⟨oa, oc, rfl⟩ : ∃ a c, on = .slice a k.rs.length c := by obtain ⟨p, q, e, _⟩ := hr.2.2.1; exact ⟨p, q, e⟩
  obtain ⟨ma, mc, rfl⟩ : ∃ a c, mo = .slice a k.dn c := by obtain ⟨p, q, e, _⟩ := hr.2.2.2; exact ⟨p, q, e⟩
  have h0' := HJB.out
  have HX := Lib.hid (hex_link hw.2 hl)
  have HI0 : Hid (J [] W ∧ KW w0 g k (.slice ta k.ts.length tc) (.slice pa k.ps.length pc) (.slice oa k.rs.length oc) (.slice ma k.dn mc) W) := ⟨h0, hw⟩
  have HXS : Hid ((Hx2.strI (hxL k.l)).size = 64) := hx_size k.l hl
  have hxs := HXS.out
  have hrs' : k.rs.length ≤ 4096 := hrn
  have htl := hk.ts.1
  have hpl := hk.ps.1
  have hdl := hk.dn.1
  have hnml := hk.nm
  have HV : Hid (infoV k = bs inB ++ Hx2.strI (hxL k.l)) := rfl
  clear hY hT hr hok hw h0 h0' hJa hk
  generalize Hx2.strI (hxL k.l) = hx at *
  generalize htn : k.ts.length = tn at *
  have HTN : Hid (k.ts.length = tn) := htn
  clear htn
  generalize hpn : k.ps.length = pn at *
  have HPN : Hid (k.ps.length = pn) := hpn
  clear hpn
  generalize hrl : k.rs.length = rn at *
  have HRL : Hid (k.rs.length = rn) := hrl
  clear hrl
  have HP1 : Hid (p1 k = [] ++ [(({ data := #[120, 116] } : ByteArray), ({ data := #[117, 114, 110, 58, 98, 116, 109, 104, 58, 49, 50, 50, 48] } : ByteArray) ++ hx)]) := (by unfold p1; rw [HV.out]; rfl : p1 k = [] ++ [(({ data := #[120, 116] } : ByteArray), ({ data := #[117, 114, 110, 58, 98, 116, 109, 104, 58, 49, 50, 50, 48] } : ByteArray) ++ hx)])
  gi_wp2
  refine ⟨trivial, ?_⟩
  refine (callsIn_wide.2 HX.out).mono ?_
  rintro e w2 ⟨rfl, b2⟩
  obtain ⟨fn, tmps, assign, body, hy, hR⟩ := HY.out [] (({ data := #[120, 116] } : ByteArray), ({ data := #[117, 114, 110, 58, 98, 116, 109, 104, 58, 49, 50, 50, 48] } : ByteArray) ++ hx) w2 (HJB.out _ _ _ HI0.out.1 b2) (by simp)
  simp only [kvV] at hy
  have HK2 := Lib.hid (HI0.out.2.below b2)
  clear HX HI0 b2
  gi_wp2
  refine hR.mono ?_
  clear hR hy
  rintro e W3 (⟨rfl, hJ3, hk3⟩ | ⟨rfl, hJx3⟩)
  rotate_left
  focus (
    gi_wp2
    refine bodyPost_ret (results_none rfl _ _ _) rfl ?_
    exact ⟨⟨_, rfl⟩, .inr ⟨_, pre1 k, by rw [HP1.out]; exact hJx3⟩⟩)
  have HI1 : Hid (J (p1 k) W3 ∧ KW w0 g k (.slice ta tn tc) (.slice pa pn pc) (.slice oa rn oc) (.slice ma k.dn mc) W3) := ⟨by rw [HP1.out]; exact hJ3, HK2.out.kg hk3⟩
  clear hJ3 hk3 HK2 HP1 HV hxs HXS
  obtain ⟨a32, a33, a34, a35, a36⟩ := HI1.out.2.2.cells hl
  have HQ2 : Hid ((k.nm.toList == []) = true ∧ p2 k = [] ∨ (k.nm.toList == []) = false ∧ p2 k = [(({ data := #[100, 110] } : ByteArray), k.nm)]) := by
    have h9 : (k.nm.toList == []) = true ∧ p2 k = [] ∨ (k.nm.toList == []) = false ∧ p2 k = [(({ data := #[100, 110] } : ByteArray), k.nm)] := by
      unfold p2
      cases (k.nm.toList == []) with
      | true => exact .inl ⟨rfl, rfl⟩
      | false => exact .inr ⟨rfl, rfl⟩
    exact h9
  have HQ3 : Hid (rn = 0 ∧ p3 k = [] ∨ 0 < rn ∧ p3 k = [(bs [115, 111], bs (rsT k.rs))]) := by
    have h9 : rn = 0 ∧ p3 k = [] ∨ 0 < rn ∧ p3 k = [(bs [115, 111], bs (rsT k.rs))] := by
      unfold p3
      rw [HRL.out]
      by_cases h : rn = 0
      · exact .inl ⟨h, if_pos h⟩
      · exact .inr ⟨Nat.pos_of_ne_zero h, if_neg h⟩
    exact h9
  rcases HQ2.out.symm with ⟨hq, hp2⟩ | ⟨hq, hp2⟩
  focus (
    obtain ⟨fn, tmps, assign, body, hy, hR⟩ := HY.out (p1 k) (({ data := #[100, 110] } : ByteArray), k.nm) W3 HI1.out.1 (by have h9 := pre_lt (x := (bs [100, 110], k.nm)) (by rw [show [(bs [100, 110], k.nm)] = p2 k from hp2.symm]; exact pre2 k); rw [HTN.out, HPN.out] at h9; exact h9)
    simp only [kvV] at hy
    have HP2 := Lib.hid hp2
    clear hp2 HQ2
    gi_wp2
    refine hR.mono ?_
    clear hR hy
    rintro e W4 (⟨rfl, hJ3, hk3⟩ | ⟨rfl, hJx3⟩)
    rotate_left
    focus (
      gi_wp2
      refine bodyPost_ret (results_none rfl _ _ _) rfl ?_
      exact ⟨⟨_, rfl⟩, .inr ⟨_, pre2 k, by rw [HP2.out]; exact hJx3⟩⟩)
    have HI2 : Hid (J (p1 k ++ p2 k) W4 ∧ KW w0 g k (.slice ta tn tc) (.slice pa pn pc) (.slice oa rn oc) (.slice ma k.dn mc) W4) := ⟨by rw [HP2.out]; exact hJ3, HI1.out.2.kg hk3⟩
    clear hJ3 hk3 HP2 HI1 a32 a33 a34 a35 a36 hq
    obtain ⟨a32, a33, a34, a35, a36⟩ := HI2.out.2.2.cells hl)
  rotate_left
  focus (
    have HI2 : Hid (J (p1 k ++ p2 k) W3 ∧ KW w0 g k (.slice ta tn tc) (.slice pa pn pc) (.slice oa rn oc) (.slice ma k.dn mc) W3) := ⟨by rw [hp2, List.append_nil]; exact HI1.out.1, HI1.out.2⟩
    clear hp2 HQ2 HI1
    generalize W3 = W4 at *
    gi_wp2
    refine ⟨(fun f e => by cases e), ?_⟩)
  all_goals (
    rcases HQ3.out.symm with ⟨hq3, hp3⟩ | ⟨hq3, hp3⟩
    focus (
      have HP3 := Lib.hid hp3
      have HR := Lib.hid (runsText (.slice oa rn oc) k.rs W4 (HTR.out.2.1.2.2.1.move (fun _ h _ => h) HI2.out.2.1.size (fun b _ hl => HI2.out.2.1.block b hl)) (by rw [HRL.out]; exact hrs') HTR.out.2.2 (HTR.out.1.below HI2.out.2.1))
      clear hp3 HQ3
      gi_wp2
      refine ⟨trivial, ?_⟩
      refine (callsIn_wide.2 HR.out).mono ?_
      rintro e w5 ⟨rfl, b5⟩
      have HK5 := Lib.hid (HI2.out.2.below b5)
      have hlt3 : (p1 k ++ p2 k).length < 3 + tn + pn + k.dn + 1 := by
        have h9 := pre_lt (x := (bs [115, 111], bs (rsT k.rs))) (by rw [← HP3.out]; exact pre3 k)
        rw [HTN.out, HPN.out] at h9
        exact h9
      obtain ⟨fn, tmps, assign, body, hy, hR⟩ := HY.out (p1 k ++ p2 k) (({ data := #[115, 111] } : ByteArray), ({ data := (rsT k.rs).toArray } : ByteArray)) w5 (HJB.out _ _ _ HI2.out.1 b5) hlt3
      simp only [kvV] at hy
      have HP3' : Hid (p3 k = [(({ data := #[115, 111] } : ByteArray), ({ data := (rsT k.rs).toArray } : ByteArray))]) := HP3.out
      clear HR b5 a32 a33 a34 a35 a36 hlt3
      generalize (({ data := (rsT k.rs).toArray } : ByteArray)) = tx at *
      gi_wp2
      refine hR.mono ?_
      clear hR hy
      rintro e W5 (⟨rfl, hJ3, hk3⟩ | ⟨rfl, hJx3⟩)
      rotate_left
      focus (
        gi_wp2
        refine bodyPost_ret (results_none rfl _ _ _) rfl ?_
        exact ⟨⟨_, rfl⟩, .inr ⟨_, pre3 k, by rw [HP3'.out]; exact hJx3⟩⟩)
      have HI3 : Hid (J (p1 k ++ p2 k ++ p3 k) W5 ∧ KW w0 g k (.slice ta tn tc) (.slice pa pn pc) (.slice oa rn oc) (.slice ma k.dn mc) W5) := ⟨by rw [HP3'.out]; exact hJ3, HK5.out.kg hk3⟩
      clear hJ3 hk3 HP3 HP3' HK5 HI2)
    rotate_left
    focus (
      have HI3 : Hid (J (p1 k ++ p2 k ++ p3 k) W4 ∧ KW w0 g k (.slice ta tn tc) (.slice pa pn pc) (.slice oa rn oc) (.slice ma k.dn mc) W4) := ⟨by rw [hp3, List.append_nil]; exact HI2.out.1, HI2.out.2⟩
      clear hp3 HQ3 HI2
      have hr0 : rn = 0 := hq3
      generalize W4 = W5 at *
      gi_wp2
      refine ⟨trivial, ?_⟩
      gi_wp2
      refine ⟨(fun f e => by cases e), ?_⟩))
  all_goals (
    obtain ⟨b32, b33, b34, b35, b36⟩ := HI3.out.2.2.cells hl
    gi_wp2
    clear b32 b33 b34 b35 b36
    gi_loopw [41] (fun i wr => ∃ q : Nat, q ≤ tn ∧ i = .int .i64 q ∧ Hid (J (p1 k ++ p2 k ++ p3 k ++ p4 (k.ts.take q)) wr ∧ KW w0 g k (.slice ta tn tc) (.slice pa pn pc) (.slice oa rn oc) (.slice ma k.dn mc) wr)) (fun i _ => tn - (intOf i).toNat)
    case atStart => exact ⟨0, Nat.zero_le _, rfl, (⟨by simpa [p4] using HI3.out.1, HI3.out.2⟩ : J (p1 k ++ p2 k ++ p3 k ++ p4 (k.ts.take 0)) _ ∧ KW w0 g k (.slice ta tn tc) (.slice pa pn pc) (.slice oa rn oc) (.slice ma k.dn mc) _)⟩
    case round =>
      clear HI3
      obtain ⟨q, hq, rfl, HI⟩ := hrel
      by_cases hlt : q < tn
      · obtain ⟨x, hx⟩ : ∃ x, k.ts[q]? = some x := ⟨_, List.getElem?_eq_getElem (by rw [HTN.out]; exact hlt)⟩
        obtain ⟨a9, c9, e9, hc⟩ := HTR.out.2.1.1
        rw [HTN.out] at e9 hc
        simp only [Value.slice.injEq, true_and] at e9
        obtain ⟨rfl, rfl⟩ := e9
        obtain ⟨gb, o, rfl, _, _, hc⟩ := hc.resolve_left (fun e => by omega)
        have c0 := Below.cellS HI.out.2.1 (Nat.le_refl _) (hc q x hx)
        have hsn : p1 k ++ p2 k ++ p3 k ++ p4 (k.ts.take (q + 1)) = p1 k ++ p2 k ++ p3 k ++ p4 (k.ts.take q) ++ [(({ data := #[116, 114] } : ByteArray), x)] := by
          rw [p4_snoc _ q x hx, ← List.append_assoc]
          rfl
        have HSN := Lib.hid hsn
        have hpl : (p1 k ++ p2 k ++ p3 k ++ p4 (k.ts.take q)).length < 3 + tn + pn + k.dn + 1 := by
          have h9 := pre_lt (k := k) (x := (({ data := #[116, 114] } : ByteArray), x)) (by rw [← hsn]; exact pre4 k (q + 1))
          rw [HTN.out, HPN.out] at h9
          exact h9
        obtain ⟨fn, tmps, assign, body, hy, hR⟩ := HY.out _ (({ data := #[116, 114] } : ByteArray), x) wr HI.out.1 hpl
        simp only [kvV] at hy
        clear hx hc hsn hpl
        gi_wp2
        refine hR.mono ?_
        clear hR hy
        rintro e W6 (⟨rfl, hJ3, hk3⟩ | ⟨rfl, hJx3⟩)
        · have HN := Lib.hid (And.intro (show J (p1 k ++ p2 k ++ p3 k ++ p4 (k.ts.take (q + 1))) W6 by rw [HSN.out]; exact hJ3) (HI.out.2.kg hk3))
          clear hJ3 hk3 HI HSN c0
          gi_wp2
          go_roundw
          case rel => exact ⟨q + 1, by omega, by go_num, HN⟩
          case measure => simp [intOf]; omega
        · have HN : Hid (Jx (p1 k ++ p2 k ++ p3 k ++ p4 (k.ts.take (q + 1))) W6) := (by rw [HSN.out]; exact hJx3 : Jx (p1 k ++ p2 k ++ p3 k ++ p4 (k.ts.take (q + 1))) W6)
          gi_wp2
          refine bodyPost_ret (results_none rfl _ _ _) rfl ?_
          exact ⟨⟨_, rfl⟩, .inr ⟨_, pre4 k (q + 1), HN.out⟩⟩
      · obtain rfl : tn = q := by omega
        have HI4 : Hid (J (p1 k ++ p2 k ++ p3 k ++ p4 k.ts) wr ∧ KW w0 g k (.slice ta tn tc) (.slice pa pn pc) (.slice oa rn oc) (.slice ma k.dn mc) wr) := ⟨by
          have h9 := HI.out.1
          rw [List.take_of_length_le (by rw [HTN.out]; exact Nat.le_refl _)] at h9
          exact h9, HI.out.2⟩
        clear HI
        obtain ⟨c32, c33, c34, c35, c36⟩ := HI4.out.2.2.cells hl
        gi_wp2
        clear c32 c33 c34 c35 c36
        gi_loopw [53] (fun i wr => ∃ q : Nat, q ≤ pn ∧ i = .int .i64 q ∧ Hid (J (p1 k ++ p2 k ++ p3 k ++ p4 k.ts ++ p5 (k.ps.take q)) wr ∧ KW w0 g k (.slice ta tn tc) (.slice pa pn pc) (.slice oa rn oc) (.slice ma k.dn mc) wr)) (fun i _ => pn - (intOf i).toNat)
        case atStart => exact ⟨0, Nat.zero_le _, rfl, (⟨by simpa [p5] using HI4.out.1, HI4.out.2⟩ : J (p1 k ++ p2 k ++ p3 k ++ p4 k.ts ++ p5 (k.ps.take 0)) _ ∧ KW w0 g k (.slice ta tn tc) (.slice pa pn pc) (.slice oa rn oc) (.slice ma k.dn mc) _)⟩
        case round =>
          clear HI4
          obtain ⟨q, hq, rfl, HI⟩ := hrel
          by_cases hlt : q < pn
          · obtain ⟨x, hx⟩ : ∃ x, k.ps[q]? = some x := ⟨_, List.getElem?_eq_getElem (by rw [HPN.out]; exact hlt)⟩
            obtain ⟨a9, c9, e9, hc⟩ := HTR.out.2.1.2.1
            rw [HPN.out] at e9 hc
            simp only [Value.slice.injEq, true_and] at e9
            obtain ⟨rfl, rfl⟩ := e9
            obtain ⟨gb, o, rfl, _, _, hc⟩ := hc.resolve_left (fun e => by omega)
            have c0 := Below.cellS HI.out.2.1 (Nat.le_refl _) (hc q x hx)
            have hsn : p1 k ++ p2 k ++ p3 k ++ p4 k.ts ++ p5 (k.ps.take (q + 1)) = p1 k ++ p2 k ++ p3 k ++ p4 k.ts ++ p5 (k.ps.take q) ++ [(({ data := #[120, 46, 112, 101] } : ByteArray), x)] := by
              rw [p5_snoc _ q x hx, ← List.append_assoc]
              rfl
            have HSN := Lib.hid hsn
            have hpl : (p1 k ++ p2 k ++ p3 k ++ p4 k.ts ++ p5 (k.ps.take q)).length < 3 + tn + pn + k.dn + 1 := by
              have h9 := pre_lt (k := k) (x := (({ data := #[120, 46, 112, 101] } : ByteArray), x)) (by rw [← hsn]; exact pre5 k (q + 1))
              rw [HTN.out, HPN.out] at h9
              exact h9
            obtain ⟨fn, tmps, assign, body, hy, hR⟩ := HY.out _ (({ data := #[120, 46, 112, 101] } : ByteArray), x) wr HI.out.1 hpl
            simp only [kvV] at hy
            clear hx hc hsn hpl
            gi_wp2
            refine hR.mono ?_
            clear hR hy
            rintro e W6 (⟨rfl, hJ3, hk3⟩ | ⟨rfl, hJx3⟩)
            · have HN := Lib.hid (And.intro (show J (p1 k ++ p2 k ++ p3 k ++ p4 k.ts ++ p5 (k.ps.take (q + 1))) W6 by rw [HSN.out]; exact hJ3) (HI.out.2.kg hk3))
              clear hJ3 hk3 HI HSN c0
              gi_wp2
              go_roundw
              case rel => exact ⟨q + 1, by omega, by go_num, HN⟩
              case measure => simp [intOf]; omega
            · have HN : Hid (Jx (p1 k ++ p2 k ++ p3 k ++ p4 k.ts ++ p5 (k.ps.take (q + 1))) W6) := (by rw [HSN.out]; exact hJx3 : Jx (p1 k ++ p2 k ++ p3 k ++ p4 k.ts ++ p5 (k.ps.take (q + 1))) W6)
              gi_wp2
              refine bodyPost_ret (results_none rfl _ _ _) rfl ?_
              exact ⟨⟨_, rfl⟩, .inr ⟨_, pre5 k (q + 1), HN.out⟩⟩
          · obtain rfl : pn = q := by omega
            have HI5 : Hid (J (p1 k ++ p2 k ++ p3 k ++ p4 k.ts ++ p5 k.ps) wr ∧ KW w0 g k (.slice ta tn tc) (.slice pa pn pc) (.slice oa rn oc) (.slice ma k.dn mc) wr) := ⟨by
              have h9 := HI.out.1
              rw [List.take_of_length_le (by rw [HPN.out]; exact Nat.le_refl _)] at h9
              exact h9, HI.out.2⟩
            clear HI
            obtain ⟨c32, c33, c34, c35, c36⟩ := HI5.out.2.2.cells hl
            gi_wp2
            clear c32 c33 c34 c35 c36
            gi_loopw [65] (fun i wr => ∃ q : Nat, q ≤ k.dn ∧ i = .int .i64 q ∧ Hid (J (p1 k ++ p2 k ++ p3 k ++ p4 k.ts ++ p5 k.ps ++ pP6 k q) wr ∧ KW w0 g k (.slice ta tn tc) (.slice pa pn pc) (.slice oa rn oc) (.slice ma k.dn mc) wr)) (fun i _ => k.dn - (intOf i).toNat)
            case atStart => exact ⟨0, Nat.zero_le _, rfl, (⟨by simpa [pP6] using HI5.out.1, HI5.out.2⟩ : J (p1 k ++ p2 k ++ p3 k ++ p4 k.ts ++ p5 k.ps ++ pP6 k 0) _ ∧ KW w0 g k (.slice ta tn tc) (.slice pa pn pc) (.slice oa rn oc) (.slice ma k.dn mc) _)⟩
            case round =>
              clear HI5
              obtain ⟨q, hq, rfl, HI⟩ := hrel
              by_cases hlt : q < k.dn
              · obtain ⟨a9, c9, e9, hc⟩ := HTR.out.2.1.2.2.2
                simp only [Value.slice.injEq, true_and] at e9
                obtain ⟨rfl, rfl⟩ := e9
                obtain ⟨gb, o, rfl, _, _, hc⟩ := hc.resolve_left (fun e => by omega)
                obtain ⟨x1, y1, hrv, e0, e1, e2, e3, e4, e5⟩ := hc q hlt
                obtain ⟨a1, q1, a2, q2, rfl, rfl⟩ := hrv.sl
                have g0 := Below.cellS HI.out.2.1 (Nat.le_refl _) e0
                have g1 := Below.cellS HI.out.2.1 (Nat.le_refl _) e1
                have g2 := Below.cellS HI.out.2.1 (Nat.le_refl _) e2
                have g3 := Below.cellS HI.out.2.1 (Nat.le_refl _) e3
                have g4 := Below.cellS HI.out.2.1 (Nat.le_refl _) e4
                have g5 := Below.cellS HI.out.2.1 (Nat.le_refl _) e5
                have hbq : Below wr.heap.size wr (wr.alloc (Obj.cells #[.string (k.ky q), .int .i64 (k.dv q).k, .int .i64 (k.dv q).n, .string (k.dv q).s, .slice a1 (k.dv q).ln q1, .slice a2 (k.dv q).dn q2] 41)) := (Below.refl _ _).alloc (Nat.le_refl _) _
                have HKQ := Lib.hid (HI.out.2.below hbq)
                have hpl : (p1 k ++ p2 k ++ p3 k ++ p4 k.ts ++ p5 k.ps ++ pP6 k q).length < 3 + tn + pn + k.dn + 1 := by
                  have h9 := pre_lt (k := k) (x := (k.ky q, (k.dv q).s)) (by rw [List.append_assoc, ← p6_snoc]; exact pre6 k (q + 1) hlt)
                  rw [HTN.out, HPN.out] at h9
                  exact h9
                have HSN : Hid (p1 k ++ p2 k ++ p3 k ++ p4 k.ts ++ p5 k.ps ++ pP6 k (q + 1) = p1 k ++ p2 k ++ p3 k ++ p4 k.ts ++ p5 k.ps ++ pP6 k q ++ [(k.ky q, (k.dv q).s)]) := by
                  have h9 : p1 k ++ p2 k ++ p3 k ++ p4 k.ts ++ p5 k.ps ++ pP6 k (q + 1) = p1 k ++ p2 k ++ p3 k ++ p4 k.ts ++ p5 k.ps ++ pP6 k q ++ [(k.ky q, (k.dv q).s)] := by rw [p6_snoc, List.append_assoc (p1 k ++ p2 k ++ p3 k ++ p4 k.ts ++ p5 k.ps)]
                  exact h9
                obtain ⟨fn, tmps, assign, body, hy, hR⟩ := HY.out _ (k.ky q, (k.dv q).s) (wr.alloc (Obj.cells #[.string (k.ky q), .int .i64 (k.dv q).k, .int .i64 (k.dv q).n, .string (k.dv q).s, .slice a1 (k.dv q).ln q1, .slice a2 (k.dv q).dn q2] 41)) (HJB.out _ _ _ HI.out.1 hbq) hpl
                simp only [kvV] at hy
                clear hc hrv e0 e1 e2 e3 e4 e5 hbq hpl
                gi_wp2
                refine hR.mono ?_
                clear hR hy
                rintro e W6 (⟨rfl, hJ3, hk3⟩ | ⟨rfl, hJx3⟩)
                · have HN := Lib.hid (And.intro (show J (p1 k ++ p2 k ++ p3 k ++ p4 k.ts ++ p5 k.ps ++ pP6 k (q + 1)) W6 by rw [HSN.out]; exact hJ3) (HKQ.out.kg hk3))
                  clear hJ3 hk3 HI HSN HKQ g0 g1 g2 g3 g4 g5
                  gi_wp2
                  go_roundw
                  case rel => exact ⟨q + 1, by omega, by go_num, HN⟩
                  case measure => simp [intOf]; omega
                · have HN : Hid (Jx (p1 k ++ p2 k ++ p3 k ++ p4 k.ts ++ p5 k.ps ++ pP6 k (q + 1)) W6) := (by rw [HSN.out]; exact hJx3 : Jx (p1 k ++ p2 k ++ p3 k ++ p4 k.ts ++ p5 k.ps ++ pP6 k (q + 1)) W6)
                  gi_wp2
                  refine bodyPost_ret (results_none rfl _ _ _) rfl ?_
                  exact ⟨⟨_, rfl⟩, .inr ⟨_, pre6 k (q + 1) hlt, HN.out⟩⟩
              · obtain rfl : q = k.dn := by omega
                have HJ : Hid (J (prm k) wr) := by
                  have h9 := HI.out.1
                  have e : p1 k ++ p2 k ++ p3 k ++ p4 k.ts ++ p5 k.ps ++ pP6 k k.dn = prm k := by rw [prm_eq]; simp only [List.append_assoc]
                  rw [e] at h9
                  exact h9
                clear HI
                gi_wp2
                refine bodyPost_end (results_none rfl _ _ _) rfl ?_
                exact ⟨⟨_, rfl⟩, .inl ⟨_, rfl, HJ.out⟩⟩)
end Go.Proofs.YtnpcbcfjnhjmmaaGreatDoor
