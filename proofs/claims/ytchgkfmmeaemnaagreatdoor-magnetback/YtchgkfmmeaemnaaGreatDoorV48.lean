import Derived.Test.YtchgkfmmeaemnaaGreatDoorV47
import Derived.Test.YtchgkfmmeaemnaaGreatDoorV45
import Derived.Laws.CopyOwn
namespace Go.Proofs.YtchgkfmmeaemnaaGreatDoor
open Go.Shelf Go.RowKit Go.Deep
theorem load_link_ifB {ops : Array Oper} {rest : List Oper} {o : Oper} {a : Act} {w : World} {Q : Exit → Act → World → Prop} (hw : Region.wanted o (yielded ops a.tmps) = true) (x : Operand) (ho : o.op = .load 29 x)
    (g : Nat) (hx : a.eval x = .pointer (some ⟨g, 0, none⟩)) {l : List UInt8} {nm : ByteArray} {tr pe on mo : Value} (hg : LB w g l nm tr pe on mo) (hl : l.length = 32)
    (h : wpList Tryz.prog ops Q rest (a.put o.dst (.agg (lkC l nm tr pe on mo))) w) : wpList Tryz.prog ops Q (o :: rest) a w := by
  unfold wpList
  rw [if_pos hw]
  exact .inl (wp_load_row 29 x ho g hx 29 _ (0, 0) _ hg Tryz.underlying29 rfl (infoLk hl) h)
def headB (l : List UInt8) : ByteArray := (⟨#[109, 97, 103, 110, 101, 116, 58, 63, 120, 116, 61, 117, 114, 110, 58, 98, 116, 109, 104, 58, 49, 50, 50, 48]⟩ : ByteArray) ++ Hx2.strI (hxL l)
/-- what is written begins with the infohash's digits -/
theorem head_of {k : Lk} (hl : k.l.length = 32) (h : ckN k = 0) : (Hx2.strI (hxL k.l)).size = 64 ∧ (headB k.l).size = 88 ∧ 88 ≤ (bs (wS (prm k))).size ∧ (bs (wS (prm k))).size ≤ 4096 ∧ (bs (wS (prm k))).extract 0 88 = headB k.l := by
  obtain ⟨_, _, _, hw⟩ := ck_zero h
  have h64 : (hxT k).length = 64 := by unfold hxT hxL; rw [List.length_map, Hx2.hexI_len, List.length_map, hl]
  have e1 : wS (prm k) = (bgn ++ hxT k) ++ txtT (p2 k ++ (p3 k ++ (p4 k.ts ++ (p5 k.ps ++ pP6 k k.dn)))) := by rw [prm_eq, wS_app _ _ (by simp [p1]), wS_p1]
  have e2 : headB k.l = bs (bgn ++ hxT k) := by
    unfold headB
    rw [strI_bs]
    exact app_str bgn (hxT k)
  have h24 : bgn.length = 24 := rfl
  have h88 : (bgn ++ hxT k).length = 88 := by rw [List.length_append, h64, h24]
  refine ⟨by rw [strI_bs, bs_size, h64], by rw [e2, bs_size, h88], ?_, by rw [bs_size]; exact hw, ?_⟩
  · rw [bs_size, e1, List.length_append, h88]; omega
  · rw [e2]
    apply ByteArray.ext
    apply Array.toList_inj.1
    rw [extL, bs_tl, bs_tl, List.drop_zero, e1, List.take_left' h88]
set_option maxHeartbeats 4000000 in
set_option maxRecDepth 100000 in
theorem backLaw (k : Lk) (tr pe on mo : Value) (w : World) (hk : k.ok) (hi : ∀ x ∈ k.rs, I64 x.1 ∧ I64 x.2) (hTG : TG w) (hBT : BT w) (hr : RL4 (fun _ => True) w k tr pe on mo) :
    Calls Tryz.prog 4 #[.agg (lkC k.l k.nm tr pe on mo)] w fun e w' => e = .returned (.bool true) ∧ Below w.heap.size w w' := by
  have hl := hk.l
  have B0 : Hid (Below w.heap.size w (w.alloc (Obj.cells (lkC k.l k.nm tr pe on mo) 29))) := (Below.refl _ _).alloc (Nat.le_refl _) _
  have L0 : Hid (LB (w.alloc (Obj.cells (lkC k.l k.nm tr pe on mo) 29)) w.heap.size k.l k.nm tr pe on mo) := heap_new _ _
  have HA : Hid (k.ok ∧ (∀ x ∈ k.rs, I64 x.1 ∧ I64 x.2) ∧ (∀ w', Below w.heap.size w w' → TG w' ∧ BT w') ∧ ∀ w', Below w.heap.size w w' → RL4 (fun _ => True) w' k tr pe on mo) := ⟨hk, hi, fun w' hb => ⟨hTG.below hb, hBT.keep hb⟩, fun w' hb => hr.move (fun _ h _ => h) hb.size (fun b _ hl => hb.block b hl)⟩
  clear hk hi hr hTG hBT
  go_enter Tryz.func4, Tryz.ntmps4
  go_upto_region 1 with fail
  generalize (w.alloc (Obj.cells (lkC k.l k.nm tr pe on mo) 29)) = w0 at *
  generalize hvb : w.heap.size = H at *
  have HS : Hid (w.heap.size = H) := hvb
  clear hvb
  go_wp2_with (first | (refine load_link_ifB rfl _ rfl H rfl L0.out hl ?_))
  refine (farLink k tr pe on mo w0 HA.out.1 (HA.out.2.2.2 w0 B0.out)).mono ?_
  rintro e w1 ⟨r, rfl, b1, hsm⟩
  have B1 : Hid (Below H w w1) := B0.out.trans (b1.mono (by have := L0.out.lt; omega))
  have L1 : Hid (LB w1 H k.l k.nm tr pe on mo) := L0.out.keep (b1.block H L0.out.lt)
  clear b1 B0 L0
  cases r with
  | true =>
    clear hsm
    go_wp2
    go_ret
    exact ⟨rfl, HS.out ▸ B1.out⟩
  | false =>
    have HSM : Hid (k.small ∧ k.few) := hsm rfl
    clear hsm
    have T1 := HA.out.2.2.1 w1 B1.out
    have HW := Lib.hid (awake7 w1 T1.1 T1.2)
    clear T1
    go_wp2_with fail
    refine HW.out.mono ?_
    rintro e w2 ⟨rfl, b2⟩
    have B2 : Hid (Below H w w2) := B1.out.trans (b2.mono (by have := L1.out.lt; omega))
    have L2 : Hid (LB w2 H k.l k.nm tr pe on mo) := L1.out.keep (b2.block H L1.out.lt)
    clear b2 B1 L1 HW
    have T2 := HA.out.2.2.1 w2 B2.out
    have HC := Lib.hid (check7 k tr pe on mo w2 HA.out.1 HSM.out.1 HA.out.2.1 (T2.1.1 w2 (Below.refl _ _)) T2.2 (HA.out.2.2.2 w2 B2.out))
    clear T2
    go_wp2_with (first | (refine load_link_ifB rfl _ rfl H rfl L2.out hl ?_))
    refine HC.out.mono ?_
    rintro e w3 ⟨rfl, b3⟩
    have B3 : Hid (Below H w w3) := B2.out.trans (b3.mono (by have := L2.out.lt; omega))
    have L3 : Hid (LB w3 H k.l k.nm tr pe on mo) := L2.out.keep (b3.block H L2.out.lt)
    clear b3 B2 L2 HC
    have T3 := HA.out.2.2.1 w3 B3.out
    have HP := Lib.hid (print10 k tr pe on mo w3 HA.out.1 HSM.out.1 HA.out.2.1 (T3.1.1 w3 (Below.refl _ _)) T3.2 (HA.out.2.2.2 w3 B3.out))
    clear T3
    by_cases hc : ckN k = 0
    · have he : prE k = .returned (.tuple #[.string (bs (wS (prm k))), .int .i64 0]) := by unfold prE; rw [if_pos hc]
      rw [he] at HP
      have HH := Lib.hid (head_of hl hc)
      have HG := Lib.hid (pg_prm hl hc)
      have hf := Lib.hid (ck_zero hc).1
      rw [hc]
      clear he hc
      unfold headB at HH
      generalize bs (wS (prm k)) = S at *
      go_wp2_with (first | (refine load_link_ifB rfl _ rfl H rfl L3.out hl ?_))
      refine HP.out.mono ?_
      rintro e w4 ⟨rfl, b4⟩
      have B4 : Hid (Below H w w4) := B3.out.trans (b4.mono (by have := L3.out.lt; omega))
      have L4 : Hid (LB w4 H k.l k.nm tr pe on mo) := L3.out.keep (b4.block H L3.out.lt)
      clear b4 B3 L3 HP
      have HX := Lib.hid (hex_link L4.out hl)
      generalize Hx2.strI (hxL k.l) = hx at *
      go_wp2_with (first | (go_at_call 7; refine (num9 _ _).mono ?_; rintro e w9 ⟨rfl, rfl⟩))
      refine HX.out.mono ?_
      rintro e w5 ⟨rfl, b5⟩
      have B5 : Hid (Below H w w5) := B4.out.trans (b5.mono (by have := L4.out.lt; omega))
      have L5 : Hid (LB w5 H k.l k.nm tr pe on mo) := L4.out.keep (b5.block H L4.out.lt)
      clear b5 B4 L4 HX
      obtain ⟨z1, z2, z3, z4, z5⟩ := HH.out
      go_upto_region 13 with fail
      have hs1 : ¬ 4096 < (S.size : Int) := by omega
      have hs2 : ¬ (S.size : Int) < 88 := by omega
      go_wp2_with fail
      clear z1 z2 z3 z4 z5 hs1 hs2 HH
      have T5 := HA.out.2.2.1 w5 B5.out
      have HPa := parse4 S w5 T5.1 T5.2
      rw [HG.out] at HPa
      have HPs : Hid ((psOf k).h = k.l ∧ (psOf k).nm = k.nm ∧ ∀ u tr pe on mo, RL4 (fun _ => True) u (lkOf (psOf k)) tr pe on mo → RL4 (fun _ => True) u k tr pe on mo) := ⟨rfl, rfl, fun u _ _ _ _ h => rl_psOf hf.out h⟩
      have HPb := Lib.hid HPa
      clear T5 HPa hf HG
      generalize psOf k = P at *
      have hh32 : P.h.length = 32 := by rw [HPs.out.1]; exact hl
      refine HPb.out.mono ?_
      rintro e w6 ⟨t2, p2, o2, m2, rfl, lo1, b6⟩
      simp only at lo1 ⊢
      obtain ⟨ta, tc, rfl⟩ := ownForm lo1.o1
      obtain ⟨pa, pc, rfl⟩ := ownForm lo1.o2
      obtain ⟨oa, oc, rfl⟩ := ownForm lo1.o3
      obtain ⟨ma, mc, rfl⟩ := ownForm lo1.o4
      have B6 : Hid (Below H w w6) := B5.out.trans (b6.mono (by have := L5.out.lt; omega))
      have L6 : Hid (LB w6 H k.l k.nm tr pe on mo) := L5.out.keep (b6.block H L5.out.lt)
      clear B5 L5 b6 HPb
      have hnew := heap_new w6 (Obj.cells #[.int .u8 0, .int .u8 0, .int .u8 0, .int .u8 0, .int .u8 0, .int .u8 0, .int .u8 0, .int .u8 0, .int .u8 0, .int .u8 0, .int .u8 0, .int .u8 0, .int .u8 0, .int .u8 0, .int .u8 0, .int .u8 0, .int .u8 0, .int .u8 0, .int .u8 0, .int .u8 0, .int .u8 0, .int .u8 0, .int .u8 0, .int .u8 0, .int .u8 0, .int .u8 0, .int .u8 0, .int .u8 0, .int .u8 0, .int .u8 0, .int .u8 0, .int .u8 0, .string { data := #[] }, .slice none 0 0, .slice none 0 0, .slice none 0 0, .slice none 0 0] 29)
      have ba : Below w6.heap.size w6 (w6.alloc (Obj.cells #[.int .u8 0, .int .u8 0, .int .u8 0, .int .u8 0, .int .u8 0, .int .u8 0, .int .u8 0, .int .u8 0, .int .u8 0, .int .u8 0, .int .u8 0, .int .u8 0, .int .u8 0, .int .u8 0, .int .u8 0, .int .u8 0, .int .u8 0, .int .u8 0, .int .u8 0, .int .u8 0, .int .u8 0, .int .u8 0, .int .u8 0, .int .u8 0, .int .u8 0, .int .u8 0, .int .u8 0, .int .u8 0, .int .u8 0, .int .u8 0, .int .u8 0, .int .u8 0, .string { data := #[] }, .slice none 0 0, .slice none 0 0, .slice none 0 0, .slice none 0 0] 29)) := (Below.refl _ _).alloc (Nat.le_refl _) _
      have bs : Below w6.heap.size w6 ((w6.alloc (Obj.cells #[.int .u8 0, .int .u8 0, .int .u8 0, .int .u8 0, .int .u8 0, .int .u8 0, .int .u8 0, .int .u8 0, .int .u8 0, .int .u8 0, .int .u8 0, .int .u8 0, .int .u8 0, .int .u8 0, .int .u8 0, .int .u8 0, .int .u8 0, .int .u8 0, .int .u8 0, .int .u8 0, .int .u8 0, .int .u8 0, .int .u8 0, .int .u8 0, .int .u8 0, .int .u8 0, .int .u8 0, .int .u8 0, .int .u8 0, .int .u8 0, .int .u8 0, .int .u8 0, .string { data := #[] }, .slice none 0 0, .slice none 0 0, .slice none 0 0, .slice none 0 0] 29)).setRow w6.heap.size (lkC P.h P.nm (.slice ta P.ts.length tc) (.slice pa P.ps.length pc) (.slice oa P.rs.length oc) (.slice ma P.mo.length mc))) := below_setRow ba (Nat.le_refl _) _
      have J1 : Hid (RL4 (fun _ => True) ((w6.alloc (Obj.cells #[.int .u8 0, .int .u8 0, .int .u8 0, .int .u8 0, .int .u8 0, .int .u8 0, .int .u8 0, .int .u8 0, .int .u8 0, .int .u8 0, .int .u8 0, .int .u8 0, .int .u8 0, .int .u8 0, .int .u8 0, .int .u8 0, .int .u8 0, .int .u8 0, .int .u8 0, .int .u8 0, .int .u8 0, .int .u8 0, .int .u8 0, .int .u8 0, .int .u8 0, .int .u8 0, .int .u8 0, .int .u8 0, .int .u8 0, .int .u8 0, .int .u8 0, .int .u8 0, .string { data := #[] }, .slice none 0 0, .slice none 0 0, .slice none 0 0, .slice none 0 0] 29)).setRow w6.heap.size (lkC P.h P.nm (.slice ta P.ts.length tc) (.slice pa P.ps.length pc) (.slice oa P.rs.length oc) (.slice ma P.mo.length mc))) k (.slice ta P.ts.length tc) (.slice pa P.ps.length pc) (.slice oa P.rs.length oc) (.slice ma P.mo.length mc) ∧ Below H w ((w6.alloc (Obj.cells #[.int .u8 0, .int .u8 0, .int .u8 0, .int .u8 0, .int .u8 0, .int .u8 0, .int .u8 0, .int .u8 0, .int .u8 0, .int .u8 0, .int .u8 0, .int .u8 0, .int .u8 0, .int .u8 0, .int .u8 0, .int .u8 0, .int .u8 0, .int .u8 0, .int .u8 0, .int .u8 0, .int .u8 0, .int .u8 0, .int .u8 0, .int .u8 0, .int .u8 0, .int .u8 0, .int .u8 0, .int .u8 0, .int .u8 0, .int .u8 0, .int .u8 0, .int .u8 0, .string { data := #[] }, .slice none 0 0, .slice none 0 0, .slice none 0 0, .slice none 0 0] 29)).setRow w6.heap.size (lkC P.h P.nm (.slice ta P.ts.length tc) (.slice pa P.ps.length pc) (.slice oa P.rs.length oc) (.slice ma P.mo.length mc))) ∧ LB ((w6.alloc (Obj.cells #[.int .u8 0, .int .u8 0, .int .u8 0, .int .u8 0, .int .u8 0, .int .u8 0, .int .u8 0, .int .u8 0, .int .u8 0, .int .u8 0, .int .u8 0, .int .u8 0, .int .u8 0, .int .u8 0, .int .u8 0, .int .u8 0, .int .u8 0, .int .u8 0, .int .u8 0, .int .u8 0, .int .u8 0, .int .u8 0, .int .u8 0, .int .u8 0, .int .u8 0, .int .u8 0, .int .u8 0, .int .u8 0, .int .u8 0, .int .u8 0, .int .u8 0, .int .u8 0, .string { data := #[] }, .slice none 0 0, .slice none 0 0, .slice none 0 0, .slice none 0 0] 29)).setRow w6.heap.size (lkC P.h P.nm (.slice ta P.ts.length tc) (.slice pa P.ps.length pc) (.slice oa P.rs.length oc) (.slice ma P.mo.length mc))) w6.heap.size P.h P.nm (.slice ta P.ts.length tc) (.slice pa P.ps.length pc) (.slice oa P.rs.length oc) (.slice ma P.mo.length mc) ∧ LB ((w6.alloc (Obj.cells #[.int .u8 0, .int .u8 0, .int .u8 0, .int .u8 0, .int .u8 0, .int .u8 0, .int .u8 0, .int .u8 0, .int .u8 0, .int .u8 0, .int .u8 0, .int .u8 0, .int .u8 0, .int .u8 0, .int .u8 0, .int .u8 0, .int .u8 0, .int .u8 0, .int .u8 0, .int .u8 0, .int .u8 0, .int .u8 0, .int .u8 0, .int .u8 0, .int .u8 0, .int .u8 0, .int .u8 0, .int .u8 0, .int .u8 0, .int .u8 0, .int .u8 0, .int .u8 0, .string { data := #[] }, .slice none 0 0, .slice none 0 0, .slice none 0 0, .slice none 0 0] 29)).setRow w6.heap.size (lkC P.h P.nm (.slice ta P.ts.length tc) (.slice pa P.ps.length pc) (.slice oa P.rs.length oc) (.slice ma P.mo.length mc))) H k.l k.nm tr pe on mo) := ⟨HPs.out.2.2 _ _ _ _ _ (rl4_of (lo1.below bs)), B6.out.trans (bs.mono (by have := L6.out.lt; omega)), setRow_heap _ w6.heap.size _ _ _ _ hnew, L6.out.keep (bs.block H L6.out.lt)⟩
      have hiL := infoLk (nm := P.nm) (tr := .slice ta P.ts.length tc) (pe := .slice pa P.ps.length pc) (on := .slice oa P.rs.length oc) (mo := .slice ma P.mo.length mc) hh32
      have hsz1 : (#[.int .u8 0, .int .u8 0, .int .u8 0, .int .u8 0, .int .u8 0, .int .u8 0, .int .u8 0, .int .u8 0, .int .u8 0, .int .u8 0, .int .u8 0, .int .u8 0, .int .u8 0, .int .u8 0, .int .u8 0, .int .u8 0, .int .u8 0, .int .u8 0, .int .u8 0, .int .u8 0, .int .u8 0, .int .u8 0, .int .u8 0, .int .u8 0, .int .u8 0, .int .u8 0, .int .u8 0, .int .u8 0, .int .u8 0, .int .u8 0, .int .u8 0, .int .u8 0, .string { data := #[] }, .slice none 0 0, .slice none 0 0, .slice none 0 0, .slice none 0 0] : Array Value).size = (lkC P.h P.nm (.slice ta P.ts.length tc) (.slice pa P.ps.length pc) (.slice oa P.rs.length oc) (.slice ma P.mo.length mc)).size := by rw [lkC_size hh32]; rfl
      clear lo1 ba bs B6 L6
      go_upto_region 16 with (refine wpList_store_row rfl 29 _ _ rfl w6.heap.size (lkC P.h P.nm (.slice ta P.ts.length tc) (.slice pa P.ps.length pc) (.slice oa P.rs.length oc) (.slice ma P.mo.length mc)) rfl rfl 29 _ hnew hiL hsz1 lkC_one ?_)
      generalize ((w6.alloc (Obj.cells #[.int .u8 0, .int .u8 0, .int .u8 0, .int .u8 0, .int .u8 0, .int .u8 0, .int .u8 0, .int .u8 0, .int .u8 0, .int .u8 0, .int .u8 0, .int .u8 0, .int .u8 0, .int .u8 0, .int .u8 0, .int .u8 0, .int .u8 0, .int .u8 0, .int .u8 0, .int .u8 0, .int .u8 0, .int .u8 0, .int .u8 0, .int .u8 0, .int .u8 0, .int .u8 0, .int .u8 0, .int .u8 0, .int .u8 0, .int .u8 0, .int .u8 0, .int .u8 0, .string { data := #[] }, .slice none 0 0, .slice none 0 0, .slice none 0 0, .slice none 0 0] 29)).setRow w6.heap.size (lkC P.h P.nm (.slice ta P.ts.length tc) (.slice pa P.ps.length pc) (.slice oa P.rs.length oc) (.slice ma P.mo.length mc))) = u1 at *
      generalize w6.heap.size = G1 at *
      clear hnew hsz1
      generalize Value.slice ta P.ts.length tc = t2 at *
      generalize Value.slice pa P.ps.length pc = p2 at *
      generalize Value.slice oa P.rs.length oc = o2 at *
      generalize Value.slice ma P.mo.length mc = m2 at *
      have HZ : Hid (Calls Tryz.prog 8 #[.agg (lkC k.l k.nm tr pe on mo), .agg (lkC P.h P.nm t2 p2 o2 m2)] u1 fun e w' => e = .returned (.bool true) ∧ Below u1.heap.size u1 w') := by
        rw [HPs.out.1, HPs.out.2.1]
        exact linkSame k tr pe on mo t2 p2 o2 m2 u1 HA.out.1 (HA.out.2.2.2 u1 J1.out.2.1) J1.out.1
      have hlb := J1.out.2.2.1
      have hlH := J1.out.2.2.2
      go_wp2_with (first | (go_at_call 7; refine (num9 _ _).mono ?_; rintro e w9 ⟨rfl, rfl⟩) | (refine load_link_ifB rfl _ rfl H rfl hlH hl ?_) | (refine load_link_ifB rfl _ rfl G1 rfl hlb hh32 ?_))
      refine HZ.out.mono ?_
      rintro e w7 ⟨rfl, b7⟩
      have B7 : Hid (Below H w w7) := J1.out.2.1.trans (b7.mono (by have := hlH.lt; omega))
      clear b7 J1 HZ hlb hlH
      go_wp2
      go_ret
      exact ⟨by simp, HS.out ▸ B7.out⟩
    · have he : prE k = .returned (.tuple #[.string ⟨#[]⟩, .int .i64 (ckN k)]) := by unfold prE; rw [if_neg hc]
      rw [he] at HP
      clear he
      generalize ckN k = c at *
      have hc2 : (c == 0) = false := by simp [hc]
      go_wp2_with (first | (refine load_link_ifB rfl _ rfl H rfl L3.out hl ?_))
      refine HP.out.mono ?_
      rintro e w4 ⟨rfl, b4⟩
      have B4 : Hid (Below H w w4) := B3.out.trans (b4.mono (by have := L3.out.lt; omega))
      clear b4 B3 L3 HP
      go_wp2_with (first | (go_at_call 7; refine (num9 _ _).mono ?_; rintro e w9 ⟨rfl, rfl⟩))
      go_ret
      exact ⟨by simp, HS.out ▸ B4.out⟩
end Go.Proofs.YtchgkfmmeaemnaaGreatDoor
