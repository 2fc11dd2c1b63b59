import Derived.Test.YtchgkfmmeaemnaaGreatDoorV44
import Derived.Test.YtchgkfmmeaemnaaGreatDoorV39
namespace Go.Proofs.YtchgkfmmeaemnaaGreatDoor
open Go.Shelf Go.RowKit Go.Deep
theorem zp_cells : (#[.int .u8 0, .int .u8 0, .int .u8 0, .int .u8 0, .int .u8 0, .int .u8 0, .int .u8 0, .int .u8 0, .int .u8 0, .int .u8 0, .int .u8 0, .int .u8 0, .int .u8 0, .int .u8 0, .int .u8 0, .int .u8 0, .int .u8 0, .int .u8 0, .int .u8 0, .int .u8 0, .int .u8 0, .int .u8 0, .int .u8 0, .int .u8 0, .int .u8 0, .int .u8 0, .int .u8 0, .int .u8 0, .int .u8 0, .int .u8 0, .int .u8 0, .int .u8 0, .string { data := #[] }, .slice none 0 0, .slice none 0 0, .slice none 0 0, .slice none 0 0] : Array Value) = lkC zP.h zP.nm (.slice none 0 0) (.slice none 0 0) (.slice none 0 0) (.slice none 0 0) := by rfl
theorem zp_rl (w : World) : RL4 (fun _ => True) w (lkOf zP) (.slice none 0 0) (.slice none 0 0) (.slice none 0 0) (.slice none 0 0) :=
  ⟨⟨none, 0, rfl, .inl rfl⟩, ⟨none, 0, rfl, .inl rfl⟩, ⟨none, 0, rfl, .inl rfl⟩, ⟨none, 0, rfl, .inl rfl⟩⟩
theorem pg_tells (s : ByteArray) : (pgR s).2.2 ≠ 0 → (pgR s).1 = zP ∧ 0 ≤ (pgR s).2.1 ∧ (pgR s).2.1 ≤ s.size := fun h => ⟨(pgR_tell s).1 h, (pgR_tell s).2.2.1, (pgR_tell s).2.2.2⟩
set_option maxHeartbeats 4000000 in
set_option maxRecDepth 100000 in
theorem twoWayLaw (s : ByteArray) (w : World) (hTG : TG w) (hBT : BT w) : Calls Tryz.prog 3 #[.string s] w fun e w' => e = .returned (.bool true) ∧ Below w.heap.size w w' := by
  have H0 := Lib.hid (awake7 w hTG hBT)
  have H1 : Hid (∀ u, Below w.heap.size w u → Calls Tryz.prog 6 #[.string s] u fun e w' => RP u.heap.size u (pgR s) e w') := fun u h => parse4 s u (hTG.below h) (hBT.keep h)
  have HT : Hid (∀ u, Below w.heap.size w u → IT u ∧ BT u) := fun u h => ⟨hTG.1 u h, hBT.keep h⟩
  have HB := Lib.hid (pg_bd s)
  have HRS := Lib.hid (pgR_rs s)
  have HK : Hid ((pgR s).2.2 = 0 → (pgR s).2.1 = 0 ∧ ckN (lkOf (pgR s).1) = 0 ∧ bs (wS (prm (lkOf (pgR s).1))) = s) := pg_back
  have HL := Lib.hid (pg_tells s)
  generalize pgR s = q at *
  obtain ⟨p, at0, er0⟩ := q
  have hh32 := HB.out.1.h
  simp only at hh32 HRS HK HL
  clear hTG hBT
  go_enter Tryz.func3, Tryz.ntmps3
  go_wp2_with fail
  refine H0.out.mono ?_
  rintro e w0 ⟨rfl, b0⟩
  have B0 := Lib.hid b0
  clear b0 H0
  go_wp2_with fail
  refine (H1.out w0 B0.out).mono ?_
  rintro e w1 ⟨t2, p2, o2, m2, rfl, lo1, b1⟩
  simp only at lo1 ⊢
  obtain ⟨ta, tc, rfl⟩ := ownForm lo1.o1
  obtain ⟨pa, pc, rfl⟩ := ownForm lo1.o2
  obtain ⟨oa, oc, rfl⟩ := ownForm lo1.o3
  obtain ⟨ma, mc, rfl⟩ := ownForm lo1.o4
  have hnew := heap_new w1 (Obj.cells #[.int .u8 0, .int .u8 0, .int .u8 0, .int .u8 0, .int .u8 0, .int .u8 0, .int .u8 0, .int .u8 0, .int .u8 0, .int .u8 0, .int .u8 0, .int .u8 0, .int .u8 0, .int .u8 0, .int .u8 0, .int .u8 0, .int .u8 0, .int .u8 0, .int .u8 0, .int .u8 0, .int .u8 0, .int .u8 0, .int .u8 0, .int .u8 0, .int .u8 0, .int .u8 0, .int .u8 0, .int .u8 0, .int .u8 0, .int .u8 0, .int .u8 0, .int .u8 0, .string { data := #[] }, .slice none 0 0, .slice none 0 0, .slice none 0 0, .slice none 0 0] 29)
  have ba : Below w1.heap.size w1 (w1.alloc (Obj.cells #[.int .u8 0, .int .u8 0, .int .u8 0, .int .u8 0, .int .u8 0, .int .u8 0, .int .u8 0, .int .u8 0, .int .u8 0, .int .u8 0, .int .u8 0, .int .u8 0, .int .u8 0, .int .u8 0, .int .u8 0, .int .u8 0, .int .u8 0, .int .u8 0, .int .u8 0, .int .u8 0, .int .u8 0, .int .u8 0, .int .u8 0, .int .u8 0, .int .u8 0, .int .u8 0, .int .u8 0, .int .u8 0, .int .u8 0, .int .u8 0, .int .u8 0, .int .u8 0, .string { data := #[] }, .slice none 0 0, .slice none 0 0, .slice none 0 0, .slice none 0 0] 29)) := (Below.refl _ _).alloc (Nat.le_refl _) _
  have bs : Below w1.heap.size w1 ((w1.alloc (Obj.cells #[.int .u8 0, .int .u8 0, .int .u8 0, .int .u8 0, .int .u8 0, .int .u8 0, .int .u8 0, .int .u8 0, .int .u8 0, .int .u8 0, .int .u8 0, .int .u8 0, .int .u8 0, .int .u8 0, .int .u8 0, .int .u8 0, .int .u8 0, .int .u8 0, .int .u8 0, .int .u8 0, .int .u8 0, .int .u8 0, .int .u8 0, .int .u8 0, .int .u8 0, .int .u8 0, .int .u8 0, .int .u8 0, .int .u8 0, .int .u8 0, .int .u8 0, .int .u8 0, .string { data := #[] }, .slice none 0 0, .slice none 0 0, .slice none 0 0, .slice none 0 0] 29)).setRow w1.heap.size (lkC p.h p.nm (.slice ta p.ts.length tc) (.slice pa p.ps.length pc) (.slice oa p.rs.length oc) (.slice ma p.mo.length mc))) := below_setRow ba (Nat.le_refl _) _
  have J1 : Hid (LO w0.heap.size ((w1.alloc (Obj.cells #[.int .u8 0, .int .u8 0, .int .u8 0, .int .u8 0, .int .u8 0, .int .u8 0, .int .u8 0, .int .u8 0, .int .u8 0, .int .u8 0, .int .u8 0, .int .u8 0, .int .u8 0, .int .u8 0, .int .u8 0, .int .u8 0, .int .u8 0, .int .u8 0, .int .u8 0, .int .u8 0, .int .u8 0, .int .u8 0, .int .u8 0, .int .u8 0, .int .u8 0, .int .u8 0, .int .u8 0, .int .u8 0, .int .u8 0, .int .u8 0, .int .u8 0, .int .u8 0, .string { data := #[] }, .slice none 0 0, .slice none 0 0, .slice none 0 0, .slice none 0 0] 29)).setRow w1.heap.size (lkC p.h p.nm (.slice ta p.ts.length tc) (.slice pa p.ps.length pc) (.slice oa p.rs.length oc) (.slice ma p.mo.length mc))) p (.slice ta p.ts.length tc) (.slice pa p.ps.length pc) (.slice oa p.rs.length oc) (.slice ma p.mo.length mc) ∧ Below w.heap.size w ((w1.alloc (Obj.cells #[.int .u8 0, .int .u8 0, .int .u8 0, .int .u8 0, .int .u8 0, .int .u8 0, .int .u8 0, .int .u8 0, .int .u8 0, .int .u8 0, .int .u8 0, .int .u8 0, .int .u8 0, .int .u8 0, .int .u8 0, .int .u8 0, .int .u8 0, .int .u8 0, .int .u8 0, .int .u8 0, .int .u8 0, .int .u8 0, .int .u8 0, .int .u8 0, .int .u8 0, .int .u8 0, .int .u8 0, .int .u8 0, .int .u8 0, .int .u8 0, .int .u8 0, .int .u8 0, .string { data := #[] }, .slice none 0 0, .slice none 0 0, .slice none 0 0, .slice none 0 0] 29)).setRow w1.heap.size (lkC p.h p.nm (.slice ta p.ts.length tc) (.slice pa p.ps.length pc) (.slice oa p.rs.length oc) (.slice ma p.mo.length mc))) ∧ LB ((w1.alloc (Obj.cells #[.int .u8 0, .int .u8 0, .int .u8 0, .int .u8 0, .int .u8 0, .int .u8 0, .int .u8 0, .int .u8 0, .int .u8 0, .int .u8 0, .int .u8 0, .int .u8 0, .int .u8 0, .int .u8 0, .int .u8 0, .int .u8 0, .int .u8 0, .int .u8 0, .int .u8 0, .int .u8 0, .int .u8 0, .int .u8 0, .int .u8 0, .int .u8 0, .int .u8 0, .int .u8 0, .int .u8 0, .int .u8 0, .int .u8 0, .int .u8 0, .int .u8 0, .int .u8 0, .string { data := #[] }, .slice none 0 0, .slice none 0 0, .slice none 0 0, .slice none 0 0] 29)).setRow w1.heap.size (lkC p.h p.nm (.slice ta p.ts.length tc) (.slice pa p.ps.length pc) (.slice oa p.rs.length oc) (.slice ma p.mo.length mc))) w1.heap.size p.h p.nm (.slice ta p.ts.length tc) (.slice pa p.ps.length pc) (.slice oa p.rs.length oc) (.slice ma p.mo.length mc)) := ⟨lo1.below bs, B0.out.trans ((b1.trans (bs.mono b1.size)).mono B0.out.size), setRow_heap _ w1.heap.size _ _ _ _ hnew⟩
  have hiL := infoLk (nm := p.nm) (tr := .slice ta p.ts.length tc) (pe := .slice pa p.ps.length pc) (on := .slice oa p.rs.length oc) (mo := .slice ma p.mo.length mc) hh32
  have hsz1 : (#[.int .u8 0, .int .u8 0, .int .u8 0, .int .u8 0, .int .u8 0, .int .u8 0, .int .u8 0, .int .u8 0, .int .u8 0, .int .u8 0, .int .u8 0, .int .u8 0, .int .u8 0, .int .u8 0, .int .u8 0, .int .u8 0, .int .u8 0, .int .u8 0, .int .u8 0, .int .u8 0, .int .u8 0, .int .u8 0, .int .u8 0, .int .u8 0, .int .u8 0, .int .u8 0, .int .u8 0, .int .u8 0, .int .u8 0, .int .u8 0, .int .u8 0, .int .u8 0, .string { data := #[] }, .slice none 0 0, .slice none 0 0, .slice none 0 0, .slice none 0 0] : Array Value).size = (lkC p.h p.nm (.slice ta p.ts.length tc) (.slice pa p.ps.length pc) (.slice oa p.rs.length oc) (.slice ma p.mo.length mc)).size := by rw [lkC_size hh32]; rfl
  clear lo1 b1 ba bs H1 B0
  go_upto_region 5 with (refine wpList_store_row rfl 29 _ _ rfl w1.heap.size (lkC p.h p.nm (.slice ta p.ts.length tc) (.slice pa p.ps.length pc) (.slice oa p.rs.length oc) (.slice ma p.mo.length mc)) rfl rfl 29 _ hnew hiL hsz1 lkC_one ?_)
  generalize ((w1.alloc (Obj.cells #[.int .u8 0, .int .u8 0, .int .u8 0, .int .u8 0, .int .u8 0, .int .u8 0, .int .u8 0, .int .u8 0, .int .u8 0, .int .u8 0, .int .u8 0, .int .u8 0, .int .u8 0, .int .u8 0, .int .u8 0, .int .u8 0, .int .u8 0, .int .u8 0, .int .u8 0, .int .u8 0, .int .u8 0, .int .u8 0, .int .u8 0, .int .u8 0, .int .u8 0, .int .u8 0, .int .u8 0, .int .u8 0, .int .u8 0, .int .u8 0, .int .u8 0, .int .u8 0, .string { data := #[] }, .slice none 0 0, .slice none 0 0, .slice none 0 0, .slice none 0 0] 29)).setRow w1.heap.size (lkC p.h p.nm (.slice ta p.ts.length tc) (.slice pa p.ps.length pc) (.slice oa p.rs.length oc) (.slice ma p.mo.length mc))) = u1 at *
  generalize w1.heap.size = G1 at *
  clear hnew hsz1
  have hok : (lkOf p).ok := lkOf_ok HB.out.1 HB.out.2.1 HB.out.2.2.1 HB.out.2.2.2
  have hsm : (lkOf p).small := by
    have h1 := HB.out.2.1
    have h2 := HB.out.2.2.1
    have h3 := HB.out.2.2.2
    have h4 := HB.out.1.rs
    exact ⟨Nat.le_trans h1 (by omega), Nat.le_trans h2 (by omega), Nat.le_trans h4 (by omega), Nat.le_trans h3 (by omega), fun i hi => ⟨by decide, by decide, fun j h => absurd h (Nat.not_lt_zero j), fun j h => absurd h (Nat.not_lt_zero j)⟩⟩
  have hi64 : ∀ x ∈ (lkOf p).rs, I64 x.1 ∧ I64 x.2 := fun x hx => by have h9 := HRS.out.1 x hx; unfold RnOk at h9; unfold I64; omega
  by_cases hE : er0 = 0
  · obtain ⟨k1, k2, k3⟩ := HK.out hE
    subst hE
    have hlb := J1.out.2.2
    have hg := rl4_of J1.out.1
    go_wp2_with (first | (go_at_call 7; refine (num9 _ _).mono ?_; rintro e w9 ⟨rfl, rfl⟩) | (refine wpList_load_row rfl 29 _ rfl G1 rfl 29 (lkC p.h p.nm (.slice ta p.ts.length tc) (.slice pa p.ps.length pc) (.slice oa p.rs.length oc) (.slice ma p.mo.length mc)) (0, 0) _ hlb Tryz.underlying29 rfl hiL ?_))
    refine (check7 (lkOf p) _ _ _ _ w9 hok hsm hi64 (HT.out w9 J1.out.2.1).1 (HT.out w9 J1.out.2.1).2 hg).mono ?_
    rintro e w2 ⟨rfl, b2⟩
    have B2 : Hid (Below w.heap.size w w2) := J1.out.2.1.trans (b2.mono J1.out.2.1.size)
    replace hlb : LB w2 G1 p.h p.nm (.slice ta p.ts.length tc) (.slice pa p.ps.length pc) (.slice oa p.rs.length oc) (.slice ma p.mo.length mc) := hlb.keep (b2.block G1 hlb.lt)
    replace hg := hg.move (fun _ h _ => h) b2.size (fun b _ hl => b2.block b hl)
    clear J1 b2
    go_wp2_with (first | (refine wpList_load_row rfl 29 _ rfl G1 rfl 29 (lkC p.h p.nm (.slice ta p.ts.length tc) (.slice pa p.ps.length pc) (.slice oa p.rs.length oc) (.slice ma p.mo.length mc)) (0, 0) _ hlb Tryz.underlying29 rfl hiL ?_))
    refine (print10 (lkOf p) _ _ _ _ w2 hok hsm hi64 (HT.out w2 B2.out).1 (HT.out w2 B2.out).2 hg).mono ?_
    rintro e w3 ⟨he, b3⟩
    have he2 : e = .returned (.tuple #[.string s, .int .i64 0]) := by rw [he]; unfold prE; rw [if_pos k2, k3]
    subst he2
    clear he
    have B3 : Hid (Below w.heap.size w w3) := B2.out.trans (b3.mono B2.out.size)
    subst k1
    clear hlb hg b3 HK HL
    go_wp2_with (first | (go_at_call 7; refine (num9 _ _).mono ?_; rintro e w9 ⟨rfl, rfl⟩))
    go_ret
    exact ⟨by simp, B3.out⟩
  · have hE2 : (er0 == 0) = false := by simp [hE]
    obtain ⟨l1, l2, l3⟩ := HL.out hE
    subst l1
    have hlb := J1.out.2.2
    have hg := rl4_of J1.out.1
    have hz : Calls Tryz.prog 8 #[.agg (lkC zP.h zP.nm (.slice ta zP.ts.length tc) (.slice pa zP.ps.length pc) (.slice oa zP.rs.length oc) (.slice ma zP.mo.length mc)), .agg #[.int .u8 0, .int .u8 0, .int .u8 0, .int .u8 0, .int .u8 0, .int .u8 0, .int .u8 0, .int .u8 0, .int .u8 0, .int .u8 0, .int .u8 0, .int .u8 0, .int .u8 0, .int .u8 0, .int .u8 0, .int .u8 0, .int .u8 0, .int .u8 0, .int .u8 0, .int .u8 0, .int .u8 0, .int .u8 0, .int .u8 0, .int .u8 0, .int .u8 0, .int .u8 0, .int .u8 0, .int .u8 0, .int .u8 0, .int .u8 0, .int .u8 0, .int .u8 0, .string { data := #[] }, .slice none 0 0, .slice none 0 0, .slice none 0 0, .slice none 0 0]] u1 fun e w' => e = .returned (.bool true) ∧ Below u1.heap.size u1 w' := by
      rw [zp_cells]
      exact linkSame (lkOf zP) _ _ _ _ _ _ _ _ u1 hok hg (zp_rl u1)
    have HZ := Lib.hid hz
    clear hz
    go_wp2_with (first | (go_at_call 7; refine (num9 _ _).mono ?_; rintro e w9 ⟨rfl, rfl⟩) | (refine wpList_load_row rfl 29 _ rfl G1 rfl 29 (lkC zP.h zP.nm (.slice ta zP.ts.length tc) (.slice pa zP.ps.length pc) (.slice oa zP.rs.length oc) (.slice ma zP.mo.length mc)) (0, 0) _ hlb Tryz.underlying29 rfl hiL ?_))
    refine HZ.out.mono ?_
    rintro e w2 ⟨rfl, b2⟩
    have B2 : Hid (Below w.heap.size w w2) := J1.out.2.1.trans (b2.mono J1.out.2.1.size)
    have HL9 : Hid (0 ≤ at0 ∧ at0 ≤ s.size) := ⟨l2, l3⟩
    clear hlb hg J1 HZ HL HK b2
    go_wp2
    go_ret
    exact ⟨by simp, B2.out⟩
end Go.Proofs.YtchgkfmmeaemnaaGreatDoor
