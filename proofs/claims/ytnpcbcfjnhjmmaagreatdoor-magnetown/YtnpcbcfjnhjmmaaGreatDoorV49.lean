import Derived.Test.YtnpcbcfjnhjmmaaGreatDoorV47
namespace Go.Proofs.YtnpcbcfjnhjmmaaGreatDoor
open Go.Shelf Go.RowKit Go.Deep
namespace Ow
set_option maxHeartbeats 40000000 in
set_option maxRecDepth 100000 in
theorem ownLaw (s : ByteArray) (k : Lk) (tr pe on mo : Value) (w : World) (hk : k.ok) (hi : ∀ x ∈ k.rs, I64 x.1 ∧ I64 x.2) (hTG : TG w) (hBT : BT w) (hr : RL4 (fun _ => True) w k tr pe on mo) :
    Calls Tryz.prog 3 #[.string s, .agg (lkC k.l k.nm tr pe on mo)] w fun e w' => e = .returned (.bool true) ∧ Below w.heap.size w w' := by
  obtain ⟨ta0, tc0, rfl⟩ : ∃ a c, tr = .slice a k.ts.length c := by obtain ⟨p, q, e, _⟩ := hr.1; exact ⟨p, q, e⟩
  obtain ⟨pa0, pc0, rfl⟩ : ∃ a c, pe = .slice a k.ps.length c := by obtain ⟨p, q, e, _⟩ := hr.2.1; exact ⟨p, q, e⟩
  obtain ⟨oa0, oc0, rfl⟩ : ∃ a c, on = .slice a k.rs.length c := by obtain ⟨p, q, e, _⟩ := hr.2.2.1; exact ⟨p, q, e⟩
  obtain ⟨ma0, mc0, rfl⟩ : ∃ a c, mo = .slice a k.dn c := by obtain ⟨p, q, e, _⟩ := hr.2.2.2; exact ⟨p, q, e⟩
  have hl := hk.l
  have B0 : Hid (Below w.heap.size w (w.alloc (Obj.cells (lkC k.l k.nm (.slice ta0 k.ts.length tc0) (.slice pa0 k.ps.length pc0) (.slice oa0 k.rs.length oc0) (.slice ma0 k.dn mc0)) 28))) := (Below.refl _ _).alloc (Nat.le_refl _) _
  have L0 : Hid (LB (w.alloc (Obj.cells (lkC k.l k.nm (.slice ta0 k.ts.length tc0) (.slice pa0 k.ps.length pc0) (.slice oa0 k.rs.length oc0) (.slice ma0 k.dn mc0)) 28)) w.heap.size k.l k.nm (.slice ta0 k.ts.length tc0) (.slice pa0 k.ps.length pc0) (.slice oa0 k.rs.length oc0) (.slice ma0 k.dn mc0)) := heap_new _ _
  have HA : Hid (k.ok ∧ (∀ x ∈ k.rs, I64 x.1 ∧ I64 x.2) ∧ (∀ w', Below w.heap.size w w' → TG w' ∧ BT w') ∧ ∀ w', Below w.heap.size w w' → RL4 (fun _ => True) w' k (.slice ta0 k.ts.length tc0) (.slice pa0 k.ps.length pc0) (.slice oa0 k.rs.length oc0) (.slice ma0 k.dn mc0)) := ⟨hk, hi, fun w' hb => ⟨hTG.below hb, hBT.keep hb⟩, fun w' hb => hr.move (fun _ h _ => h) hb.size (fun b _ hl => hb.block b hl)⟩
  have HPG := Lib.hid (pg_bd s)
  have HPA : Hid (∀ u, Below w.heap.size w u → Calls Tryz.prog 6 #[.string s] u fun e w' => RP u.heap.size u (pgR s) e w') := fun u h => parse4 s u (hTG.below h) (hBT.keep h)
  generalize pgR s = pq at *
  obtain ⟨p, at0, er0⟩ := pq
  have hh32 := HPG.out.1.h
  simp only at hh32
  clear hk hi hr hTG hBT
  go_enter Tryz.func3, Tryz.ntmps3
  go_upto_region 1 with fail
  generalize (w.alloc (Obj.cells (lkC k.l k.nm (.slice ta0 k.ts.length tc0) (.slice pa0 k.ps.length pc0) (.slice oa0 k.rs.length oc0) (.slice ma0 k.dn mc0)) 28)) = w0 at *
  generalize hvb : w.heap.size = H at *
  have HS : Hid (w.heap.size = H) := hvb
  clear hvb
  go_wp2_with (first | (refine load_link_ifO rfl _ rfl H rfl L0.out hl ?_))
  refine (farLink k (.slice ta0 k.ts.length tc0) (.slice pa0 k.ps.length pc0) (.slice oa0 k.rs.length oc0) (.slice ma0 k.dn mc0) w0 HA.out.1 (HA.out.2.2.2 w0 B0.out)).mono ?_
  rintro e w1 ⟨r, rfl, b1, hsm⟩
  have B1 : Hid (Below H w w1) := B0.out.trans (b1.mono (by have := L0.out.lt; omega))
  have L1 : Hid (LB w1 H k.l k.nm (.slice ta0 k.ts.length tc0) (.slice pa0 k.ps.length pc0) (.slice oa0 k.rs.length oc0) (.slice ma0 k.dn mc0)) := L0.out.keep (b1.block H L0.out.lt)
  clear b1 B0 L0
  cases r with
  | true =>
    clear hsm
    go_wp2
    go_ret
    exact ⟨rfl, HS.out ▸ B1.out⟩
  | false =>
    have HSM : Hid (k.small ∧ k.few) := hsm rfl
    clear hsm
    have T1 := HA.out.2.2.1 w1 B1.out
    have HW := Lib.hid (awake7 w1 T1.1 T1.2)
    clear T1
    go_wp2_with fail
    refine HW.out.mono ?_
    rintro e w2 ⟨rfl, b2⟩
    have B2 : Hid (Below H w w2) := B1.out.trans (b2.mono (by have := L1.out.lt; omega))
    have L2 : Hid (LB w2 H k.l k.nm (.slice ta0 k.ts.length tc0) (.slice pa0 k.ps.length pc0) (.slice oa0 k.rs.length oc0) (.slice ma0 k.dn mc0)) := L1.out.keep (b2.block H L1.out.lt)
    clear b2 B1 L1 HW
    go_wp2_with fail
    refine (HPA.out w2 B2.out).mono ?_
    rintro e w3 ⟨t2, p2, o2, m2, rfl, lo1, b3⟩
    simp only at lo1 ⊢
    obtain ⟨ta, tc, rfl⟩ := ownForm lo1.o1
    obtain ⟨pa, pc, rfl⟩ := ownForm lo1.o2
    obtain ⟨oa, oc, rfl⟩ := ownForm lo1.o3
    obtain ⟨ma, mc, rfl⟩ := ownForm lo1.o4
    have hZ : LB (w3.alloc (Obj.cells #[.int .u8 0, .int .u8 0, .int .u8 0, .int .u8 0, .int .u8 0, .int .u8 0, .int .u8 0, .int .u8 0, .int .u8 0, .int .u8 0, .int .u8 0, .int .u8 0, .int .u8 0, .int .u8 0, .int .u8 0, .int .u8 0, .int .u8 0, .int .u8 0, .int .u8 0, .int .u8 0, .int .u8 0, .int .u8 0, .int .u8 0, .int .u8 0, .int .u8 0, .int .u8 0, .int .u8 0, .int .u8 0, .int .u8 0, .int .u8 0, .int .u8 0, .int .u8 0, .string { data := #[] }, .slice .none 0 0, .slice .none 0 0, .slice .none 0 0, .slice .none 0 0] 28)) w3.heap.size (List.replicate 32 (0 : UInt8)) ⟨#[]⟩ (.slice none 0 0) (.slice none 0 0) (.slice none 0 0) (.slice none 0 0) := heap_new _ _
    have J1 : Hid (Below H w ((w3.alloc (Obj.cells #[.int .u8 0, .int .u8 0, .int .u8 0, .int .u8 0, .int .u8 0, .int .u8 0, .int .u8 0, .int .u8 0, .int .u8 0, .int .u8 0, .int .u8 0, .int .u8 0, .int .u8 0, .int .u8 0, .int .u8 0, .int .u8 0, .int .u8 0, .int .u8 0, .int .u8 0, .int .u8 0, .int .u8 0, .int .u8 0, .int .u8 0, .int .u8 0, .int .u8 0, .int .u8 0, .int .u8 0, .int .u8 0, .int .u8 0, .int .u8 0, .int .u8 0, .int .u8 0, .string { data := #[] }, .slice .none 0 0, .slice .none 0 0, .slice .none 0 0, .slice .none 0 0] 28)).setRow w3.heap.size (lkC p.h p.nm (.slice ta p.ts.length tc) (.slice pa p.ps.length pc) (.slice oa p.rs.length oc) (.slice ma p.mo.length mc))) ∧ LB ((w3.alloc (Obj.cells #[.int .u8 0, .int .u8 0, .int .u8 0, .int .u8 0, .int .u8 0, .int .u8 0, .int .u8 0, .int .u8 0, .int .u8 0, .int .u8 0, .int .u8 0, .int .u8 0, .int .u8 0, .int .u8 0, .int .u8 0, .int .u8 0, .int .u8 0, .int .u8 0, .int .u8 0, .int .u8 0, .int .u8 0, .int .u8 0, .int .u8 0, .int .u8 0, .int .u8 0, .int .u8 0, .int .u8 0, .int .u8 0, .int .u8 0, .int .u8 0, .int .u8 0, .int .u8 0, .string { data := #[] }, .slice .none 0 0, .slice .none 0 0, .slice .none 0 0, .slice .none 0 0] 28)).setRow w3.heap.size (lkC p.h p.nm (.slice ta p.ts.length tc) (.slice pa p.ps.length pc) (.slice oa p.rs.length oc) (.slice ma p.mo.length mc))) H k.l k.nm (.slice ta0 k.ts.length tc0) (.slice pa0 k.ps.length pc0) (.slice oa0 k.rs.length oc0) (.slice ma0 k.dn mc0) ∧ LB ((w3.alloc (Obj.cells #[.int .u8 0, .int .u8 0, .int .u8 0, .int .u8 0, .int .u8 0, .int .u8 0, .int .u8 0, .int .u8 0, .int .u8 0, .int .u8 0, .int .u8 0, .int .u8 0, .int .u8 0, .int .u8 0, .int .u8 0, .int .u8 0, .int .u8 0, .int .u8 0, .int .u8 0, .int .u8 0, .int .u8 0, .int .u8 0, .int .u8 0, .int .u8 0, .int .u8 0, .int .u8 0, .int .u8 0, .int .u8 0, .int .u8 0, .int .u8 0, .int .u8 0, .int .u8 0, .string { data := #[] }, .slice .none 0 0, .slice .none 0 0, .slice .none 0 0, .slice .none 0 0] 28)).setRow w3.heap.size (lkC p.h p.nm (.slice ta p.ts.length tc) (.slice pa p.ps.length pc) (.slice oa p.rs.length oc) (.slice ma p.mo.length mc))) w3.heap.size p.h p.nm (.slice ta p.ts.length tc) (.slice pa p.ps.length pc) (.slice oa p.rs.length oc) (.slice ma p.mo.length mc) ∧ RLo (fun b => H < b ∧ b < w3.heap.size) ((w3.alloc (Obj.cells #[.int .u8 0, .int .u8 0, .int .u8 0, .int .u8 0, .int .u8 0, .int .u8 0, .int .u8 0, .int .u8 0, .int .u8 0, .int .u8 0, .int .u8 0, .int .u8 0, .int .u8 0, .int .u8 0, .int .u8 0, .int .u8 0, .int .u8 0, .int .u8 0, .int .u8 0, .int .u8 0, .int .u8 0, .int .u8 0, .int .u8 0, .int .u8 0, .int .u8 0, .int .u8 0, .int .u8 0, .int .u8 0, .int .u8 0, .int .u8 0, .int .u8 0, .int .u8 0, .string { data := #[] }, .slice .none 0 0, .slice .none 0 0, .slice .none 0 0, .slice .none 0 0] 28)).setRow w3.heap.size (lkC p.h p.nm (.slice ta p.ts.length tc) (.slice pa p.ps.length pc) (.slice oa p.rs.length oc) (.slice ma p.mo.length mc))) (lkOf p) (.slice ta p.ts.length tc) (.slice pa p.ps.length pc) (.slice oa p.rs.length oc) (.slice ma p.mo.length mc) ∧ H < w3.heap.size ∧ w3.heap.size < ((w3.alloc (Obj.cells #[.int .u8 0, .int .u8 0, .int .u8 0, .int .u8 0, .int .u8 0, .int .u8 0, .int .u8 0, .int .u8 0, .int .u8 0, .int .u8 0, .int .u8 0, .int .u8 0, .int .u8 0, .int .u8 0, .int .u8 0, .int .u8 0, .int .u8 0, .int .u8 0, .int .u8 0, .int .u8 0, .int .u8 0, .int .u8 0, .int .u8 0, .int .u8 0, .int .u8 0, .int .u8 0, .int .u8 0, .int .u8 0, .int .u8 0, .int .u8 0, .int .u8 0, .int .u8 0, .string { data := #[] }, .slice .none 0 0, .slice .none 0 0, .slice .none 0 0, .slice .none 0 0] 28)).setRow w3.heap.size (lkC p.h p.nm (.slice ta p.ts.length tc) (.slice pa p.ps.length pc) (.slice oa p.rs.length oc) (.slice ma p.mo.length mc))).heap.size) := by
      have BB : Below w3.heap.size w3 ((w3.alloc (Obj.cells #[.int .u8 0, .int .u8 0, .int .u8 0, .int .u8 0, .int .u8 0, .int .u8 0, .int .u8 0, .int .u8 0, .int .u8 0, .int .u8 0, .int .u8 0, .int .u8 0, .int .u8 0, .int .u8 0, .int .u8 0, .int .u8 0, .int .u8 0, .int .u8 0, .int .u8 0, .int .u8 0, .int .u8 0, .int .u8 0, .int .u8 0, .int .u8 0, .int .u8 0, .int .u8 0, .int .u8 0, .int .u8 0, .int .u8 0, .int .u8 0, .int .u8 0, .int .u8 0, .string { data := #[] }, .slice .none 0 0, .slice .none 0 0, .slice .none 0 0, .slice .none 0 0] 28)).setRow w3.heap.size (lkC p.h p.nm (.slice ta p.ts.length tc) (.slice pa p.ps.length pc) (.slice oa p.rs.length oc) (.slice ma p.mo.length mc))) := below_setRow ((Below.refl _ _).alloc (Nat.le_refl _) _) (Nat.le_refl _) _
      have BC := b3.trans (BB.mono b3.size)
      have hl2 := L2.out.lt
      have hs3 := b3.size
      exact ⟨B2.out.trans (BC.mono (by omega)), L2.out.keep (BC.block H hl2), setRow_heap _ _ _ _ _ _ hZ, (lo_rlo lo1).move (fun b hb hl => ⟨by omega, hl⟩) BB.size (fun b _ hl => BB.block b hl), by omega, by rw [size_setRow]; simp⟩
    clear lo1 b3 B2 L2
    go_upto_region 7 with (refine wpList_store_row rfl 28 _ _ rfl w3.heap.size (lkC p.h p.nm (.slice ta p.ts.length tc) (.slice pa p.ps.length pc) (.slice oa p.rs.length oc) (.slice ma p.mo.length mc)) rfl rfl 28 _ hZ (infoLk hh32) (by rw [lkC_size hh32, lkC_size (by simp)]) lkC_one ?_)
    clear hZ
    generalize ((w3.alloc (Obj.cells #[.int .u8 0, .int .u8 0, .int .u8 0, .int .u8 0, .int .u8 0, .int .u8 0, .int .u8 0, .int .u8 0, .int .u8 0, .int .u8 0, .int .u8 0, .int .u8 0, .int .u8 0, .int .u8 0, .int .u8 0, .int .u8 0, .int .u8 0, .int .u8 0, .int .u8 0, .int .u8 0, .int .u8 0, .int .u8 0, .int .u8 0, .int .u8 0, .int .u8 0, .int .u8 0, .int .u8 0, .int .u8 0, .int .u8 0, .int .u8 0, .int .u8 0, .int .u8 0, .string { data := #[] }, .slice .none 0 0, .slice .none 0 0, .slice .none 0 0, .slice .none 0 0] 28)).setRow w3.heap.size (lkC p.h p.nm (.slice ta p.ts.length tc) (.slice pa p.ps.length pc) (.slice oa p.rs.length oc) (.slice ma p.mo.length mc))) = u1 at *
    generalize w3.heap.size = G1 at *
    go_wp2_with fail
    refine (HPA.out u1 J1.out.1).mono ?_
    rintro e w4 ⟨t2, p2, o2, m2, rfl, lo1, b3⟩
    simp only at lo1 ⊢
    obtain ⟨tb, td, rfl⟩ := ownForm lo1.o1
    obtain ⟨pb, pd, rfl⟩ := ownForm lo1.o2
    obtain ⟨ob, od, rfl⟩ := ownForm lo1.o3
    obtain ⟨mb, md, rfl⟩ := ownForm lo1.o4
    have hZ : LB (w4.alloc (Obj.cells #[.int .u8 0, .int .u8 0, .int .u8 0, .int .u8 0, .int .u8 0, .int .u8 0, .int .u8 0, .int .u8 0, .int .u8 0, .int .u8 0, .int .u8 0, .int .u8 0, .int .u8 0, .int .u8 0, .int .u8 0, .int .u8 0, .int .u8 0, .int .u8 0, .int .u8 0, .int .u8 0, .int .u8 0, .int .u8 0, .int .u8 0, .int .u8 0, .int .u8 0, .int .u8 0, .int .u8 0, .int .u8 0, .int .u8 0, .int .u8 0, .int .u8 0, .int .u8 0, .string { data := #[] }, .slice .none 0 0, .slice .none 0 0, .slice .none 0 0, .slice .none 0 0] 28)) w4.heap.size (List.replicate 32 (0 : UInt8)) ⟨#[]⟩ (.slice none 0 0) (.slice none 0 0) (.slice none 0 0) (.slice none 0 0) := heap_new _ _
    have J2 : Hid (Below H w ((w4.alloc (Obj.cells #[.int .u8 0, .int .u8 0, .int .u8 0, .int .u8 0, .int .u8 0, .int .u8 0, .int .u8 0, .int .u8 0, .int .u8 0, .int .u8 0, .int .u8 0, .int .u8 0, .int .u8 0, .int .u8 0, .int .u8 0, .int .u8 0, .int .u8 0, .int .u8 0, .int .u8 0, .int .u8 0, .int .u8 0, .int .u8 0, .int .u8 0, .int .u8 0, .int .u8 0, .int .u8 0, .int .u8 0, .int .u8 0, .int .u8 0, .int .u8 0, .int .u8 0, .int .u8 0, .string { data := #[] }, .slice .none 0 0, .slice .none 0 0, .slice .none 0 0, .slice .none 0 0] 28)).setRow w4.heap.size (lkC p.h p.nm (.slice tb p.ts.length td) (.slice pb p.ps.length pd) (.slice ob p.rs.length od) (.slice mb p.mo.length md))) ∧ LB ((w4.alloc (Obj.cells #[.int .u8 0, .int .u8 0, .int .u8 0, .int .u8 0, .int .u8 0, .int .u8 0, .int .u8 0, .int .u8 0, .int .u8 0, .int .u8 0, .int .u8 0, .int .u8 0, .int .u8 0, .int .u8 0, .int .u8 0, .int .u8 0, .int .u8 0, .int .u8 0, .int .u8 0, .int .u8 0, .int .u8 0, .int .u8 0, .int .u8 0, .int .u8 0, .int .u8 0, .int .u8 0, .int .u8 0, .int .u8 0, .int .u8 0, .int .u8 0, .int .u8 0, .int .u8 0, .string { data := #[] }, .slice .none 0 0, .slice .none 0 0, .slice .none 0 0, .slice .none 0 0] 28)).setRow w4.heap.size (lkC p.h p.nm (.slice tb p.ts.length td) (.slice pb p.ps.length pd) (.slice ob p.rs.length od) (.slice mb p.mo.length md))) H k.l k.nm (.slice ta0 k.ts.length tc0) (.slice pa0 k.ps.length pc0) (.slice oa0 k.rs.length oc0) (.slice ma0 k.dn mc0) ∧ LB ((w4.alloc (Obj.cells #[.int .u8 0, .int .u8 0, .int .u8 0, .int .u8 0, .int .u8 0, .int .u8 0, .int .u8 0, .int .u8 0, .int .u8 0, .int .u8 0, .int .u8 0, .int .u8 0, .int .u8 0, .int .u8 0, .int .u8 0, .int .u8 0, .int .u8 0, .int .u8 0, .int .u8 0, .int .u8 0, .int .u8 0, .int .u8 0, .int .u8 0, .int .u8 0, .int .u8 0, .int .u8 0, .int .u8 0, .int .u8 0, .int .u8 0, .int .u8 0, .int .u8 0, .int .u8 0, .string { data := #[] }, .slice .none 0 0, .slice .none 0 0, .slice .none 0 0, .slice .none 0 0] 28)).setRow w4.heap.size (lkC p.h p.nm (.slice tb p.ts.length td) (.slice pb p.ps.length pd) (.slice ob p.rs.length od) (.slice mb p.mo.length md))) G1 p.h p.nm (.slice ta p.ts.length tc) (.slice pa p.ps.length pc) (.slice oa p.rs.length oc) (.slice ma p.mo.length mc) ∧ LB ((w4.alloc (Obj.cells #[.int .u8 0, .int .u8 0, .int .u8 0, .int .u8 0, .int .u8 0, .int .u8 0, .int .u8 0, .int .u8 0, .int .u8 0, .int .u8 0, .int .u8 0, .int .u8 0, .int .u8 0, .int .u8 0, .int .u8 0, .int .u8 0, .int .u8 0, .int .u8 0, .int .u8 0, .int .u8 0, .int .u8 0, .int .u8 0, .int .u8 0, .int .u8 0, .int .u8 0, .int .u8 0, .int .u8 0, .int .u8 0, .int .u8 0, .int .u8 0, .int .u8 0, .int .u8 0, .string { data := #[] }, .slice .none 0 0, .slice .none 0 0, .slice .none 0 0, .slice .none 0 0] 28)).setRow w4.heap.size (lkC p.h p.nm (.slice tb p.ts.length td) (.slice pb p.ps.length pd) (.slice ob p.rs.length od) (.slice mb p.mo.length md))) w4.heap.size p.h p.nm (.slice tb p.ts.length td) (.slice pb p.ps.length pd) (.slice ob p.rs.length od) (.slice mb p.mo.length md) ∧ RLo (fun b => H < b ∧ b < G1) ((w4.alloc (Obj.cells #[.int .u8 0, .int .u8 0, .int .u8 0, .int .u8 0, .int .u8 0, .int .u8 0, .int .u8 0, .int .u8 0, .int .u8 0, .int .u8 0, .int .u8 0, .int .u8 0, .int .u8 0, .int .u8 0, .int .u8 0, .int .u8 0, .int .u8 0, .int .u8 0, .int .u8 0, .int .u8 0, .int .u8 0, .int .u8 0, .int .u8 0, .int .u8 0, .int .u8 0, .int .u8 0, .int .u8 0, .int .u8 0, .int .u8 0, .int .u8 0, .int .u8 0, .int .u8 0, .string { data := #[] }, .slice .none 0 0, .slice .none 0 0, .slice .none 0 0, .slice .none 0 0] 28)).setRow w4.heap.size (lkC p.h p.nm (.slice tb p.ts.length td) (.slice pb p.ps.length pd) (.slice ob p.rs.length od) (.slice mb p.mo.length md))) (lkOf p) (.slice ta p.ts.length tc) (.slice pa p.ps.length pc) (.slice oa p.rs.length oc) (.slice ma p.mo.length mc) ∧ RLo (fun b => G1 < b ∧ b < w4.heap.size) ((w4.alloc (Obj.cells #[.int .u8 0, .int .u8 0, .int .u8 0, .int .u8 0, .int .u8 0, .int .u8 0, .int .u8 0, .int .u8 0, .int .u8 0, .int .u8 0, .int .u8 0, .int .u8 0, .int .u8 0, .int .u8 0, .int .u8 0, .int .u8 0, .int .u8 0, .int .u8 0, .int .u8 0, .int .u8 0, .int .u8 0, .int .u8 0, .int .u8 0, .int .u8 0, .int .u8 0, .int .u8 0, .int .u8 0, .int .u8 0, .int .u8 0, .int .u8 0, .int .u8 0, .int .u8 0, .string { data := #[] }, .slice .none 0 0, .slice .none 0 0, .slice .none 0 0, .slice .none 0 0] 28)).setRow w4.heap.size (lkC p.h p.nm (.slice tb p.ts.length td) (.slice pb p.ps.length pd) (.slice ob p.rs.length od) (.slice mb p.mo.length md))) (lkOf p) (.slice tb p.ts.length td) (.slice pb p.ps.length pd) (.slice ob p.rs.length od) (.slice mb p.mo.length md) ∧ H < G1 ∧ G1 < w4.heap.size ∧ w4.heap.size < ((w4.alloc (Obj.cells #[.int .u8 0, .int .u8 0, .int .u8 0, .int .u8 0, .int .u8 0, .int .u8 0, .int .u8 0, .int .u8 0, .int .u8 0, .int .u8 0, .int .u8 0, .int .u8 0, .int .u8 0, .int .u8 0, .int .u8 0, .int .u8 0, .int .u8 0, .int .u8 0, .int .u8 0, .int .u8 0, .int .u8 0, .int .u8 0, .int .u8 0, .int .u8 0, .int .u8 0, .int .u8 0, .int .u8 0, .int .u8 0, .int .u8 0, .int .u8 0, .int .u8 0, .int .u8 0, .string { data := #[] }, .slice .none 0 0, .slice .none 0 0, .slice .none 0 0, .slice .none 0 0] 28)).setRow w4.heap.size (lkC p.h p.nm (.slice tb p.ts.length td) (.slice pb p.ps.length pd) (.slice ob p.rs.length od) (.slice mb p.mo.length md))).heap.size) := by
      obtain ⟨j1, j2, j3, j4, j5, j6⟩ := J1.out
      have BB : Below w4.heap.size w4 ((w4.alloc (Obj.cells #[.int .u8 0, .int .u8 0, .int .u8 0, .int .u8 0, .int .u8 0, .int .u8 0, .int .u8 0, .int .u8 0, .int .u8 0, .int .u8 0, .int .u8 0, .int .u8 0, .int .u8 0, .int .u8 0, .int .u8 0, .int .u8 0, .int .u8 0, .int .u8 0, .int .u8 0, .int .u8 0, .int .u8 0, .int .u8 0, .int .u8 0, .int .u8 0, .int .u8 0, .int .u8 0, .int .u8 0, .int .u8 0, .int .u8 0, .int .u8 0, .int .u8 0, .int .u8 0, .string { data := #[] }, .slice .none 0 0, .slice .none 0 0, .slice .none 0 0, .slice .none 0 0] 28)).setRow w4.heap.size (lkC p.h p.nm (.slice tb p.ts.length td) (.slice pb p.ps.length pd) (.slice ob p.rs.length od) (.slice mb p.mo.length md))) := below_setRow ((Below.refl _ _).alloc (Nat.le_refl _) _) (Nat.le_refl _) _
      have BC := b3.trans (BB.mono b3.size)
      have hs3 := b3.size
      exact ⟨j1.trans (BC.mono (by omega)), j2.keep (BC.block H j2.lt), j3.keep (BC.block G1 j3.lt), setRow_heap _ _ _ _ _ _ hZ, j4.below BC, (lo_rlo lo1).move (fun b hb hl => ⟨by omega, hl⟩) BB.size (fun b _ hl => BB.block b hl), j5, by omega, by rw [size_setRow]; simp⟩
    clear lo1 b3 J1
    go_upto_region 8 with (refine wpList_store_row rfl 28 _ _ rfl w4.heap.size (lkC p.h p.nm (.slice tb p.ts.length td) (.slice pb p.ps.length pd) (.slice ob p.rs.length od) (.slice mb p.mo.length md)) rfl rfl 28 _ hZ (infoLk hh32) (by rw [lkC_size hh32, lkC_size (by simp)]) lkC_one ?_)
    clear hZ
    generalize ((w4.alloc (Obj.cells #[.int .u8 0, .int .u8 0, .int .u8 0, .int .u8 0, .int .u8 0, .int .u8 0, .int .u8 0, .int .u8 0, .int .u8 0, .int .u8 0, .int .u8 0, .int .u8 0, .int .u8 0, .int .u8 0, .int .u8 0, .int .u8 0, .int .u8 0, .int .u8 0, .int .u8 0, .int .u8 0, .int .u8 0, .int .u8 0, .int .u8 0, .int .u8 0, .int .u8 0, .int .u8 0, .int .u8 0, .int .u8 0, .int .u8 0, .int .u8 0, .int .u8 0, .int .u8 0, .string { data := #[] }, .slice .none 0 0, .slice .none 0 0, .slice .none 0 0, .slice .none 0 0] 28)).setRow w4.heap.size (lkC p.h p.nm (.slice tb p.ts.length td) (.slice pb p.ps.length pd) (.slice ob p.rs.length od) (.slice mb p.mo.length md))) = u2 at *
    generalize w4.heap.size = G2 at *
    have HTW := Lib.hid (linkTwinO k (.slice ta0 k.ts.length tc0) (.slice pa0 k.ps.length pc0) (.slice oa0 k.rs.length oc0) (.slice ma0 k.dn mc0) u2 HA.out.1 HSM.out.1 (HA.out.2.2.2 u2 J2.out.1))
    go_wp2_with (first | (refine load_link_ifO rfl _ rfl H rfl J2.out.2.1 hl ?_))
    refine HTW.out.mono ?_
    rintro e w5 ⟨t3, p3, o3, m3, rfl, r5, b5⟩
    obtain ⟨te, tf, rfl⟩ := OwS.form r5.o1
    obtain ⟨pf, pg, rfl⟩ := OwS.form r5.o2
    obtain ⟨oe, og, rfl⟩ := OwS.form r5.o3
    obtain ⟨me, mf, rfl⟩ := r5.o4.form
    have hZ : LB (w5.alloc (Obj.cells #[.int .u8 0, .int .u8 0, .int .u8 0, .int .u8 0, .int .u8 0, .int .u8 0, .int .u8 0, .int .u8 0, .int .u8 0, .int .u8 0, .int .u8 0, .int .u8 0, .int .u8 0, .int .u8 0, .int .u8 0, .int .u8 0, .int .u8 0, .int .u8 0, .int .u8 0, .int .u8 0, .int .u8 0, .int .u8 0, .int .u8 0, .int .u8 0, .int .u8 0, .int .u8 0, .int .u8 0, .int .u8 0, .int .u8 0, .int .u8 0, .int .u8 0, .int .u8 0, .string { data := #[] }, .slice .none 0 0, .slice .none 0 0, .slice .none 0 0, .slice .none 0 0] 28)) w5.heap.size (List.replicate 32 (0 : UInt8)) ⟨#[]⟩ (.slice none 0 0) (.slice none 0 0) (.slice none 0 0) (.slice none 0 0) := heap_new _ _
    have J3 : Hid (PB w ((w5.alloc (Obj.cells #[.int .u8 0, .int .u8 0, .int .u8 0, .int .u8 0, .int .u8 0, .int .u8 0, .int .u8 0, .int .u8 0, .int .u8 0, .int .u8 0, .int .u8 0, .int .u8 0, .int .u8 0, .int .u8 0, .int .u8 0, .int .u8 0, .int .u8 0, .int .u8 0, .int .u8 0, .int .u8 0, .int .u8 0, .int .u8 0, .int .u8 0, .int .u8 0, .int .u8 0, .int .u8 0, .int .u8 0, .int .u8 0, .int .u8 0, .int .u8 0, .int .u8 0, .int .u8 0, .string { data := #[] }, .slice .none 0 0, .slice .none 0 0, .slice .none 0 0, .slice .none 0 0] 28)).setRow w5.heap.size (lkC k.l k.nm (.slice te k.ts.length tf) (.slice pf k.ps.length pg) (.slice oe k.rs.length og) (.slice me k.dn mf))) H G1 G2 w5.heap.size k (.slice ta0 k.ts.length tc0) (.slice pa0 k.ps.length pc0) (.slice oa0 k.rs.length oc0) (.slice ma0 k.dn mc0) (lkOf p) (.slice ta p.ts.length tc) (.slice pa p.ps.length pc) (.slice oa p.rs.length oc) (.slice ma p.mo.length mc) (.slice tb p.ts.length td) (.slice pb p.ps.length pd) (.slice ob p.rs.length od) (.slice mb p.mo.length md) (.slice te k.ts.length tf) (.slice pf k.ps.length pg) (.slice oe k.rs.length og) (.slice me k.dn mf)) := by
      obtain ⟨j1, j2, j3, j4, j5, j6, j7, j8, j9⟩ := J2.out
      have BB : Below w5.heap.size w5 ((w5.alloc (Obj.cells #[.int .u8 0, .int .u8 0, .int .u8 0, .int .u8 0, .int .u8 0, .int .u8 0, .int .u8 0, .int .u8 0, .int .u8 0, .int .u8 0, .int .u8 0, .int .u8 0, .int .u8 0, .int .u8 0, .int .u8 0, .int .u8 0, .int .u8 0, .int .u8 0, .int .u8 0, .int .u8 0, .int .u8 0, .int .u8 0, .int .u8 0, .int .u8 0, .int .u8 0, .int .u8 0, .int .u8 0, .int .u8 0, .int .u8 0, .int .u8 0, .int .u8 0, .int .u8 0, .string { data := #[] }, .slice .none 0 0, .slice .none 0 0, .slice .none 0 0, .slice .none 0 0] 28)).setRow w5.heap.size (lkC k.l k.nm (.slice te k.ts.length tf) (.slice pf k.ps.length pg) (.slice oe k.rs.length og) (.slice me k.dn mf))) := below_setRow ((Below.refl _ _).alloc (Nat.le_refl _) _) (Nat.le_refl _) _
      have BC := b5.trans (BB.mono b5.size)
      have hs3 := b5.size
      refine ⟨?_, j2.keep (BC.block H j2.lt), j3.keep (BC.block G1 j3.lt), j4.keep (BC.block G2 j4.lt), setRow_heap _ _ _ _ _ _ hZ, j5.below BC, j6.below BC, r5.move (fun b hb hl => ⟨by omega, by omega⟩) BB.size (fun b _ hl => BB.block b hl), Nat.le_of_eq HS.out, j7, j8, by omega⟩
      rw [HS.out]
      exact j1.trans (BC.mono (by omega))
    clear r5 b5 J2 HTW
    go_upto_region 9 with (refine wpList_store_row rfl 28 _ _ rfl w5.heap.size (lkC k.l k.nm (.slice te k.ts.length tf) (.slice pf k.ps.length pg) (.slice oe k.rs.length og) (.slice me k.dn mf)) rfl rfl 28 _ hZ (infoLk hl) (by rw [lkC_size hl, lkC_size (by simp)]) lkC_one ?_)
    clear hZ
    generalize ((w5.alloc (Obj.cells #[.int .u8 0, .int .u8 0, .int .u8 0, .int .u8 0, .int .u8 0, .int .u8 0, .int .u8 0, .int .u8 0, .int .u8 0, .int .u8 0, .int .u8 0, .int .u8 0, .int .u8 0, .int .u8 0, .int .u8 0, .int .u8 0, .int .u8 0, .int .u8 0, .int .u8 0, .int .u8 0, .int .u8 0, .int .u8 0, .int .u8 0, .int .u8 0, .int .u8 0, .int .u8 0, .int .u8 0, .int .u8 0, .int .u8 0, .int .u8 0, .int .u8 0, .int .u8 0, .string { data := #[] }, .slice .none 0 0, .slice .none 0 0, .slice .none 0 0, .slice .none 0 0] 28)).setRow w5.heap.size (lkC k.l k.nm (.slice te k.ts.length tf) (.slice pf k.ps.length pg) (.slice oe k.rs.length og) (.slice me k.dn mf))) = u3 at *
    generalize w5.heap.size = G3 at *
    have bd1 : Below u3.heap.size u3 u3.drew := ⟨rfl, rfl, rfl, Nat.le_refl _, fun _ _ => rfl⟩
    have ba1 : Below u3.heap.size u3 (u3.alloc (Obj.cells #[.string { data := #[115, 112, 97, 114, 101] }] 9)).drew := ((Below.refl _ _).alloc (Nat.le_refl _) _).trans ((belowDrew1 _).mono (by simp))
    have JD := J3.out.below bd1
    have JA := J3.out.below ba1
    obtain ⟨g1, c1, wv, hrun, hrow, hgr, hat⟩ := ap_run (w := (u3.alloc (Obj.cells #[.string { data := #[115, 112, 97, 114, 101] }] 9)).drew) (t := 24) (e := 9) (sz := 1) (b := u3.heap.size) (us := [.string { data := #[115, 112, 97, 114, 101] }]) Tryz.underlying24 info9 rfl (by omega) JA.r3.o1.1 rfl (by intro u hu; simp at hu; subst hu; rfl) (heap_new u3 _) HSM.out.1.ts (by omega)
    have FG : Fr (fun b => Value.ownBlock (.slice te k.ts.length tf) ≠ some b) (u3.alloc (Obj.cells #[.string { data := #[115, 112, 97, 114, 101] }] 9)).drew wv := ⟨hgr.os, hgr.tape, hgr.output, hgr.size, fun b hb hn => hgr.block b hb (fun e => hn e.symm)⟩
    obtain ⟨jf, jc, jg, jn⟩ := JA.apT hl FG hrow (by rcases hat with h | h; exact .inl h; exact .inr (by omega))
    have ls : ∀ b, b = G3 ∨ b = H → wv.heap[b]? = (u3.alloc (Obj.cells #[.string { data := #[115, 112, 97, 114, 101] }] 9)).drew.heap[b]? := fun b hb => by
      rcases hb with rfl | rfl
      · exact FG.block _ JA.l3.lt (fun e => (JA.r3.o1.2 _ e).2 rfl)
      · exact FG.block _ JA.l0.lt (fun e => by have := (JA.r3.o1.2 _ e).1; have := JA.h1; have := JA.h2; omega)
    have cD := (JD.l0.cells hl).2.1
    have cA := (JA.l0.cells hl).2.1
    have sD2 : u3.cell? ⟨G3, 33, none⟩ = some (.slice te k.ts.length tf) := (JD.l3.cells hl).2.1
    have cW := ((JA.l0.keep (ls H (.inr rfl))).cells hl).2.1
    have cF := (jf.l0.cells hl).2.1
    have sD := (JD.l3.cells hl).2.1
    have sA : (u3.alloc (Obj.cells #[.string { data := #[115, 112, 97, 114, 101] }] 9)).cell? ⟨G3, 33, none⟩ = some (.slice te k.ts.length tf) := (JA.l3.cells hl).2.1
    have sW := ((JA.l3.keep (ls G3 (.inl rfl))).cells hl).2.1
    have fW := (JA.l3.keep (ls G3 (.inl rfl))).frozen 33
    have J4 : Hid (PB w (wv.setCell ⟨G3, 33, none⟩ (.slice (some ⟨g1, 0, none⟩) k.ts.length c1)) H G1 G2 G3 k (.slice ta0 k.ts.length tc0) (.slice pa0 k.ps.length pc0) (.slice oa0 k.rs.length oc0) (.slice ma0 k.dn mc0) (lkOf p) (.slice ta p.ts.length tc) (.slice pa p.ps.length pc) (.slice oa p.rs.length oc) (.slice ma p.mo.length mc) (.slice tb p.ts.length td) (.slice pb p.ps.length pd) (.slice ob p.rs.length od) (.slice mb p.mo.length md) (.slice (some ⟨g1, 0, none⟩) k.ts.length c1) (.slice pf k.ps.length pg) (.slice oe k.rs.length og) (.slice me k.dn mf)) := jf
    have HC1 : Hid (k.ts.length + 1 ≤ c1 ∧ g1 ≠ G3 ∧ ∀ j, j < 1 → (wv.setCell ⟨G3, 33, none⟩ (.slice (some ⟨g1, 0, none⟩) k.ts.length c1)).cell? ⟨g1, k.ts.length * 1 + j, none⟩ = ([.string { data := #[115, 112, 97, 114, 101] }] : List Value)[j]?) := ⟨jc, jg, jn⟩
    clear JD JA jf jg jn FG hgr hrow hat ba1 bd1 ls 
    refine wp_meet (W := (wv.setCell ⟨G3, 33, none⟩ (.slice (some ⟨g1, 0, none⟩) k.ts.length c1))) ?_
    apply Exists.intro
    refine And.intro ?_ ?_
    · refine wp_region_held_drew (S := fun x => x.cell? ⟨H, 33, none⟩ = some (.slice ta0 k.ts.length tc0)) (by kernel_rfl) (cD) (fun hHeld => ?_)
      refine wpAnyH_take (i := 0) (v := .pointer (some ⟨G3, 33, none⟩)) rfl (by kernel_rfl) (by kernel_rfl) (by kernel_rfl) (fun _ _ _ h => nomatch h.1) (Or.inl ⟨by rfl, fun w hw => by go_simp⟩) hHeld ?_
      simp only [Act.put, List.getElem_toArray, List.getElem_cons_zero, List.setIfInBounds_toArray, List.set_cons_zero, List.set_cons_succ]
      refine wpAnyH_take (i := 4) (v := .pointer (some ⟨H, 33, none⟩)) rfl (by kernel_rfl) (by kernel_rfl) (by kernel_rfl) (fun _ _ _ h => nomatch h.1) (Or.inl ⟨by rfl, fun w hw => by go_simp⟩) hHeld ?_
      simp only [Act.put, List.getElem_toArray, List.getElem_cons_zero, List.getElem_cons_succ, List.setIfInBounds_toArray, List.set_cons_zero, List.set_cons_succ]
      refine wpAnyH_take (i := 5) (v := (.slice ta0 k.ts.length tc0)) rfl (by kernel_rfl) (by kernel_rfl) (by kernel_rfl) (fun _ _ _ h => nomatch h.1) (Or.inl ⟨by rfl, fun w hw => by have s1 := hw; go_simp⟩) hHeld ?_
      simp only [Act.put, List.getElem_toArray, List.getElem_cons_zero, List.getElem_cons_succ, List.setIfInBounds_toArray, List.set_cons_zero, List.set_cons_succ]
      refine wpAnyH_take (i := 6) (v := .int .i64 (k.ts.length : Int)) rfl (by kernel_rfl) (by kernel_rfl) (by kernel_rfl) (fun _ _ _ h => nomatch h.1) (Or.inl ⟨by rfl, fun w hw => by go_simp⟩) hHeld ?_
      simp only [Act.put, List.getElem_toArray, List.getElem_cons_zero, List.getElem_cons_succ, List.setIfInBounds_toArray, List.set_cons_zero, List.set_cons_succ]
      refine wpAnyH_ready (rs := [1, 2]) (by kernel_rfl) (by simp) ?_
      refine AllReadyH.cons (o := _) rfl (fun K hK => ?_) (AllReadyH.cons (o := _) rfl (fun K hK => ?_) AllReadyH.nil)
      · go_simp
        refine hK.out _ _ cD (fun hHeld => ?_)
        clear hK K
        refine wpAnyH_ready (rs := [2]) (by kernel_rfl) (by simp) ?_
        refine AllReadyH.cons (o := _) rfl (fun K hK => ?_) AllReadyH.nil
        go_simp
        refine hK.out _ _ cA (fun hHeld => ?_)
        clear hK K
        refine wpAnyH_ready (rs := [3]) (by kernel_rfl) (by simp) ?_
        refine AllReadyH.cons (o := _) rfl (fun K hK => ?_) AllReadyH.nil
        rw [if_pos (show Region.wanted _ _ = true by kernel_rfl)]
        refine wp_append_gen _ _ rfl rfl rfl hrun ?_
        simp only [Act.put, List.getElem_toArray, List.getElem_cons_zero, List.getElem_cons_succ, List.setIfInBounds_toArray, List.set_cons_zero, List.set_cons_succ]
        refine hK.out _ _ cW (fun hHeld => ?_)
        clear hK K
        refine wpAnyH_take (i := 7) (v := (.slice (some ⟨g1, 0, none⟩) k.ts.length c1)) rfl (by kernel_rfl) (by kernel_rfl) (by kernel_rfl) (fun _ _ _ h => nomatch h.1) (Or.inl ⟨by rfl, fun w hw => by (go_simp; intro h9; exact absurd h9 (by omega))⟩) hHeld ?_
        simp only [Act.put, List.getElem_toArray, List.getElem_cons_zero, List.getElem_cons_succ, List.setIfInBounds_toArray, List.set_cons_zero, List.set_cons_succ]
        refine wpAnyH_take (i := 8) (v := .pointer (some ⟨G3, 33, none⟩)) rfl (by kernel_rfl) (by kernel_rfl) (by kernel_rfl) (fun _ _ _ h => nomatch h.1) (Or.inl ⟨by rfl, fun w hw => by go_simp⟩) hHeld ?_
        simp only [Act.put, List.getElem_toArray, List.getElem_cons_zero, List.getElem_cons_succ, List.setIfInBounds_toArray, List.set_cons_zero, List.set_cons_succ]
        refine wpAnyH_ready (rs := [9]) (by kernel_rfl) (by simp) ?_
        refine AllReadyH.cons (o := _) rfl (fun K hK => ?_) AllReadyH.nil
        go_simp
        refine hK.out _ _ cF (fun hHeld => ?_)
        clear hK K
        refine wpAnyH_done (by kernel_rfl) ?_ _
        clear hHeld
        exact ⟨rfl, rfl, rfl⟩
      · go_simp
        refine hK.out _ _ cA (fun hHeld => ?_)
        clear hK K
        refine wpAnyH_ready (rs := [1]) (by kernel_rfl) (by simp) ?_
        refine AllReadyH.cons (o := _) rfl (fun K hK => ?_) AllReadyH.nil
        go_simp
        refine hK.out _ _ cA (fun hHeld => ?_)
        clear hK K
        refine wpAnyH_ready (rs := [3]) (by kernel_rfl) (by simp) ?_
        refine AllReadyH.cons (o := _) rfl (fun K hK => ?_) AllReadyH.nil
        rw [if_pos (show Region.wanted _ _ = true by kernel_rfl)]
        refine wp_append_gen _ _ rfl rfl rfl hrun ?_
        simp only [Act.put, List.getElem_toArray, List.getElem_cons_zero, List.getElem_cons_succ, List.setIfInBounds_toArray, List.set_cons_zero, List.set_cons_succ]
        refine hK.out _ _ cW (fun hHeld => ?_)
        clear hK K
        refine wpAnyH_take (i := 7) (v := (.slice (some ⟨g1, 0, none⟩) k.ts.length c1)) rfl (by kernel_rfl) (by kernel_rfl) (by kernel_rfl) (fun _ _ _ h => nomatch h.1) (Or.inl ⟨by rfl, fun w hw => by (go_simp; intro h9; exact absurd h9 (by omega))⟩) hHeld ?_
        simp only [Act.put, List.getElem_toArray, List.getElem_cons_zero, List.getElem_cons_succ, List.setIfInBounds_toArray, List.set_cons_zero, List.set_cons_succ]
        refine wpAnyH_take (i := 8) (v := .pointer (some ⟨G3, 33, none⟩)) rfl (by kernel_rfl) (by kernel_rfl) (by kernel_rfl) (fun _ _ _ h => nomatch h.1) (Or.inl ⟨by rfl, fun w hw => by go_simp⟩) hHeld ?_
        simp only [Act.put, List.getElem_toArray, List.getElem_cons_zero, List.getElem_cons_succ, List.setIfInBounds_toArray, List.set_cons_zero, List.set_cons_succ]
        refine wpAnyH_ready (rs := [9]) (by kernel_rfl) (by simp) ?_
        refine AllReadyH.cons (o := _) rfl (fun K hK => ?_) AllReadyH.nil
        go_simp
        refine hK.out _ _ cF (fun hHeld => ?_)
        clear hK K
        refine wpAnyH_done (by kernel_rfl) ?_ _
        clear hHeld
        exact ⟨rfl, rfl, rfl⟩
    clear hrun cD cA cW cF sD sD2 sA sW fW J3 jc
    generalize (wv.setCell ⟨G3, 33, none⟩ (.slice (some ⟨g1, 0, none⟩) k.ts.length c1)) = u4 at *
    clear wv
    go_upto_region 10 with fail
    have bd2 : Below u4.heap.size u4 u4.drew := ⟨rfl, rfl, rfl, Nat.le_refl _, fun _ _ => rfl⟩
    have ba2 : Below u4.heap.size u4 (u4.alloc (Obj.cells #[.string { data := #[115, 112, 97, 114, 101] }] 9)).drew := ((Below.refl _ _).alloc (Nat.le_refl _) _).trans ((belowDrew1 _).mono (by simp))
    have JD := J4.out.below bd2
    have JA := J4.out.below ba2
    obtain ⟨g2, c2, wv, hrun, hrow, hgr, hat⟩ := ap_run (w := (u4.alloc (Obj.cells #[.string { data := #[115, 112, 97, 114, 101] }] 9)).drew) (t := 24) (e := 9) (sz := 1) (b := u4.heap.size) (us := [.string { data := #[115, 112, 97, 114, 101] }]) Tryz.underlying24 info9 rfl (by omega) JA.r3.o2.1 rfl (by intro u hu; simp at hu; subst hu; rfl) (heap_new u4 _) HSM.out.1.ps (by omega)
    have FG : Fr (fun b => Value.ownBlock (.slice pf k.ps.length pg) ≠ some b) (u4.alloc (Obj.cells #[.string { data := #[115, 112, 97, 114, 101] }] 9)).drew wv := ⟨hgr.os, hgr.tape, hgr.output, hgr.size, fun b hb hn => hgr.block b hb (fun e => hn e.symm)⟩
    obtain ⟨jf, jc, jg, jn⟩ := JA.apP hl FG hrow (by rcases hat with h | h; exact .inl h; exact .inr (by omega))
    have ls : ∀ b, b = G3 ∨ b = H → wv.heap[b]? = (u4.alloc (Obj.cells #[.string { data := #[115, 112, 97, 114, 101] }] 9)).drew.heap[b]? := fun b hb => by
      rcases hb with rfl | rfl
      · exact FG.block _ JA.l3.lt (fun e => (JA.r3.o2.2 _ e).2 rfl)
      · exact FG.block _ JA.l0.lt (fun e => by have := (JA.r3.o2.2 _ e).1; have := JA.h1; have := JA.h2; omega)
    have cD := (JD.l0.cells hl).2.2.1
    have cA := (JA.l0.cells hl).2.2.1
    have sD2 : u4.cell? ⟨G3, 34, none⟩ = some (.slice pf k.ps.length pg) := (JD.l3.cells hl).2.2.1
    have cW := ((JA.l0.keep (ls H (.inr rfl))).cells hl).2.2.1
    have cF := (jf.l0.cells hl).2.2.1
    have sD := (JD.l3.cells hl).2.2.1
    have sA : (u4.alloc (Obj.cells #[.string { data := #[115, 112, 97, 114, 101] }] 9)).cell? ⟨G3, 34, none⟩ = some (.slice pf k.ps.length pg) := (JA.l3.cells hl).2.2.1
    have sW := ((JA.l3.keep (ls G3 (.inl rfl))).cells hl).2.2.1
    have fW := (JA.l3.keep (ls G3 (.inl rfl))).frozen 34
    have J5 : Hid (PB w (wv.setCell ⟨G3, 34, none⟩ (.slice (some ⟨g2, 0, none⟩) k.ps.length c2)) H G1 G2 G3 k (.slice ta0 k.ts.length tc0) (.slice pa0 k.ps.length pc0) (.slice oa0 k.rs.length oc0) (.slice ma0 k.dn mc0) (lkOf p) (.slice ta p.ts.length tc) (.slice pa p.ps.length pc) (.slice oa p.rs.length oc) (.slice ma p.mo.length mc) (.slice tb p.ts.length td) (.slice pb p.ps.length pd) (.slice ob p.rs.length od) (.slice mb p.mo.length md) (.slice (some ⟨g1, 0, none⟩) k.ts.length c1) (.slice (some ⟨g2, 0, none⟩) k.ps.length c2) (.slice oe k.rs.length og) (.slice me k.dn mf)) := jf
    have HC2 : Hid (k.ps.length + 1 ≤ c2 ∧ g2 ≠ G3 ∧ ∀ j, j < 1 → (wv.setCell ⟨G3, 34, none⟩ (.slice (some ⟨g2, 0, none⟩) k.ps.length c2)).cell? ⟨g2, k.ps.length * 1 + j, none⟩ = ([.string { data := #[115, 112, 97, 114, 101] }] : List Value)[j]?) := ⟨jc, jg, jn⟩
    replace HC1 : Hid (k.ts.length + 1 ≤ c1 ∧ g1 ≠ G3 ∧ ∀ j, j < 1 → (wv.setCell ⟨G3, 34, none⟩ (.slice (some ⟨g2, 0, none⟩) k.ps.length c2)).cell? ⟨g1, k.ts.length * 1 + j, none⟩ = ([.string { data := #[115, 112, 97, 114, 101] }] : List Value)[j]?) := by
      obtain ⟨q1, q2, q3⟩ := HC1.out
      have qb : (wv.setCell ⟨G3, 34, none⟩ (.slice (some ⟨g2, 0, none⟩) k.ps.length c2)).heap[g1]? = u4.heap[g1]? := (Below.heap_setCell _ _ _ _ (by show g1 ≠ G3; exact q2)).trans ((FG.block _ (Nat.lt_of_lt_of_le (OwS.lt J4.out.r3.o1 rfl) ba2.size) (fun e => J4.out.r3.d1 g1 rfl e)).trans (ba2.block _ (OwS.lt J4.out.r3.o1 rfl)))
      exact ⟨q1, q2, fun j hj => (World.cell?_of_block (w := u4) (a := ⟨g1, k.ts.length * 1 + j, none⟩) qb).trans (q3 j hj)⟩
    clear JD JA jf jg jn FG hgr hrow hat ba2 bd2 ls 
    refine wp_meet (W := (wv.setCell ⟨G3, 34, none⟩ (.slice (some ⟨g2, 0, none⟩) k.ps.length c2))) ?_
    apply Exists.intro
    refine And.intro ?_ ?_
    · refine wp_region_held_drew (S := fun x => x.cell? ⟨H, 34, none⟩ = some (.slice pa0 k.ps.length pc0)) (by kernel_rfl) (cD) (fun hHeld => ?_)
      refine wpAnyH_take (i := 0) (v := .pointer (some ⟨G3, 34, none⟩)) rfl (by kernel_rfl) (by kernel_rfl) (by kernel_rfl) (fun _ _ _ h => nomatch h.1) (Or.inl ⟨by rfl, fun w hw => by go_simp⟩) hHeld ?_
      simp only [Act.put, List.getElem_toArray, List.getElem_cons_zero, List.setIfInBounds_toArray, List.set_cons_zero, List.set_cons_succ]
      refine wpAnyH_take (i := 4) (v := .pointer (some ⟨H, 34, none⟩)) rfl (by kernel_rfl) (by kernel_rfl) (by kernel_rfl) (fun _ _ _ h => nomatch h.1) (Or.inl ⟨by rfl, fun w hw => by go_simp⟩) hHeld ?_
      simp only [Act.put, List.getElem_toArray, List.getElem_cons_zero, List.getElem_cons_succ, List.setIfInBounds_toArray, List.set_cons_zero, List.set_cons_succ]
      refine wpAnyH_take (i := 5) (v := (.slice pa0 k.ps.length pc0)) rfl (by kernel_rfl) (by kernel_rfl) (by kernel_rfl) (fun _ _ _ h => nomatch h.1) (Or.inl ⟨by rfl, fun w hw => by have s1 := hw; go_simp⟩) hHeld ?_
      simp only [Act.put, List.getElem_toArray, List.getElem_cons_zero, List.getElem_cons_succ, List.setIfInBounds_toArray, List.set_cons_zero, List.set_cons_succ]
      refine wpAnyH_take (i := 6) (v := .int .i64 (k.ps.length : Int)) rfl (by kernel_rfl) (by kernel_rfl) (by kernel_rfl) (fun _ _ _ h => nomatch h.1) (Or.inl ⟨by rfl, fun w hw => by go_simp⟩) hHeld ?_
      simp only [Act.put, List.getElem_toArray, List.getElem_cons_zero, List.getElem_cons_succ, List.setIfInBounds_toArray, List.set_cons_zero, List.set_cons_succ]
      refine wpAnyH_ready (rs := [1, 2]) (by kernel_rfl) (by simp) ?_
      refine AllReadyH.cons (o := _) rfl (fun K hK => ?_) (AllReadyH.cons (o := _) rfl (fun K hK => ?_) AllReadyH.nil)
      · go_simp
        refine hK.out _ _ cD (fun hHeld => ?_)
        clear hK K
        refine wpAnyH_ready (rs := [2]) (by kernel_rfl) (by simp) ?_
        refine AllReadyH.cons (o := _) rfl (fun K hK => ?_) AllReadyH.nil
        go_simp
        refine hK.out _ _ cA (fun hHeld => ?_)
        clear hK K
        refine wpAnyH_ready (rs := [3]) (by kernel_rfl) (by simp) ?_
        refine AllReadyH.cons (o := _) rfl (fun K hK => ?_) AllReadyH.nil
        rw [if_pos (show Region.wanted _ _ = true by kernel_rfl)]
        refine wp_append_gen _ _ rfl rfl rfl hrun ?_
        simp only [Act.put, List.getElem_toArray, List.getElem_cons_zero, List.getElem_cons_succ, List.setIfInBounds_toArray, List.set_cons_zero, List.set_cons_succ]
        refine hK.out _ _ cW (fun hHeld => ?_)
        clear hK K
        refine wpAnyH_take (i := 7) (v := (.slice (some ⟨g2, 0, none⟩) k.ps.length c2)) rfl (by kernel_rfl) (by kernel_rfl) (by kernel_rfl) (fun _ _ _ h => nomatch h.1) (Or.inl ⟨by rfl, fun w hw => by (go_simp; intro h9; exact absurd h9 (by omega))⟩) hHeld ?_
        simp only [Act.put, List.getElem_toArray, List.getElem_cons_zero, List.getElem_cons_succ, List.setIfInBounds_toArray, List.set_cons_zero, List.set_cons_succ]
        refine wpAnyH_take (i := 8) (v := .pointer (some ⟨G3, 34, none⟩)) rfl (by kernel_rfl) (by kernel_rfl) (by kernel_rfl) (fun _ _ _ h => nomatch h.1) (Or.inl ⟨by rfl, fun w hw => by go_simp⟩) hHeld ?_
        simp only [Act.put, List.getElem_toArray, List.getElem_cons_zero, List.getElem_cons_succ, List.setIfInBounds_toArray, List.set_cons_zero, List.set_cons_succ]
        refine wpAnyH_ready (rs := [9]) (by kernel_rfl) (by simp) ?_
        refine AllReadyH.cons (o := _) rfl (fun K hK => ?_) AllReadyH.nil
        go_simp
        refine hK.out _ _ cF (fun hHeld => ?_)
        clear hK K
        refine wpAnyH_done (by kernel_rfl) ?_ _
        clear hHeld
        exact ⟨rfl, rfl, rfl⟩
      · go_simp
        refine hK.out _ _ cA (fun hHeld => ?_)
        clear hK K
        refine wpAnyH_ready (rs := [1]) (by kernel_rfl) (by simp) ?_
        refine AllReadyH.cons (o := _) rfl (fun K hK => ?_) AllReadyH.nil
        go_simp
        refine hK.out _ _ cA (fun hHeld => ?_)
        clear hK K
        refine wpAnyH_ready (rs := [3]) (by kernel_rfl) (by simp) ?_
        refine AllReadyH.cons (o := _) rfl (fun K hK => ?_) AllReadyH.nil
        rw [if_pos (show Region.wanted _ _ = true by kernel_rfl)]
        refine wp_append_gen _ _ rfl rfl rfl hrun ?_
        simp only [Act.put, List.getElem_toArray, List.getElem_cons_zero, List.getElem_cons_succ, List.setIfInBounds_toArray, List.set_cons_zero, List.set_cons_succ]
        refine hK.out _ _ cW (fun hHeld => ?_)
        clear hK K
        refine wpAnyH_take (i := 7) (v := (.slice (some ⟨g2, 0, none⟩) k.ps.length c2)) rfl (by kernel_rfl) (by kernel_rfl) (by kernel_rfl) (fun _ _ _ h => nomatch h.1) (Or.inl ⟨by rfl, fun w hw => by (go_simp; intro h9; exact absurd h9 (by omega))⟩) hHeld ?_
        simp only [Act.put, List.getElem_toArray, List.getElem_cons_zero, List.getElem_cons_succ, List.setIfInBounds_toArray, List.set_cons_zero, List.set_cons_succ]
        refine wpAnyH_take (i := 8) (v := .pointer (some ⟨G3, 34, none⟩)) rfl (by kernel_rfl) (by kernel_rfl) (by kernel_rfl) (fun _ _ _ h => nomatch h.1) (Or.inl ⟨by rfl, fun w hw => by go_simp⟩) hHeld ?_
        simp only [Act.put, List.getElem_toArray, List.getElem_cons_zero, List.getElem_cons_succ, List.setIfInBounds_toArray, List.set_cons_zero, List.set_cons_succ]
        refine wpAnyH_ready (rs := [9]) (by kernel_rfl) (by simp) ?_
        refine AllReadyH.cons (o := _) rfl (fun K hK => ?_) AllReadyH.nil
        go_simp
        refine hK.out _ _ cF (fun hHeld => ?_)
        clear hK K
        refine wpAnyH_done (by kernel_rfl) ?_ _
        clear hHeld
        exact ⟨rfl, rfl, rfl⟩
    clear hrun cD cA cW cF sD sD2 sA sW fW J4 jc
    generalize (wv.setCell ⟨G3, 34, none⟩ (.slice (some ⟨g2, 0, none⟩) k.ps.length c2)) = u5 at *
    clear wv
    go_upto_region 11 with fail
    have bd3 : Below u5.heap.size u5 u5.drew := ⟨rfl, rfl, rfl, Nat.le_refl _, fun _ _ => rfl⟩
    have ba3 : Below u5.heap.size u5 (u5.alloc (Obj.cells #[.int .i64 (-1), .int .i64 0] 36)).drew := ((Below.refl _ _).alloc (Nat.le_refl _) _).trans ((belowDrew1 _).mono (by simp))
    have JD := J5.out.below bd3
    have JA := J5.out.below ba3
    obtain ⟨g3, c3, wv, hrun, hrow, hgr, hat⟩ := ap_run (w := (u5.alloc (Obj.cells #[.int .i64 (-1), .int .i64 0] 36)).drew) (t := 25) (e := 36) (sz := 2) (b := u5.heap.size) (us := [.int .i64 (-1), .int .i64 0]) Tryz.underlying25 infoRng rfl (by omega) JA.r3.o3.1 rfl (by intro u hu; simp at hu; rcases hu with rfl | rfl <;> rfl) (heap_new u5 _) HSM.out.1.rs (by omega)
    have FG : Fr (fun b => Value.ownBlock (.slice oe k.rs.length og) ≠ some b) (u5.alloc (Obj.cells #[.int .i64 (-1), .int .i64 0] 36)).drew wv := ⟨hgr.os, hgr.tape, hgr.output, hgr.size, fun b hb hn => hgr.block b hb (fun e => hn e.symm)⟩
    obtain ⟨jf, jc, jg, jn⟩ := JA.apO hl FG hrow (by rcases hat with h | h; exact .inl h; exact .inr (by omega))
    have ls : ∀ b, b = G3 ∨ b = H → wv.heap[b]? = (u5.alloc (Obj.cells #[.int .i64 (-1), .int .i64 0] 36)).drew.heap[b]? := fun b hb => by
      rcases hb with rfl | rfl
      · exact FG.block _ JA.l3.lt (fun e => (JA.r3.o3.2 _ e).2 rfl)
      · exact FG.block _ JA.l0.lt (fun e => by have := (JA.r3.o3.2 _ e).1; have := JA.h1; have := JA.h2; omega)
    have cD := (JD.l0.cells hl).2.2.2.1
    have cA := (JA.l0.cells hl).2.2.2.1
    have sD2 : u5.cell? ⟨G3, 35, none⟩ = some (.slice oe k.rs.length og) := (JD.l3.cells hl).2.2.2.1
    have cW := ((JA.l0.keep (ls H (.inr rfl))).cells hl).2.2.2.1
    have cF := (jf.l0.cells hl).2.2.2.1
    have sD := (JD.l3.cells hl).2.2.2.1
    have sA : (u5.alloc (Obj.cells #[.int .i64 (-1), .int .i64 0] 36)).cell? ⟨G3, 35, none⟩ = some (.slice oe k.rs.length og) := (JA.l3.cells hl).2.2.2.1
    have sW := ((JA.l3.keep (ls G3 (.inl rfl))).cells hl).2.2.2.1
    have fW := (JA.l3.keep (ls G3 (.inl rfl))).frozen 35
    have J6 : Hid (PB w (wv.setCell ⟨G3, 35, none⟩ (.slice (some ⟨g3, 0, none⟩) k.rs.length c3)) H G1 G2 G3 k (.slice ta0 k.ts.length tc0) (.slice pa0 k.ps.length pc0) (.slice oa0 k.rs.length oc0) (.slice ma0 k.dn mc0) (lkOf p) (.slice ta p.ts.length tc) (.slice pa p.ps.length pc) (.slice oa p.rs.length oc) (.slice ma p.mo.length mc) (.slice tb p.ts.length td) (.slice pb p.ps.length pd) (.slice ob p.rs.length od) (.slice mb p.mo.length md) (.slice (some ⟨g1, 0, none⟩) k.ts.length c1) (.slice (some ⟨g2, 0, none⟩) k.ps.length c2) (.slice (some ⟨g3, 0, none⟩) k.rs.length c3) (.slice me k.dn mf)) := jf
    have HC3 : Hid (k.rs.length + 1 ≤ c3 ∧ g3 ≠ G3 ∧ ∀ j, j < 2 → (wv.setCell ⟨G3, 35, none⟩ (.slice (some ⟨g3, 0, none⟩) k.rs.length c3)).cell? ⟨g3, k.rs.length * 2 + j, none⟩ = ([.int .i64 (-1), .int .i64 0] : List Value)[j]?) := ⟨jc, jg, jn⟩
    replace HC1 : Hid (k.ts.length + 1 ≤ c1 ∧ g1 ≠ G3 ∧ ∀ j, j < 1 → (wv.setCell ⟨G3, 35, none⟩ (.slice (some ⟨g3, 0, none⟩) k.rs.length c3)).cell? ⟨g1, k.ts.length * 1 + j, none⟩ = ([.string { data := #[115, 112, 97, 114, 101] }] : List Value)[j]?) := by
      obtain ⟨q1, q2, q3⟩ := HC1.out
      have qb : (wv.setCell ⟨G3, 35, none⟩ (.slice (some ⟨g3, 0, none⟩) k.rs.length c3)).heap[g1]? = u5.heap[g1]? := (Below.heap_setCell _ _ _ _ (by show g1 ≠ G3; exact q2)).trans ((FG.block _ (Nat.lt_of_lt_of_le (OwS.lt J5.out.r3.o1 rfl) ba3.size) (fun e => J5.out.r3.d2 g1 rfl e)).trans (ba3.block _ (OwS.lt J5.out.r3.o1 rfl)))
      exact ⟨q1, q2, fun j hj => (World.cell?_of_block (w := u5) (a := ⟨g1, k.ts.length * 1 + j, none⟩) qb).trans (q3 j hj)⟩
    replace HC2 : Hid (k.ps.length + 1 ≤ c2 ∧ g2 ≠ G3 ∧ ∀ j, j < 1 → (wv.setCell ⟨G3, 35, none⟩ (.slice (some ⟨g3, 0, none⟩) k.rs.length c3)).cell? ⟨g2, k.ps.length * 1 + j, none⟩ = ([.string { data := #[115, 112, 97, 114, 101] }] : List Value)[j]?) := by
      obtain ⟨q1, q2, q3⟩ := HC2.out
      have qb : (wv.setCell ⟨G3, 35, none⟩ (.slice (some ⟨g3, 0, none⟩) k.rs.length c3)).heap[g2]? = u5.heap[g2]? := (Below.heap_setCell _ _ _ _ (by show g2 ≠ G3; exact q2)).trans ((FG.block _ (Nat.lt_of_lt_of_le (OwS.lt J5.out.r3.o2 rfl) ba3.size) (fun e => J5.out.r3.d4 g2 rfl e)).trans (ba3.block _ (OwS.lt J5.out.r3.o2 rfl)))
      exact ⟨q1, q2, fun j hj => (World.cell?_of_block (w := u5) (a := ⟨g2, k.ps.length * 1 + j, none⟩) qb).trans (q3 j hj)⟩
    clear JD JA jf jg jn FG hgr hrow hat ba3 bd3 ls 
    refine wp_meet (W := (wv.setCell ⟨G3, 35, none⟩ (.slice (some ⟨g3, 0, none⟩) k.rs.length c3))) ?_
    apply Exists.intro
    refine And.intro ?_ ?_
    · refine wp_region_held_drew (S := fun x => x.cell? ⟨H, 35, none⟩ = some (.slice oa0 k.rs.length oc0)) (by kernel_rfl) (cD) (fun hHeld => ?_)
      refine wpAnyH_take (i := 0) (v := .pointer (some ⟨G3, 35, none⟩)) rfl (by kernel_rfl) (by kernel_rfl) (by kernel_rfl) (fun _ _ _ h => nomatch h.1) (Or.inl ⟨by rfl, fun w hw => by go_simp⟩) hHeld ?_
      simp only [Act.put, List.getElem_toArray, List.getElem_cons_zero, List.setIfInBounds_toArray, List.set_cons_zero, List.set_cons_succ]
      refine wpAnyH_take (i := 5) (v := .pointer (some ⟨H, 35, none⟩)) rfl (by kernel_rfl) (by kernel_rfl) (by kernel_rfl) (fun _ _ _ h => nomatch h.1) (Or.inl ⟨by rfl, fun w hw => by go_simp⟩) hHeld ?_
      simp only [Act.put, List.getElem_toArray, List.getElem_cons_zero, List.getElem_cons_succ, List.setIfInBounds_toArray, List.set_cons_zero, List.set_cons_succ]
      refine wpAnyH_take (i := 6) (v := (.slice oa0 k.rs.length oc0)) rfl (by kernel_rfl) (by kernel_rfl) (by kernel_rfl) (fun _ _ _ h => nomatch h.1) (Or.inl ⟨by rfl, fun w hw => by have s1 := hw; go_simp⟩) hHeld ?_
      simp only [Act.put, List.getElem_toArray, List.getElem_cons_zero, List.getElem_cons_succ, List.setIfInBounds_toArray, List.set_cons_zero, List.set_cons_succ]
      refine wpAnyH_take (i := 7) (v := .int .i64 (k.rs.length : Int)) rfl (by kernel_rfl) (by kernel_rfl) (by kernel_rfl) (fun _ _ _ h => nomatch h.1) (Or.inl ⟨by rfl, fun w hw => by go_simp⟩) hHeld ?_
      simp only [Act.put, List.getElem_toArray, List.getElem_cons_zero, List.getElem_cons_succ, List.setIfInBounds_toArray, List.set_cons_zero, List.set_cons_succ]
      refine wpAnyH_take (i := 2) (v := .agg #[.int .i64 (-1), .int .i64 0]) rfl (by kernel_rfl) (by kernel_rfl) (by kernel_rfl) (fun _ _ _ h => nomatch h.1) (yieldsIf_build (by rfl) 36 _ rfl #[.int .i64 (-1), .int .i64 0] (by kernel_rfl)) hHeld ?_
      simp only [Act.put, List.getElem_toArray, List.getElem_cons_zero, List.getElem_cons_succ, List.setIfInBounds_toArray, List.set_cons_zero, List.set_cons_succ]
      refine wpAnyH_ready (rs := [1, 3]) (by kernel_rfl) (by simp) ?_
      refine AllReadyH.cons (o := _) rfl (fun K hK => ?_) (AllReadyH.cons (o := _) rfl (fun K hK => ?_) AllReadyH.nil)
      · go_simp
        refine hK.out _ _ cD (fun hHeld => ?_)
        clear hK K
        refine wpAnyH_ready (rs := [3]) (by kernel_rfl) (by simp) ?_
        refine AllReadyH.cons (o := _) rfl (fun K hK => ?_) AllReadyH.nil
        go_simp
        refine hK.out _ _ cA (fun hHeld => ?_)
        clear hK K
        refine wpAnyH_ready (rs := [4]) (by kernel_rfl) (by simp) ?_
        refine AllReadyH.cons (o := _) rfl (fun K hK => ?_) AllReadyH.nil
        rw [if_pos (show Region.wanted _ _ = true by kernel_rfl)]
        refine wp_append_gen _ _ rfl rfl rfl hrun ?_
        simp only [Act.put, List.getElem_toArray, List.getElem_cons_zero, List.getElem_cons_succ, List.setIfInBounds_toArray, List.set_cons_zero, List.set_cons_succ]
        refine hK.out _ _ cW (fun hHeld => ?_)
        clear hK K
        refine wpAnyH_take (i := 8) (v := (.slice (some ⟨g3, 0, none⟩) k.rs.length c3)) rfl (by kernel_rfl) (by kernel_rfl) (by kernel_rfl) (fun _ _ _ h => nomatch h.1) (Or.inl ⟨by rfl, fun w hw => by (go_simp; intro h9; exact absurd h9 (by omega))⟩) hHeld ?_
        simp only [Act.put, List.getElem_toArray, List.getElem_cons_zero, List.getElem_cons_succ, List.setIfInBounds_toArray, List.set_cons_zero, List.set_cons_succ]
        refine wpAnyH_take (i := 9) (v := .pointer (some ⟨G3, 35, none⟩)) rfl (by kernel_rfl) (by kernel_rfl) (by kernel_rfl) (fun _ _ _ h => nomatch h.1) (Or.inl ⟨by rfl, fun w hw => by go_simp⟩) hHeld ?_
        simp only [Act.put, List.getElem_toArray, List.getElem_cons_zero, List.getElem_cons_succ, List.setIfInBounds_toArray, List.set_cons_zero, List.set_cons_succ]
        refine wpAnyH_ready (rs := [10]) (by kernel_rfl) (by simp) ?_
        refine AllReadyH.cons (o := _) rfl (fun K hK => ?_) AllReadyH.nil
        go_simp
        refine hK.out _ _ cF (fun hHeld => ?_)
        clear hK K
        refine wpAnyH_done (by kernel_rfl) ?_ _
        clear hHeld
        exact ⟨rfl, rfl, rfl⟩
      · go_simp
        refine hK.out _ _ cA (fun hHeld => ?_)
        clear hK K
        refine wpAnyH_ready (rs := [1]) (by kernel_rfl) (by simp) ?_
        refine AllReadyH.cons (o := _) rfl (fun K hK => ?_) AllReadyH.nil
        go_simp
        refine hK.out _ _ cA (fun hHeld => ?_)
        clear hK K
        refine wpAnyH_ready (rs := [4]) (by kernel_rfl) (by simp) ?_
        refine AllReadyH.cons (o := _) rfl (fun K hK => ?_) AllReadyH.nil
        rw [if_pos (show Region.wanted _ _ = true by kernel_rfl)]
        refine wp_append_gen _ _ rfl rfl rfl hrun ?_
        simp only [Act.put, List.getElem_toArray, List.getElem_cons_zero, List.getElem_cons_succ, List.setIfInBounds_toArray, List.set_cons_zero, List.set_cons_succ]
        refine hK.out _ _ cW (fun hHeld => ?_)
        clear hK K
        refine wpAnyH_take (i := 8) (v := (.slice (some ⟨g3, 0, none⟩) k.rs.length c3)) rfl (by kernel_rfl) (by kernel_rfl) (by kernel_rfl) (fun _ _ _ h => nomatch h.1) (Or.inl ⟨by rfl, fun w hw => by (go_simp; intro h9; exact absurd h9 (by omega))⟩) hHeld ?_
        simp only [Act.put, List.getElem_toArray, List.getElem_cons_zero, List.getElem_cons_succ, List.setIfInBounds_toArray, List.set_cons_zero, List.set_cons_succ]
        refine wpAnyH_take (i := 9) (v := .pointer (some ⟨G3, 35, none⟩)) rfl (by kernel_rfl) (by kernel_rfl) (by kernel_rfl) (fun _ _ _ h => nomatch h.1) (Or.inl ⟨by rfl, fun w hw => by go_simp⟩) hHeld ?_
        simp only [Act.put, List.getElem_toArray, List.getElem_cons_zero, List.getElem_cons_succ, List.setIfInBounds_toArray, List.set_cons_zero, List.set_cons_succ]
        refine wpAnyH_ready (rs := [10]) (by kernel_rfl) (by simp) ?_
        refine AllReadyH.cons (o := _) rfl (fun K hK => ?_) AllReadyH.nil
        go_simp
        refine hK.out _ _ cF (fun hHeld => ?_)
        clear hK K
        refine wpAnyH_done (by kernel_rfl) ?_ _
        clear hHeld
        exact ⟨rfl, rfl, rfl⟩
    clear hrun cD cA cW cF sD sD2 sA sW fW J5 jc
    generalize (wv.setCell ⟨G3, 35, none⟩ (.slice (some ⟨g3, 0, none⟩) k.rs.length c3)) = u6 at *
    clear wv
    go_upto_region 12 with fail
    have bd4 : Below u6.heap.size u6 u6.drew := ⟨rfl, rfl, rfl, Nat.le_refl _, fun _ _ => rfl⟩
    have ba4 : Below u6.heap.size u6 (u6.alloc (Obj.cells #[.string { data := #[115, 112, 97, 114, 101] }, .int .i64 0, .int .i64 0, .string { data := #[] }, .slice none 0 0, .slice none 0 0] 41)).drew := ((Below.refl _ _).alloc (Nat.le_refl _) _).trans ((belowDrew1 _).mono (by simp))
    have JD := J6.out.below bd4
    have JA := J6.out.below ba4
    obtain ⟨XX, YY, hXY, hNV⟩ := JA.r3.o4
    obtain ⟨g4, c4, wv, hrun, hrow, hgr, hat⟩ := ap_run (w := (u6.alloc (Obj.cells #[.string { data := #[115, 112, 97, 114, 101] }, .int .i64 0, .int .i64 0, .string { data := #[] }, .slice none 0 0, .slice none 0 0] 41)).drew) (t := 26) (e := 41) (sz := 6) (b := u6.heap.size) (us := [.string { data := #[115, 112, 97, 114, 101] }, .int .i64 0, .int .i64 0, .string { data := #[] }, .slice none 0 0, .slice none 0 0]) Tryz.underlying26 info68 rfl (by omega) hXY.1 rfl (by intro u hu; simp at hu; rcases hu with rfl | rfl | rfl | rfl | rfl | rfl <;> rfl) (heap_new u6 _) HSM.out.1.dn.1 (by omega)
    have FG : Fr (fun b => Value.ownBlock (.slice me k.dn mf) ≠ some b) (u6.alloc (Obj.cells #[.string { data := #[115, 112, 97, 114, 101] }, .int .i64 0, .int .i64 0, .string { data := #[] }, .slice none 0 0, .slice none 0 0] 41)).drew wv := ⟨hgr.os, hgr.tape, hgr.output, hgr.size, fun b hb hn => hgr.block b hb (fun e => hn e.symm)⟩
    obtain ⟨jf, jc, jg, jn⟩ := JA.apM hl hNV FG hrow (by rcases hat with h | h; exact .inl h; exact .inr (by omega))
    have ls : ∀ b, b = G3 ∨ b = H → wv.heap[b]? = (u6.alloc (Obj.cells #[.string { data := #[115, 112, 97, 114, 101] }, .int .i64 0, .int .i64 0, .string { data := #[] }, .slice none 0 0, .slice none 0 0] 41)).drew.heap[b]? := fun b hb => by
      rcases hb with rfl | rfl
      · exact FG.block _ JA.l3.lt (fun e => (JA.r3.o4.lt e).2.1.2 rfl)
      · exact FG.block _ JA.l0.lt (fun e => by have := (JA.r3.o4.lt e).2.1.1; have := JA.h1; have := JA.h2; omega)
    have cD := (JD.l0.cells hl).2.2.2.2
    have cA := (JA.l0.cells hl).2.2.2.2
    have sD2 : u6.cell? ⟨G3, 36, none⟩ = some (.slice me k.dn mf) := (JD.l3.cells hl).2.2.2.2
    have cW := ((JA.l0.keep (ls H (.inr rfl))).cells hl).2.2.2.2
    have cF := (jf.l0.cells hl).2.2.2.2
    have sD := (JD.l3.cells hl).2.2.2.2
    have sA : (u6.alloc (Obj.cells #[.string { data := #[115, 112, 97, 114, 101] }, .int .i64 0, .int .i64 0, .string { data := #[] }, .slice none 0 0, .slice none 0 0] 41)).cell? ⟨G3, 36, none⟩ = some (.slice me k.dn mf) := (JA.l3.cells hl).2.2.2.2
    have sW := ((JA.l3.keep (ls G3 (.inl rfl))).cells hl).2.2.2.2
    have fW := (JA.l3.keep (ls G3 (.inl rfl))).frozen 36
    have J7 : Hid (PB w (wv.setCell ⟨G3, 36, none⟩ (.slice (some ⟨g4, 0, none⟩) k.dn c4)) H G1 G2 G3 k (.slice ta0 k.ts.length tc0) (.slice pa0 k.ps.length pc0) (.slice oa0 k.rs.length oc0) (.slice ma0 k.dn mc0) (lkOf p) (.slice ta p.ts.length tc) (.slice pa p.ps.length pc) (.slice oa p.rs.length oc) (.slice ma p.mo.length mc) (.slice tb p.ts.length td) (.slice pb p.ps.length pd) (.slice ob p.rs.length od) (.slice mb p.mo.length md) (.slice (some ⟨g1, 0, none⟩) k.ts.length c1) (.slice (some ⟨g2, 0, none⟩) k.ps.length c2) (.slice (some ⟨g3, 0, none⟩) k.rs.length c3) (.slice (some ⟨g4, 0, none⟩) k.dn c4)) := jf
    have HC4 : Hid (k.dn + 1 ≤ c4 ∧ g4 ≠ G3 ∧ ∀ j, j < 6 → (wv.setCell ⟨G3, 36, none⟩ (.slice (some ⟨g4, 0, none⟩) k.dn c4)).cell? ⟨g4, k.dn * 6 + j, none⟩ = ([.string { data := #[115, 112, 97, 114, 101] }, .int .i64 0, .int .i64 0, .string { data := #[] }, .slice none 0 0, .slice none 0 0] : List Value)[j]?) := ⟨jc, jg, jn⟩
    replace HC1 : Hid (k.ts.length + 1 ≤ c1 ∧ g1 ≠ G3 ∧ ∀ j, j < 1 → (wv.setCell ⟨G3, 36, none⟩ (.slice (some ⟨g4, 0, none⟩) k.dn c4)).cell? ⟨g1, k.ts.length * 1 + j, none⟩ = ([.string { data := #[115, 112, 97, 114, 101] }] : List Value)[j]?) := by
      obtain ⟨q1, q2, q3⟩ := HC1.out
      have qb : (wv.setCell ⟨G3, 36, none⟩ (.slice (some ⟨g4, 0, none⟩) k.dn c4)).heap[g1]? = u6.heap[g1]? := (Below.heap_setCell _ _ _ _ (by show g1 ≠ G3; exact q2)).trans ((FG.block _ (Nat.lt_of_lt_of_le (OwS.lt J6.out.r3.o1 rfl) ba4.size) (fun e => (J6.out.r3.mo_ne e).1 rfl)).trans (ba4.block _ (OwS.lt J6.out.r3.o1 rfl)))
      exact ⟨q1, q2, fun j hj => (World.cell?_of_block (w := u6) (a := ⟨g1, k.ts.length * 1 + j, none⟩) qb).trans (q3 j hj)⟩
    replace HC2 : Hid (k.ps.length + 1 ≤ c2 ∧ g2 ≠ G3 ∧ ∀ j, j < 1 → (wv.setCell ⟨G3, 36, none⟩ (.slice (some ⟨g4, 0, none⟩) k.dn c4)).cell? ⟨g2, k.ps.length * 1 + j, none⟩ = ([.string { data := #[115, 112, 97, 114, 101] }] : List Value)[j]?) := by
      obtain ⟨q1, q2, q3⟩ := HC2.out
      have qb : (wv.setCell ⟨G3, 36, none⟩ (.slice (some ⟨g4, 0, none⟩) k.dn c4)).heap[g2]? = u6.heap[g2]? := (Below.heap_setCell _ _ _ _ (by show g2 ≠ G3; exact q2)).trans ((FG.block _ (Nat.lt_of_lt_of_le (OwS.lt J6.out.r3.o2 rfl) ba4.size) (fun e => (J6.out.r3.mo_ne e).2.1 rfl)).trans (ba4.block _ (OwS.lt J6.out.r3.o2 rfl)))
      exact ⟨q1, q2, fun j hj => (World.cell?_of_block (w := u6) (a := ⟨g2, k.ps.length * 1 + j, none⟩) qb).trans (q3 j hj)⟩
    replace HC3 : Hid (k.rs.length + 1 ≤ c3 ∧ g3 ≠ G3 ∧ ∀ j, j < 2 → (wv.setCell ⟨G3, 36, none⟩ (.slice (some ⟨g4, 0, none⟩) k.dn c4)).cell? ⟨g3, k.rs.length * 2 + j, none⟩ = ([.int .i64 (-1), .int .i64 0] : List Value)[j]?) := by
      obtain ⟨q1, q2, q3⟩ := HC3.out
      have qb : (wv.setCell ⟨G3, 36, none⟩ (.slice (some ⟨g4, 0, none⟩) k.dn c4)).heap[g3]? = u6.heap[g3]? := (Below.heap_setCell _ _ _ _ (by show g3 ≠ G3; exact q2)).trans ((FG.block _ (Nat.lt_of_lt_of_le (OwS.lt J6.out.r3.o3 rfl) ba4.size) (fun e => (J6.out.r3.mo_ne e).2.2 rfl)).trans (ba4.block _ (OwS.lt J6.out.r3.o3 rfl)))
      exact ⟨q1, q2, fun j hj => (World.cell?_of_block (w := u6) (a := ⟨g3, k.rs.length * 2 + j, none⟩) qb).trans (q3 j hj)⟩
    clear JD JA jf jg jn FG hgr hrow hat ba4 bd4 ls hXY hNV
    refine wp_meet (W := (wv.setCell ⟨G3, 36, none⟩ (.slice (some ⟨g4, 0, none⟩) k.dn c4))) ?_
    apply Exists.intro
    refine And.intro ?_ ?_
    · refine wp_region_held_drew (S := fun x => x.cell? ⟨H, 36, none⟩ = some (.slice ma0 k.dn mc0)) (by kernel_rfl) (cD) (fun hHeld => ?_)
      refine wpAnyH_take (i := 0) (v := .pointer (some ⟨G3, 36, none⟩)) rfl (by kernel_rfl) (by kernel_rfl) (by kernel_rfl) (fun _ _ _ h => nomatch h.1) (Or.inl ⟨by rfl, fun w hw => by go_simp⟩) hHeld ?_
      simp only [Act.put, List.getElem_toArray, List.getElem_cons_zero, List.setIfInBounds_toArray, List.set_cons_zero, List.set_cons_succ]
      refine wpAnyH_take (i := 5) (v := .pointer (some ⟨H, 36, none⟩)) rfl (by kernel_rfl) (by kernel_rfl) (by kernel_rfl) (fun _ _ _ h => nomatch h.1) (Or.inl ⟨by rfl, fun w hw => by go_simp⟩) hHeld ?_
      simp only [Act.put, List.getElem_toArray, List.getElem_cons_zero, List.getElem_cons_succ, List.setIfInBounds_toArray, List.set_cons_zero, List.set_cons_succ]
      refine wpAnyH_take (i := 6) (v := (.slice ma0 k.dn mc0)) rfl (by kernel_rfl) (by kernel_rfl) (by kernel_rfl) (fun _ _ _ h => nomatch h.1) (Or.inl ⟨by rfl, fun w hw => by have s1 := hw; go_simp⟩) hHeld ?_
      simp only [Act.put, List.getElem_toArray, List.getElem_cons_zero, List.getElem_cons_succ, List.setIfInBounds_toArray, List.set_cons_zero, List.set_cons_succ]
      refine wpAnyH_take (i := 7) (v := .int .i64 (k.dn : Int)) rfl (by kernel_rfl) (by kernel_rfl) (by kernel_rfl) (fun _ _ _ h => nomatch h.1) (Or.inl ⟨by rfl, fun w hw => by go_simp⟩) hHeld ?_
      simp only [Act.put, List.getElem_toArray, List.getElem_cons_zero, List.getElem_cons_succ, List.setIfInBounds_toArray, List.set_cons_zero, List.set_cons_succ]
      refine wpAnyH_take (i := 2) (v := .agg #[.string { data := #[115, 112, 97, 114, 101] }, .int .i64 0, .int .i64 0, .string { data := #[] }, .slice none 0 0, .slice none 0 0]) rfl (by kernel_rfl) (by kernel_rfl) (by kernel_rfl) (fun _ _ _ h => nomatch h.1) (yieldsIf_build (by rfl) 41 _ rfl #[.string { data := #[115, 112, 97, 114, 101] }, .int .i64 0, .int .i64 0, .string { data := #[] }, .slice none 0 0, .slice none 0 0] (by kernel_rfl)) hHeld ?_
      simp only [Act.put, List.getElem_toArray, List.getElem_cons_zero, List.getElem_cons_succ, List.setIfInBounds_toArray, List.set_cons_zero, List.set_cons_succ]
      refine wpAnyH_ready (rs := [1, 3]) (by kernel_rfl) (by simp) ?_
      refine AllReadyH.cons (o := _) rfl (fun K hK => ?_) (AllReadyH.cons (o := _) rfl (fun K hK => ?_) AllReadyH.nil)
      · go_simp
        refine hK.out _ _ cD (fun hHeld => ?_)
        clear hK K
        refine wpAnyH_ready (rs := [3]) (by kernel_rfl) (by simp) ?_
        refine AllReadyH.cons (o := _) rfl (fun K hK => ?_) AllReadyH.nil
        go_simp
        refine hK.out _ _ cA (fun hHeld => ?_)
        clear hK K
        refine wpAnyH_ready (rs := [4]) (by kernel_rfl) (by simp) ?_
        refine AllReadyH.cons (o := _) rfl (fun K hK => ?_) AllReadyH.nil
        rw [if_pos (show Region.wanted _ _ = true by kernel_rfl)]
        refine wp_append_gen _ _ rfl rfl rfl hrun ?_
        simp only [Act.put, List.getElem_toArray, List.getElem_cons_zero, List.getElem_cons_succ, List.setIfInBounds_toArray, List.set_cons_zero, List.set_cons_succ]
        refine hK.out _ _ cW (fun hHeld => ?_)
        clear hK K
        refine wpAnyH_take (i := 8) (v := (.slice (some ⟨g4, 0, none⟩) k.dn c4)) rfl (by kernel_rfl) (by kernel_rfl) (by kernel_rfl) (fun _ _ _ h => nomatch h.1) (Or.inl ⟨by rfl, fun w hw => by (go_simp; intro h9; exact absurd h9 (by omega))⟩) hHeld ?_
        simp only [Act.put, List.getElem_toArray, List.getElem_cons_zero, List.getElem_cons_succ, List.setIfInBounds_toArray, List.set_cons_zero, List.set_cons_succ]
        refine wpAnyH_take (i := 9) (v := .pointer (some ⟨G3, 36, none⟩)) rfl (by kernel_rfl) (by kernel_rfl) (by kernel_rfl) (fun _ _ _ h => nomatch h.1) (Or.inl ⟨by rfl, fun w hw => by go_simp⟩) hHeld ?_
        simp only [Act.put, List.getElem_toArray, List.getElem_cons_zero, List.getElem_cons_succ, List.setIfInBounds_toArray, List.set_cons_zero, List.set_cons_succ]
        refine wpAnyH_ready (rs := [10]) (by kernel_rfl) (by simp) ?_
        refine AllReadyH.cons (o := _) rfl (fun K hK => ?_) AllReadyH.nil
        go_simp
        refine hK.out _ _ cF (fun hHeld => ?_)
        clear hK K
        refine wpAnyH_done (by kernel_rfl) ?_ _
        clear hHeld
        exact ⟨rfl, rfl, rfl⟩
      · go_simp
        refine hK.out _ _ cA (fun hHeld => ?_)
        clear hK K
        refine wpAnyH_ready (rs := [1]) (by kernel_rfl) (by simp) ?_
        refine AllReadyH.cons (o := _) rfl (fun K hK => ?_) AllReadyH.nil
        go_simp
        refine hK.out _ _ cA (fun hHeld => ?_)
        clear hK K
        refine wpAnyH_ready (rs := [4]) (by kernel_rfl) (by simp) ?_
        refine AllReadyH.cons (o := _) rfl (fun K hK => ?_) AllReadyH.nil
        rw [if_pos (show Region.wanted _ _ = true by kernel_rfl)]
        refine wp_append_gen _ _ rfl rfl rfl hrun ?_
        simp only [Act.put, List.getElem_toArray, List.getElem_cons_zero, List.getElem_cons_succ, List.setIfInBounds_toArray, List.set_cons_zero, List.set_cons_succ]
        refine hK.out _ _ cW (fun hHeld => ?_)
        clear hK K
        refine wpAnyH_take (i := 8) (v := (.slice (some ⟨g4, 0, none⟩) k.dn c4)) rfl (by kernel_rfl) (by kernel_rfl) (by kernel_rfl) (fun _ _ _ h => nomatch h.1) (Or.inl ⟨by rfl, fun w hw => by (go_simp; intro h9; exact absurd h9 (by omega))⟩) hHeld ?_
        simp only [Act.put, List.getElem_toArray, List.getElem_cons_zero, List.getElem_cons_succ, List.setIfInBounds_toArray, List.set_cons_zero, List.set_cons_succ]
        refine wpAnyH_take (i := 9) (v := .pointer (some ⟨G3, 36, none⟩)) rfl (by kernel_rfl) (by kernel_rfl) (by kernel_rfl) (fun _ _ _ h => nomatch h.1) (Or.inl ⟨by rfl, fun w hw => by go_simp⟩) hHeld ?_
        simp only [Act.put, List.getElem_toArray, List.getElem_cons_zero, List.getElem_cons_succ, List.setIfInBounds_toArray, List.set_cons_zero, List.set_cons_succ]
        refine wpAnyH_ready (rs := [10]) (by kernel_rfl) (by simp) ?_
        refine AllReadyH.cons (o := _) rfl (fun K hK => ?_) AllReadyH.nil
        go_simp
        refine hK.out _ _ cF (fun hHeld => ?_)
        clear hK K
        refine wpAnyH_done (by kernel_rfl) ?_ _
        clear hHeld
        exact ⟨rfl, rfl, rfl⟩
    clear hrun cD cA cW cF sD sD2 sA sW fW J6 jc
    generalize (wv.setCell ⟨G3, 36, none⟩ (.slice (some ⟨g4, 0, none⟩) k.dn c4)) = u7 at *
    clear wv
    go_upto_region 13 with fail
    have X7 : Hid (PB w u7 H G1 G2 G3 k (.slice ta0 k.ts.length tc0) (.slice pa0 k.ps.length pc0) (.slice oa0 k.rs.length oc0) (.slice ma0 k.dn mc0) (lkOf p) (.slice ta p.ts.length tc) (.slice pa p.ps.length pc) (.slice oa p.rs.length oc) (.slice ma p.mo.length mc) (.slice tb p.ts.length td) (.slice pb p.ps.length pd) (.slice ob p.rs.length od) (.slice mb p.mo.length md) (.slice (some ⟨g1, 0, none⟩) k.ts.length c1) (.slice (some ⟨g2, 0, none⟩) k.ps.length c2) (.slice (some ⟨g3, 0, none⟩) k.rs.length c3) (.slice (some ⟨g4, 0, none⟩) k.dn c4) ∧ (k.ts.length + 1 ≤ c1 ∧ ∀ j, j < 1 → u7.cell? ⟨g1, k.ts.length * 1 + j, none⟩ = ([.string { data := #[115, 112, 97, 114, 101] }] : List Value)[j]?) ∧ (k.ps.length + 1 ≤ c2 ∧ ∀ j, j < 1 → u7.cell? ⟨g2, k.ps.length * 1 + j, none⟩ = ([.string { data := #[115, 112, 97, 114, 101] }] : List Value)[j]?) ∧ (k.rs.length + 1 ≤ c3 ∧ ∀ j, j < 2 → u7.cell? ⟨g3, k.rs.length * 2 + j, none⟩ = ([.int .i64 (-1), .int .i64 0] : List Value)[j]?) ∧ (k.dn + 1 ≤ c4 ∧ ∀ j, j < 6 → u7.cell? ⟨g4, k.dn * 6 + j, none⟩ = ([.string { data := #[115, 112, 97, 114, 101] }, .int .i64 0, .int .i64 0, .string { data := #[] }, .slice none 0 0, .slice none 0 0] : List Value)[j]?)) := ⟨J7.out, ⟨HC1.out.1, HC1.out.2.2⟩, ⟨HC2.out.1, HC2.out.2.2⟩, ⟨HC3.out.1, HC3.out.2.2⟩, HC4.out.1, HC4.out.2.2⟩
    have XM : Hid (∀ u u', (PB w u H G1 G2 G3 k (.slice ta0 k.ts.length tc0) (.slice pa0 k.ps.length pc0) (.slice oa0 k.rs.length oc0) (.slice ma0 k.dn mc0) (lkOf p) (.slice ta p.ts.length tc) (.slice pa p.ps.length pc) (.slice oa p.rs.length oc) (.slice ma p.mo.length mc) (.slice tb p.ts.length td) (.slice pb p.ps.length pd) (.slice ob p.rs.length od) (.slice mb p.mo.length md) (.slice (some ⟨g1, 0, none⟩) k.ts.length c1) (.slice (some ⟨g2, 0, none⟩) k.ps.length c2) (.slice (some ⟨g3, 0, none⟩) k.rs.length c3) (.slice (some ⟨g4, 0, none⟩) k.dn c4) ∧ (k.ts.length + 1 ≤ c1 ∧ ∀ j, j < 1 → u.cell? ⟨g1, k.ts.length * 1 + j, none⟩ = ([.string { data := #[115, 112, 97, 114, 101] }] : List Value)[j]?) ∧ (k.ps.length + 1 ≤ c2 ∧ ∀ j, j < 1 → u.cell? ⟨g2, k.ps.length * 1 + j, none⟩ = ([.string { data := #[115, 112, 97, 114, 101] }] : List Value)[j]?) ∧ (k.rs.length + 1 ≤ c3 ∧ ∀ j, j < 2 → u.cell? ⟨g3, k.rs.length * 2 + j, none⟩ = ([.int .i64 (-1), .int .i64 0] : List Value)[j]?) ∧ (k.dn + 1 ≤ c4 ∧ ∀ j, j < 6 → u.cell? ⟨g4, k.dn * 6 + j, none⟩ = ([.string { data := #[115, 112, 97, 114, 101] }, .int .i64 0, .int .i64 0, .string { data := #[] }, .slice none 0 0, .slice none 0 0] : List Value)[j]?)) → Below u.heap.size u u' → (PB w u' H G1 G2 G3 k (.slice ta0 k.ts.length tc0) (.slice pa0 k.ps.length pc0) (.slice oa0 k.rs.length oc0) (.slice ma0 k.dn mc0) (lkOf p) (.slice ta p.ts.length tc) (.slice pa p.ps.length pc) (.slice oa p.rs.length oc) (.slice ma p.mo.length mc) (.slice tb p.ts.length td) (.slice pb p.ps.length pd) (.slice ob p.rs.length od) (.slice mb p.mo.length md) (.slice (some ⟨g1, 0, none⟩) k.ts.length c1) (.slice (some ⟨g2, 0, none⟩) k.ps.length c2) (.slice (some ⟨g3, 0, none⟩) k.rs.length c3) (.slice (some ⟨g4, 0, none⟩) k.dn c4) ∧ (k.ts.length + 1 ≤ c1 ∧ ∀ j, j < 1 → u'.cell? ⟨g1, k.ts.length * 1 + j, none⟩ = ([.string { data := #[115, 112, 97, 114, 101] }] : List Value)[j]?) ∧ (k.ps.length + 1 ≤ c2 ∧ ∀ j, j < 1 → u'.cell? ⟨g2, k.ps.length * 1 + j, none⟩ = ([.string { data := #[115, 112, 97, 114, 101] }] : List Value)[j]?) ∧ (k.rs.length + 1 ≤ c3 ∧ ∀ j, j < 2 → u'.cell? ⟨g3, k.rs.length * 2 + j, none⟩ = ([.int .i64 (-1), .int .i64 0] : List Value)[j]?) ∧ (k.dn + 1 ≤ c4 ∧ ∀ j, j < 6 → u'.cell? ⟨g4, k.dn * 6 + j, none⟩ = ([.string { data := #[115, 112, 97, 114, 101] }, .int .i64 0, .int .i64 0, .string { data := #[] }, .slice none 0 0, .slice none 0 0] : List Value)[j]?))) := fun u u' h b => by
      obtain ⟨h1, ⟨a1, a2⟩, ⟨b1, b2⟩, ⟨c1, c2⟩, d1, d2⟩ := h
      exact ⟨h1.below b, ⟨a1, fun j hj => (World.cell?_of_block (b.block g1 (OwS.lt h1.r3.o1 rfl))).trans (a2 j hj)⟩, ⟨b1, fun j hj => (World.cell?_of_block (b.block g2 (OwS.lt h1.r3.o2 rfl))).trans (b2 j hj)⟩, ⟨c1, fun j hj => (World.cell?_of_block (b.block g3 (OwS.lt h1.r3.o3 rfl))).trans (c2 j hj)⟩, d1, fun j hj => (World.cell?_of_block (b.block g4 (h1.r3.o4.lt rfl).1)).trans (d2 j hj)⟩
    clear J7 HC1 HC2 HC3 HC4
    obtain ⟨sp0, ep0, hpe⟩ := prE_formO k
    have T7 := HA.out.2.2.1 u7 (HS.out ▸ X7.out.1.be)
    have HP := Lib.hid (print10 k (.slice (some ⟨g1, 0, none⟩) k.ts.length c1) (.slice (some ⟨g2, 0, none⟩) k.ps.length c2) (.slice (some ⟨g3, 0, none⟩) k.rs.length c3) (.slice (some ⟨g4, 0, none⟩) k.dn c4) u7 HA.out.1 HSM.out.1 HA.out.2.1 (T7.1.1 u7 (Below.refl _ _)) T7.2 X7.out.1.r3.rl)
    rw [hpe] at HP
    clear T7
    go_wp2_with (first | (refine load_link_ifO rfl _ rfl G3 rfl X7.out.1.l3 hl ?_))
    refine HP.out.mono ?_
    rintro e u8 ⟨rfl, b1⟩
    have X8 := Lib.hid (XM.out _ _ X7.out b1)
    clear b1 HP X7 hpe
    have T8 := HA.out.2.2.1 u8 (HS.out ▸ X8.out.1.be)
    have HP := Lib.hid (check7 k (.slice (some ⟨g1, 0, none⟩) k.ts.length c1) (.slice (some ⟨g2, 0, none⟩) k.ps.length c2) (.slice (some ⟨g3, 0, none⟩) k.rs.length c3) (.slice (some ⟨g4, 0, none⟩) k.dn c4) u8 HA.out.1 HSM.out.1 HA.out.2.1 (T8.1.1 u8 (Below.refl _ _)) T8.2 X8.out.1.r3.rl)
    clear T8
    go_wp2_with (first | (refine load_link_ifO rfl _ rfl G3 rfl X8.out.1.l3 hl ?_))
    refine HP.out.mono ?_
    rintro e u9 ⟨rfl, b1⟩
    have X9 := Lib.hid (XM.out _ _ X8.out b1)
    clear b1 HP X8
    have HP := Lib.hid (wanted k (.slice (some ⟨g1, 0, none⟩) k.ts.length c1) (.slice (some ⟨g2, 0, none⟩) k.ps.length c2) (.slice (some ⟨g3, 0, none⟩) k.rs.length c3) (.slice (some ⟨g4, 0, none⟩) k.dn c4) 3 u9 HA.out.1 HA.out.2.1 (by unfold I64; omega) X9.out.1.r3.rl)
    go_wp2_with (first | (refine load_link_ifO rfl _ rfl G3 rfl X9.out.1.l3 hl ?_))
    refine HP.out.mono ?_
    rintro e v0 ⟨rfl, b1⟩
    have Y0 := Lib.hid (XM.out _ _ X9.out b1)
    clear b1 HP X9
    have a0 := (Y0.out.1.l3.cells hl).2.1
    have h0 := (Y0.out.1.l0.cells hl).2.1
    have z0 : v0.cell? ⟨g1, k.ts.length * 1, none⟩ = some (.string { data := #[115, 112, 97, 114, 101] }) := Y0.out.2.1.2 0 (by omega)
    have q0 := Y0.out.2.1.1
    have a1 := (Y0.out.1.l3.cells hl).2.2.1
    have h1 := (Y0.out.1.l0.cells hl).2.2.1
    have z1 : v0.cell? ⟨g2, k.ps.length * 1, none⟩ = some (.string { data := #[115, 112, 97, 114, 101] }) := Y0.out.2.2.1.2 0 (by omega)
    have q1 := Y0.out.2.2.1.1
    have a2 := (Y0.out.1.l3.cells hl).2.2.2.1
    have h2 := (Y0.out.1.l0.cells hl).2.2.2.1
    have z2 : v0.cell? ⟨g3, k.rs.length * 2, none⟩ = some (.int .i64 (-1)) := Y0.out.2.2.2.1.2 0 (by omega)
    have q2 := Y0.out.2.2.2.1.1
    have a3 := (Y0.out.1.l3.cells hl).2.2.2.2
    have h3 := (Y0.out.1.l0.cells hl).2.2.2.2
    have z3 : v0.cell? ⟨g4, k.dn * 6, none⟩ = some (.string { data := #[115, 112, 97, 114, 101] }) := Y0.out.2.2.2.2.2 0 (by omega)
    have q3 := Y0.out.2.2.2.2.1
    have fa0 : ∀ x, Below v0.heap.size v0 x → x.cell? ⟨G3, 33, none⟩ = some (.slice (some ⟨g1, 0, none⟩) k.ts.length c1) := fun x hx => (hx.cell (p := ⟨G3, 33, none⟩) Y0.out.1.l3.lt).trans a0
    have fh0 : ∀ x, Below v0.heap.size v0 x → x.cell? ⟨H, 33, none⟩ = some (.slice ta0 k.ts.length tc0) := fun x hx => (hx.cell (p := ⟨H, 33, none⟩) Y0.out.1.l0.lt).trans h0
    have fz0 : ∀ x, Below v0.heap.size v0 x → x.cell? ⟨g1, k.ts.length * 1, none⟩ = some (.string { data := #[115, 112, 97, 114, 101] }) := fun x hx => (hx.cell (p := ⟨g1, k.ts.length * 1, none⟩) (OwS.lt Y0.out.1.r3.o1 rfl)).trans z0
    clear a0 h0 z0
    have fa1 : ∀ x, Below v0.heap.size v0 x → x.cell? ⟨G3, 34, none⟩ = some (.slice (some ⟨g2, 0, none⟩) k.ps.length c2) := fun x hx => (hx.cell (p := ⟨G3, 34, none⟩) Y0.out.1.l3.lt).trans a1
    have fh1 : ∀ x, Below v0.heap.size v0 x → x.cell? ⟨H, 34, none⟩ = some (.slice pa0 k.ps.length pc0) := fun x hx => (hx.cell (p := ⟨H, 34, none⟩) Y0.out.1.l0.lt).trans h1
    have fz1 : ∀ x, Below v0.heap.size v0 x → x.cell? ⟨g2, k.ps.length * 1, none⟩ = some (.string { data := #[115, 112, 97, 114, 101] }) := fun x hx => (hx.cell (p := ⟨g2, k.ps.length * 1, none⟩) (OwS.lt Y0.out.1.r3.o2 rfl)).trans z1
    clear a1 h1 z1
    have fa2 : ∀ x, Below v0.heap.size v0 x → x.cell? ⟨G3, 35, none⟩ = some (.slice (some ⟨g3, 0, none⟩) k.rs.length c3) := fun x hx => (hx.cell (p := ⟨G3, 35, none⟩) Y0.out.1.l3.lt).trans a2
    have fh2 : ∀ x, Below v0.heap.size v0 x → x.cell? ⟨H, 35, none⟩ = some (.slice oa0 k.rs.length oc0) := fun x hx => (hx.cell (p := ⟨H, 35, none⟩) Y0.out.1.l0.lt).trans h2
    have fz2 : ∀ x, Below v0.heap.size v0 x → x.cell? ⟨g3, k.rs.length * 2, none⟩ = some (.int .i64 (-1)) := fun x hx => (hx.cell (p := ⟨g3, k.rs.length * 2, none⟩) (OwS.lt Y0.out.1.r3.o3 rfl)).trans z2
    clear a2 h2 z2
    have fa3 : ∀ x, Below v0.heap.size v0 x → x.cell? ⟨G3, 36, none⟩ = some (.slice (some ⟨g4, 0, none⟩) k.dn c4) := fun x hx => (hx.cell (p := ⟨G3, 36, none⟩) Y0.out.1.l3.lt).trans a3
    have fh3 : ∀ x, Below v0.heap.size v0 x → x.cell? ⟨H, 36, none⟩ = some (.slice ma0 k.dn mc0) := fun x hx => (hx.cell (p := ⟨H, 36, none⟩) Y0.out.1.l0.lt).trans h3
    have fz3 : ∀ x, Below v0.heap.size v0 x → x.cell? ⟨g4, k.dn * 6, none⟩ = some (.string { data := #[115, 112, 97, 114, 101] }) := fun x hx => (hx.cell (p := ⟨g4, k.dn * 6, none⟩) (Y0.out.1.r3.o4.lt rfl).1).trans z3
    clear a3 h3 z3
    have bn0 := HSM.out.1.ts
    have bn1 := HSM.out.1.ps
    have bn2 := HSM.out.1.rs
    have bn3 := HSM.out.1.dn.1
    have fl3 : ∀ x, Below v0.heap.size v0 x → LB x G3 k.l k.nm (.slice (some ⟨g1, 0, none⟩) k.ts.length c1) (.slice (some ⟨g2, 0, none⟩) k.ps.length c2) (.slice (some ⟨g3, 0, none⟩) k.rs.length c3) (.slice (some ⟨g4, 0, none⟩) k.dn c4) := fun x hx => Y0.out.1.l3.keep (hx.block _ Y0.out.1.l3.lt)
    have fl0 : ∀ x, Below v0.heap.size v0 x → LB x H k.l k.nm (.slice ta0 k.ts.length tc0) (.slice pa0 k.ps.length pc0) (.slice oa0 k.rs.length oc0) (.slice ma0 k.dn mc0) := fun x hx => Y0.out.1.l0.keep (hx.block _ Y0.out.1.l0.lt)
    have HP := Lib.hid (linkSame k (.slice (some ⟨g1, 0, none⟩) k.ts.length c1) (.slice (some ⟨g2, 0, none⟩) k.ps.length c2) (.slice (some ⟨g3, 0, none⟩) k.rs.length c3) (.slice (some ⟨g4, 0, none⟩) k.dn c4) (.slice ta0 k.ts.length tc0) (.slice pa0 k.ps.length pc0) (.slice oa0 k.rs.length oc0) (.slice ma0 k.dn mc0) v0.drew HA.out.1 (Y0.out.1.below (belowDrew1 v0)).r3.rl (HA.out.2.2.2 v0.drew (HS.out ▸ (Y0.out.1.below (belowDrew1 v0)).be)))
    have bD := belowDrew1 v0
    have hw0 : IntKind.i64.wrap ((k.ts.length : Int) + 1) = (k.ts.length : Int) + 1 := by rw [IntKind.wrap_i64]; omega
    have hw1 : IntKind.i64.wrap ((k.ps.length : Int) + 1) = (k.ps.length : Int) + 1 := by rw [IntKind.wrap_i64]; omega
    have hw2 : IntKind.i64.wrap ((k.rs.length : Int) + 1) = (k.rs.length : Int) + 1 := by rw [IntKind.wrap_i64]; omega
    have hw3 : IntKind.i64.wrap ((k.dn : Int) + 1) = (k.dn : Int) + 1 := by rw [IntKind.wrap_i64]; omega
    go_upto_region 16 with fail
    simp only [List.append_eq, List.cons_append, List.nil_append]
    refine wp_region_held_drew (S := fun x => Below v0.heap.size v0 x) (by kernel_rfl) (bD) (fun hHeld => ?_)
    refine wpAnyH_take (i := 0) (v := .agg (lkC k.l k.nm (.slice (some ⟨g1, 0, none⟩) k.ts.length c1) (.slice (some ⟨g2, 0, none⟩) k.ps.length c2) (.slice (some ⟨g3, 0, none⟩) k.rs.length c3) (.slice (some ⟨g4, 0, none⟩) k.dn c4))) rfl (by kernel_rfl) (by kernel_rfl) (by kernel_rfl) (fun _ _ _ h => h) (yields_lk (by rfl) _ rfl G3 rfl hl fl3) hHeld ?_
    simp only [Act.put, List.getElem_toArray, List.getElem_cons_zero, List.setIfInBounds_toArray, List.set_cons_zero, List.set_cons_succ]
    refine wpAnyH_take (i := 1) (v := .agg (lkC k.l k.nm (.slice ta0 k.ts.length tc0) (.slice pa0 k.ps.length pc0) (.slice oa0 k.rs.length oc0) (.slice ma0 k.dn mc0))) rfl (by kernel_rfl) (by kernel_rfl) (by kernel_rfl) (fun _ _ _ h => h) (yields_lk (by rfl) _ rfl H rfl hl fl0) hHeld ?_
    simp only [Act.put, List.getElem_toArray, List.getElem_cons_zero, List.getElem_cons_succ, List.setIfInBounds_toArray, List.set_cons_zero, List.set_cons_succ]
    refine wpAnyH_ready (rs := [2]) (by kernel_rfl) (by simp) ?_
    refine AllReadyH.cons (o := _) rfl (fun K hK => ?_) AllReadyH.nil
    go_simp
    refine HP.out.mono ?_
    rintro e v1 ⟨rfl, b1⟩
    have b9 : Below v0.heap.size v0 v1 := bD.trans b1
    have Y1 := Lib.hid (XM.out _ _ Y0.out b9)
    clear b1 HP Y0
    go_wp2_with fail
    refine hK.out _ _ b9 (fun hHeld => ?_)
    clear hK K
    refine wpAnyH_take (i := 3) (v := .bool false) rfl (by kernel_rfl) (by kernel_rfl) (by kernel_rfl) (fun _ _ _ h => h) (Or.inl ⟨by rfl, fun w hw => by go_simp⟩) hHeld ?_
    simp only [Act.put, List.getElem_toArray, List.getElem_cons_zero, List.getElem_cons_succ, List.setIfInBounds_toArray, List.set_cons_zero, List.set_cons_succ]
    refine wpAnyH_take (i := 4) (v := .bool false) rfl (by kernel_rfl) (by kernel_rfl) (by kernel_rfl) (fun _ _ _ h => h) (Or.inl ⟨by rfl, fun w hw => by go_simp⟩) hHeld ?_
    simp only [Act.put, List.getElem_toArray, List.getElem_cons_zero, List.getElem_cons_succ, List.setIfInBounds_toArray, List.set_cons_zero, List.set_cons_succ]
    refine wpAnyH_take (i := 5) (v := .pointer (some ⟨G3, 33, none⟩)) rfl (by kernel_rfl) (by kernel_rfl) (by kernel_rfl) (fun _ _ _ h => h) (Or.inl ⟨by rfl, fun w hw => by go_simp⟩) hHeld ?_
    simp only [Act.put, List.getElem_toArray, List.getElem_cons_zero, List.getElem_cons_succ, List.setIfInBounds_toArray, List.set_cons_zero, List.set_cons_succ]
    refine wpAnyH_take (i := 6) (v := (.slice (some ⟨g1, 0, none⟩) k.ts.length c1)) rfl (by kernel_rfl) (by kernel_rfl) (by kernel_rfl) (fun _ _ _ h => h) (Or.inl ⟨by rfl, fun w hw => by have s1 := fa0 w hw; go_simp⟩) hHeld ?_
    simp only [Act.put, List.getElem_toArray, List.getElem_cons_zero, List.getElem_cons_succ, List.setIfInBounds_toArray, List.set_cons_zero, List.set_cons_succ]
    refine wpAnyH_take (i := 7) (v := .pointer (some ⟨H, 33, none⟩)) rfl (by kernel_rfl) (by kernel_rfl) (by kernel_rfl) (fun _ _ _ h => h) (Or.inl ⟨by rfl, fun w hw => by go_simp⟩) hHeld ?_
    simp only [Act.put, List.getElem_toArray, List.getElem_cons_zero, List.getElem_cons_succ, List.setIfInBounds_toArray, List.set_cons_zero, List.set_cons_succ]
    refine wpAnyH_take (i := 8) (v := (.slice ta0 k.ts.length tc0)) rfl (by kernel_rfl) (by kernel_rfl) (by kernel_rfl) (fun _ _ _ h => h) (Or.inl ⟨by rfl, fun w hw => by have s1 := fh0 w hw; go_simp⟩) hHeld ?_
    simp only [Act.put, List.getElem_toArray, List.getElem_cons_zero, List.getElem_cons_succ, List.setIfInBounds_toArray, List.set_cons_zero, List.set_cons_succ]
    refine wpAnyH_take (i := 9) (v := .int .i64 (k.ts.length : Int)) rfl (by kernel_rfl) (by kernel_rfl) (by kernel_rfl) (fun _ _ _ h => h) (Or.inl ⟨by rfl, fun w hw => by go_simp⟩) hHeld ?_
    simp only [Act.put, List.getElem_toArray, List.getElem_cons_zero, List.getElem_cons_succ, List.setIfInBounds_toArray, List.set_cons_zero, List.set_cons_succ]
    refine wpAnyH_take (i := 10) (v := .int .i64 ((k.ts.length : Int) + 1)) rfl (by kernel_rfl) (by kernel_rfl) (by kernel_rfl) (fun _ _ _ h => h) (Or.inl ⟨by rfl, fun w hw => by (go_simp; try exact hw0)⟩) hHeld ?_
    simp only [Act.put, List.getElem_toArray, List.getElem_cons_zero, List.getElem_cons_succ, List.setIfInBounds_toArray, List.set_cons_zero, List.set_cons_succ]
    refine wpAnyH_take (i := 11) (v := .slice (some ⟨g1, 0, none⟩) (k.ts.length + 1) c1) rfl (by kernel_rfl) (by kernel_rfl) (by kernel_rfl) (fun _ _ _ h => h) (Or.inl ⟨by rfl, fun w hw => by (go_simp; intro h9; exact absurd (h9 (by omega)) (by omega))⟩) hHeld ?_
    simp only [Act.put, List.getElem_toArray, List.getElem_cons_zero, List.getElem_cons_succ, List.setIfInBounds_toArray, List.set_cons_zero, List.set_cons_succ]
    refine wpAnyH_take (i := 12) (v := .pointer (some ⟨H, 33, none⟩)) rfl (by kernel_rfl) (by kernel_rfl) (by kernel_rfl) (fun _ _ _ h => h) (Or.inl ⟨by rfl, fun w hw => by go_simp⟩) hHeld ?_
    simp only [Act.put, List.getElem_toArray, List.getElem_cons_zero, List.getElem_cons_succ, List.setIfInBounds_toArray, List.set_cons_zero, List.set_cons_succ]
    refine wpAnyH_take (i := 13) (v := (.slice ta0 k.ts.length tc0)) rfl (by kernel_rfl) (by kernel_rfl) (by kernel_rfl) (fun _ _ _ h => h) (Or.inl ⟨by rfl, fun w hw => by have s1 := fh0 w hw; go_simp⟩) hHeld ?_
    simp only [Act.put, List.getElem_toArray, List.getElem_cons_zero, List.getElem_cons_succ, List.setIfInBounds_toArray, List.set_cons_zero, List.set_cons_succ]
    refine wpAnyH_take (i := 14) (v := .int .i64 (k.ts.length : Int)) rfl (by kernel_rfl) (by kernel_rfl) (by kernel_rfl) (fun _ _ _ h => h) (Or.inl ⟨by rfl, fun w hw => by go_simp⟩) hHeld ?_
    simp only [Act.put, List.getElem_toArray, List.getElem_cons_zero, List.getElem_cons_succ, List.setIfInBounds_toArray, List.set_cons_zero, List.set_cons_succ]
    refine wpAnyH_take (i := 15) (v := .pointer (some ⟨g1, k.ts.length, none⟩)) rfl (by kernel_rfl) (by kernel_rfl) (by kernel_rfl) (fun _ _ _ h => h) (Or.inl ⟨by rfl, fun w hw => by (go_simp; intro h9; exact absurd h9 (by omega))⟩) hHeld ?_
    simp only [Act.put, List.getElem_toArray, List.getElem_cons_zero, List.getElem_cons_succ, List.setIfInBounds_toArray, List.set_cons_zero, List.set_cons_succ]
    refine wpAnyH_take (i := 16) (v := .string { data := #[115, 112, 97, 114, 101] }) rfl (by kernel_rfl) (by kernel_rfl) (by kernel_rfl) (fun _ _ _ h => h) (Or.inl ⟨by rfl, fun w hw => by have s1 := fz0 w hw; rw [Nat.mul_one] at s1; go_simp⟩) hHeld ?_
    simp only [Act.put, List.getElem_toArray, List.getElem_cons_zero, List.getElem_cons_succ, List.setIfInBounds_toArray, List.set_cons_zero, List.set_cons_succ]
    refine wpAnyH_take (i := 17) (v := .bool false) rfl (by kernel_rfl) (by kernel_rfl) (by kernel_rfl) (fun _ _ _ h => h) (Or.inl ⟨by rfl, fun w hw => by go_simp⟩) hHeld ?_
    simp only [Act.put, List.getElem_toArray, List.getElem_cons_zero, List.getElem_cons_succ, List.setIfInBounds_toArray, List.set_cons_zero, List.set_cons_succ]
    refine wpAnyH_take (i := 18) (v := .bool false) rfl (by kernel_rfl) (by kernel_rfl) (by kernel_rfl) (fun _ _ _ h => h) (Or.inl ⟨by rfl, fun w hw => by go_simp⟩) hHeld ?_
    simp only [Act.put, List.getElem_toArray, List.getElem_cons_zero, List.getElem_cons_succ, List.setIfInBounds_toArray, List.set_cons_zero, List.set_cons_succ]
    refine wpAnyH_take (i := 19) (v := .bool false) rfl (by kernel_rfl) (by kernel_rfl) (by kernel_rfl) (fun _ _ _ h => h) (Or.inl ⟨by rfl, fun w hw => by go_simp⟩) hHeld ?_
    simp only [Act.put, List.getElem_toArray, List.getElem_cons_zero, List.getElem_cons_succ, List.setIfInBounds_toArray, List.set_cons_zero, List.set_cons_succ]
    refine wpAnyH_take (i := 20) (v := .pointer (some ⟨G3, 34, none⟩)) rfl (by kernel_rfl) (by kernel_rfl) (by kernel_rfl) (fun _ _ _ h => h) (Or.inl ⟨by rfl, fun w hw => by go_simp⟩) hHeld ?_
    simp only [Act.put, List.getElem_toArray, List.getElem_cons_zero, List.getElem_cons_succ, List.setIfInBounds_toArray, List.set_cons_zero, List.set_cons_succ]
    refine wpAnyH_take (i := 21) (v := (.slice (some ⟨g2, 0, none⟩) k.ps.length c2)) rfl (by kernel_rfl) (by kernel_rfl) (by kernel_rfl) (fun _ _ _ h => h) (Or.inl ⟨by rfl, fun w hw => by have s1 := fa1 w hw; go_simp⟩) hHeld ?_
    simp only [Act.put, List.getElem_toArray, List.getElem_cons_zero, List.getElem_cons_succ, List.setIfInBounds_toArray, List.set_cons_zero, List.set_cons_succ]
    refine wpAnyH_take (i := 22) (v := .pointer (some ⟨H, 34, none⟩)) rfl (by kernel_rfl) (by kernel_rfl) (by kernel_rfl) (fun _ _ _ h => h) (Or.inl ⟨by rfl, fun w hw => by go_simp⟩) hHeld ?_
    simp only [Act.put, List.getElem_toArray, List.getElem_cons_zero, List.getElem_cons_succ, List.setIfInBounds_toArray, List.set_cons_zero, List.set_cons_succ]
    refine wpAnyH_take (i := 23) (v := (.slice pa0 k.ps.length pc0)) rfl (by kernel_rfl) (by kernel_rfl) (by kernel_rfl) (fun _ _ _ h => h) (Or.inl ⟨by rfl, fun w hw => by have s1 := fh1 w hw; go_simp⟩) hHeld ?_
    simp only [Act.put, List.getElem_toArray, List.getElem_cons_zero, List.getElem_cons_succ, List.setIfInBounds_toArray, List.set_cons_zero, List.set_cons_succ]
    refine wpAnyH_take (i := 24) (v := .int .i64 (k.ps.length : Int)) rfl (by kernel_rfl) (by kernel_rfl) (by kernel_rfl) (fun _ _ _ h => h) (Or.inl ⟨by rfl, fun w hw => by go_simp⟩) hHeld ?_
    simp only [Act.put, List.getElem_toArray, List.getElem_cons_zero, List.getElem_cons_succ, List.setIfInBounds_toArray, List.set_cons_zero, List.set_cons_succ]
    refine wpAnyH_take (i := 25) (v := .int .i64 ((k.ps.length : Int) + 1)) rfl (by kernel_rfl) (by kernel_rfl) (by kernel_rfl) (fun _ _ _ h => h) (Or.inl ⟨by rfl, fun w hw => by (go_simp; try exact hw1)⟩) hHeld ?_
    simp only [Act.put, List.getElem_toArray, List.getElem_cons_zero, List.getElem_cons_succ, List.setIfInBounds_toArray, List.set_cons_zero, List.set_cons_succ]
    refine wpAnyH_take (i := 26) (v := .slice (some ⟨g2, 0, none⟩) (k.ps.length + 1) c2) rfl (by kernel_rfl) (by kernel_rfl) (by kernel_rfl) (fun _ _ _ h => h) (Or.inl ⟨by rfl, fun w hw => by (go_simp; intro h9; exact absurd (h9 (by omega)) (by omega))⟩) hHeld ?_
    simp only [Act.put, List.getElem_toArray, List.getElem_cons_zero, List.getElem_cons_succ, List.setIfInBounds_toArray, List.set_cons_zero, List.set_cons_succ]
    refine wpAnyH_take (i := 27) (v := .pointer (some ⟨H, 34, none⟩)) rfl (by kernel_rfl) (by kernel_rfl) (by kernel_rfl) (fun _ _ _ h => h) (Or.inl ⟨by rfl, fun w hw => by go_simp⟩) hHeld ?_
    simp only [Act.put, List.getElem_toArray, List.getElem_cons_zero, List.getElem_cons_succ, List.setIfInBounds_toArray, List.set_cons_zero, List.set_cons_succ]
    refine wpAnyH_take (i := 28) (v := (.slice pa0 k.ps.length pc0)) rfl (by kernel_rfl) (by kernel_rfl) (by kernel_rfl) (fun _ _ _ h => h) (Or.inl ⟨by rfl, fun w hw => by have s1 := fh1 w hw; go_simp⟩) hHeld ?_
    simp only [Act.put, List.getElem_toArray, List.getElem_cons_zero, List.getElem_cons_succ, List.setIfInBounds_toArray, List.set_cons_zero, List.set_cons_succ]
    refine wpAnyH_take (i := 29) (v := .int .i64 (k.ps.length : Int)) rfl (by kernel_rfl) (by kernel_rfl) (by kernel_rfl) (fun _ _ _ h => h) (Or.inl ⟨by rfl, fun w hw => by go_simp⟩) hHeld ?_
    simp only [Act.put, List.getElem_toArray, List.getElem_cons_zero, List.getElem_cons_succ, List.setIfInBounds_toArray, List.set_cons_zero, List.set_cons_succ]
    refine wpAnyH_take (i := 30) (v := .pointer (some ⟨g2, k.ps.length, none⟩)) rfl (by kernel_rfl) (by kernel_rfl) (by kernel_rfl) (fun _ _ _ h => h) (Or.inl ⟨by rfl, fun w hw => by (go_simp; intro h9; exact absurd h9 (by omega))⟩) hHeld ?_
    simp only [Act.put, List.getElem_toArray, List.getElem_cons_zero, List.getElem_cons_succ, List.setIfInBounds_toArray, List.set_cons_zero, List.set_cons_succ]
    refine wpAnyH_take (i := 31) (v := .string { data := #[115, 112, 97, 114, 101] }) rfl (by kernel_rfl) (by kernel_rfl) (by kernel_rfl) (fun _ _ _ h => h) (Or.inl ⟨by rfl, fun w hw => by have s1 := fz1 w hw; rw [Nat.mul_one] at s1; go_simp⟩) hHeld ?_
    simp only [Act.put, List.getElem_toArray, List.getElem_cons_zero, List.getElem_cons_succ, List.setIfInBounds_toArray, List.set_cons_zero, List.set_cons_succ]
    refine wpAnyH_take (i := 32) (v := .bool false) rfl (by kernel_rfl) (by kernel_rfl) (by kernel_rfl) (fun _ _ _ h => h) (Or.inl ⟨by rfl, fun w hw => by go_simp⟩) hHeld ?_
    simp only [Act.put, List.getElem_toArray, List.getElem_cons_zero, List.getElem_cons_succ, List.setIfInBounds_toArray, List.set_cons_zero, List.set_cons_succ]
    refine wpAnyH_take (i := 33) (v := .bool false) rfl (by kernel_rfl) (by kernel_rfl) (by kernel_rfl) (fun _ _ _ h => h) (Or.inl ⟨by rfl, fun w hw => by go_simp⟩) hHeld ?_
    simp only [Act.put, List.getElem_toArray, List.getElem_cons_zero, List.getElem_cons_succ, List.setIfInBounds_toArray, List.set_cons_zero, List.set_cons_succ]
    refine wpAnyH_take (i := 34) (v := .bool false) rfl (by kernel_rfl) (by kernel_rfl) (by kernel_rfl) (fun _ _ _ h => h) (Or.inl ⟨by rfl, fun w hw => by go_simp⟩) hHeld ?_
    simp only [Act.put, List.getElem_toArray, List.getElem_cons_zero, List.getElem_cons_succ, List.setIfInBounds_toArray, List.set_cons_zero, List.set_cons_succ]
    refine wpAnyH_take (i := 35) (v := .pointer (some ⟨G3, 35, none⟩)) rfl (by kernel_rfl) (by kernel_rfl) (by kernel_rfl) (fun _ _ _ h => h) (Or.inl ⟨by rfl, fun w hw => by go_simp⟩) hHeld ?_
    simp only [Act.put, List.getElem_toArray, List.getElem_cons_zero, List.getElem_cons_succ, List.setIfInBounds_toArray, List.set_cons_zero, List.set_cons_succ]
    refine wpAnyH_take (i := 36) (v := (.slice (some ⟨g3, 0, none⟩) k.rs.length c3)) rfl (by kernel_rfl) (by kernel_rfl) (by kernel_rfl) (fun _ _ _ h => h) (Or.inl ⟨by rfl, fun w hw => by have s1 := fa2 w hw; go_simp⟩) hHeld ?_
    simp only [Act.put, List.getElem_toArray, List.getElem_cons_zero, List.getElem_cons_succ, List.setIfInBounds_toArray, List.set_cons_zero, List.set_cons_succ]
    refine wpAnyH_take (i := 37) (v := .pointer (some ⟨H, 35, none⟩)) rfl (by kernel_rfl) (by kernel_rfl) (by kernel_rfl) (fun _ _ _ h => h) (Or.inl ⟨by rfl, fun w hw => by go_simp⟩) hHeld ?_
    simp only [Act.put, List.getElem_toArray, List.getElem_cons_zero, List.getElem_cons_succ, List.setIfInBounds_toArray, List.set_cons_zero, List.set_cons_succ]
    refine wpAnyH_take (i := 38) (v := (.slice oa0 k.rs.length oc0)) rfl (by kernel_rfl) (by kernel_rfl) (by kernel_rfl) (fun _ _ _ h => h) (Or.inl ⟨by rfl, fun w hw => by have s1 := fh2 w hw; go_simp⟩) hHeld ?_
    simp only [Act.put, List.getElem_toArray, List.getElem_cons_zero, List.getElem_cons_succ, List.setIfInBounds_toArray, List.set_cons_zero, List.set_cons_succ]
    refine wpAnyH_take (i := 39) (v := .int .i64 (k.rs.length : Int)) rfl (by kernel_rfl) (by kernel_rfl) (by kernel_rfl) (fun _ _ _ h => h) (Or.inl ⟨by rfl, fun w hw => by go_simp⟩) hHeld ?_
    simp only [Act.put, List.getElem_toArray, List.getElem_cons_zero, List.getElem_cons_succ, List.setIfInBounds_toArray, List.set_cons_zero, List.set_cons_succ]
    refine wpAnyH_take (i := 40) (v := .int .i64 ((k.rs.length : Int) + 1)) rfl (by kernel_rfl) (by kernel_rfl) (by kernel_rfl) (fun _ _ _ h => h) (Or.inl ⟨by rfl, fun w hw => by (go_simp; try exact hw2)⟩) hHeld ?_
    simp only [Act.put, List.getElem_toArray, List.getElem_cons_zero, List.getElem_cons_succ, List.setIfInBounds_toArray, List.set_cons_zero, List.set_cons_succ]
    refine wpAnyH_take (i := 41) (v := .slice (some ⟨g3, 0, none⟩) (k.rs.length + 1) c3) rfl (by kernel_rfl) (by kernel_rfl) (by kernel_rfl) (fun _ _ _ h => h) (Or.inl ⟨by rfl, fun w hw => by (go_simp; intro h9; exact absurd (h9 (by omega)) (by omega))⟩) hHeld ?_
    simp only [Act.put, List.getElem_toArray, List.getElem_cons_zero, List.getElem_cons_succ, List.setIfInBounds_toArray, List.set_cons_zero, List.set_cons_succ]
    refine wpAnyH_take (i := 42) (v := .pointer (some ⟨H, 35, none⟩)) rfl (by kernel_rfl) (by kernel_rfl) (by kernel_rfl) (fun _ _ _ h => h) (Or.inl ⟨by rfl, fun w hw => by go_simp⟩) hHeld ?_
    simp only [Act.put, List.getElem_toArray, List.getElem_cons_zero, List.getElem_cons_succ, List.setIfInBounds_toArray, List.set_cons_zero, List.set_cons_succ]
    refine wpAnyH_take (i := 43) (v := (.slice oa0 k.rs.length oc0)) rfl (by kernel_rfl) (by kernel_rfl) (by kernel_rfl) (fun _ _ _ h => h) (Or.inl ⟨by rfl, fun w hw => by have s1 := fh2 w hw; go_simp⟩) hHeld ?_
    simp only [Act.put, List.getElem_toArray, List.getElem_cons_zero, List.getElem_cons_succ, List.setIfInBounds_toArray, List.set_cons_zero, List.set_cons_succ]
    refine wpAnyH_take (i := 44) (v := .int .i64 (k.rs.length : Int)) rfl (by kernel_rfl) (by kernel_rfl) (by kernel_rfl) (fun _ _ _ h => h) (Or.inl ⟨by rfl, fun w hw => by go_simp⟩) hHeld ?_
    simp only [Act.put, List.getElem_toArray, List.getElem_cons_zero, List.getElem_cons_succ, List.setIfInBounds_toArray, List.set_cons_zero, List.set_cons_succ]
    refine wpAnyH_take (i := 45) (v := .pointer (some ⟨g3, k.rs.length * 2, none⟩)) rfl (by kernel_rfl) (by kernel_rfl) (by kernel_rfl) (fun _ _ _ h => h) (Or.inl ⟨by rfl, fun w hw => by (go_simp; intro h9; exact absurd h9 (by omega))⟩) hHeld ?_
    simp only [Act.put, List.getElem_toArray, List.getElem_cons_zero, List.getElem_cons_succ, List.setIfInBounds_toArray, List.set_cons_zero, List.set_cons_succ]
    refine wpAnyH_take (i := 46) (v := .pointer (some ⟨g3, k.rs.length * 2, none⟩)) rfl (by kernel_rfl) (by kernel_rfl) (by kernel_rfl) (fun _ _ _ h => h) (Or.inl ⟨by rfl, fun w hw => by go_simp⟩) hHeld ?_
    simp only [Act.put, List.getElem_toArray, List.getElem_cons_zero, List.getElem_cons_succ, List.setIfInBounds_toArray, List.set_cons_zero, List.set_cons_succ]
    refine wpAnyH_take (i := 47) (v := .int .i64 (-1)) rfl (by kernel_rfl) (by kernel_rfl) (by kernel_rfl) (fun _ _ _ h => h) (Or.inl ⟨by rfl, fun w hw => by have s1 := fz2 w hw; go_simp⟩) hHeld ?_
    simp only [Act.put, List.getElem_toArray, List.getElem_cons_zero, List.getElem_cons_succ, List.setIfInBounds_toArray, List.set_cons_zero, List.set_cons_succ]
    refine wpAnyH_take (i := 48) (v := .bool false) rfl (by kernel_rfl) (by kernel_rfl) (by kernel_rfl) (fun _ _ _ h => h) (Or.inl ⟨by rfl, fun w hw => by go_simp⟩) hHeld ?_
    simp only [Act.put, List.getElem_toArray, List.getElem_cons_zero, List.getElem_cons_succ, List.setIfInBounds_toArray, List.set_cons_zero, List.set_cons_succ]
    refine wpAnyH_take (i := 49) (v := .bool false) rfl (by kernel_rfl) (by kernel_rfl) (by kernel_rfl) (fun _ _ _ h => h) (Or.inl ⟨by rfl, fun w hw => by go_simp⟩) hHeld ?_
    simp only [Act.put, List.getElem_toArray, List.getElem_cons_zero, List.getElem_cons_succ, List.setIfInBounds_toArray, List.set_cons_zero, List.set_cons_succ]
    refine wpAnyH_take (i := 50) (v := .bool false) rfl (by kernel_rfl) (by kernel_rfl) (by kernel_rfl) (fun _ _ _ h => h) (Or.inl ⟨by rfl, fun w hw => by go_simp⟩) hHeld ?_
    simp only [Act.put, List.getElem_toArray, List.getElem_cons_zero, List.getElem_cons_succ, List.setIfInBounds_toArray, List.set_cons_zero, List.set_cons_succ]
    refine wpAnyH_take (i := 51) (v := .pointer (some ⟨G3, 36, none⟩)) rfl (by kernel_rfl) (by kernel_rfl) (by kernel_rfl) (fun _ _ _ h => h) (Or.inl ⟨by rfl, fun w hw => by go_simp⟩) hHeld ?_
    simp only [Act.put, List.getElem_toArray, List.getElem_cons_zero, List.getElem_cons_succ, List.setIfInBounds_toArray, List.set_cons_zero, List.set_cons_succ]
    refine wpAnyH_take (i := 52) (v := (.slice (some ⟨g4, 0, none⟩) k.dn c4)) rfl (by kernel_rfl) (by kernel_rfl) (by kernel_rfl) (fun _ _ _ h => h) (Or.inl ⟨by rfl, fun w hw => by have s1 := fa3 w hw; go_simp⟩) hHeld ?_
    simp only [Act.put, List.getElem_toArray, List.getElem_cons_zero, List.getElem_cons_succ, List.setIfInBounds_toArray, List.set_cons_zero, List.set_cons_succ]
    refine wpAnyH_take (i := 53) (v := .pointer (some ⟨H, 36, none⟩)) rfl (by kernel_rfl) (by kernel_rfl) (by kernel_rfl) (fun _ _ _ h => h) (Or.inl ⟨by rfl, fun w hw => by go_simp⟩) hHeld ?_
    simp only [Act.put, List.getElem_toArray, List.getElem_cons_zero, List.getElem_cons_succ, List.setIfInBounds_toArray, List.set_cons_zero, List.set_cons_succ]
    refine wpAnyH_take (i := 54) (v := (.slice ma0 k.dn mc0)) rfl (by kernel_rfl) (by kernel_rfl) (by kernel_rfl) (fun _ _ _ h => h) (Or.inl ⟨by rfl, fun w hw => by have s1 := fh3 w hw; go_simp⟩) hHeld ?_
    simp only [Act.put, List.getElem_toArray, List.getElem_cons_zero, List.getElem_cons_succ, List.setIfInBounds_toArray, List.set_cons_zero, List.set_cons_succ]
    refine wpAnyH_take (i := 55) (v := .int .i64 (k.dn : Int)) rfl (by kernel_rfl) (by kernel_rfl) (by kernel_rfl) (fun _ _ _ h => h) (Or.inl ⟨by rfl, fun w hw => by go_simp⟩) hHeld ?_
    simp only [Act.put, List.getElem_toArray, List.getElem_cons_zero, List.getElem_cons_succ, List.setIfInBounds_toArray, List.set_cons_zero, List.set_cons_succ]
    refine wpAnyH_take (i := 56) (v := .int .i64 ((k.dn : Int) + 1)) rfl (by kernel_rfl) (by kernel_rfl) (by kernel_rfl) (fun _ _ _ h => h) (Or.inl ⟨by rfl, fun w hw => by (go_simp; try exact hw3)⟩) hHeld ?_
    simp only [Act.put, List.getElem_toArray, List.getElem_cons_zero, List.getElem_cons_succ, List.setIfInBounds_toArray, List.set_cons_zero, List.set_cons_succ]
    refine wpAnyH_take (i := 57) (v := .slice (some ⟨g4, 0, none⟩) (k.dn + 1) c4) rfl (by kernel_rfl) (by kernel_rfl) (by kernel_rfl) (fun _ _ _ h => h) (Or.inl ⟨by rfl, fun w hw => by (go_simp; intro h9; exact absurd (h9 (by omega)) (by omega))⟩) hHeld ?_
    simp only [Act.put, List.getElem_toArray, List.getElem_cons_zero, List.getElem_cons_succ, List.setIfInBounds_toArray, List.set_cons_zero, List.set_cons_succ]
    refine wpAnyH_take (i := 58) (v := .pointer (some ⟨H, 36, none⟩)) rfl (by kernel_rfl) (by kernel_rfl) (by kernel_rfl) (fun _ _ _ h => h) (Or.inl ⟨by rfl, fun w hw => by go_simp⟩) hHeld ?_
    simp only [Act.put, List.getElem_toArray, List.getElem_cons_zero, List.getElem_cons_succ, List.setIfInBounds_toArray, List.set_cons_zero, List.set_cons_succ]
    refine wpAnyH_take (i := 59) (v := (.slice ma0 k.dn mc0)) rfl (by kernel_rfl) (by kernel_rfl) (by kernel_rfl) (fun _ _ _ h => h) (Or.inl ⟨by rfl, fun w hw => by have s1 := fh3 w hw; go_simp⟩) hHeld ?_
    simp only [Act.put, List.getElem_toArray, List.getElem_cons_zero, List.getElem_cons_succ, List.setIfInBounds_toArray, List.set_cons_zero, List.set_cons_succ]
    refine wpAnyH_take (i := 60) (v := .int .i64 (k.dn : Int)) rfl (by kernel_rfl) (by kernel_rfl) (by kernel_rfl) (fun _ _ _ h => h) (Or.inl ⟨by rfl, fun w hw => by go_simp⟩) hHeld ?_
    simp only [Act.put, List.getElem_toArray, List.getElem_cons_zero, List.getElem_cons_succ, List.setIfInBounds_toArray, List.set_cons_zero, List.set_cons_succ]
    refine wpAnyH_take (i := 61) (v := .pointer (some ⟨g4, k.dn * 6, none⟩)) rfl (by kernel_rfl) (by kernel_rfl) (by kernel_rfl) (fun _ _ _ h => h) (Or.inl ⟨by rfl, fun w hw => by (go_simp; intro h9; exact absurd h9 (by omega))⟩) hHeld ?_
    simp only [Act.put, List.getElem_toArray, List.getElem_cons_zero, List.getElem_cons_succ, List.setIfInBounds_toArray, List.set_cons_zero, List.set_cons_succ]
    refine wpAnyH_take (i := 62) (v := .pointer (some ⟨g4, k.dn * 6, none⟩)) rfl (by kernel_rfl) (by kernel_rfl) (by kernel_rfl) (fun _ _ _ h => h) (Or.inl ⟨by rfl, fun w hw => by go_simp⟩) hHeld ?_
    simp only [Act.put, List.getElem_toArray, List.getElem_cons_zero, List.getElem_cons_succ, List.setIfInBounds_toArray, List.set_cons_zero, List.set_cons_succ]
    refine wpAnyH_take (i := 63) (v := .string { data := #[115, 112, 97, 114, 101] }) rfl (by kernel_rfl) (by kernel_rfl) (by kernel_rfl) (fun _ _ _ h => h) (Or.inl ⟨by rfl, fun w hw => by have s1 := fz3 w hw; go_simp⟩) hHeld ?_
    simp only [Act.put, List.getElem_toArray, List.getElem_cons_zero, List.getElem_cons_succ, List.setIfInBounds_toArray, List.set_cons_zero, List.set_cons_succ]
    refine wpAnyH_take (i := 64) (v := .bool false) rfl (by kernel_rfl) (by kernel_rfl) (by kernel_rfl) (fun _ _ _ h => h) (Or.inl ⟨by rfl, fun w hw => by go_simp⟩) hHeld ?_
    simp only [Act.put, List.getElem_toArray, List.getElem_cons_zero, List.getElem_cons_succ, List.setIfInBounds_toArray, List.set_cons_zero, List.set_cons_succ]
    refine wpAnyH_take (i := 65) (v := .bool false) rfl (by kernel_rfl) (by kernel_rfl) (by kernel_rfl) (fun _ _ _ h => h) (Or.inl ⟨by rfl, fun w hw => by go_simp⟩) hHeld ?_
    simp only [Act.put, List.getElem_toArray, List.getElem_cons_zero, List.getElem_cons_succ, List.setIfInBounds_toArray, List.set_cons_zero, List.set_cons_succ]
    refine wpAnyH_done (by kernel_rfl) ?_ _
    clear hHeld
    clear XM fa0 fh0 fz0 q0 fa1 fh1 fz1 q1 fa2 fh2 fz2 q2 fa3 fh3 fz3 q3 bD fl3 fl0
    go_upto_region 18 with fail
    have okp : (lkOf p).ok := lkOf_ok HPG.out.1 HPG.out.2.1 HPG.out.2.2.1 HPG.out.2.2.2
    have smp : (lkOf p).small := by
      have h1 := HPG.out.2.1
      have h2 := HPG.out.2.2.1
      have h3 := HPG.out.2.2.2
      have h4 := HPG.out.1.rs
      exact ⟨Nat.le_trans h1 (by omega), Nat.le_trans h2 (by omega), Nat.le_trans h4 (by omega), Nat.le_trans h3 (by omega), fun i hi => ⟨by decide, by decide, fun j h => absurd h (Nat.not_lt_zero j), fun j h => absurd h (Nat.not_lt_zero j)⟩⟩
    have np1 := HPG.out.2.1
    have np2 := HPG.out.2.2.1
    have np4 := HPG.out.2.2.2
    have np3 := HPG.out.1.rs
    clear HPG
    have HP := Lib.hid (linkSame (lkOf p) (.slice ta p.ts.length tc) (.slice pa p.ps.length pc) (.slice oa p.rs.length oc) (.slice ma p.mo.length mc) (.slice tb p.ts.length td) (.slice pb p.ps.length pd) (.slice ob p.rs.length od) (.slice mb p.mo.length md) v1 okp Y1.out.1.r1.rl Y1.out.1.r2.rl)
    have HEQ : Hid (v1 = v1) := rfl
    have l1' := Y1.out.1.l1
    have l2' := Y1.out.1.l2
    go_wp2_with (first | (go_at_call 12; refine (num9 _ _).mono ?_; rintro e w9 ⟨rfl, rfl⟩) | (refine load_link_ifO rfl _ rfl G1 rfl l1' hh32 ?_) | (refine load_link_ifO rfl _ rfl G2 rfl l2' hh32 ?_))
    refine HP.out.mono ?_
    rintro e v2 ⟨rfl, b1⟩
    have Y2 := Lib.hid (Y1.out.1.below b1)
    clear b1 HP Y1 l1' l2' HEQ
    have HTW := Lib.hid (linkTwin (lkOf p) (.slice ta p.ts.length tc) (.slice pa p.ps.length pc) (.slice oa p.rs.length oc) (.slice ma p.mo.length mc) v2 okp smp Y2.out.r1.rl)
    obtain ⟨U, hU⟩ : ∃ U, U = v2.heap.size := ⟨_, rfl⟩
    go_wp2_with (first | (refine load_link_ifO rfl _ rfl G1 rfl Y2.out.l1 hh32 ?_))
    refine HTW.out.mono ?_
    rintro e x4 ⟨t4, p4, o4, m4, rfl, r4, b4, -, -⟩
    obtain ⟨tw, tx, rfl⟩ : ∃ a c, t4 = .slice a p.ts.length c := by obtain ⟨a, c, e, _⟩ := r4.1; exact ⟨a, c, e⟩
    obtain ⟨pw, px, rfl⟩ : ∃ a c, p4 = .slice a p.ps.length c := by obtain ⟨a, c, e, _⟩ := r4.2.1; exact ⟨a, c, e⟩
    obtain ⟨ow, ox, rfl⟩ : ∃ a c, o4 = .slice a p.rs.length c := by obtain ⟨a, c, e, _⟩ := r4.2.2.1; exact ⟨a, c, e⟩
    obtain ⟨mw, mx, rfl⟩ : ∃ a c, m4 = .slice a p.mo.length c := by obtain ⟨a, c, e, _⟩ := r4.2.2.2; exact ⟨a, c, e⟩
    have hZ : LB (x4.alloc (Obj.cells #[.int .u8 0, .int .u8 0, .int .u8 0, .int .u8 0, .int .u8 0, .int .u8 0, .int .u8 0, .int .u8 0, .int .u8 0, .int .u8 0, .int .u8 0, .int .u8 0, .int .u8 0, .int .u8 0, .int .u8 0, .int .u8 0, .int .u8 0, .int .u8 0, .int .u8 0, .int .u8 0, .int .u8 0, .int .u8 0, .int .u8 0, .int .u8 0, .int .u8 0, .int .u8 0, .int .u8 0, .int .u8 0, .int .u8 0, .int .u8 0, .int .u8 0, .int .u8 0, .string { data := #[] }, .slice .none 0 0, .slice .none 0 0, .slice .none 0 0, .slice .none 0 0] 28)) x4.heap.size (List.replicate 32 (0 : UInt8)) ⟨#[]⟩ (.slice none 0 0) (.slice none 0 0) (.slice none 0 0) (.slice none 0 0) := heap_new _ _
    have Z0 : Hid (PH w ((x4.alloc (Obj.cells #[.int .u8 0, .int .u8 0, .int .u8 0, .int .u8 0, .int .u8 0, .int .u8 0, .int .u8 0, .int .u8 0, .int .u8 0, .int .u8 0, .int .u8 0, .int .u8 0, .int .u8 0, .int .u8 0, .int .u8 0, .int .u8 0, .int .u8 0, .int .u8 0, .int .u8 0, .int .u8 0, .int .u8 0, .int .u8 0, .int .u8 0, .int .u8 0, .int .u8 0, .int .u8 0, .int .u8 0, .int .u8 0, .int .u8 0, .int .u8 0, .int .u8 0, .int .u8 0, .string { data := #[] }, .slice .none 0 0, .slice .none 0 0, .slice .none 0 0, .slice .none 0 0] 28)).setRow x4.heap.size (lkC p.h p.nm (.slice tw p.ts.length tx) (.slice pw p.ps.length px) (.slice ow p.rs.length ox) (.slice mw p.mo.length mx))) H G1 G2 G3 x4.heap.size U k (.slice ta0 k.ts.length tc0) (.slice pa0 k.ps.length pc0) (.slice oa0 k.rs.length oc0) (.slice ma0 k.dn mc0) (lkOf p) (.slice ta p.ts.length tc) (.slice pa p.ps.length pc) (.slice oa p.rs.length oc) (.slice ma p.mo.length mc) (.slice tb p.ts.length td) (.slice pb p.ps.length pd) (.slice ob p.rs.length od) (.slice mb p.mo.length md) (.slice (some ⟨g1, 0, none⟩) k.ts.length c1) (.slice (some ⟨g2, 0, none⟩) k.ps.length c2) (.slice (some ⟨g3, 0, none⟩) k.rs.length c3) (.slice (some ⟨g4, 0, none⟩) k.dn c4) (.slice tw p.ts.length tx) (.slice pw p.ps.length px) (.slice ow p.rs.length ox) (.slice mw p.mo.length mx)) := by
      have BB : Below x4.heap.size x4 ((x4.alloc (Obj.cells #[.int .u8 0, .int .u8 0, .int .u8 0, .int .u8 0, .int .u8 0, .int .u8 0, .int .u8 0, .int .u8 0, .int .u8 0, .int .u8 0, .int .u8 0, .int .u8 0, .int .u8 0, .int .u8 0, .int .u8 0, .int .u8 0, .int .u8 0, .int .u8 0, .int .u8 0, .int .u8 0, .int .u8 0, .int .u8 0, .int .u8 0, .int .u8 0, .int .u8 0, .int .u8 0, .int .u8 0, .int .u8 0, .int .u8 0, .int .u8 0, .int .u8 0, .int .u8 0, .string { data := #[] }, .slice .none 0 0, .slice .none 0 0, .slice .none 0 0, .slice .none 0 0] 28)).setRow x4.heap.size (lkC p.h p.nm (.slice tw p.ts.length tx) (.slice pw p.ps.length px) (.slice ow p.rs.length ox) (.slice mw p.mo.length mx))) := below_setRow ((Below.refl _ _).alloc (Nat.le_refl _) _) (Nat.le_refl _) _
      have BC := b4.trans (BB.mono b4.size)
      have hs3 := b4.size
      have y := Y2.out.below BC
      have l3 := Y2.out.l3.lt
      exact ⟨y.be, y.l0, y.l1, y.l2, y.l3, setRow_heap _ _ _ _ _ _ hZ, y.r1, y.r2.r4, Y2.out.r3.move (fun b hb hl => ⟨hb.1, hb.2, by omega⟩) BC.size (fun b _ hl => BC.block b hl), r4.move (fun b hb hl => ⟨by omega, hl⟩) BB.size (fun b _ hl => BB.block b hl), y.h0, y.h1, y.h2, y.h3, by omega, by omega⟩
    clear r4 b4 Y2 HTW hU smp
    go_upto_region 21 with (refine wpList_store_row rfl 28 _ _ rfl x4.heap.size (lkC p.h p.nm (.slice tw p.ts.length tx) (.slice pw p.ps.length px) (.slice ow p.rs.length ox) (.slice mw p.mo.length mx)) rfl rfl 28 _ hZ (infoLk hh32) (by rw [lkC_size hh32, lkC_size (by simp)]) lkC_one ?_)
    clear hZ
    generalize ((x4.alloc (Obj.cells #[.int .u8 0, .int .u8 0, .int .u8 0, .int .u8 0, .int .u8 0, .int .u8 0, .int .u8 0, .int .u8 0, .int .u8 0, .int .u8 0, .int .u8 0, .int .u8 0, .int .u8 0, .int .u8 0, .int .u8 0, .int .u8 0, .int .u8 0, .int .u8 0, .int .u8 0, .int .u8 0, .int .u8 0, .int .u8 0, .int .u8 0, .int .u8 0, .int .u8 0, .int .u8 0, .int .u8 0, .int .u8 0, .int .u8 0, .int .u8 0, .int .u8 0, .int .u8 0, .string { data := #[] }, .slice .none 0 0, .slice .none 0 0, .slice .none 0 0, .slice .none 0 0] 28)).setRow x4.heap.size (lkC p.h p.nm (.slice tw p.ts.length tx) (.slice pw p.ps.length px) (.slice ow p.rs.length ox) (.slice mw p.mo.length mx))) = y0 at *
    generalize x4.heap.size = G4 at *
    go_wp2
    go_loopw [14] (fun t wr => ∃ (i : Nat), i ≤ p.ts.length ∧ t = .int .i64 (i : Int) ∧ Hid (PH w wr H G1 G2 G3 G4 U k (.slice ta0 k.ts.length tc0) (.slice pa0 k.ps.length pc0) (.slice oa0 k.rs.length oc0) (.slice ma0 k.dn mc0) (lkOf p) (.slice ta p.ts.length tc) (.slice pa p.ps.length pc) (.slice oa p.rs.length oc) (.slice ma p.mo.length mc) (.slice tb p.ts.length td) (.slice pb p.ps.length pd) (.slice ob p.rs.length od) (.slice mb p.mo.length md) (.slice (some ⟨g1, 0, none⟩) k.ts.length c1) (.slice (some ⟨g2, 0, none⟩) k.ps.length c2) (.slice (some ⟨g3, 0, none⟩) k.rs.length c3) (.slice (some ⟨g4, 0, none⟩) k.dn c4) (.slice tw p.ts.length tx) (.slice pw p.ps.length px) (.slice ow p.rs.length ox) (.slice mw p.mo.length mx))) (fun t _ => p.ts.length - (intOf t).toNat)
    case atStart => exact ⟨0, Nat.zero_le _, rfl, Z0⟩
    case round =>
      clear Z0
      obtain ⟨i, hi, rfl, HI⟩ := hrel
      have c9 := (HI.out.l2.cells hh32).2.1
      by_cases hlt : i < p.ts.length
      · obtain ⟨xs, ho⟩ := HI.out.r2.o1
        obtain ⟨g, cap, hv⟩ := own_slot ho hlt
        simp only [Value.slice.injEq] at hv
        obtain ⟨rfl, -, rfl⟩ := hv
        have hth : wr.there g (i) 1 := by have h9 := own_there ho.1 i hlt; rw [Nat.mul_one] at h9; exact h9
        have HN : Hid (PH w (wr.setCell ⟨g, i, none⟩ (.string { data := #[115, 112, 111, 105, 108, 116] })) H G1 G2 G3 G4 U k (.slice ta0 k.ts.length tc0) (.slice pa0 k.ps.length pc0) (.slice oa0 k.rs.length oc0) (.slice ma0 k.dn mc0) (lkOf p) (.slice ta p.ts.length tc) (.slice pa p.ps.length pc) (.slice oa p.rs.length oc) (.slice ma p.mo.length mc) (.slice (some ⟨g, 0, none⟩) p.ts.length td) (.slice pb p.ps.length pd) (.slice ob p.rs.length od) (.slice mb p.mo.length md) (.slice (some ⟨g1, 0, none⟩) k.ts.length c1) (.slice (some ⟨g2, 0, none⟩) k.ps.length c2) (.slice (some ⟨g3, 0, none⟩) k.rs.length c3) (.slice (some ⟨g4, 0, none⟩) k.dn c4) (.slice tw p.ts.length tx) (.slice pw p.ps.length px) (.slice ow p.rs.length ox) (.slice mw p.mo.length mx)) := HI.out.two (v := .slice (some ⟨g, 0, none⟩) p.ts.length td) ((frSet wr g i _).mono (fun b _ hb e => hb (by rw [e]; rfl))) (fun b hb => (ho.2 b hb)) (HI.out.r2.putT ((frSet wr g i _).mono (fun b _ hb e => hb (by rw [e]; rfl))) ⟨_, (World.ownsRow.stored ho.1 i _).1, ho.2⟩)
        have d1 := (hth 0 (by omega)).1
        have d2 := (hth 0 (by omega)).2
        rw [Nat.add_zero] at d1 d2
        obtain ⟨u9, d1⟩ := Option.isSome_iff_exists.1 d1
        clear HI ho
        go_wp2
        exact ⟨⟨i + 1, by omega, by go_num, HN⟩, by simp [intOf]; omega⟩
      · have Z1 := HI
        have e9 : i = p.ts.length := by omega
        subst e9
        clear HI hi hlt
        go_wp2
        clear c9
        go_loopw [15] (fun t wr => ∃ (i : Nat), i ≤ p.ps.length ∧ t = .int .i64 (i : Int) ∧ Hid (PH w wr H G1 G2 G3 G4 U k (.slice ta0 k.ts.length tc0) (.slice pa0 k.ps.length pc0) (.slice oa0 k.rs.length oc0) (.slice ma0 k.dn mc0) (lkOf p) (.slice ta p.ts.length tc) (.slice pa p.ps.length pc) (.slice oa p.rs.length oc) (.slice ma p.mo.length mc) (.slice tb p.ts.length td) (.slice pb p.ps.length pd) (.slice ob p.rs.length od) (.slice mb p.mo.length md) (.slice (some ⟨g1, 0, none⟩) k.ts.length c1) (.slice (some ⟨g2, 0, none⟩) k.ps.length c2) (.slice (some ⟨g3, 0, none⟩) k.rs.length c3) (.slice (some ⟨g4, 0, none⟩) k.dn c4) (.slice tw p.ts.length tx) (.slice pw p.ps.length px) (.slice ow p.rs.length ox) (.slice mw p.mo.length mx))) (fun t _ => p.ps.length - (intOf t).toNat)
        case atStart => exact ⟨0, Nat.zero_le _, rfl, Z1⟩
        case round =>
          clear Z1
          obtain ⟨i, hi, rfl, HI⟩ := hrel
          have c9 := (HI.out.l2.cells hh32).2.2.1
          by_cases hlt : i < p.ps.length
          · obtain ⟨xs, ho⟩ := HI.out.r2.o2
            obtain ⟨g, cap, hv⟩ := own_slot ho hlt
            simp only [Value.slice.injEq] at hv
            obtain ⟨rfl, -, rfl⟩ := hv
            have hth : wr.there g (i) 1 := by have h9 := own_there ho.1 i hlt; rw [Nat.mul_one] at h9; exact h9
            have HN : Hid (PH w (wr.setCell ⟨g, i, none⟩ (.string { data := #[115, 112, 111, 105, 108, 116] })) H G1 G2 G3 G4 U k (.slice ta0 k.ts.length tc0) (.slice pa0 k.ps.length pc0) (.slice oa0 k.rs.length oc0) (.slice ma0 k.dn mc0) (lkOf p) (.slice ta p.ts.length tc) (.slice pa p.ps.length pc) (.slice oa p.rs.length oc) (.slice ma p.mo.length mc) (.slice tb p.ts.length td) (.slice (some ⟨g, 0, none⟩) p.ps.length pd) (.slice ob p.rs.length od) (.slice mb p.mo.length md) (.slice (some ⟨g1, 0, none⟩) k.ts.length c1) (.slice (some ⟨g2, 0, none⟩) k.ps.length c2) (.slice (some ⟨g3, 0, none⟩) k.rs.length c3) (.slice (some ⟨g4, 0, none⟩) k.dn c4) (.slice tw p.ts.length tx) (.slice pw p.ps.length px) (.slice ow p.rs.length ox) (.slice mw p.mo.length mx)) := HI.out.two (v := .slice (some ⟨g, 0, none⟩) p.ps.length pd) ((frSet wr g i _).mono (fun b _ hb e => hb (by rw [e]; rfl))) (fun b hb => (ho.2 b hb)) (HI.out.r2.putP ((frSet wr g i _).mono (fun b _ hb e => hb (by rw [e]; rfl))) ⟨_, (World.ownsRow.stored ho.1 i _).1, ho.2⟩)
            have d1 := (hth 0 (by omega)).1
            have d2 := (hth 0 (by omega)).2
            rw [Nat.add_zero] at d1 d2
            obtain ⟨u9, d1⟩ := Option.isSome_iff_exists.1 d1
            clear HI ho
            go_wp2
            exact ⟨⟨i + 1, by omega, by go_num, HN⟩, by simp [intOf]; omega⟩
          · have Z2 := HI
            have e9 : i = p.ps.length := by omega
            subst e9
            clear HI hi hlt
            go_wp2
            clear c9
            go_loopw [16] (fun t wr => ∃ (i : Nat), i ≤ p.rs.length ∧ t = .int .i64 (i : Int) ∧ Hid (PH w wr H G1 G2 G3 G4 U k (.slice ta0 k.ts.length tc0) (.slice pa0 k.ps.length pc0) (.slice oa0 k.rs.length oc0) (.slice ma0 k.dn mc0) (lkOf p) (.slice ta p.ts.length tc) (.slice pa p.ps.length pc) (.slice oa p.rs.length oc) (.slice ma p.mo.length mc) (.slice tb p.ts.length td) (.slice pb p.ps.length pd) (.slice ob p.rs.length od) (.slice mb p.mo.length md) (.slice (some ⟨g1, 0, none⟩) k.ts.length c1) (.slice (some ⟨g2, 0, none⟩) k.ps.length c2) (.slice (some ⟨g3, 0, none⟩) k.rs.length c3) (.slice (some ⟨g4, 0, none⟩) k.dn c4) (.slice tw p.ts.length tx) (.slice pw p.ps.length px) (.slice ow p.rs.length ox) (.slice mw p.mo.length mx))) (fun t _ => p.rs.length - (intOf t).toNat)
            case atStart => exact ⟨0, Nat.zero_le _, rfl, Z2⟩
            case round =>
              clear Z2
              obtain ⟨i, hi, rfl, HI⟩ := hrel
              have c9 := (HI.out.l2.cells hh32).2.2.2.1
              by_cases hlt : i < p.rs.length
              · obtain ⟨xs, ho⟩ := HI.out.r2.o3
                obtain ⟨g, cap, hv⟩ := own_slot ho hlt
                simp only [Value.slice.injEq] at hv
                obtain ⟨rfl, -, rfl⟩ := hv
                have hth : wr.there g (i * 2) 2 := by have h9 := own_there ho.1 i hlt; exact h9
                have hone : (#[.int .i64 (-7), .int .i64 0] : Array Value).all (·.oneCell') = true := Array.all_eq_true_iff_forall_mem.2 (fun v hv => by simp at hv; rcases hv with rfl | rfl <;> rfl)
                have hinf : (Tryz.prog.info? 36).map (·.size) = some (#[.int .i64 (-7), .int .i64 0] : Array Value).size := by kernel_rfl
                have HN : Hid (PH w (wr.setCells g (i * 2) (#[.int .i64 (-7), .int .i64 0] : Array Value).toList) H G1 G2 G3 G4 U k (.slice ta0 k.ts.length tc0) (.slice pa0 k.ps.length pc0) (.slice oa0 k.rs.length oc0) (.slice ma0 k.dn mc0) (lkOf p) (.slice ta p.ts.length tc) (.slice pa p.ps.length pc) (.slice oa p.rs.length oc) (.slice ma p.mo.length mc) (.slice tb p.ts.length td) (.slice pb p.ps.length pd) (.slice (some ⟨g, 0, none⟩) p.rs.length od) (.slice mb p.mo.length md) (.slice (some ⟨g1, 0, none⟩) k.ts.length c1) (.slice (some ⟨g2, 0, none⟩) k.ps.length c2) (.slice (some ⟨g3, 0, none⟩) k.rs.length c3) (.slice (some ⟨g4, 0, none⟩) k.dn c4) (.slice tw p.ts.length tx) (.slice pw p.ps.length px) (.slice ow p.rs.length ox) (.slice mw p.mo.length mx)) := HI.out.two (v := .slice (some ⟨g, 0, none⟩) p.rs.length od) ((fr_cells wr g (i * 2) _).mono (fun b _ hb e => hb (by rw [e]; rfl))) (fun b hb => (ho.2 b hb)) (HI.out.r2.putO ((fr_cells wr g (i * 2) _).mono (fun b _ hb e => hb (by rw [e]; rfl))) (own_cells _ wr (i * 2) ⟨_, ho⟩))
                clear HI ho
                go_wp2_with (first | (refine wpList_store_mid rfl 36 _ _ rfl g (i * 2) (#[.int .i64 (-7), .int .i64 0] : Array Value) rfl rfl hth hinf hone ?_))
                exact ⟨⟨i + 1, by omega, by go_num, HN⟩, by simp [intOf]; omega⟩
              · have Z3 := HI
                have e9 : i = p.rs.length := by omega
                subst e9
                clear HI hi hlt
                go_wp2
                clear c9
                go_loopw [17] (fun t wr => ∃ (i : Nat), i ≤ p.mo.length ∧ t = .int .i64 (i : Int) ∧ Hid (PH w wr H G1 G2 G3 G4 U k (.slice ta0 k.ts.length tc0) (.slice pa0 k.ps.length pc0) (.slice oa0 k.rs.length oc0) (.slice ma0 k.dn mc0) (lkOf p) (.slice ta p.ts.length tc) (.slice pa p.ps.length pc) (.slice oa p.rs.length oc) (.slice ma p.mo.length mc) (.slice tb p.ts.length td) (.slice pb p.ps.length pd) (.slice ob p.rs.length od) (.slice mb p.mo.length md) (.slice (some ⟨g1, 0, none⟩) k.ts.length c1) (.slice (some ⟨g2, 0, none⟩) k.ps.length c2) (.slice (some ⟨g3, 0, none⟩) k.rs.length c3) (.slice (some ⟨g4, 0, none⟩) k.dn c4) (.slice tw p.ts.length tx) (.slice pw p.ps.length px) (.slice ow p.rs.length ox) (.slice mw p.mo.length mx))) (fun t _ => p.mo.length - (intOf t).toNat)
                case atStart => exact ⟨0, Nat.zero_le _, rfl, Z3⟩
                case round =>
                  clear Z3
                  obtain ⟨i, hi, rfl, HI⟩ := hrel
                  have c9 := (HI.out.l2.cells hh32).2.2.2.2
                  by_cases hlt : i < p.mo.length
                  · obtain ⟨xs, ho⟩ := HI.out.r2.o4
                    obtain ⟨g, cap, hv⟩ := own_slot ho hlt
                    simp only [Value.slice.injEq] at hv
                    obtain ⟨rfl, -, rfl⟩ := hv
                    have hth : wr.there g (i * 6) 6 := by have h9 := own_there ho.1 i hlt; exact h9
                    have hone : (#[.string { data := #[115, 112, 111, 105, 108, 116] }, .int .i64 0, .int .i64 0, .string { data := #[] }, .slice none 0 0, .slice none 0 0] : Array Value).all (·.oneCell') = true := Array.all_eq_true_iff_forall_mem.2 (fun v hv => by simp at hv; rcases hv with rfl | rfl | rfl | rfl | rfl | rfl <;> rfl)
                    have hinf : (Tryz.prog.info? 41).map (·.size) = some (#[.string { data := #[115, 112, 111, 105, 108, 116] }, .int .i64 0, .int .i64 0, .string { data := #[] }, .slice none 0 0, .slice none 0 0] : Array Value).size := by kernel_rfl
                    have HN : Hid (PH w (wr.setCells g (i * 6) (#[.string { data := #[115, 112, 111, 105, 108, 116] }, .int .i64 0, .int .i64 0, .string { data := #[] }, .slice none 0 0, .slice none 0 0] : Array Value).toList) H G1 G2 G3 G4 U k (.slice ta0 k.ts.length tc0) (.slice pa0 k.ps.length pc0) (.slice oa0 k.rs.length oc0) (.slice ma0 k.dn mc0) (lkOf p) (.slice ta p.ts.length tc) (.slice pa p.ps.length pc) (.slice oa p.rs.length oc) (.slice ma p.mo.length mc) (.slice tb p.ts.length td) (.slice pb p.ps.length pd) (.slice ob p.rs.length od) (.slice (some ⟨g, 0, none⟩) p.mo.length md) (.slice (some ⟨g1, 0, none⟩) k.ts.length c1) (.slice (some ⟨g2, 0, none⟩) k.ps.length c2) (.slice (some ⟨g3, 0, none⟩) k.rs.length c3) (.slice (some ⟨g4, 0, none⟩) k.dn c4) (.slice tw p.ts.length tx) (.slice pw p.ps.length px) (.slice ow p.rs.length ox) (.slice mw p.mo.length mx)) := HI.out.two (v := .slice (some ⟨g, 0, none⟩) p.mo.length md) ((fr_cells wr g (i * 6) _).mono (fun b _ hb e => hb (by rw [e]; rfl))) (fun b hb => (ho.2 b hb)) (HI.out.r2.putM ((fr_cells wr g (i * 6) _).mono (fun b _ hb e => hb (by rw [e]; rfl))) (own_cells _ wr (i * 6) ⟨_, ho⟩))
                    clear HI ho
                    go_upto_region 35 with (refine wpList_store_mid rfl 41 _ _ rfl g (i * 6) (#[.string { data := #[115, 112, 111, 105, 108, 116] }, .int .i64 0, .int .i64 0, .string { data := #[] }, .slice none 0 0, .slice none 0 0] : Array Value) rfl rfl hth hinf hone ?_)
                    go_wp2
                    exact ⟨⟨i + 1, by omega, by go_num, HN⟩, by simp [intOf]; omega⟩
                  · have Z4 := HI
                    have e9 : i = p.mo.length := by omega
                    subst e9
                    clear HI hi hlt
                    have D1 := Z4.out.r1.r4
                    have D2 := Z4.out.r2
                    have a1T := fun g => ex_S (g := g) D1.o1
                    have a1P := fun g => ex_S (g := g) D1.o2
                    have a1O := fun g => ex_S (g := g) D1.o3
                    have a1M := fun g => ex_S (g := g) D1.o4
                    have a2T := fun g => ex_S (g := g) D2.o1
                    have a2P := fun g => ex_S (g := g) D2.o2
                    have a2O := fun g => ex_S (g := g) D2.o3
                    have a2M := fun g => ex_S (g := g) D2.o4
                    have h1 := Z4.out.h1
                    have h2 := Z4.out.h2
                    have h3 := Z4.out.h3
                    have DD := Lib.hid (And.intro D1 D2)
                    have SS : Hid ((∀ g, Value.ownBlock (.slice ta p.ts.length tc) = some g → H < g ∧ g < G1) ∧ (∀ g, Value.ownBlock (.slice pa p.ps.length pc) = some g → H < g ∧ g < G1) ∧ (∀ g, Value.ownBlock (.slice oa p.rs.length oc) = some g → H < g ∧ g < G1) ∧ (∀ g, Value.ownBlock (.slice ma p.mo.length mc) = some g → H < g ∧ g < G1) ∧ (∀ g, Value.ownBlock (.slice tb p.ts.length td) = some g → G1 < g ∧ g < G2) ∧ (∀ g, Value.ownBlock (.slice pb p.ps.length pd) = some g → G1 < g ∧ g < G2) ∧ (∀ g, Value.ownBlock (.slice ob p.rs.length od) = some g → G1 < g ∧ g < G2) ∧ (∀ g, Value.ownBlock (.slice mb p.mo.length md) = some g → G1 < g ∧ g < G2)) := ⟨fun g h => (a1T g h).1, fun g h => (a1P g h).1, fun g h => (a1O g h).1, fun g h => (a1M g h).1, fun g h => (a2T g h).1, fun g h => (a2P g h).1, fun g h => (a2O g h).1, fun g h => (a2M g h).1⟩
                    clear D1 D2 a1T a1P a1O a1M a2T a2P a2O a2M
                    have HH : Hid (H < G1 ∧ G1 < G2 ∧ G2 < G3) := ⟨h1, h2, h3⟩
                    clear h1 h2 h3
                    have c9la := (Z4.out.l1.cells hh32).2.1
                    have ho := Z4.out.r1.o1
                    have HP := Lib.hid (textsOnT (.slice ta p.ts.length tc) p.ts.length _ { data := #[109, 49] } 0 wr ho.1 (Nat.zero_le _) (by omega))
                    go_wp2_with fail
                    refine HP.out.mono ?_
                    rintro e n0 ⟨la9, rfl, gil⟩
                    have hv9 : ∀ g, Value.ownBlock (.slice ta p.ts.length tc) = some g → g < G3 := fun g h => by have := SS.out.1 g h; have := HH.out; omega
                    have sz9 : G3 ≤ wr.heap.size := Nat.le_of_lt Z4.out.l3.lt
                    have Z5 : Hid (PH w n0 H G1 G2 G3 G4 U k (.slice ta0 k.ts.length tc0) (.slice pa0 k.ps.length pc0) (.slice oa0 k.rs.length oc0) (.slice ma0 k.dn mc0) (lkOf p) (.slice ta p.ts.length tc) (.slice pa p.ps.length pc) (.slice oa p.rs.length oc) (.slice ma p.mo.length mc) (.slice tb p.ts.length td) (.slice pb p.ps.length pd) (.slice ob p.rs.length od) (.slice mb p.mo.length md) (.slice (some ⟨g1, 0, none⟩) k.ts.length c1) (.slice (some ⟨g2, 0, none⟩) k.ps.length c2) (.slice (some ⟨g3, 0, none⟩) k.rs.length c3) (.slice (some ⟨g4, 0, none⟩) k.dn c4) (.slice tw p.ts.length tx) (.slice pw p.ps.length px) (.slice ow p.rs.length ox) (.slice mw p.mo.length mx)) := Z4.out.one gil.fr SS.out.1 (RLo.putT Z4.out.r1 gil.fr ⟨gil.old, ho.2⟩ (fun _ h _ => h) (At.refl _ _))
                    have Wla : Hid (NW n0 G3 9 1 (.slice ta p.ts.length tc) la9 (p.ts.length + 70) (_ ++ repV [.string { data := #[109, 49] }] 70)) := ⟨gil.new, gil.at_.imp id (fun h g hg => Nat.le_trans sz9 (h g hg))⟩
                    have Ela := ho.1.1
                    obtain ⟨laA, laN, laC, rfl⟩ := gil.form
                    clear HP gil ho hv9 sz9 Z4 c9la
                    have c9lb := (Z5.out.l1.cells hh32).2.2.1
                    have ho := Z5.out.r1.o2
                    have HP := Lib.hid (textsOnT (.slice pa p.ps.length pc) p.ps.length _ { data := #[109, 50] } 0 n0 ho.1 (Nat.zero_le _) (by omega))
                    go_wp2_with fail
                    refine HP.out.mono ?_
                    rintro e n1 ⟨lb9, rfl, gil⟩
                    have hv9 : ∀ g, Value.ownBlock (.slice pa p.ps.length pc) = some g → g < G3 := fun g h => by have := SS.out.2.1 g h; have := HH.out; omega
                    have sz9 : G3 ≤ n0.heap.size := Nat.le_of_lt Z5.out.l3.lt
                    have Z6 : Hid (PH w n1 H G1 G2 G3 G4 U k (.slice ta0 k.ts.length tc0) (.slice pa0 k.ps.length pc0) (.slice oa0 k.rs.length oc0) (.slice ma0 k.dn mc0) (lkOf p) (.slice ta p.ts.length tc) (.slice pa p.ps.length pc) (.slice oa p.rs.length oc) (.slice ma p.mo.length mc) (.slice tb p.ts.length td) (.slice pb p.ps.length pd) (.slice ob p.rs.length od) (.slice mb p.mo.length md) (.slice (some ⟨g1, 0, none⟩) k.ts.length c1) (.slice (some ⟨g2, 0, none⟩) k.ps.length c2) (.slice (some ⟨g3, 0, none⟩) k.rs.length c3) (.slice (some ⟨g4, 0, none⟩) k.dn c4) (.slice tw p.ts.length tx) (.slice pw p.ps.length px) (.slice ow p.rs.length ox) (.slice mw p.mo.length mx)) := Z5.out.one gil.fr SS.out.2.1 (RLo.putP Z5.out.r1 gil.fr ⟨gil.old, ho.2⟩ (fun _ h _ => h) (At.refl _ _))
                    replace Wla := Lib.hid (Wla.out.keep gil.fr DD.out.1.d1 hv9)
                    have Wlb : Hid (NW n1 G3 9 1 (.slice pa p.ps.length pc) lb9 (p.ps.length + 70) (_ ++ repV [.string { data := #[109, 50] }] 70)) := ⟨gil.new, gil.at_.imp id (fun h g hg => Nat.le_trans sz9 (h g hg))⟩
                    have Elb := ho.1.1
                    obtain ⟨lbA, lbN, lbC, rfl⟩ := gil.form
                    clear HP gil ho hv9 sz9 Z5 c9lb
                    have c9lc := (Z6.out.l2.cells hh32).2.1
                    obtain ⟨xslc, ho⟩ := Z6.out.r2.o1
                    have HP := Lib.hid (textsOnT (.slice tb p.ts.length td) p.ts.length _ { data := #[109, 51] } 0 n1 ho.1 (Nat.zero_le _) (by omega))
                    go_wp2_with fail
                    refine HP.out.mono ?_
                    rintro e n2 ⟨lc9, rfl, gil⟩
                    have hv9 : ∀ g, Value.ownBlock (.slice tb p.ts.length td) = some g → g < G3 := fun g h => by have := SS.out.2.2.2.2.1 g h; have := HH.out; omega
                    have sz9 : G3 ≤ n1.heap.size := Nat.le_of_lt Z6.out.l3.lt
                    have Z7 : Hid (PH w n2 H G1 G2 G3 G4 U k (.slice ta0 k.ts.length tc0) (.slice pa0 k.ps.length pc0) (.slice oa0 k.rs.length oc0) (.slice ma0 k.dn mc0) (lkOf p) (.slice ta p.ts.length tc) (.slice pa p.ps.length pc) (.slice oa p.rs.length oc) (.slice ma p.mo.length mc) (.slice tb p.ts.length td) (.slice pb p.ps.length pd) (.slice ob p.rs.length od) (.slice mb p.mo.length md) (.slice (some ⟨g1, 0, none⟩) k.ts.length c1) (.slice (some ⟨g2, 0, none⟩) k.ps.length c2) (.slice (some ⟨g3, 0, none⟩) k.rs.length c3) (.slice (some ⟨g4, 0, none⟩) k.dn c4) (.slice tw p.ts.length tx) (.slice pw p.ps.length px) (.slice ow p.rs.length ox) (.slice mw p.mo.length mx)) := Z6.out.two gil.fr SS.out.2.2.2.2.1 (Z6.out.r2.putT gil.fr ⟨_, gil.old, ho.2⟩)
                    replace Wla := Lib.hid (Wla.out.keep gil.fr (fun g x y => by have := SS.out.1 g x; have := SS.out.2.2.2.2.1 g y; omega) hv9)
                    replace Wlb := Lib.hid (Wlb.out.keep gil.fr (fun g x y => by have := SS.out.2.1 g x; have := SS.out.2.2.2.2.1 g y; omega) hv9)
                    have Wlc : Hid (NW n2 G3 9 1 (.slice tb p.ts.length td) lc9 (p.ts.length + 70) (_ ++ repV [.string { data := #[109, 51] }] 70)) := ⟨gil.new, gil.at_.imp id (fun h g hg => Nat.le_trans sz9 (h g hg))⟩
                    have Elc := ho.1.1
                    obtain ⟨lcA, lcN, lcC, rfl⟩ := gil.form
                    clear HP gil ho hv9 sz9 Z6 c9lc
                    have c9ld := (Z7.out.l2.cells hh32).2.2.1
                    obtain ⟨xsld, ho⟩ := Z7.out.r2.o2
                    have HP := Lib.hid (textsOnT (.slice pb p.ps.length pd) p.ps.length _ { data := #[109, 52] } 0 n2 ho.1 (Nat.zero_le _) (by omega))
                    go_wp2_with fail
                    refine HP.out.mono ?_
                    rintro e n3 ⟨ld9, rfl, gil⟩
                    have hv9 : ∀ g, Value.ownBlock (.slice pb p.ps.length pd) = some g → g < G3 := fun g h => by have := SS.out.2.2.2.2.2.1 g h; have := HH.out; omega
                    have sz9 : G3 ≤ n2.heap.size := Nat.le_of_lt Z7.out.l3.lt
                    have Z8 : Hid (PH w n3 H G1 G2 G3 G4 U k (.slice ta0 k.ts.length tc0) (.slice pa0 k.ps.length pc0) (.slice oa0 k.rs.length oc0) (.slice ma0 k.dn mc0) (lkOf p) (.slice ta p.ts.length tc) (.slice pa p.ps.length pc) (.slice oa p.rs.length oc) (.slice ma p.mo.length mc) (.slice tb p.ts.length td) (.slice pb p.ps.length pd) (.slice ob p.rs.length od) (.slice mb p.mo.length md) (.slice (some ⟨g1, 0, none⟩) k.ts.length c1) (.slice (some ⟨g2, 0, none⟩) k.ps.length c2) (.slice (some ⟨g3, 0, none⟩) k.rs.length c3) (.slice (some ⟨g4, 0, none⟩) k.dn c4) (.slice tw p.ts.length tx) (.slice pw p.ps.length px) (.slice ow p.rs.length ox) (.slice mw p.mo.length mx)) := Z7.out.two gil.fr SS.out.2.2.2.2.2.1 (Z7.out.r2.putP gil.fr ⟨_, gil.old, ho.2⟩)
                    replace Wla := Lib.hid (Wla.out.keep gil.fr (fun g x y => by have := SS.out.1 g x; have := SS.out.2.2.2.2.2.1 g y; omega) hv9)
                    replace Wlb := Lib.hid (Wlb.out.keep gil.fr (fun g x y => by have := SS.out.2.1 g x; have := SS.out.2.2.2.2.2.1 g y; omega) hv9)
                    replace Wlc := Lib.hid (Wlc.out.keep gil.fr DD.out.2.d1 hv9)
                    have Wld : Hid (NW n3 G3 9 1 (.slice pb p.ps.length pd) ld9 (p.ps.length + 70) (_ ++ repV [.string { data := #[109, 52] }] 70)) := ⟨gil.new, gil.at_.imp id (fun h g hg => Nat.le_trans sz9 (h g hg))⟩
                    have Eld := ho.1.1
                    obtain ⟨ldA, ldN, ldC, rfl⟩ := gil.form
                    clear HP gil ho hv9 sz9 Z7 c9ld
                    have c9le := (Z8.out.l1.cells hh32).2.2.2.1
                    have ho := Z8.out.r1.o3
                    have HP := Lib.hid (runsOnT (.slice oa p.rs.length oc) p.rs.length _ (-2) 0 n3 ho.1 (Nat.zero_le _) (by omega))
                    go_wp2_with fail
                    refine HP.out.mono ?_
                    rintro e n4 ⟨le9, rfl, gil⟩
                    have hv9 : ∀ g, Value.ownBlock (.slice oa p.rs.length oc) = some g → g < G3 := fun g h => by have := SS.out.2.2.1 g h; have := HH.out; omega
                    have sz9 : G3 ≤ n3.heap.size := Nat.le_of_lt Z8.out.l3.lt
                    have Z9 : Hid (PH w n4 H G1 G2 G3 G4 U k (.slice ta0 k.ts.length tc0) (.slice pa0 k.ps.length pc0) (.slice oa0 k.rs.length oc0) (.slice ma0 k.dn mc0) (lkOf p) (.slice ta p.ts.length tc) (.slice pa p.ps.length pc) (.slice oa p.rs.length oc) (.slice ma p.mo.length mc) (.slice tb p.ts.length td) (.slice pb p.ps.length pd) (.slice ob p.rs.length od) (.slice mb p.mo.length md) (.slice (some ⟨g1, 0, none⟩) k.ts.length c1) (.slice (some ⟨g2, 0, none⟩) k.ps.length c2) (.slice (some ⟨g3, 0, none⟩) k.rs.length c3) (.slice (some ⟨g4, 0, none⟩) k.dn c4) (.slice tw p.ts.length tx) (.slice pw p.ps.length px) (.slice ow p.rs.length ox) (.slice mw p.mo.length mx)) := Z8.out.one gil.fr SS.out.2.2.1 (RLo.putO Z8.out.r1 gil.fr ⟨gil.old, ho.2⟩ (fun _ h _ => h) (At.refl _ _))
                    replace Wla := Lib.hid (Wla.out.keep gil.fr DD.out.1.d2 hv9)
                    replace Wlb := Lib.hid (Wlb.out.keep gil.fr DD.out.1.d4 hv9)
                    replace Wlc := Lib.hid (Wlc.out.keep gil.fr (fun g x y => by have := SS.out.2.2.2.2.1 g x; have := SS.out.2.2.1 g y; omega) hv9)
                    replace Wld := Lib.hid (Wld.out.keep gil.fr (fun g x y => by have := SS.out.2.2.2.2.2.1 g x; have := SS.out.2.2.1 g y; omega) hv9)
                    have Wle : Hid (NW n4 G3 36 2 (.slice oa p.rs.length oc) le9 (p.rs.length + 70) (_ ++ repV [.int .i64 (-2), .int .i64 0] 70)) := ⟨gil.new, gil.at_.imp id (fun h g hg => Nat.le_trans sz9 (h g hg))⟩
                    have Ele := ho.1.1
                    obtain ⟨leA, leN, leC, rfl⟩ := gil.form
                    clear HP gil ho hv9 sz9 Z8 c9le
                    have c9lf := (Z9.out.l2.cells hh32).2.2.2.1
                    obtain ⟨xslf, ho⟩ := Z9.out.r2.o3
                    have HP := Lib.hid (runsOnT (.slice ob p.rs.length od) p.rs.length _ (-3) 0 n4 ho.1 (Nat.zero_le _) (by omega))
                    go_wp2_with fail
                    refine HP.out.mono ?_
                    rintro e n5 ⟨lf9, rfl, gil⟩
                    have hv9 : ∀ g, Value.ownBlock (.slice ob p.rs.length od) = some g → g < G3 := fun g h => by have := SS.out.2.2.2.2.2.2.1 g h; have := HH.out; omega
                    have sz9 : G3 ≤ n4.heap.size := Nat.le_of_lt Z9.out.l3.lt
                    have Z10 : Hid (PH w n5 H G1 G2 G3 G4 U k (.slice ta0 k.ts.length tc0) (.slice pa0 k.ps.length pc0) (.slice oa0 k.rs.length oc0) (.slice ma0 k.dn mc0) (lkOf p) (.slice ta p.ts.length tc) (.slice pa p.ps.length pc) (.slice oa p.rs.length oc) (.slice ma p.mo.length mc) (.slice tb p.ts.length td) (.slice pb p.ps.length pd) (.slice ob p.rs.length od) (.slice mb p.mo.length md) (.slice (some ⟨g1, 0, none⟩) k.ts.length c1) (.slice (some ⟨g2, 0, none⟩) k.ps.length c2) (.slice (some ⟨g3, 0, none⟩) k.rs.length c3) (.slice (some ⟨g4, 0, none⟩) k.dn c4) (.slice tw p.ts.length tx) (.slice pw p.ps.length px) (.slice ow p.rs.length ox) (.slice mw p.mo.length mx)) := Z9.out.two gil.fr SS.out.2.2.2.2.2.2.1 (Z9.out.r2.putO gil.fr ⟨_, gil.old, ho.2⟩)
                    replace Wla := Lib.hid (Wla.out.keep gil.fr (fun g x y => by have := SS.out.1 g x; have := SS.out.2.2.2.2.2.2.1 g y; omega) hv9)
                    replace Wlb := Lib.hid (Wlb.out.keep gil.fr (fun g x y => by have := SS.out.2.1 g x; have := SS.out.2.2.2.2.2.2.1 g y; omega) hv9)
                    replace Wlc := Lib.hid (Wlc.out.keep gil.fr DD.out.2.d2 hv9)
                    replace Wld := Lib.hid (Wld.out.keep gil.fr DD.out.2.d4 hv9)
                    replace Wle := Lib.hid (Wle.out.keep gil.fr (fun g x y => by have := SS.out.2.2.1 g x; have := SS.out.2.2.2.2.2.2.1 g y; omega) hv9)
                    have Wlf : Hid (NW n5 G3 36 2 (.slice ob p.rs.length od) lf9 (p.rs.length + 70) (_ ++ repV [.int .i64 (-3), .int .i64 0] 70)) := ⟨gil.new, gil.at_.imp id (fun h g hg => Nat.le_trans sz9 (h g hg))⟩
                    have Elf := ho.1.1
                    obtain ⟨lfA, lfN, lfC, rfl⟩ := gil.form
                    clear HP gil ho hv9 sz9 Z9 c9lf
                    have c9li := (Z10.out.l1.cells hh32).2.2.2.2
                    obtain ⟨X9, Y9, ho, hnv⟩ := Z10.out.r1.o4
                    have HP := Lib.hid (pairsOnT (.slice ma p.mo.length mc) p.mo.length _ { data := #[109, 53] } 0 n5 ho.1 (Nat.zero_le _) (by omega))
                    go_wp2_with fail
                    refine HP.out.mono ?_
                    rintro e n6 ⟨li9, rfl, gil⟩
                    have hv9 : ∀ g, Value.ownBlock (.slice ma p.mo.length mc) = some g → g < G3 := fun g h => by have := SS.out.2.2.2.1 g h; have := HH.out; omega
                    have sz9 : G3 ≤ n5.heap.size := Nat.le_of_lt Z10.out.l3.lt
                    have Z11 : Hid (PH w n6 H G1 G2 G3 G4 U k (.slice ta0 k.ts.length tc0) (.slice pa0 k.ps.length pc0) (.slice oa0 k.rs.length oc0) (.slice ma0 k.dn mc0) (lkOf p) (.slice ta p.ts.length tc) (.slice pa p.ps.length pc) (.slice oa p.rs.length oc) (.slice ma p.mo.length mc) (.slice tb p.ts.length td) (.slice pb p.ps.length pd) (.slice ob p.rs.length od) (.slice mb p.mo.length md) (.slice (some ⟨g1, 0, none⟩) k.ts.length c1) (.slice (some ⟨g2, 0, none⟩) k.ps.length c2) (.slice (some ⟨g3, 0, none⟩) k.rs.length c3) (.slice (some ⟨g4, 0, none⟩) k.dn c4) (.slice tw p.ts.length tx) (.slice pw p.ps.length px) (.slice ow p.rs.length ox) (.slice mw p.mo.length mx)) := Z10.out.one gil.fr SS.out.2.2.2.1 (RLo.putM Z10.out.r1 gil.fr (fun _ h _ => h) ⟨X9, Y9, ⟨gil.old, ho.2⟩, fun i hi => RV.move (fun b hb _ => hb) gil.fr.size (fun b hb hl => gil.fr.block b hl hb.2) _ _ _ (hnv i hi)⟩)
                    replace Wla := Lib.hid (Wla.out.keep gil.fr DD.out.1.d3 hv9)
                    replace Wlb := Lib.hid (Wlb.out.keep gil.fr DD.out.1.d5 hv9)
                    replace Wlc := Lib.hid (Wlc.out.keep gil.fr (fun g x y => by have := SS.out.2.2.2.2.1 g x; have := SS.out.2.2.2.1 g y; omega) hv9)
                    replace Wld := Lib.hid (Wld.out.keep gil.fr (fun g x y => by have := SS.out.2.2.2.2.2.1 g x; have := SS.out.2.2.2.1 g y; omega) hv9)
                    replace Wle := Lib.hid (Wle.out.keep gil.fr DD.out.1.d6 hv9)
                    replace Wlf := Lib.hid (Wlf.out.keep gil.fr (fun g x y => by have := SS.out.2.2.2.2.2.2.1 g x; have := SS.out.2.2.2.1 g y; omega) hv9)
                    have Wli : Hid (NW n6 G3 41 6 (.slice ma p.mo.length mc) li9 (p.mo.length + 70) (_ ++ repV [.string { data := #[109, 53] }, .int .i64 0, .int .i64 0, .string { data := #[] }, .slice none 0 0, .slice none 0 0] 70)) := ⟨gil.new, gil.at_.imp id (fun h g hg => Nat.le_trans sz9 (h g hg))⟩
                    have Eli := ho.1.1
                    obtain ⟨liA, liN, liC, rfl⟩ := gil.form
                    clear HP gil ho hv9 sz9 Z10 c9li hnv
                    have c9lj := (Z11.out.l2.cells hh32).2.2.2.2
                    obtain ⟨xslj, ho⟩ := Z11.out.r2.o4
                    have HP := Lib.hid (pairsOnT (.slice mb p.mo.length md) p.mo.length _ { data := #[109, 54] } 0 n6 ho.1 (Nat.zero_le _) (by omega))
                    go_wp2_with fail
                    refine HP.out.mono ?_
                    rintro e n7 ⟨lj9, rfl, gil⟩
                    have hv9 : ∀ g, Value.ownBlock (.slice mb p.mo.length md) = some g → g < G3 := fun g h => by have := SS.out.2.2.2.2.2.2.2 g h; have := HH.out; omega
                    have sz9 : G3 ≤ n6.heap.size := Nat.le_of_lt Z11.out.l3.lt
                    have Z12 : Hid (PH w n7 H G1 G2 G3 G4 U k (.slice ta0 k.ts.length tc0) (.slice pa0 k.ps.length pc0) (.slice oa0 k.rs.length oc0) (.slice ma0 k.dn mc0) (lkOf p) (.slice ta p.ts.length tc) (.slice pa p.ps.length pc) (.slice oa p.rs.length oc) (.slice ma p.mo.length mc) (.slice tb p.ts.length td) (.slice pb p.ps.length pd) (.slice ob p.rs.length od) (.slice mb p.mo.length md) (.slice (some ⟨g1, 0, none⟩) k.ts.length c1) (.slice (some ⟨g2, 0, none⟩) k.ps.length c2) (.slice (some ⟨g3, 0, none⟩) k.rs.length c3) (.slice (some ⟨g4, 0, none⟩) k.dn c4) (.slice tw p.ts.length tx) (.slice pw p.ps.length px) (.slice ow p.rs.length ox) (.slice mw p.mo.length mx)) := Z11.out.two gil.fr SS.out.2.2.2.2.2.2.2 (Z11.out.r2.putM gil.fr ⟨_, gil.old, ho.2⟩)
                    replace Wla := Lib.hid (Wla.out.keep gil.fr (fun g x y => by have := SS.out.1 g x; have := SS.out.2.2.2.2.2.2.2 g y; omega) hv9)
                    replace Wlb := Lib.hid (Wlb.out.keep gil.fr (fun g x y => by have := SS.out.2.1 g x; have := SS.out.2.2.2.2.2.2.2 g y; omega) hv9)
                    replace Wlc := Lib.hid (Wlc.out.keep gil.fr DD.out.2.d3 hv9)
                    replace Wld := Lib.hid (Wld.out.keep gil.fr DD.out.2.d5 hv9)
                    replace Wle := Lib.hid (Wle.out.keep gil.fr (fun g x y => by have := SS.out.2.2.1 g x; have := SS.out.2.2.2.2.2.2.2 g y; omega) hv9)
                    replace Wlf := Lib.hid (Wlf.out.keep gil.fr DD.out.2.d6 hv9)
                    replace Wli := Lib.hid (Wli.out.keep gil.fr (fun g x y => by have := SS.out.2.2.2.1 g x; have := SS.out.2.2.2.2.2.2.2 g y; omega) hv9)
                    have Wlj : Hid (NW n7 G3 41 6 (.slice mb p.mo.length md) lj9 (p.mo.length + 70) (_ ++ repV [.string { data := #[109, 54] }, .int .i64 0, .int .i64 0, .string { data := #[] }, .slice none 0 0, .slice none 0 0] 70)) := ⟨gil.new, gil.at_.imp id (fun h g hg => Nat.le_trans sz9 (h g hg))⟩
                    have Elj := ho.1.1
                    obtain ⟨ljA, ljN, ljC, rfl⟩ := gil.form
                    clear HP gil ho hv9 sz9 Z11 c9lj
                    obtain ⟨lag, lac, lae, laf⟩ := Wla.out.cell Ela rfl (by omega)
                    simp only [Value.slice.injEq] at lae
                    obtain ⟨rfl, rfl, rfl⟩ := lae
                    have Fla : Hid (∀ i, i < 70 → n7.cell? ⟨lag, (p.ts.length + i) * 1, none⟩ = some (.string { data := #[109, 49] })) := laf
                    clear Wla Ela laf
                    obtain ⟨lbg, lbc, lbe, lbf⟩ := Wlb.out.cell Elb rfl (by omega)
                    simp only [Value.slice.injEq] at lbe
                    obtain ⟨rfl, rfl, rfl⟩ := lbe
                    have Flb : Hid (∀ i, i < 70 → n7.cell? ⟨lbg, (p.ps.length + i) * 1, none⟩ = some (.string { data := #[109, 50] })) := lbf
                    clear Wlb Elb lbf
                    obtain ⟨lcg, lcc, lce, lcf⟩ := Wlc.out.cell Elc rfl (by omega)
                    simp only [Value.slice.injEq] at lce
                    obtain ⟨rfl, rfl, rfl⟩ := lce
                    have Flc : Hid (∀ i, i < 70 → n7.cell? ⟨lcg, (p.ts.length + i) * 1, none⟩ = some (.string { data := #[109, 51] })) := lcf
                    clear Wlc Elc lcf
                    obtain ⟨ldg, ldc, lde, ldf⟩ := Wld.out.cell Eld rfl (by omega)
                    simp only [Value.slice.injEq] at lde
                    obtain ⟨rfl, rfl, rfl⟩ := lde
                    have Fld : Hid (∀ i, i < 70 → n7.cell? ⟨ldg, (p.ps.length + i) * 1, none⟩ = some (.string { data := #[109, 52] })) := ldf
                    clear Wld Eld ldf
                    obtain ⟨leg, lec, lee, lef⟩ := Wle.out.cell Ele rfl (by omega)
                    simp only [Value.slice.injEq] at lee
                    obtain ⟨rfl, rfl, rfl⟩ := lee
                    have Fle : Hid (∀ i, i < 70 → n7.cell? ⟨leg, (p.rs.length + i) * 2, none⟩ = some (.int .i64 (-2))) := lef
                    clear Wle Ele lef
                    obtain ⟨lfg, lfc, lfe, lff⟩ := Wlf.out.cell Elf rfl (by omega)
                    simp only [Value.slice.injEq] at lfe
                    obtain ⟨rfl, rfl, rfl⟩ := lfe
                    have Flf : Hid (∀ i, i < 70 → n7.cell? ⟨lfg, (p.rs.length + i) * 2, none⟩ = some (.int .i64 (-3))) := lff
                    clear Wlf Elf lff
                    obtain ⟨lig, lic, lie, lif⟩ := Wli.out.cell Eli rfl (by omega)
                    simp only [Value.slice.injEq] at lie
                    obtain ⟨rfl, rfl, rfl⟩ := lie
                    have Fli : Hid (∀ i, i < 70 → n7.cell? ⟨lig, (p.mo.length + i) * 6, none⟩ = some (.string { data := #[109, 53] })) := lif
                    clear Wli Eli lif
                    obtain ⟨ljg, ljc, lje, ljf⟩ := Wlj.out.cell Elj rfl (by omega)
                    simp only [Value.slice.injEq] at lje
                    obtain ⟨rfl, rfl, rfl⟩ := lje
                    have Flj : Hid (∀ i, i < 70 → n7.cell? ⟨ljg, (p.mo.length + i) * 6, none⟩ = some (.string { data := #[109, 54] })) := ljf
                    clear Wlj Elj ljf
                    clear DD SS
                    go_wp2
                    go_loopw [26] (fun t wx => ∃ (i : Nat), i ≤ 70 ∧ t = .int .i64 (i : Int) ∧ wx = n7) (fun t _ => 70 - (intOf t).toNat)
                    case atStart => exact ⟨0, by omega, rfl, rfl⟩
                    case round =>
                      obtain ⟨i, hi, rfl, rfl⟩ := hrel
                      by_cases hlt : i < 70
                      · obtain ⟨_, x33, x34, x35, x36⟩ := Z12.out.l1.cells hh32
                        obtain ⟨_, y33, y34, y35, y36⟩ := Z12.out.l2.cells hh32
                        have zla := Fla.out i hlt
                        rw [Nat.mul_one] at zla
                        have zlb := Flb.out i hlt
                        rw [Nat.mul_one] at zlb
                        have zlc := Flc.out i hlt
                        rw [Nat.mul_one] at zlc
                        have zld := Fld.out i hlt
                        rw [Nat.mul_one] at zld
                        have zle := Fle.out i hlt
                        have zlf := Flf.out i hlt
                        have zli := Fli.out i hlt
                        have zlj := Flj.out i hlt
                        go_wp2
                        exact ⟨⟨i + 1, by omega, by go_num, trivial⟩, by simp [intOf]; omega⟩
                      · clear Fla Flb Flc Fld Fle Flf Fli Flj
                        have HB9 := Z12.out.be
                        go_wp2_with fail
                        refine (HPA.out _ (HS.out ▸ HB9)).mono ?_
                        rintro e q5 ⟨t5, p5, o5, m5, rfl, lo1, b3⟩
                        simp only at lo1 ⊢
                        obtain ⟨tv, ty, rfl⟩ := ownForm lo1.o1
                        obtain ⟨pv, py, rfl⟩ := ownForm lo1.o2
                        obtain ⟨ov, oy, rfl⟩ := ownForm lo1.o3
                        obtain ⟨mv, my, rfl⟩ := ownForm lo1.o4
                        have hZ : LB (q5.alloc (Obj.cells #[.int .u8 0, .int .u8 0, .int .u8 0, .int .u8 0, .int .u8 0, .int .u8 0, .int .u8 0, .int .u8 0, .int .u8 0, .int .u8 0, .int .u8 0, .int .u8 0, .int .u8 0, .int .u8 0, .int .u8 0, .int .u8 0, .int .u8 0, .int .u8 0, .int .u8 0, .int .u8 0, .int .u8 0, .int .u8 0, .int .u8 0, .int .u8 0, .int .u8 0, .int .u8 0, .int .u8 0, .int .u8 0, .int .u8 0, .int .u8 0, .int .u8 0, .int .u8 0, .string { data := #[] }, .slice .none 0 0, .slice .none 0 0, .slice .none 0 0, .slice .none 0 0] 28)) q5.heap.size (List.replicate 32 (0 : UInt8)) ⟨#[]⟩ (.slice none 0 0) (.slice none 0 0) (.slice none 0 0) (.slice none 0 0) := heap_new _ _
                        have A0 : Hid (PH w ((q5.alloc (Obj.cells #[.int .u8 0, .int .u8 0, .int .u8 0, .int .u8 0, .int .u8 0, .int .u8 0, .int .u8 0, .int .u8 0, .int .u8 0, .int .u8 0, .int .u8 0, .int .u8 0, .int .u8 0, .int .u8 0, .int .u8 0, .int .u8 0, .int .u8 0, .int .u8 0, .int .u8 0, .int .u8 0, .int .u8 0, .int .u8 0, .int .u8 0, .int .u8 0, .int .u8 0, .int .u8 0, .int .u8 0, .int .u8 0, .int .u8 0, .int .u8 0, .int .u8 0, .int .u8 0, .string { data := #[] }, .slice .none 0 0, .slice .none 0 0, .slice .none 0 0, .slice .none 0 0] 28)).setRow q5.heap.size (lkC p.h p.nm (.slice tv p.ts.length ty) (.slice pv p.ps.length py) (.slice ov p.rs.length oy) (.slice mv p.mo.length my))) H G1 G2 G3 G4 U k (.slice ta0 k.ts.length tc0) (.slice pa0 k.ps.length pc0) (.slice oa0 k.rs.length oc0) (.slice ma0 k.dn mc0) (lkOf p) (.slice ta p.ts.length tc) (.slice pa p.ps.length pc) (.slice oa p.rs.length oc) (.slice ma p.mo.length mc) (.slice tb p.ts.length td) (.slice pb p.ps.length pd) (.slice ob p.rs.length od) (.slice mb p.mo.length md) (.slice (some ⟨g1, 0, none⟩) k.ts.length c1) (.slice (some ⟨g2, 0, none⟩) k.ps.length c2) (.slice (some ⟨g3, 0, none⟩) k.rs.length c3) (.slice (some ⟨g4, 0, none⟩) k.dn c4) (.slice tw p.ts.length tx) (.slice pw p.ps.length px) (.slice ow p.rs.length ox) (.slice mw p.mo.length mx) ∧ LB ((q5.alloc (Obj.cells #[.int .u8 0, .int .u8 0, .int .u8 0, .int .u8 0, .int .u8 0, .int .u8 0, .int .u8 0, .int .u8 0, .int .u8 0, .int .u8 0, .int .u8 0, .int .u8 0, .int .u8 0, .int .u8 0, .int .u8 0, .int .u8 0, .int .u8 0, .int .u8 0, .int .u8 0, .int .u8 0, .int .u8 0, .int .u8 0, .int .u8 0, .int .u8 0, .int .u8 0, .int .u8 0, .int .u8 0, .int .u8 0, .int .u8 0, .int .u8 0, .int .u8 0, .int .u8 0, .string { data := #[] }, .slice .none 0 0, .slice .none 0 0, .slice .none 0 0, .slice .none 0 0] 28)).setRow q5.heap.size (lkC p.h p.nm (.slice tv p.ts.length ty) (.slice pv p.ps.length py) (.slice ov p.rs.length oy) (.slice mv p.mo.length my))) q5.heap.size p.h p.nm (.slice tv p.ts.length ty) (.slice pv p.ps.length py) (.slice ov p.rs.length oy) (.slice mv p.mo.length my) ∧ RLo (fun b => G4 < b ∧ b < q5.heap.size) ((q5.alloc (Obj.cells #[.int .u8 0, .int .u8 0, .int .u8 0, .int .u8 0, .int .u8 0, .int .u8 0, .int .u8 0, .int .u8 0, .int .u8 0, .int .u8 0, .int .u8 0, .int .u8 0, .int .u8 0, .int .u8 0, .int .u8 0, .int .u8 0, .int .u8 0, .int .u8 0, .int .u8 0, .int .u8 0, .int .u8 0, .int .u8 0, .int .u8 0, .int .u8 0, .int .u8 0, .int .u8 0, .int .u8 0, .int .u8 0, .int .u8 0, .int .u8 0, .int .u8 0, .int .u8 0, .string { data := #[] }, .slice .none 0 0, .slice .none 0 0, .slice .none 0 0, .slice .none 0 0] 28)).setRow q5.heap.size (lkC p.h p.nm (.slice tv p.ts.length ty) (.slice pv p.ps.length py) (.slice ov p.rs.length oy) (.slice mv p.mo.length my))) (lkOf p) (.slice tv p.ts.length ty) (.slice pv p.ps.length py) (.slice ov p.rs.length oy) (.slice mv p.mo.length my) ∧ G4 < q5.heap.size ∧ q5.heap.size < ((q5.alloc (Obj.cells #[.int .u8 0, .int .u8 0, .int .u8 0, .int .u8 0, .int .u8 0, .int .u8 0, .int .u8 0, .int .u8 0, .int .u8 0, .int .u8 0, .int .u8 0, .int .u8 0, .int .u8 0, .int .u8 0, .int .u8 0, .int .u8 0, .int .u8 0, .int .u8 0, .int .u8 0, .int .u8 0, .int .u8 0, .int .u8 0, .int .u8 0, .int .u8 0, .int .u8 0, .int .u8 0, .int .u8 0, .int .u8 0, .int .u8 0, .int .u8 0, .int .u8 0, .int .u8 0, .string { data := #[] }, .slice .none 0 0, .slice .none 0 0, .slice .none 0 0, .slice .none 0 0] 28)).setRow q5.heap.size (lkC p.h p.nm (.slice tv p.ts.length ty) (.slice pv p.ps.length py) (.slice ov p.rs.length oy) (.slice mv p.mo.length my))).heap.size) := by
                          have BB : Below q5.heap.size q5 ((q5.alloc (Obj.cells #[.int .u8 0, .int .u8 0, .int .u8 0, .int .u8 0, .int .u8 0, .int .u8 0, .int .u8 0, .int .u8 0, .int .u8 0, .int .u8 0, .int .u8 0, .int .u8 0, .int .u8 0, .int .u8 0, .int .u8 0, .int .u8 0, .int .u8 0, .int .u8 0, .int .u8 0, .int .u8 0, .int .u8 0, .int .u8 0, .int .u8 0, .int .u8 0, .int .u8 0, .int .u8 0, .int .u8 0, .int .u8 0, .int .u8 0, .int .u8 0, .int .u8 0, .int .u8 0, .string { data := #[] }, .slice .none 0 0, .slice .none 0 0, .slice .none 0 0, .slice .none 0 0] 28)).setRow q5.heap.size (lkC p.h p.nm (.slice tv p.ts.length ty) (.slice pv p.ps.length py) (.slice ov p.rs.length oy) (.slice mv p.mo.length my))) := below_setRow ((Below.refl _ _).alloc (Nat.le_refl _) _) (Nat.le_refl _) _
                          have BC := b3.trans (BB.mono b3.size)
                          have g4 := Z12.out.l4.lt
                          have hs3 := b3.size
                          refine ⟨Z12.out.below BC, setRow_heap _ _ _ _ _ _ hZ, ?_, by omega, by rw [size_setRow]; simp⟩
                          exact (lo_rlo lo1).move (fun b hb hl => ⟨by omega, hl⟩) BB.size (fun b _ hl => BB.block b hl)
                        clear lo1 b3 Z12 HB9
                        go_upto_region 53 with (refine wpList_store_row rfl 28 _ _ rfl q5.heap.size (lkC p.h p.nm (.slice tv p.ts.length ty) (.slice pv p.ps.length py) (.slice ov p.rs.length oy) (.slice mv p.mo.length my)) rfl rfl 28 _ hZ (infoLk hh32) (by rw [lkC_size hh32, lkC_size (by simp)]) lkC_one ?_)
                        clear hZ
                        generalize ((q5.alloc (Obj.cells #[.int .u8 0, .int .u8 0, .int .u8 0, .int .u8 0, .int .u8 0, .int .u8 0, .int .u8 0, .int .u8 0, .int .u8 0, .int .u8 0, .int .u8 0, .int .u8 0, .int .u8 0, .int .u8 0, .int .u8 0, .int .u8 0, .int .u8 0, .int .u8 0, .int .u8 0, .int .u8 0, .int .u8 0, .int .u8 0, .int .u8 0, .int .u8 0, .int .u8 0, .int .u8 0, .int .u8 0, .int .u8 0, .int .u8 0, .int .u8 0, .int .u8 0, .int .u8 0, .string { data := #[] }, .slice .none 0 0, .slice .none 0 0, .slice .none 0 0, .slice .none 0 0] 28)).setRow q5.heap.size (lkC p.h p.nm (.slice tv p.ts.length ty) (.slice pv p.ps.length py) (.slice ov p.rs.length oy) (.slice mv p.mo.length my))) = q6 at *
                        generalize q5.heap.size = G5 at *
                        have HAN := Lib.hid (anewT w (fun b => G2 < b ∧ b ≠ G3 ∧ b < U) k (.slice (some ⟨g1, 0, none⟩) k.ts.length c1) (.slice (some ⟨g2, 0, none⟩) k.ps.length c2) (.slice (some ⟨g3, 0, none⟩) k.rs.length c3) (.slice (some ⟨g4, 0, none⟩) k.dn c4) q6 HA.out.1 HSM.out.1 HSM.out.2 HA.out.2.1 A0.out.1.r3 A0.out.1.be (fun u hu => by have t9 := HA.out.2.2.1 u (HS.out ▸ hu); exact ⟨t9.1.1 u (Below.refl _ _), t9.2⟩) (fun b hb => by have := A0.out.1.h0; have := A0.out.1.h1; have := A0.out.1.h2; have := A0.out.1.h5; have := A0.out.1.l4.lt; omega))
                        go_wp2_with (first | (refine load_link_ifO rfl _ rfl G3 rfl A0.out.1.l3 hl ?_))
                        refine HAN.out.mono ?_
                        rintro e q7 ⟨rfl, fa, ba⟩
                        have AE : Hid (LB q7 G1 p.h p.nm (.slice ta p.ts.length tc) (.slice pa p.ps.length pc) (.slice oa p.rs.length oc) (.slice ma p.mo.length mc) ∧ LB q7 G4 p.h p.nm (.slice tw p.ts.length tx) (.slice pw p.ps.length px) (.slice ow p.rs.length ox) (.slice mw p.mo.length mx) ∧ LB q7 G5 p.h p.nm (.slice tv p.ts.length ty) (.slice pv p.ps.length py) (.slice ov p.rs.length oy) (.slice mv p.mo.length my) ∧ RL4 (fun _ => True) q7 (lkOf p) (.slice ta p.ts.length tc) (.slice pa p.ps.length pc) (.slice oa p.rs.length oc) (.slice ma p.mo.length mc) ∧ RL4 (fun _ => True) q7 (lkOf p) (.slice tw p.ts.length tx) (.slice pw p.ps.length px) (.slice ow p.rs.length ox) (.slice mw p.mo.length mx) ∧ RL4 (fun _ => True) q7 (lkOf p) (.slice tv p.ts.length ty) (.slice pv p.ps.length py) (.slice ov p.rs.length oy) (.slice mv p.mo.length my) ∧ Below w.heap.size w q7) := by
                          obtain ⟨z, l5, r5, g45, g56⟩ := A0.out
                          have z1 := z.h1; have z2 := z.h2; have z3 := z.h3; have z4 := z.h4; have z5 := z.h5
                          have nn : ∀ b, b ≤ G2 ∨ U ≤ b → N4 (.slice (some ⟨g1, 0, none⟩) k.ts.length c1) (.slice (some ⟨g2, 0, none⟩) k.ps.length c2) (.slice (some ⟨g3, 0, none⟩) k.rs.length c3) (.slice (some ⟨g4, 0, none⟩) k.dn c4) b := fun b hb => ⟨fun e => by have := z.r3.o1.2 b e; omega, fun e => by have := z.r3.o2.2 b e; omega, fun e => by have := z.r3.o3.2 b e; omega, fun e => by have := (z.r3.o4.lt e).2.1; omega⟩
                          exact ⟨z.l1.keep (fa.block _ z.l1.lt (nn _ (by omega))), z.l4.keep (fa.block _ z.l4.lt (nn _ (by omega))), l5.keep (fa.block _ l5.lt (nn _ (by omega))), (z.r1.fr fa (fun b hb => nn b (by omega))).rl, z.r4.move (fun _ _ _ => trivial) fa.size (fun b hb hl => fa.block b hl (nn b (by omega))), (r5.fr fa (fun b hb => nn b (by omega))).rl, ba⟩
                        clear fa ba A0 HAN
                        have HP := Lib.hid (linkSame (lkOf p) (.slice ta p.ts.length tc) (.slice pa p.ps.length pc) (.slice oa p.rs.length oc) (.slice ma p.mo.length mc) (.slice tw p.ts.length tx) (.slice pw p.ps.length px) (.slice ow p.rs.length ox) (.slice mw p.mo.length mx) q7 okp AE.out.2.2.2.1 AE.out.2.2.2.2.1)
                        go_wp2_with (first | (refine load_link_ifO rfl _ rfl G1 rfl AE.out.1 hh32 ?_) | (refine load_link_ifO rfl _ rfl G4 rfl AE.out.2.1 hh32 ?_))
                        refine HP.out.mono ?_
                        rintro e q8 ⟨rfl, b1⟩
                        have AF : Hid (LB q8 G4 p.h p.nm (.slice tw p.ts.length tx) (.slice pw p.ps.length px) (.slice ow p.rs.length ox) (.slice mw p.mo.length mx) ∧ LB q8 G5 p.h p.nm (.slice tv p.ts.length ty) (.slice pv p.ps.length py) (.slice ov p.rs.length oy) (.slice mv p.mo.length my) ∧ Below w.heap.size w q8) := ⟨AE.out.2.1.keep (b1.block _ AE.out.2.1.lt), AE.out.2.2.1.keep (b1.block _ AE.out.2.2.1.lt), AE.out.2.2.2.2.2.2.trans (b1.mono AE.out.2.2.2.2.2.2.size)⟩
                        have HP2 := Lib.hid (linkSame (lkOf p) (.slice tv p.ts.length ty) (.slice pv p.ps.length py) (.slice ov p.rs.length oy) (.slice mv p.mo.length my) (.slice tw p.ts.length tx) (.slice pw p.ps.length px) (.slice ow p.rs.length ox) (.slice mw p.mo.length mx) q8 okp (AE.out.2.2.2.2.2.1.move (fun _ h _ => h) b1.size (fun b _ hl => b1.block b hl)) (AE.out.2.2.2.2.1.move (fun _ h _ => h) b1.size (fun b _ hl => b1.block b hl)))
                        clear b1 HP AE
                        go_wp2_with (first | (refine load_link_ifO rfl _ rfl G5 rfl AF.out.2.1 hh32 ?_) | (refine load_link_ifO rfl _ rfl G4 rfl AF.out.1 hh32 ?_))
                        refine HP2.out.mono ?_
                        rintro e q9 ⟨rfl, b1⟩
                        have HB9 := AF.out.2.2.trans (b1.mono AF.out.2.2.size)
                        clear b1 HP2 AF
                        go_wp2
                        go_ret
                        exact ⟨by simp, HB9⟩
end Ow
end Go.Proofs.YtnpcbcfjnhjmmaaGreatDoor
