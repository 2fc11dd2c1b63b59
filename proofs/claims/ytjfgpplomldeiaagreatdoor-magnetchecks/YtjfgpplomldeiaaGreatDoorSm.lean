import Derived.Test.YtjfgpplomldeiaaGreatDoorSl
import Derived.Laws.CopyOwn
namespace Go.Proofs.YtjfgpplomldeiaaGreatDoor
open Go.Shelf Go.RowKit Go.Deep
theorem prE_form (k : Lk) : ∃ s e, prE k = .returned (.tuple #[.string s, .int .i64 e]) := by
  unfold prE
  split
  · exact ⟨_, _, rfl⟩
  · exact ⟨_, _, rfl⟩
theorem ck_zero {k : Lk} (h : ckN k = 0) : fmB k = true ∧ odB k = true := by
  cases h1 : fmB k with
  | false => rw [ck_form h1] at h; cases h
  | true =>
    cases h2 : odB k with
    | false => rw [ck_order h1 h2] at h; cases h
    | true => exact ⟨rfl, rfl⟩
set_option maxHeartbeats 1000000 in
set_option maxRecDepth 100000 in
theorem rprint (k : Lk) (tr pe on mo : Value) (w : World) (hk : k.ok) (hs : k.small) (hf : k.few) (hi : ∀ x ∈ k.rs, I64 x.1 ∧ I64 x.2) (hT : IT w) (hr : RL4 (fun _ => True) w k tr pe on mo) (hc1 : ∀ a n c, tr = .slice a n c → n ≤ c) (hc2 : ∀ a n c, pe = .slice a n c → n ≤ c) :
    Calls Tryz.prog 11 #[.agg (lkC k.l k.nm tr pe on mo)] w fun e w' => e = prE k ∧ Below w.heap.size w w' := by
  have hl := hk.l
  have B0 : Hid (Below w.heap.size w (w.alloc (Obj.cells (lkC k.l k.nm tr pe on mo) 28))) := (Below.refl _ _).alloc (Nat.le_refl _) _
  have LA : Hid (LB (w.alloc (Obj.cells (lkC k.l k.nm tr pe on mo) 28)) w.heap.size k.l k.nm tr pe on mo) := heap_new _ _
  have HA : Hid (k.ok ∧ k.small ∧ k.few ∧ (∀ x ∈ k.rs, I64 x.1 ∧ I64 x.2) ∧ (∀ a n c, tr = .slice a n c → n ≤ c) ∧ (∀ a n c, pe = .slice a n c → n ≤ c) ∧ ∀ u, Below w.heap.size w u → RL4 (fun _ => True) u k tr pe on mo ∧ IT u) := ⟨hk, hs, hf, hi, hc1, hc2, fun u hu => ⟨hr.move (fun _ h _ => h) hu.size (fun b _ hl => hu.block b hl), hT.below hu⟩⟩
  clear hk hs hf hi hT hr hc1 hc2
  go_enter Tryz.func11, Tryz.ntmps11
  go_upto_region 1 with fail
  generalize (w.alloc (Obj.cells (lkC k.l k.nm tr pe on mo) 28)) = w0 at *
  generalize hvb : w.heap.size = H at *
  have HS : Hid (w.heap.size = H) := hvb
  clear hvb
  have HU : Hid (∀ u, Below H w u → RL4 (fun _ => True) u k tr pe on mo ∧ IT u) := HA.out.2.2.2.2.2.2
  go_wp2_with (first | (refine load_link_if rfl _ rfl H rfl LA.out hl ?_))
  refine (rcheck k tr pe on mo w0 HA.out.1 HA.out.2.1 HA.out.2.2.1 HA.out.2.2.2.1 (HU.out w0 B0.out).2 (HU.out w0 B0.out).1 HA.out.2.2.2.2.1 HA.out.2.2.2.2.2.1).mono ?_
  rintro e w1 ⟨rfl, b1⟩
  have HW1 : Hid (Below H w w1 ∧ LB w1 H k.l k.nm tr pe on mo) := ⟨B0.out.trans (b1.mono (by have := LA.out.lt; omega)), LA.out.keep (b1.block H LA.out.lt)⟩
  clear b1 B0 LA
  by_cases h0 : ckN k = 0
  · have HE := Lib.hid (pr_yes h0)
    have hz := ck_zero h0
    have HRS := Lib.hid (fm_rs hz.1)
    have hap : apB k.rs = true := by have hq2 := hz.2; unfold odB at hq2; cases h : apB k.rs with | true => rfl | false => rw [h] at hq2; exact hq2
    have HTX := Lib.hid (rtext k tr pe on mo w1 HA.out.1 HA.out.2.1 HA.out.2.2.1 (ap_len HRS.out hap) HRS.out (HU.out w1 HW1.out.1).2 (HU.out w1 HW1.out.1).1)
    rw [h0]
    clear h0 hz hap
    go_wp2_with (first | (refine load_link_if rfl _ rfl H rfl HW1.out.2 hl ?_))
    refine HTX.out.mono ?_
    rintro e w2 ⟨rfl, b1⟩
    have HW2 : Hid (Below H w w2) := HW1.out.1.trans (b1.mono (by have := HW1.out.2.lt; omega))
    generalize bs (wS (prm k)) = tx at *
    clear b1 HW1 HTX
    go_wp2
    go_ret2
    exact ⟨HE.out, HS.out ▸ HW2.out⟩
  · have HE := Lib.hid (pr_no rfl h0)
    generalize ckN k = ce at *
    have hne : (ce != 0) = true := by simp [h0]
    clear h0
    go_wp2
    go_ret2
    exact ⟨HE.out, HS.out ▸ HW1.out.1⟩
set_option maxHeartbeats 4000000 in
set_option maxRecDepth 100000 in
theorem checksLaw (k : Lk) (tr pe on mo : Value) (w : World) (hk : k.ok) (hi : ∀ x ∈ k.rs, I64 x.1 ∧ I64 x.2) (hT : IT w) (hBT : BT w) (hr : RL4 (fun _ => True) w k tr pe on mo) :
    Calls Tryz.prog 3 #[.agg (lkC k.l k.nm tr pe on mo)] w fun e w' => e = .returned (.bool true) ∧ Below w.heap.size w w' := by
  have hl := hk.l
  have B0 : Hid (Below w.heap.size w (w.alloc (Obj.cells (lkC k.l k.nm tr pe on mo) 28))) := (Below.refl _ _).alloc (Nat.le_refl _) _
  have L0 : Hid (LB (w.alloc (Obj.cells (lkC k.l k.nm tr pe on mo) 28)) w.heap.size k.l k.nm tr pe on mo) := heap_new _ _
  have HA : Hid (k.ok ∧ (∀ x ∈ k.rs, I64 x.1 ∧ I64 x.2) ∧ (∀ w', Below w.heap.size w w' → IT w' ∧ BT w') ∧ ∀ w', Below w.heap.size w w' → RL4 (fun _ => True) w' k tr pe on mo) := ⟨hk, hi, fun w' hb => ⟨hT.below hb, hBT.keep hb⟩, fun w' hb => hr.move (fun _ h _ => h) hb.size (fun b _ hl => hb.block b hl)⟩
  clear hk hi hT hBT hr
  go_enter Tryz.func3, Tryz.ntmps3
  go_upto_region 1 with fail
  generalize (w.alloc (Obj.cells (lkC k.l k.nm tr pe on mo) 28)) = w0 at *
  generalize hvb : w.heap.size = H at *
  have HS : Hid (w.heap.size = H) := hvb
  clear hvb
  go_wp2_with (first | (refine load_link_if rfl _ rfl H rfl L0.out hl ?_))
  refine (farLink k tr pe on mo w0 HA.out.1 (HA.out.2.2.2 w0 B0.out)).mono ?_
  rintro e w1 ⟨r, rfl, b1, hsm⟩
  have B1 : Hid (Below H w w1) := B0.out.trans (b1.mono (by have := L0.out.lt; omega))
  have L1 : Hid (LB w1 H k.l k.nm tr pe on mo) := L0.out.keep (b1.block H L0.out.lt)
  clear b1 B0 L0
  cases r with
  | true =>
    clear hsm
    go_wp2
    go_ret
    exact ⟨rfl, HS.out ▸ B1.out⟩
  | false =>
    have HSM : Hid (k.small ∧ k.few) := hsm rfl
    clear hsm
    go_wp2_with (first | (refine load_link_if rfl _ rfl H rfl L1.out hl ?_))
    refine (linkTwin k tr pe on mo w1 HA.out.1 HSM.out.1 (HA.out.2.2.2 w1 B1.out)).mono ?_
    rintro e w2 ⟨t2, p2, o2, m2, rfl, r2, b2, hcp1, hcp2⟩
    have HCP := Lib.hid (And.intro hcp1 hcp2)
    clear hcp1 hcp2
    obtain ⟨ta, tc, rfl⟩ : ∃ a c, t2 = .slice a k.ts.length c := by obtain ⟨p, q, e, _⟩ := r2.1; exact ⟨p, q, e⟩
    obtain ⟨pa, pc, rfl⟩ : ∃ a c, p2 = .slice a k.ps.length c := by obtain ⟨p, q, e, _⟩ := r2.2.1; exact ⟨p, q, e⟩
    obtain ⟨oa, oc, rfl⟩ : ∃ a c, o2 = .slice a k.rs.length c := by obtain ⟨p, q, e, _⟩ := r2.2.2.1; exact ⟨p, q, e⟩
    obtain ⟨ma, mc, rfl⟩ : ∃ a c, m2 = .slice a k.dn c := by obtain ⟨p, q, e, _⟩ := r2.2.2.2; exact ⟨p, q, e⟩
    have hZ : LB (w2.alloc (Obj.cells #[.int .u8 0, .int .u8 0, .int .u8 0, .int .u8 0, .int .u8 0, .int .u8 0, .int .u8 0, .int .u8 0, .int .u8 0, .int .u8 0, .int .u8 0, .int .u8 0, .int .u8 0, .int .u8 0, .int .u8 0, .int .u8 0, .int .u8 0, .int .u8 0, .int .u8 0, .int .u8 0, .int .u8 0, .int .u8 0, .int .u8 0, .int .u8 0, .int .u8 0, .int .u8 0, .int .u8 0, .int .u8 0, .int .u8 0, .int .u8 0, .int .u8 0, .int .u8 0, .string { data := #[] }, .slice .none 0 0, .slice .none 0 0, .slice .none 0 0, .slice .none 0 0] 28)) w2.heap.size (List.replicate 32 (0 : UInt8)) ⟨#[]⟩ (.slice none 0 0) (.slice none 0 0) (.slice none 0 0) (.slice none 0 0) := heap_new _ _
    have HF : Hid (Below H w ((w2.alloc (Obj.cells #[.int .u8 0, .int .u8 0, .int .u8 0, .int .u8 0, .int .u8 0, .int .u8 0, .int .u8 0, .int .u8 0, .int .u8 0, .int .u8 0, .int .u8 0, .int .u8 0, .int .u8 0, .int .u8 0, .int .u8 0, .int .u8 0, .int .u8 0, .int .u8 0, .int .u8 0, .int .u8 0, .int .u8 0, .int .u8 0, .int .u8 0, .int .u8 0, .int .u8 0, .int .u8 0, .int .u8 0, .int .u8 0, .int .u8 0, .int .u8 0, .int .u8 0, .int .u8 0, .string { data := #[] }, .slice .none 0 0, .slice .none 0 0, .slice .none 0 0, .slice .none 0 0] 28)).setRow w2.heap.size (lkC k.l k.nm (.slice ta k.ts.length tc) (.slice pa k.ps.length pc) (.slice oa k.rs.length oc) (.slice ma k.dn mc))) ∧ LB ((w2.alloc (Obj.cells #[.int .u8 0, .int .u8 0, .int .u8 0, .int .u8 0, .int .u8 0, .int .u8 0, .int .u8 0, .int .u8 0, .int .u8 0, .int .u8 0, .int .u8 0, .int .u8 0, .int .u8 0, .int .u8 0, .int .u8 0, .int .u8 0, .int .u8 0, .int .u8 0, .int .u8 0, .int .u8 0, .int .u8 0, .int .u8 0, .int .u8 0, .int .u8 0, .int .u8 0, .int .u8 0, .int .u8 0, .int .u8 0, .int .u8 0, .int .u8 0, .int .u8 0, .int .u8 0, .string { data := #[] }, .slice .none 0 0, .slice .none 0 0, .slice .none 0 0, .slice .none 0 0] 28)).setRow w2.heap.size (lkC k.l k.nm (.slice ta k.ts.length tc) (.slice pa k.ps.length pc) (.slice oa k.rs.length oc) (.slice ma k.dn mc))) H k.l k.nm tr pe on mo ∧ LB ((w2.alloc (Obj.cells #[.int .u8 0, .int .u8 0, .int .u8 0, .int .u8 0, .int .u8 0, .int .u8 0, .int .u8 0, .int .u8 0, .int .u8 0, .int .u8 0, .int .u8 0, .int .u8 0, .int .u8 0, .int .u8 0, .int .u8 0, .int .u8 0, .int .u8 0, .int .u8 0, .int .u8 0, .int .u8 0, .int .u8 0, .int .u8 0, .int .u8 0, .int .u8 0, .int .u8 0, .int .u8 0, .int .u8 0, .int .u8 0, .int .u8 0, .int .u8 0, .int .u8 0, .int .u8 0, .string { data := #[] }, .slice .none 0 0, .slice .none 0 0, .slice .none 0 0, .slice .none 0 0] 28)).setRow w2.heap.size (lkC k.l k.nm (.slice ta k.ts.length tc) (.slice pa k.ps.length pc) (.slice oa k.rs.length oc) (.slice ma k.dn mc))) w2.heap.size k.l k.nm (.slice ta k.ts.length tc) (.slice pa k.ps.length pc) (.slice oa k.rs.length oc) (.slice ma k.dn mc) ∧ RL4 (fun _ => True) ((w2.alloc (Obj.cells #[.int .u8 0, .int .u8 0, .int .u8 0, .int .u8 0, .int .u8 0, .int .u8 0, .int .u8 0, .int .u8 0, .int .u8 0, .int .u8 0, .int .u8 0, .int .u8 0, .int .u8 0, .int .u8 0, .int .u8 0, .int .u8 0, .int .u8 0, .int .u8 0, .int .u8 0, .int .u8 0, .int .u8 0, .int .u8 0, .int .u8 0, .int .u8 0, .int .u8 0, .int .u8 0, .int .u8 0, .int .u8 0, .int .u8 0, .int .u8 0, .int .u8 0, .int .u8 0, .string { data := #[] }, .slice .none 0 0, .slice .none 0 0, .slice .none 0 0, .slice .none 0 0] 28)).setRow w2.heap.size (lkC k.l k.nm (.slice ta k.ts.length tc) (.slice pa k.ps.length pc) (.slice oa k.rs.length oc) (.slice ma k.dn mc))) k (.slice ta k.ts.length tc) (.slice pa k.ps.length pc) (.slice oa k.rs.length oc) (.slice ma k.dn mc)) := by
      have s2 := b2.size
      have l1 := L1.out.lt
      have BB : Below w2.heap.size w2 ((w2.alloc (Obj.cells #[.int .u8 0, .int .u8 0, .int .u8 0, .int .u8 0, .int .u8 0, .int .u8 0, .int .u8 0, .int .u8 0, .int .u8 0, .int .u8 0, .int .u8 0, .int .u8 0, .int .u8 0, .int .u8 0, .int .u8 0, .int .u8 0, .int .u8 0, .int .u8 0, .int .u8 0, .int .u8 0, .int .u8 0, .int .u8 0, .int .u8 0, .int .u8 0, .int .u8 0, .int .u8 0, .int .u8 0, .int .u8 0, .int .u8 0, .int .u8 0, .int .u8 0, .int .u8 0, .string { data := #[] }, .slice .none 0 0, .slice .none 0 0, .slice .none 0 0, .slice .none 0 0] 28)).setRow w2.heap.size (lkC k.l k.nm (.slice ta k.ts.length tc) (.slice pa k.ps.length pc) (.slice oa k.rs.length oc) (.slice ma k.dn mc))) := below_setRow ((Below.refl _ _).alloc (Nat.le_refl _) _) (Nat.le_refl _) _
      refine ⟨(B1.out.trans (b2.mono (by omega))).trans (BB.mono (by omega)), ?_, setRow_heap _ _ _ _ _ _ hZ, ?_⟩
      · exact (L1.out.keep (b2.block H l1)).keep (BB.block H (by omega))
      · exact r2.move (fun _ _ _ => trivial) BB.size (fun b _ hl => BB.block b hl)
    clear r2 b2
    go_upto_region 4 with (first | (refine wpList_store_row rfl 28 _ _ rfl w2.heap.size (lkC k.l k.nm (.slice ta k.ts.length tc) (.slice pa k.ps.length pc) (.slice oa k.rs.length oc) (.slice ma k.dn mc)) rfl rfl 28 _ hZ (infoLk hl) (by rw [lkC_size hl, lkC_size (by simp)]) lkC_one ?_))
    clear hZ B1 L1
    generalize ((w2.alloc (Obj.cells #[.int .u8 0, .int .u8 0, .int .u8 0, .int .u8 0, .int .u8 0, .int .u8 0, .int .u8 0, .int .u8 0, .int .u8 0, .int .u8 0, .int .u8 0, .int .u8 0, .int .u8 0, .int .u8 0, .int .u8 0, .int .u8 0, .int .u8 0, .int .u8 0, .int .u8 0, .int .u8 0, .int .u8 0, .int .u8 0, .int .u8 0, .int .u8 0, .int .u8 0, .int .u8 0, .int .u8 0, .int .u8 0, .int .u8 0, .int .u8 0, .int .u8 0, .int .u8 0, .string { data := #[] }, .slice .none 0 0, .slice .none 0 0, .slice .none 0 0, .slice .none 0 0] 28)).setRow w2.heap.size (lkC k.l k.nm (.slice ta k.ts.length tc) (.slice pa k.ps.length pc) (.slice oa k.rs.length oc) (.slice ma k.dn mc))) = w3 at *
    generalize w2.heap.size = G at *
    generalize Value.slice ta k.ts.length tc = t2 at *
    generalize Value.slice pa k.ps.length pc = p2 at *
    generalize Value.slice oa k.rs.length oc = o2 at *
    generalize Value.slice ma k.dn mc = m2 at *
    go_wp2_with (first | (refine load_link_if rfl _ rfl H rfl HF.out.2.1 hl ?_))
    have hit3 := HA.out.2.2.1 w3 HF.out.1
    refine (check7 k tr pe on mo w3 HA.out.1 HSM.out.1 HA.out.2.1 hit3.1 hit3.2 (HA.out.2.2.2 w3 HF.out.1)).mono ?_
    clear hit3
    rintro e w4 ⟨rfl, b4⟩
    have HF4 : Hid (Below H w w4 ∧ LB w4 H k.l k.nm tr pe on mo ∧ LB w4 G k.l k.nm t2 p2 o2 m2 ∧ RL4 (fun _ => True) w4 k t2 p2 o2 m2) := ⟨HF.out.1.trans (b4.mono (by have := HF.out.2.1.lt; omega)), HF.out.2.1.keep (b4.block _ HF.out.2.1.lt), HF.out.2.2.1.keep (b4.block _ HF.out.2.2.1.lt), HF.out.2.2.2.move (fun _ h _ => h) b4.size (fun b _ hl => b4.block b hl)⟩
    clear b4 HF
    go_wp2_with (first | (refine load_link_if rfl _ rfl G rfl HF4.out.2.2.1 hl ?_))
    refine (rcheck k t2 p2 o2 m2 w4 HA.out.1 HSM.out.1 HSM.out.2 HA.out.2.1 (HA.out.2.2.1 w4 HF4.out.1).1 HF4.out.2.2.2 HCP.out.1 HCP.out.2).mono ?_
    rintro e w5 ⟨rfl, b5⟩
    have HF5 : Hid (Below H w w5 ∧ LB w5 H k.l k.nm tr pe on mo ∧ LB w5 G k.l k.nm t2 p2 o2 m2 ∧ RL4 (fun _ => True) w5 k t2 p2 o2 m2) := ⟨HF4.out.1.trans (b5.mono (by have := HF4.out.2.1.lt; omega)), HF4.out.2.1.keep (b5.block _ HF4.out.2.1.lt), HF4.out.2.2.1.keep (b5.block _ HF4.out.2.2.1.lt), HF4.out.2.2.2.move (fun _ h _ => h) b5.size (fun b _ hl => b5.block b hl)⟩
    clear b5 HF4
    generalize ckN k = r at *
    go_wp2_with (first | (refine load_link_if rfl _ rfl H rfl HF5.out.2.1 hl ?_) | (refine load_link_if rfl _ rfl G rfl HF5.out.2.2.1 hl ?_))
    refine (linkSame k tr pe on mo t2 p2 o2 m2 w5 HA.out.1 (HA.out.2.2.2 w5 HF5.out.1) HF5.out.2.2.2).mono ?_
    rintro e w6 ⟨rfl, b6⟩
    have HB6 : Hid (Below w.heap.size w w6) := by
      have h9 : Below H w w6 := HF5.out.1.trans (b6.mono (by have := HF5.out.2.1.lt; omega))
      rw [HS.out]; exact h9
    clear b6 HF5
    go_wp2
    go_ret
    exact ⟨rfl, HB6.out⟩
set_option maxHeartbeats 4000000 in
set_option maxRecDepth 100000 in
theorem printsLaw (k : Lk) (tr pe on mo : Value) (w : World) (hk : k.ok) (hi : ∀ x ∈ k.rs, I64 x.1 ∧ I64 x.2) (hT : IT w) (hBT : BT w) (hr : RL4 (fun _ => True) w k tr pe on mo) :
    Calls Tryz.prog 4 #[.agg (lkC k.l k.nm tr pe on mo)] w fun e w' => e = .returned (.bool true) ∧ Below w.heap.size w w' := by
  have hl := hk.l
  have B0 : Hid (Below w.heap.size w (w.alloc (Obj.cells (lkC k.l k.nm tr pe on mo) 28))) := (Below.refl _ _).alloc (Nat.le_refl _) _
  have L0 : Hid (LB (w.alloc (Obj.cells (lkC k.l k.nm tr pe on mo) 28)) w.heap.size k.l k.nm tr pe on mo) := heap_new _ _
  have HA : Hid (k.ok ∧ (∀ x ∈ k.rs, I64 x.1 ∧ I64 x.2) ∧ (∀ w', Below w.heap.size w w' → IT w' ∧ BT w') ∧ ∀ w', Below w.heap.size w w' → RL4 (fun _ => True) w' k tr pe on mo) := ⟨hk, hi, fun w' hb => ⟨hT.below hb, hBT.keep hb⟩, fun w' hb => hr.move (fun _ h _ => h) hb.size (fun b _ hl => hb.block b hl)⟩
  clear hk hi hT hBT hr
  go_enter Tryz.func4, Tryz.ntmps4
  go_upto_region 1 with fail
  generalize (w.alloc (Obj.cells (lkC k.l k.nm tr pe on mo) 28)) = w0 at *
  generalize hvb : w.heap.size = H at *
  have HS : Hid (w.heap.size = H) := hvb
  clear hvb
  go_wp2_with (first | (refine load_link_if rfl _ rfl H rfl L0.out hl ?_))
  refine (farLink k tr pe on mo w0 HA.out.1 (HA.out.2.2.2 w0 B0.out)).mono ?_
  rintro e w1 ⟨r, rfl, b1, hsm⟩
  have B1 : Hid (Below H w w1) := B0.out.trans (b1.mono (by have := L0.out.lt; omega))
  have L1 : Hid (LB w1 H k.l k.nm tr pe on mo) := L0.out.keep (b1.block H L0.out.lt)
  clear b1 B0 L0
  cases r with
  | true =>
    clear hsm
    go_wp2
    go_ret
    exact ⟨rfl, HS.out ▸ B1.out⟩
  | false =>
    have HSM : Hid (k.small ∧ k.few) := hsm rfl
    clear hsm
    go_wp2_with (first | (refine load_link_if rfl _ rfl H rfl L1.out hl ?_))
    refine (linkTwin k tr pe on mo w1 HA.out.1 HSM.out.1 (HA.out.2.2.2 w1 B1.out)).mono ?_
    rintro e w2 ⟨t2, p2, o2, m2, rfl, r2, b2, hcp1, hcp2⟩
    have HCP := Lib.hid (And.intro hcp1 hcp2)
    clear hcp1 hcp2
    obtain ⟨ta, tc, rfl⟩ : ∃ a c, t2 = .slice a k.ts.length c := by obtain ⟨p, q, e, _⟩ := r2.1; exact ⟨p, q, e⟩
    obtain ⟨pa, pc, rfl⟩ : ∃ a c, p2 = .slice a k.ps.length c := by obtain ⟨p, q, e, _⟩ := r2.2.1; exact ⟨p, q, e⟩
    obtain ⟨oa, oc, rfl⟩ : ∃ a c, o2 = .slice a k.rs.length c := by obtain ⟨p, q, e, _⟩ := r2.2.2.1; exact ⟨p, q, e⟩
    obtain ⟨ma, mc, rfl⟩ : ∃ a c, m2 = .slice a k.dn c := by obtain ⟨p, q, e, _⟩ := r2.2.2.2; exact ⟨p, q, e⟩
    have hZ : LB (w2.alloc (Obj.cells #[.int .u8 0, .int .u8 0, .int .u8 0, .int .u8 0, .int .u8 0, .int .u8 0, .int .u8 0, .int .u8 0, .int .u8 0, .int .u8 0, .int .u8 0, .int .u8 0, .int .u8 0, .int .u8 0, .int .u8 0, .int .u8 0, .int .u8 0, .int .u8 0, .int .u8 0, .int .u8 0, .int .u8 0, .int .u8 0, .int .u8 0, .int .u8 0, .int .u8 0, .int .u8 0, .int .u8 0, .int .u8 0, .int .u8 0, .int .u8 0, .int .u8 0, .int .u8 0, .string { data := #[] }, .slice .none 0 0, .slice .none 0 0, .slice .none 0 0, .slice .none 0 0] 28)) w2.heap.size (List.replicate 32 (0 : UInt8)) ⟨#[]⟩ (.slice none 0 0) (.slice none 0 0) (.slice none 0 0) (.slice none 0 0) := heap_new _ _
    have HF : Hid (Below H w ((w2.alloc (Obj.cells #[.int .u8 0, .int .u8 0, .int .u8 0, .int .u8 0, .int .u8 0, .int .u8 0, .int .u8 0, .int .u8 0, .int .u8 0, .int .u8 0, .int .u8 0, .int .u8 0, .int .u8 0, .int .u8 0, .int .u8 0, .int .u8 0, .int .u8 0, .int .u8 0, .int .u8 0, .int .u8 0, .int .u8 0, .int .u8 0, .int .u8 0, .int .u8 0, .int .u8 0, .int .u8 0, .int .u8 0, .int .u8 0, .int .u8 0, .int .u8 0, .int .u8 0, .int .u8 0, .string { data := #[] }, .slice .none 0 0, .slice .none 0 0, .slice .none 0 0, .slice .none 0 0] 28)).setRow w2.heap.size (lkC k.l k.nm (.slice ta k.ts.length tc) (.slice pa k.ps.length pc) (.slice oa k.rs.length oc) (.slice ma k.dn mc))) ∧ LB ((w2.alloc (Obj.cells #[.int .u8 0, .int .u8 0, .int .u8 0, .int .u8 0, .int .u8 0, .int .u8 0, .int .u8 0, .int .u8 0, .int .u8 0, .int .u8 0, .int .u8 0, .int .u8 0, .int .u8 0, .int .u8 0, .int .u8 0, .int .u8 0, .int .u8 0, .int .u8 0, .int .u8 0, .int .u8 0, .int .u8 0, .int .u8 0, .int .u8 0, .int .u8 0, .int .u8 0, .int .u8 0, .int .u8 0, .int .u8 0, .int .u8 0, .int .u8 0, .int .u8 0, .int .u8 0, .string { data := #[] }, .slice .none 0 0, .slice .none 0 0, .slice .none 0 0, .slice .none 0 0] 28)).setRow w2.heap.size (lkC k.l k.nm (.slice ta k.ts.length tc) (.slice pa k.ps.length pc) (.slice oa k.rs.length oc) (.slice ma k.dn mc))) H k.l k.nm tr pe on mo ∧ LB ((w2.alloc (Obj.cells #[.int .u8 0, .int .u8 0, .int .u8 0, .int .u8 0, .int .u8 0, .int .u8 0, .int .u8 0, .int .u8 0, .int .u8 0, .int .u8 0, .int .u8 0, .int .u8 0, .int .u8 0, .int .u8 0, .int .u8 0, .int .u8 0, .int .u8 0, .int .u8 0, .int .u8 0, .int .u8 0, .int .u8 0, .int .u8 0, .int .u8 0, .int .u8 0, .int .u8 0, .int .u8 0, .int .u8 0, .int .u8 0, .int .u8 0, .int .u8 0, .int .u8 0, .int .u8 0, .string { data := #[] }, .slice .none 0 0, .slice .none 0 0, .slice .none 0 0, .slice .none 0 0] 28)).setRow w2.heap.size (lkC k.l k.nm (.slice ta k.ts.length tc) (.slice pa k.ps.length pc) (.slice oa k.rs.length oc) (.slice ma k.dn mc))) w2.heap.size k.l k.nm (.slice ta k.ts.length tc) (.slice pa k.ps.length pc) (.slice oa k.rs.length oc) (.slice ma k.dn mc) ∧ RL4 (fun _ => True) ((w2.alloc (Obj.cells #[.int .u8 0, .int .u8 0, .int .u8 0, .int .u8 0, .int .u8 0, .int .u8 0, .int .u8 0, .int .u8 0, .int .u8 0, .int .u8 0, .int .u8 0, .int .u8 0, .int .u8 0, .int .u8 0, .int .u8 0, .int .u8 0, .int .u8 0, .int .u8 0, .int .u8 0, .int .u8 0, .int .u8 0, .int .u8 0, .int .u8 0, .int .u8 0, .int .u8 0, .int .u8 0, .int .u8 0, .int .u8 0, .int .u8 0, .int .u8 0, .int .u8 0, .int .u8 0, .string { data := #[] }, .slice .none 0 0, .slice .none 0 0, .slice .none 0 0, .slice .none 0 0] 28)).setRow w2.heap.size (lkC k.l k.nm (.slice ta k.ts.length tc) (.slice pa k.ps.length pc) (.slice oa k.rs.length oc) (.slice ma k.dn mc))) k (.slice ta k.ts.length tc) (.slice pa k.ps.length pc) (.slice oa k.rs.length oc) (.slice ma k.dn mc)) := by
      have s2 := b2.size
      have l1 := L1.out.lt
      have BB : Below w2.heap.size w2 ((w2.alloc (Obj.cells #[.int .u8 0, .int .u8 0, .int .u8 0, .int .u8 0, .int .u8 0, .int .u8 0, .int .u8 0, .int .u8 0, .int .u8 0, .int .u8 0, .int .u8 0, .int .u8 0, .int .u8 0, .int .u8 0, .int .u8 0, .int .u8 0, .int .u8 0, .int .u8 0, .int .u8 0, .int .u8 0, .int .u8 0, .int .u8 0, .int .u8 0, .int .u8 0, .int .u8 0, .int .u8 0, .int .u8 0, .int .u8 0, .int .u8 0, .int .u8 0, .int .u8 0, .int .u8 0, .string { data := #[] }, .slice .none 0 0, .slice .none 0 0, .slice .none 0 0, .slice .none 0 0] 28)).setRow w2.heap.size (lkC k.l k.nm (.slice ta k.ts.length tc) (.slice pa k.ps.length pc) (.slice oa k.rs.length oc) (.slice ma k.dn mc))) := below_setRow ((Below.refl _ _).alloc (Nat.le_refl _) _) (Nat.le_refl _) _
      refine ⟨(B1.out.trans (b2.mono (by omega))).trans (BB.mono (by omega)), ?_, setRow_heap _ _ _ _ _ _ hZ, ?_⟩
      · exact (L1.out.keep (b2.block H l1)).keep (BB.block H (by omega))
      · exact r2.move (fun _ _ _ => trivial) BB.size (fun b _ hl => BB.block b hl)
    clear r2 b2
    go_upto_region 4 with (first | (refine wpList_store_row rfl 28 _ _ rfl w2.heap.size (lkC k.l k.nm (.slice ta k.ts.length tc) (.slice pa k.ps.length pc) (.slice oa k.rs.length oc) (.slice ma k.dn mc)) rfl rfl 28 _ hZ (infoLk hl) (by rw [lkC_size hl, lkC_size (by simp)]) lkC_one ?_))
    clear hZ B1 L1
    generalize ((w2.alloc (Obj.cells #[.int .u8 0, .int .u8 0, .int .u8 0, .int .u8 0, .int .u8 0, .int .u8 0, .int .u8 0, .int .u8 0, .int .u8 0, .int .u8 0, .int .u8 0, .int .u8 0, .int .u8 0, .int .u8 0, .int .u8 0, .int .u8 0, .int .u8 0, .int .u8 0, .int .u8 0, .int .u8 0, .int .u8 0, .int .u8 0, .int .u8 0, .int .u8 0, .int .u8 0, .int .u8 0, .int .u8 0, .int .u8 0, .int .u8 0, .int .u8 0, .int .u8 0, .int .u8 0, .string { data := #[] }, .slice .none 0 0, .slice .none 0 0, .slice .none 0 0, .slice .none 0 0] 28)).setRow w2.heap.size (lkC k.l k.nm (.slice ta k.ts.length tc) (.slice pa k.ps.length pc) (.slice oa k.rs.length oc) (.slice ma k.dn mc))) = w3 at *
    generalize w2.heap.size = G at *
    generalize Value.slice ta k.ts.length tc = t2 at *
    generalize Value.slice pa k.ps.length pc = p2 at *
    generalize Value.slice oa k.rs.length oc = o2 at *
    generalize Value.slice ma k.dn mc = m2 at *
    go_wp2_with (first | (refine load_link_if rfl _ rfl H rfl HF.out.2.1 hl ?_))
    have hit3 := HA.out.2.2.1 w3 HF.out.1
    refine (print10 k tr pe on mo w3 HA.out.1 HSM.out.1 HA.out.2.1 hit3.1 hit3.2 (HA.out.2.2.2 w3 HF.out.1)).mono ?_
    clear hit3
    rintro e w4 ⟨rfl, b4⟩
    obtain ⟨s0, e0, hpe⟩ := prE_form k
    rw [hpe]
    have HPE := Lib.hid hpe
    clear hpe
    have HF4 : Hid (Below H w w4 ∧ LB w4 H k.l k.nm tr pe on mo ∧ LB w4 G k.l k.nm t2 p2 o2 m2 ∧ RL4 (fun _ => True) w4 k t2 p2 o2 m2) := ⟨HF.out.1.trans (b4.mono (by have := HF.out.2.1.lt; omega)), HF.out.2.1.keep (b4.block _ HF.out.2.1.lt), HF.out.2.2.1.keep (b4.block _ HF.out.2.2.1.lt), HF.out.2.2.2.move (fun _ h _ => h) b4.size (fun b _ hl => b4.block b hl)⟩
    clear b4 HF
    go_wp2_with (first | (refine load_link_if rfl _ rfl G rfl HF4.out.2.2.1 hl ?_))
    refine (rprint k t2 p2 o2 m2 w4 HA.out.1 HSM.out.1 HSM.out.2 HA.out.2.1 (HA.out.2.2.1 w4 HF4.out.1).1 HF4.out.2.2.2 HCP.out.1 HCP.out.2).mono ?_
    rintro e w5 ⟨rfl, b5⟩
    rw [HPE.out]
    have HF5 : Hid (Below H w w5 ∧ LB w5 H k.l k.nm tr pe on mo ∧ LB w5 G k.l k.nm t2 p2 o2 m2 ∧ RL4 (fun _ => True) w5 k t2 p2 o2 m2) := ⟨HF4.out.1.trans (b5.mono (by have := HF4.out.2.1.lt; omega)), HF4.out.2.1.keep (b5.block _ HF4.out.2.1.lt), HF4.out.2.2.1.keep (b5.block _ HF4.out.2.2.1.lt), HF4.out.2.2.2.move (fun _ h _ => h) b5.size (fun b _ hl => b5.block b hl)⟩
    clear b5 HF4
    go_wp2_with (first | (refine load_link_if rfl _ rfl H rfl HF5.out.2.1 hl ?_) | (refine load_link_if rfl _ rfl G rfl HF5.out.2.2.1 hl ?_))
    refine (linkSame k tr pe on mo t2 p2 o2 m2 w5 HA.out.1 (HA.out.2.2.2 w5 HF5.out.1) HF5.out.2.2.2).mono ?_
    rintro e w6 ⟨rfl, b6⟩
    have HB6 : Hid (Below w.heap.size w w6) := by
      have h9 : Below H w w6 := HF5.out.1.trans (b6.mono (by have := HF5.out.2.1.lt; omega))
      rw [HS.out]; exact h9
    clear b6 HF5
    go_wp2
    go_ret
    exact ⟨rfl, HB6.out⟩
end Go.Proofs.YtjfgpplomldeiaaGreatDoor
