import Derived.Test.YtabjpffaleaoaaaGreatDoorM33
namespace Go.Proofs.YtabjpffaleaoaaaGreatDoor
open Go.RowKit
set_option maxHeartbeats 8000000 in
set_option maxRecDepth 100000 in
theorem talkT (W0 W : World) (hW : Below W0.heap.size W0 W) (L : List Int) (b v : Int) (ga Ra : Nat) (Pa : Pv) (Ha : List UInt8) (pa sa : Nat) (fa : FP W ga Ra Pa L Ha pa sa [] (.slice none 0 0)) (gb Rb : Nat) (Pb : Pv) (Hb : List UInt8) (pb sb : Nat) (fb : FP W gb Rb Pb L Hb pb sb [] (.slice none 0 0)) (hp2 : (pb == 2) = false) (htx : Fm.tx pb sb [] = [])
    (hor : W0.heap.size ≤ ga ∧ W0.heap.size ≤ gb ∧ ga ≠ gb ∧ ga ≠ Rb ∧ gb ≠ Ra ∧ Ra ≠ Rb) (hfl : (Pa.wc, Pa.wi, Pa.wb) = (Pb.ic, Pb.ii, Pb.ib)) (hba : Pa.b = b) (hbb : Pb.b = b) (msv : Value) (MS : List Mg) (hms : RMS W0 msv MS) (hmw : mgW MS ≤ 1048576) (lv : Value) (hr : Bs.RZ W0 lv L) (cv : Value) (zs : List Int) (hz : Bs.RZ W0 cv zs) (hzl : zs.length ≤ 1048576) (hzb : ∀ z ∈ zs, -9223372036854775808 ≤ z ∧ z ≤ 9223372036854775807) :
    Calls Tryz.prog 28 #[.pointer (some ⟨ga, 0, none⟩), .pointer (some ⟨gb, 0, none⟩), msv, Bs.sc b v, lv, cv] W fun e w' => e = .returned (.bool true) ∧ ∃ Pn Pm Hm pm sm, FP w' ga Ra Pn L Ha pa sa [] (.slice none 0 0) ∧ FP w' gb Rb Pm L Hm pm sm [] (.slice none 0 0) ∧ (pm == 2) = false ∧ Fm.tx pm sm [] = [] ∧ (Pn.wc, Pn.wi, Pn.wb) = (Pm.ic, Pm.ii, Pm.ib) ∧ (Pn.ic, Pn.ii, Pn.ib) = (Pa.ic, Pa.ii, Pa.ib) ∧ (Pm.wc, Pm.wi, Pm.wb) = (Pb.wc, Pb.wi, Pb.wb) ∧ Pn.b = b ∧ Pm.b = b ∧ Fm.Fr (fun k => k ≠ ga ∧ k ≠ gb ∧ k ≠ Rb) W w' := by
  obtain ⟨W1, hW1⟩ : ∃ x, x = W.alloc (.cells #[.int .i64 b, .int .i64 v] 23) := ⟨_, rfl⟩
  have bW1 : Below W.heap.size W W1 := by rw [hW1]; exact (Below.refl _ _).alloc (Nat.le_refl _) _
  have hsc : W1.heap[W.heap.size]? = some (.cells #[.int .i64 b, .int .i64 v] 23) := by rw [hW1]; exact heapNew _ _
  have hz1 : W1.heap.size = W.heap.size + 1 := by rw [hW1]; simp
  have HI0 : Hid (TL W1 ga Ra Pa L b Ha pa sa MS 0 (.slice none 0 0) (.slice none 0 0) Pa [] [] W1) := ⟨fa.below bW1, rfl, Fm.Fr.refl _ _, World.ownsRow_nil _ _ _ _, OMS.nil _ _, ⟨rfl, fun k x y h => by simp at h⟩, LgS.nil _ _ _, Nat.zero_le _, Nat.zero_le _, fun _ => rfl, fun y hy => by cases hy⟩
  have HM : Hid (RMS W0 msv MS ∧ Bs.RZ W0 lv L ∧ Bs.RZ W0 cv zs ∧ (∀ z ∈ zs, -9223372036854775808 ≤ z ∧ z ≤ 9223372036854775807) ∧ Below W0.heap.size W0 W1) := ⟨hms, hr, hz, hzb, hW.trans (bW1.mono hW.size)⟩
  have HO : Hid (W0.heap.size ≤ ga ∧ W0.heap.size ≤ gb ∧ ga ≠ gb ∧ ga ≠ Rb ∧ gb ≠ Ra ∧ Ra ≠ Rb ∧ ga < W.heap.size ∧ gb < W.heap.size ∧ Rb < W.heap.size) := ⟨hor.1, hor.2.1, hor.2.2.1, hor.2.2.2.1, hor.2.2.2.2.1, hor.2.2.2.2.2, fa.pk.lt, fb.pk.lt, fb.rk.lt⟩
  have HLH : Hid ((∀ k, Pa.ln.ownBlock = some k → k < W1.heap.size) ∧ (∀ k, Pa.hs.ownBlock = some k → k < W1.heap.size) ∧ Ra < W1.heap.size ∧ ga < W1.heap.size) := ⟨fun k hk => by have := (own_ge fa.lo hk).2; omega, fun k hk => by have := (own_ge fa.ho hk).2; omega, by have := fa.rk.lt; omega, by have := fa.pk.lt; omega⟩
  have HRW : Hid ((∀ (k : Nat) (cs : Array Value), W1.heap[k]? = some (.cells cs 3 (0, 0)) → k ≠ ga) ∧ (∀ (k : Nat) (cs : Array Value), W1.heap[k]? = some (.cells cs 5 (0, 0)) → k ≠ ga)) := ⟨fun k cs e => ((fa.below bW1).rows.1 k cs e).1, fun k cs e => ((fa.below bW1).rows.2 k cs e).1⟩
  have HFB := Lib.hid (And.intro (fb.below bW1) (And.intro hp2 htx))
  have HFL := Lib.hid hfl
  have HBB : Hid (Pa.b = b ∧ Pb.b = b ∧ LOk L ∧ 64 ≤ b ∧ b ≤ 16384) := ⟨hba, hbb, fa.lok, by rw [← hba]; exact fa.b0, by rw [← hba]; exact fa.b1⟩
  have HSC := Lib.hid hsc
  have HW1 : Hid (W1.heap.size = W.heap.size + 1 ∧ Below W.heap.size W W1) := ⟨hz1, bW1⟩
  obtain ⟨ma, mc, rfl, _⟩ := hms
  obtain ⟨la, lc, rfl, _⟩ := hr
  obtain ⟨ca, cc, rfl, _⟩ := hz
  have hmlen : MS.length ≤ 1048576 := by
    have h1 : MS.length ≤ mgW MS := by
      have : ∀ M : List Mg, M.length ≤ mgW M := fun M => by
        induction M with
        | nil => simp
        | cons x M ih => simp only [mgW, List.map_cons, List.sum_cons, List.length_cons] at ih ⊢; omega
      exact this MS
    omega
  clear fa fb hp2 htx hor hfl hba hbb hW bW1 hsc hz1 hzb
  go_enter Tryz.func28, Tryz.ntmps28
  go_wp2_with fail
  rw [← hW1]
  clear hW1
  go_loopw [13, 14, 15] (fun s13 s14 s15 wr => ∃ (i : Nat) (Pn : Pv) (S ms : List Mg) (ta : Option Addr) (tc : Nat) (sva : Option Addr) (svc : Nat), i ≤ MS.length ∧ s15 = .int .i64 i ∧ s13 = .slice ta (wirB S).length tc ∧ s14 = .slice sva ms.length svc ∧ Hid (TL W1 ga Ra Pa L b Ha pa sa MS i s13 s14 Pn S ms wr)) (fun _ _ s15 _ => MS.length - (intOf s15).toNat)
  case atStart => exact ⟨0, Pa, [], [], none, 0, none, 0, Nat.zero_le _, rfl, rfl, rfl, HI0⟩
  case round =>
    clear HI0
    obtain ⟨i, Pn, S, ms, ta, tc, sva, svc, hi, rfl, rfl, rfl, HI⟩ := hrel
    by_cases hlt : i < MS.length
    · obtain ⟨x, hx⟩ : ∃ x, MS[i]? = some x := ⟨_, List.getElem?_eq_getElem hlt⟩
      have bwr : Below W0.heap.size W0 wr := by
        have h0 := HO.out
        exact below_fr HM.out.2.2.2.2 HI.out.fr HM.out.2.2.2.2.size (fun k hk => by omega)
      obtain ⟨mg, mo, rfl, rM, hMM⟩ : ∃ mg mo, ma = some ⟨mg, mo, none⟩ ∧ wr.rangeAt mg (mo + i * 40) x.m.ls ∧ MM wr x.m x.D x.hb := by
        obtain ⟨a, c, e, _, h, hm⟩ := HM.out.1.keep bwr
        simp only [Value.slice.injEq] at e
        obtain ⟨rfl, _, rfl⟩ := e
        rcases h with h | ⟨g, o, rfl, _, h⟩
        · rw [h] at hlt; simp at hlt
        · exact ⟨g, o, rfl, h i x hx, hm x (List.mem_of_getElem? hx)⟩
      have him : (Tryz.prog.info? 47).map (·.size) = some x.m.ls.length := by rw [info_msg hMM.ok, Mv.cs, List.size_toArray]
      have hz0 := heapNew wr (.cells z40 47)
      have bX : Below wr.heap.size wr ((wr.alloc (.cells z40 47)).setRow wr.heap.size x.m.cs) := belowSetRow ((Below.refl _ _).alloc (Nat.le_refl _) _) (Nat.le_refl _) _
      have HX : Hid (MB ((wr.alloc (.cells z40 47)).setRow wr.heap.size x.m.cs) wr.heap.size x.m ∧ Below wr.heap.size wr ((wr.alloc (.cells z40 47)).setRow wr.heap.size x.m.cs) ∧ MM ((wr.alloc (.cells z40 47)).setRow wr.heap.size x.m.cs) x.m x.D x.hb) := ⟨MB.setRow (m := zm) hz0, bX, hMM.keep bX⟩
      have HRM := Lib.hid (And.intro rM (And.intro him (And.intro hz0 (And.intro (info_msg hMM.ok) (And.intro hMM.ok.one (show z40.size = x.m.cs.size from hMM.ok.size.symm))))))
      have HBW := Lib.hid bwr
      have HXX := Lib.hid hx
      have hkn : (i : Int) < (MS.length : Int) := by omega
      have hk0 : (0 : Int) ≤ (i : Int) := by omega
      clear rM him hz0 bX hMM bwr hx
      go_upto_region 7 with (first | (with_reducible (show wpList _ _ _ (⟨_, Op.load 47 _, _, _, _, _⟩ :: _) _ _); refine wpList_load_mid rfl 47 _ rfl mg (mo + i * 40) rfl x.m.ls _ HRM.out.1 Tryz.underlying47 rfl HRM.out.2.1 ?_) | (with_reducible (show wpList _ _ _ (⟨_, Op.store 47 _ _, _, _, _, _⟩ :: _) _ _); refine wpList_store_row rfl 47 _ _ rfl wr.heap.size x.m.cs rfl rfl 47 z40 HRM.out.2.2.1 HRM.out.2.2.2.1 HRM.out.2.2.2.2.2 HRM.out.2.2.2.2.1 ?_))
      generalize (wr.alloc (.cells z40 47)).setRow wr.heap.size x.m.cs = X at *
      clear HRM
      have hMB := HX.out.1
      have c0 := hMB.c0
      have c1 := hMB.c1
      have c2 := hMB.c2
      obtain ⟨da, dc, hdv, _⟩ := HX.out.2.2.d
      have c4 := hMB.c4
      rw [hdv] at c4
      have HDV := Lib.hid hdv
      have BX : Hid (Fm.Fr (fun k => k ≠ ga) W1 X ∧ Below W0.heap.size W0 X) := ⟨HI.out.fr.trans (T := fun _ => True) (Fm.Fr.of_below HX.out.2.1) (fun _ _ _ => trivial), HBW.out.trans (HX.out.2.1.mono HBW.out.size)⟩
      have hsX : X.heap[W.heap.size]? = some (.cells #[.int .i64 b, .int .i64 v] 23) := by
        have h1 := HW1.out.1
        have h2 := HO.out
        exact (BX.out.1.block _ (by omega) (by omega)).trans HSC.out
      have d0 : X.cell? ⟨W.heap.size, 0, none⟩ = some (.int .i64 b) := by unfold World.cell?; simp only [hsX]; rfl
      have d1 : X.cell? ⟨W.heap.size, 1, none⟩ = some (.int .i64 v) := by unfold World.cell?; simp only [hsX]; rfl
      clear hMB hsX hdv
      simp only [Act.put]
      go_cut [47] from 23 to 102 (fun s47 wc => s47 = .bool (decide (x.m.k = 7) && rg1 L b x.m.i x.m.b x.D.length) ∧ Hid (Below X.heap.size X wc))
      case first =>
        by_cases k7 : x.m.k = 7
        · have HR1 := Lib.hid (range1B X b v (.slice la L.length lc) L (HM.out.2.1.keep BX.out.2) x.m.i x.m.b (x.D.length : Int) HBB.out.2.2.1 HBB.out.2.2.2.2)
          rw [k7] at c0
          have HK7 := Lib.hid k7
          clear k7
          go_wp2_with (first | (go_at_call 22; refine HR1.out.mono ?_; rintro e w8 ⟨rfl, b8⟩))
          go_meet
          exact ⟨by rw [HK7.out]; simp, b8⟩
        · go_wp2_with fail
          go_meet
          exact ⟨by simp [k7], Below.refl _ _⟩
      case rest =>
        obtain ⟨rfl, HC1⟩ := hcut
        go_upto_if 47 with fail
        go_cut [17] from 23 to 102 (fun s17 wd => Hid (Below X.heap.size X wd ∧ (x.m.k = 7 → rg1 L b x.m.i x.m.b x.D.length = true → ctp L b x.m.i x.m.b x.D.length = true)))
        case first =>
          cases hc7 : (decide (x.m.k = 7) && rg1 L b x.m.i x.m.b x.D.length) with
          | false =>
            have HF7 := Lib.hid hc7
            go_wp2_with fail
            go_meet
            exact ⟨HC1.out, fun h1 h2 => by have := HF7.out; rw [h2, Bool.and_true] at this; simp [h1] at this⟩
          | true =>
            obtain ⟨h7, hrg⟩ : x.m.k = 7 ∧ rg1 L b x.m.i x.m.b x.D.length = true := by simpa using hc7
            clear hc7
            obtain ⟨hpc, hbg0, hn1, hnb1, hbx⟩ : pce L x.m.i = true ∧ 0 ≤ x.m.b ∧ 1 ≤ (x.D.length : Int) ∧ (x.D.length : Int) ≤ b ∧ x.m.b ≤ Bs.iz L x.m.i.toNat - (x.D.length : Int) := by
              unfold rg1 at hrg
              simp only [Bool.and_eq_true, decide_eq_true_eq] at hrg
              exact ⟨hrg.1.1.1.1, hrg.1.1.1.2, hrg.1.1.2, hrg.1.2, hrg.2⟩
            obtain ⟨hmi0', hmi1'⟩ := pceX hpc
            obtain ⟨mi, hmi⟩ := Int.eq_ofNat_of_zero_le hmi0'
            have hmik : mi < L.length := by omega
            have hlxb := HBB.out.2.2.1.2 mi hmik
            have hb64 := HBB.out.2.2.2.1
            have hb16 := HBB.out.2.2.2.2
            have hct : ctp L b x.m.i x.m.b x.D.length = ((x.m.b % b == 0) && ((x.D.length : Int) == b || x.m.b == Bs.iz L mi - (x.D.length : Int))) := by
              unfold ctp
              rw [hpc, Bool.true_and, hmi, Int.toNat_natCast]
            rw [hmi, Int.toNat_natCast] at hbx
            rw [hmi] at c1
            obtain ⟨lg, lo, rfl, hlg, hcl⟩ : ∃ lg lo, la = some ⟨lg, lo, none⟩ ∧ lg < X.heap.size ∧ X.cell? ⟨lg, lo + mi, none⟩ = some (.int .i64 (Bs.iz L mi)) := by
              obtain ⟨a, c, e, _, h⟩ := HM.out.2.1.keep BX.out.2
              simp only [Value.slice.injEq] at e
              obtain ⟨rfl, _, rfl⟩ := e
              rcases h with h | ⟨g, o, rfl, hg, h⟩
              · rw [h] at hmik; simp at hmik
              · exact ⟨g, o, rfl, hg, h mi hmik⟩
            obtain ⟨lx, hlxe⟩ : ∃ z, z = Bs.iz L mi := ⟨_, rfl⟩
            rw [← hlxe] at hcl hct hlxb hbx
            have hltG : wr.heap.size < X.heap.size := World.block_lt_of_cell? X _ c1
            have hltS : W.heap.size < X.heap.size := World.block_lt_of_cell? X _ d0
            have HV7 : Hid (wc.cell? ⟨wr.heap.size, 1, none⟩ = some (.int .i64 (mi : Int)) ∧ wc.cell? ⟨wr.heap.size, 2, none⟩ = some (.int .i64 x.m.b) ∧ wc.cell? ⟨W.heap.size, 0, none⟩ = some (.int .i64 b) ∧ wc.cell? ⟨lg, lo + mi, none⟩ = some (.int .i64 lx)) := ⟨(World.cell?_of_block (w := X) (HC1.out.block _ hltG)).trans c1, (World.cell?_of_block (w := X) (HC1.out.block _ hltG)).trans c2, (World.cell?_of_block (w := X) (HC1.out.block _ hltS)).trans d0, (World.cell?_of_block (w := X) (HC1.out.block _ hlg)).trans hcl⟩
            have c4w : wc.cell? ⟨wr.heap.size, 4, none⟩ = some (.slice da x.D.length dc) := (World.cell?_of_block (w := X) (HC1.out.block _ hltG)).trans c4
            have hmiL : (mi : Int) < (L.length : Int) := by omega
            have hmi0 : (0 : Int) ≤ (mi : Int) := by omega
            have hbne2 : ¬ b = 0 := by omega
            have hmod0 : 0 ≤ x.m.b % b := Int.emod_nonneg _ (by omega)
            have hmod1 : x.m.b % b < b := Int.emod_lt_of_pos _ (by omega)
            have hrm1 : x.m.b.tmod b = x.m.b % b := Int.tmod_eq_emod_of_nonneg hbg0
            have HCT0 := Lib.hid hct
            clear hct hpc hmi0' hmi1' hmi hcl hlxe hrg h7 c0 c1 c2 c4 d0 d1
            by_cases hr0 : x.m.b % b = 0
            · have hrm : x.m.b.tmod b = 0 := hrm1.trans hr0
              have hwm : IntKind.i64.wrap 0 = 0 := rfl
              by_cases hnb0 : (x.D.length : Int) = b
              · have HCT : Hid (ctp L b x.m.i x.m.b x.D.length = true) := by show ctp L b x.m.i x.m.b x.D.length = true; rw [HCT0.out]; simp [hr0, hnb0]
                have HNB := Lib.hid hnb0
                clear hnb0 hrm1 hr0 hmod0 hmod1
                go_upto_region 9 with fail
                refine wp_region_held_drew (S := fun u => u.cell? ⟨wr.heap.size, 1, none⟩ = some (.int .i64 (mi : Int)) ∧ u.cell? ⟨wr.heap.size, 2, none⟩ = some (.int .i64 x.m.b) ∧ u.cell? ⟨W.heap.size, 0, none⟩ = some (.int .i64 b) ∧ u.cell? ⟨lg, lo + mi, none⟩ = some (.int .i64 lx)) (by kernel_rfl) (HV7.out) (fun hHeld => ?_)
                refine wpAnyH_take (i := 0) (v := .pointer (some ⟨wr.heap.size, 2, none⟩)) rfl (by kernel_rfl) (by kernel_rfl) (by kernel_rfl) (fun _ _ _ h => h) (Or.inl ⟨by rfl, fun w hw => by go_simp⟩) hHeld ?_
                simp only [Act.put, List.getElem_toArray, List.getElem_cons_zero, List.setIfInBounds_toArray, List.set_cons_zero, List.set_cons_succ]
                refine wpAnyH_take (i := 1) (v := .int .i64 x.m.b) rfl (by kernel_rfl) (by kernel_rfl) (by kernel_rfl) (fun _ _ _ h => h) (Or.inl ⟨by rfl, fun w hw => by have hq := hw.2.1; go_simp⟩) hHeld ?_
                simp only [Act.put, List.getElem_toArray, List.getElem_cons_zero, List.getElem_cons_succ, List.setIfInBounds_toArray, List.set_cons_zero, List.set_cons_succ]
                refine wpAnyH_take (i := 2) (v := .pointer (some ⟨W.heap.size, 0, none⟩)) rfl (by kernel_rfl) (by kernel_rfl) (by kernel_rfl) (fun _ _ _ h => h) (Or.inl ⟨by rfl, fun w hw => by go_simp⟩) hHeld ?_
                simp only [Act.put, List.getElem_toArray, List.getElem_cons_zero, List.getElem_cons_succ, List.setIfInBounds_toArray, List.set_cons_zero, List.set_cons_succ]
                refine wpAnyH_take (i := 3) (v := .int .i64 b) rfl (by kernel_rfl) (by kernel_rfl) (by kernel_rfl) (fun _ _ _ h => h) (Or.inl ⟨by rfl, fun w hw => by have hq := hw.2.2.1; go_simp⟩) hHeld ?_
                simp only [Act.put, List.getElem_toArray, List.getElem_cons_zero, List.getElem_cons_succ, List.setIfInBounds_toArray, List.set_cons_zero, List.set_cons_succ]
                refine wpAnyH_take (i := 4) (v := .int .i64 0) rfl (by kernel_rfl) (by kernel_rfl) (by kernel_rfl) (fun _ _ _ h => h) (Or.inl ⟨by rfl, fun w hw => by have hq1 := hrm; have hq2 := hwm; have hq4 : ¬ b = 0 := hbne2; go_simp⟩) hHeld ?_
                simp only [Act.put, List.getElem_toArray, List.getElem_cons_zero, List.getElem_cons_succ, List.setIfInBounds_toArray, List.set_cons_zero, List.set_cons_succ]
                refine wpAnyH_take (i := 5) (v := .bool false) rfl (by kernel_rfl) (by kernel_rfl) (by kernel_rfl) (fun _ _ _ h => h) (Or.inl ⟨by rfl, fun w hw => by go_simp⟩) hHeld ?_
                simp only [Act.put, List.getElem_toArray, List.getElem_cons_zero, List.getElem_cons_succ, List.setIfInBounds_toArray, List.set_cons_zero, List.set_cons_succ]
                refine wpAnyH_take (i := 6) (v := .bool false) rfl (by kernel_rfl) (by kernel_rfl) (by kernel_rfl) (fun _ _ _ h => h) (Or.inl ⟨by rfl, fun w hw => by go_simp⟩) hHeld ?_
                simp only [Act.put, List.getElem_toArray, List.getElem_cons_zero, List.getElem_cons_succ, List.setIfInBounds_toArray, List.set_cons_zero, List.set_cons_succ]
                refine wpAnyH_take (i := 7) (v := .int .i64 (x.D.length : Int)) rfl (by kernel_rfl) (by kernel_rfl) (by kernel_rfl) (fun _ _ _ h => h) (Or.inl ⟨by rfl, fun w hw => by go_simp⟩) hHeld ?_
                simp only [Act.put, List.getElem_toArray, List.getElem_cons_zero, List.getElem_cons_succ, List.setIfInBounds_toArray, List.set_cons_zero, List.set_cons_succ]
                refine wpAnyH_take (i := 8) (v := .pointer (some ⟨W.heap.size, 0, none⟩)) rfl (by kernel_rfl) (by kernel_rfl) (by kernel_rfl) (fun _ _ _ h => h) (Or.inl ⟨by rfl, fun w hw => by go_simp⟩) hHeld ?_
                simp only [Act.put, List.getElem_toArray, List.getElem_cons_zero, List.getElem_cons_succ, List.setIfInBounds_toArray, List.set_cons_zero, List.set_cons_succ]
                refine wpAnyH_take (i := 9) (v := .int .i64 b) rfl (by kernel_rfl) (by kernel_rfl) (by kernel_rfl) (fun _ _ _ h => h) (Or.inl ⟨by rfl, fun w hw => by have hq := hw.2.2.1; go_simp⟩) hHeld ?_
                simp only [Act.put, List.getElem_toArray, List.getElem_cons_zero, List.getElem_cons_succ, List.setIfInBounds_toArray, List.set_cons_zero, List.set_cons_succ]
                refine wpAnyH_take (i := 10) (v := .bool false) rfl (by kernel_rfl) (by kernel_rfl) (by kernel_rfl) (fun _ _ _ h => h) (Or.inl ⟨by rfl, fun w hw => by have hq := HNB.out; go_simp⟩) hHeld ?_
                simp only [Act.put, List.getElem_toArray, List.getElem_cons_zero, List.getElem_cons_succ, List.setIfInBounds_toArray, List.set_cons_zero, List.set_cons_succ]
                refine wpAnyH_take (i := 11) (v := .bool false) rfl (by kernel_rfl) (by kernel_rfl) (by kernel_rfl) (fun _ _ _ h => h) (Or.inl ⟨by rfl, fun w hw => by go_simp⟩) hHeld ?_
                simp only [Act.put, List.getElem_toArray, List.getElem_cons_zero, List.getElem_cons_succ, List.setIfInBounds_toArray, List.set_cons_zero, List.set_cons_succ]
                refine wpAnyH_take (i := 12) (v := undef) rfl (by kernel_rfl) (by kernel_rfl) (by kernel_rfl) (fun _ _ _ h => h) (Or.inr ⟨by rfl, rfl⟩) hHeld ?_
                simp only [Act.put, List.getElem_toArray, List.getElem_cons_zero, List.getElem_cons_succ, List.setIfInBounds_toArray, List.set_cons_zero, List.set_cons_succ]
                refine wpAnyH_take (i := 13) (v := undef) rfl (by kernel_rfl) (by kernel_rfl) (by kernel_rfl) (fun _ _ _ h => h) (Or.inr ⟨by rfl, rfl⟩) hHeld ?_
                simp only [Act.put, List.getElem_toArray, List.getElem_cons_zero, List.getElem_cons_succ, List.setIfInBounds_toArray, List.set_cons_zero, List.set_cons_succ]
                refine wpAnyH_take (i := 14) (v := undef) rfl (by kernel_rfl) (by kernel_rfl) (by kernel_rfl) (fun _ _ _ h => h) (Or.inr ⟨by rfl, rfl⟩) hHeld ?_
                simp only [Act.put, List.getElem_toArray, List.getElem_cons_zero, List.getElem_cons_succ, List.setIfInBounds_toArray, List.set_cons_zero, List.set_cons_succ]
                refine wpAnyH_take (i := 15) (v := undef) rfl (by kernel_rfl) (by kernel_rfl) (by kernel_rfl) (fun _ _ _ h => h) (Or.inr ⟨by rfl, rfl⟩) hHeld ?_
                simp only [Act.put, List.getElem_toArray, List.getElem_cons_zero, List.getElem_cons_succ, List.setIfInBounds_toArray, List.set_cons_zero, List.set_cons_succ]
                refine wpAnyH_take (i := 16) (v := undef) rfl (by kernel_rfl) (by kernel_rfl) (by kernel_rfl) (fun _ _ _ h => h) (Or.inr ⟨by rfl, rfl⟩) hHeld ?_
                simp only [Act.put, List.getElem_toArray, List.getElem_cons_zero, List.getElem_cons_succ, List.setIfInBounds_toArray, List.set_cons_zero, List.set_cons_succ]
                refine wpAnyH_take (i := 17) (v := undef) rfl (by kernel_rfl) (by kernel_rfl) (by kernel_rfl) (fun _ _ _ h => h) (Or.inr ⟨by rfl, rfl⟩) hHeld ?_
                simp only [Act.put, List.getElem_toArray, List.getElem_cons_zero, List.getElem_cons_succ, List.setIfInBounds_toArray, List.set_cons_zero, List.set_cons_succ]
                refine wpAnyH_take (i := 18) (v := undef) rfl (by kernel_rfl) (by kernel_rfl) (by kernel_rfl) (fun _ _ _ h => h) (Or.inr ⟨by rfl, rfl⟩) hHeld ?_
                simp only [Act.put, List.getElem_toArray, List.getElem_cons_zero, List.getElem_cons_succ, List.setIfInBounds_toArray, List.set_cons_zero, List.set_cons_succ]
                refine wpAnyH_take (i := 19) (v := undef) rfl (by kernel_rfl) (by kernel_rfl) (by kernel_rfl) (fun _ _ _ h => h) (Or.inr ⟨by rfl, rfl⟩) hHeld ?_
                simp only [Act.put, List.getElem_toArray, List.getElem_cons_zero, List.getElem_cons_succ, List.setIfInBounds_toArray, List.set_cons_zero, List.set_cons_succ]
                refine wpAnyH_take (i := 20) (v := undef) rfl (by kernel_rfl) (by kernel_rfl) (by kernel_rfl) (fun _ _ _ h => h) (Or.inr ⟨by rfl, rfl⟩) hHeld ?_
                simp only [Act.put, List.getElem_toArray, List.getElem_cons_zero, List.getElem_cons_succ, List.setIfInBounds_toArray, List.set_cons_zero, List.set_cons_succ]
                refine wpAnyH_take (i := 21) (v := undef) rfl (by kernel_rfl) (by kernel_rfl) (by kernel_rfl) (fun _ _ _ h => h) (Or.inr ⟨by rfl, rfl⟩) hHeld ?_
                simp only [Act.put, List.getElem_toArray, List.getElem_cons_zero, List.getElem_cons_succ, List.setIfInBounds_toArray, List.set_cons_zero, List.set_cons_succ]
                refine wpAnyH_take (i := 22) (v := .bool false) rfl (by kernel_rfl) (by kernel_rfl) (by kernel_rfl) (fun _ _ _ h => h) (Or.inl ⟨by rfl, fun w hw => by go_simp⟩) hHeld ?_
                simp only [Act.put, List.getElem_toArray, List.getElem_cons_zero, List.getElem_cons_succ, List.setIfInBounds_toArray, List.set_cons_zero, List.set_cons_succ]
                refine wpAnyH_take (i := 23) (v := .bool false) rfl (by kernel_rfl) (by kernel_rfl) (by kernel_rfl) (fun _ _ _ h => h) (Or.inl ⟨by rfl, fun w hw => by go_simp⟩) hHeld ?_
                simp only [Act.put, List.getElem_toArray, List.getElem_cons_zero, List.getElem_cons_succ, List.setIfInBounds_toArray, List.set_cons_zero, List.set_cons_succ]
                refine wpAnyH_done (by kernel_rfl) ?_ _
                clear hHeld
                go_wp2_with fail
                go_meet
                exact ⟨belowN HC1.out 1, fun _ _ => HCT.out⟩
              · have hnb : decide ((x.D.length : Int) = b) = false := decide_eq_false hnb0
                by_cases hsum : x.m.b + (x.D.length : Int) = lx
                · have HCT : Hid (ctp L b x.m.i x.m.b x.D.length = true) := by show ctp L b x.m.i x.m.b x.D.length = true; rw [HCT0.out]; simp [hr0]; right; omega
                  have hadd : IntKind.i64.wrap (x.m.b + (x.D.length : Int)) = lx := by rw [hsum]; exact IntWalk.i64_in _ (by omega)
                  clear hsum hrm1 hr0 hmod0 hmod1
                  go_upto_region 9 with fail
                  refine wp_region_held_drew (S := fun u => u.cell? ⟨wr.heap.size, 1, none⟩ = some (.int .i64 (mi : Int)) ∧ u.cell? ⟨wr.heap.size, 2, none⟩ = some (.int .i64 x.m.b) ∧ u.cell? ⟨W.heap.size, 0, none⟩ = some (.int .i64 b) ∧ u.cell? ⟨lg, lo + mi, none⟩ = some (.int .i64 lx)) (by kernel_rfl) (HV7.out) (fun hHeld => ?_)
                  refine wpAnyH_take (i := 0) (v := .pointer (some ⟨wr.heap.size, 2, none⟩)) rfl (by kernel_rfl) (by kernel_rfl) (by kernel_rfl) (fun _ _ _ h => h) (Or.inl ⟨by rfl, fun w hw => by go_simp⟩) hHeld ?_
                  simp only [Act.put, List.getElem_toArray, List.getElem_cons_zero, List.setIfInBounds_toArray, List.set_cons_zero, List.set_cons_succ]
                  refine wpAnyH_take (i := 1) (v := .int .i64 x.m.b) rfl (by kernel_rfl) (by kernel_rfl) (by kernel_rfl) (fun _ _ _ h => h) (Or.inl ⟨by rfl, fun w hw => by have hq := hw.2.1; go_simp⟩) hHeld ?_
                  simp only [Act.put, List.getElem_toArray, List.getElem_cons_zero, List.getElem_cons_succ, List.setIfInBounds_toArray, List.set_cons_zero, List.set_cons_succ]
                  refine wpAnyH_take (i := 2) (v := .pointer (some ⟨W.heap.size, 0, none⟩)) rfl (by kernel_rfl) (by kernel_rfl) (by kernel_rfl) (fun _ _ _ h => h) (Or.inl ⟨by rfl, fun w hw => by go_simp⟩) hHeld ?_
                  simp only [Act.put, List.getElem_toArray, List.getElem_cons_zero, List.getElem_cons_succ, List.setIfInBounds_toArray, List.set_cons_zero, List.set_cons_succ]
                  refine wpAnyH_take (i := 3) (v := .int .i64 b) rfl (by kernel_rfl) (by kernel_rfl) (by kernel_rfl) (fun _ _ _ h => h) (Or.inl ⟨by rfl, fun w hw => by have hq := hw.2.2.1; go_simp⟩) hHeld ?_
                  simp only [Act.put, List.getElem_toArray, List.getElem_cons_zero, List.getElem_cons_succ, List.setIfInBounds_toArray, List.set_cons_zero, List.set_cons_succ]
                  refine wpAnyH_take (i := 4) (v := .int .i64 0) rfl (by kernel_rfl) (by kernel_rfl) (by kernel_rfl) (fun _ _ _ h => h) (Or.inl ⟨by rfl, fun w hw => by have hq1 := hrm; have hq2 := hwm; have hq4 : ¬ b = 0 := hbne2; go_simp⟩) hHeld ?_
                  simp only [Act.put, List.getElem_toArray, List.getElem_cons_zero, List.getElem_cons_succ, List.setIfInBounds_toArray, List.set_cons_zero, List.set_cons_succ]
                  refine wpAnyH_take (i := 5) (v := .bool false) rfl (by kernel_rfl) (by kernel_rfl) (by kernel_rfl) (fun _ _ _ h => h) (Or.inl ⟨by rfl, fun w hw => by go_simp⟩) hHeld ?_
                  simp only [Act.put, List.getElem_toArray, List.getElem_cons_zero, List.getElem_cons_succ, List.setIfInBounds_toArray, List.set_cons_zero, List.set_cons_succ]
                  refine wpAnyH_take (i := 6) (v := .bool false) rfl (by kernel_rfl) (by kernel_rfl) (by kernel_rfl) (fun _ _ _ h => h) (Or.inl ⟨by rfl, fun w hw => by go_simp⟩) hHeld ?_
                  simp only [Act.put, List.getElem_toArray, List.getElem_cons_zero, List.getElem_cons_succ, List.setIfInBounds_toArray, List.set_cons_zero, List.set_cons_succ]
                  refine wpAnyH_take (i := 7) (v := .int .i64 (x.D.length : Int)) rfl (by kernel_rfl) (by kernel_rfl) (by kernel_rfl) (fun _ _ _ h => h) (Or.inl ⟨by rfl, fun w hw => by go_simp⟩) hHeld ?_
                  simp only [Act.put, List.getElem_toArray, List.getElem_cons_zero, List.getElem_cons_succ, List.setIfInBounds_toArray, List.set_cons_zero, List.set_cons_succ]
                  refine wpAnyH_take (i := 8) (v := .pointer (some ⟨W.heap.size, 0, none⟩)) rfl (by kernel_rfl) (by kernel_rfl) (by kernel_rfl) (fun _ _ _ h => h) (Or.inl ⟨by rfl, fun w hw => by go_simp⟩) hHeld ?_
                  simp only [Act.put, List.getElem_toArray, List.getElem_cons_zero, List.getElem_cons_succ, List.setIfInBounds_toArray, List.set_cons_zero, List.set_cons_succ]
                  refine wpAnyH_take (i := 9) (v := .int .i64 b) rfl (by kernel_rfl) (by kernel_rfl) (by kernel_rfl) (fun _ _ _ h => h) (Or.inl ⟨by rfl, fun w hw => by have hq := hw.2.2.1; go_simp⟩) hHeld ?_
                  simp only [Act.put, List.getElem_toArray, List.getElem_cons_zero, List.getElem_cons_succ, List.setIfInBounds_toArray, List.set_cons_zero, List.set_cons_succ]
                  refine wpAnyH_take (i := 10) (v := .bool true) rfl (by kernel_rfl) (by kernel_rfl) (by kernel_rfl) (fun _ _ _ h => h) (Or.inl ⟨by rfl, fun w hw => by have hq := hnb; go_simp⟩) hHeld ?_
                  simp only [Act.put, List.getElem_toArray, List.getElem_cons_zero, List.getElem_cons_succ, List.setIfInBounds_toArray, List.set_cons_zero, List.set_cons_succ]
                  refine wpAnyH_take (i := 11) (v := .bool true) rfl (by kernel_rfl) (by kernel_rfl) (by kernel_rfl) (fun _ _ _ h => h) (Or.inl ⟨by rfl, fun w hw => by go_simp⟩) hHeld ?_
                  simp only [Act.put, List.getElem_toArray, List.getElem_cons_zero, List.getElem_cons_succ, List.setIfInBounds_toArray, List.set_cons_zero, List.set_cons_succ]
                  refine wpAnyH_take (i := 12) (v := .pointer (some ⟨wr.heap.size, 2, none⟩)) rfl (by kernel_rfl) (by kernel_rfl) (by kernel_rfl) (fun _ _ _ h => h) (Or.inl ⟨by rfl, fun w hw => by go_simp⟩) hHeld ?_
                  simp only [Act.put, List.getElem_toArray, List.getElem_cons_zero, List.getElem_cons_succ, List.setIfInBounds_toArray, List.set_cons_zero, List.set_cons_succ]
                  refine wpAnyH_take (i := 13) (v := .int .i64 x.m.b) rfl (by kernel_rfl) (by kernel_rfl) (by kernel_rfl) (fun _ _ _ h => h) (Or.inl ⟨by rfl, fun w hw => by have hq := hw.2.1; go_simp⟩) hHeld ?_
                  simp only [Act.put, List.getElem_toArray, List.getElem_cons_zero, List.getElem_cons_succ, List.setIfInBounds_toArray, List.set_cons_zero, List.set_cons_succ]
                  refine wpAnyH_take (i := 14) (v := .int .i64 (x.D.length : Int)) rfl (by kernel_rfl) (by kernel_rfl) (by kernel_rfl) (fun _ _ _ h => h) (Or.inl ⟨by rfl, fun w hw => by go_simp⟩) hHeld ?_
                  simp only [Act.put, List.getElem_toArray, List.getElem_cons_zero, List.getElem_cons_succ, List.setIfInBounds_toArray, List.set_cons_zero, List.set_cons_succ]
                  refine wpAnyH_take (i := 15) (v := .int .i64 lx) rfl (by kernel_rfl) (by kernel_rfl) (by kernel_rfl) (fun _ _ _ h => h) (Or.inl ⟨by rfl, fun w hw => by have hq := hadd; go_simp⟩) hHeld ?_
                  simp only [Act.put, List.getElem_toArray, List.getElem_cons_zero, List.getElem_cons_succ, List.setIfInBounds_toArray, List.set_cons_zero, List.set_cons_succ]
                  refine wpAnyH_take (i := 16) (v := .slice (some ⟨lg, lo, none⟩) L.length lc) rfl (by kernel_rfl) (by kernel_rfl) (by kernel_rfl) (fun _ _ _ h => h) (Or.inl ⟨by rfl, fun w hw => by go_simp⟩) hHeld ?_
                  simp only [Act.put, List.getElem_toArray, List.getElem_cons_zero, List.getElem_cons_succ, List.setIfInBounds_toArray, List.set_cons_zero, List.set_cons_succ]
                  refine wpAnyH_take (i := 17) (v := .pointer (some ⟨wr.heap.size, 1, none⟩)) rfl (by kernel_rfl) (by kernel_rfl) (by kernel_rfl) (fun _ _ _ h => h) (Or.inl ⟨by rfl, fun w hw => by go_simp⟩) hHeld ?_
                  simp only [Act.put, List.getElem_toArray, List.getElem_cons_zero, List.getElem_cons_succ, List.setIfInBounds_toArray, List.set_cons_zero, List.set_cons_succ]
                  refine wpAnyH_take (i := 18) (v := .int .i64 (mi : Int)) rfl (by kernel_rfl) (by kernel_rfl) (by kernel_rfl) (fun _ _ _ h => h) (Or.inl ⟨by rfl, fun w hw => by have hq := hw.1; go_simp⟩) hHeld ?_
                  simp only [Act.put, List.getElem_toArray, List.getElem_cons_zero, List.getElem_cons_succ, List.setIfInBounds_toArray, List.set_cons_zero, List.set_cons_succ]
                  refine wpAnyH_take (i := 19) (v := .pointer (some ⟨lg, lo + mi, none⟩)) rfl (by kernel_rfl) (by kernel_rfl) (by kernel_rfl) (fun _ _ _ h => h) (Or.inl ⟨by rfl, fun w hw => by have hq := hmiL; have hq2 := hmi0; go_simp⟩) hHeld ?_
                  simp only [Act.put, List.getElem_toArray, List.getElem_cons_zero, List.getElem_cons_succ, List.setIfInBounds_toArray, List.set_cons_zero, List.set_cons_succ]
                  refine wpAnyH_take (i := 20) (v := .int .i64 lx) rfl (by kernel_rfl) (by kernel_rfl) (by kernel_rfl) (fun _ _ _ h => h) (Or.inl ⟨by rfl, fun w hw => by have hq := hw.2.2.2; go_simp⟩) hHeld ?_
                  simp only [Act.put, List.getElem_toArray, List.getElem_cons_zero, List.getElem_cons_succ, List.setIfInBounds_toArray, List.set_cons_zero, List.set_cons_succ]
                  refine wpAnyH_take (i := 21) (v := .bool false) rfl (by kernel_rfl) (by kernel_rfl) (by kernel_rfl) (fun _ _ _ h => h) (Or.inl ⟨by rfl, fun w hw => by go_simp⟩) hHeld ?_
                  simp only [Act.put, List.getElem_toArray, List.getElem_cons_zero, List.getElem_cons_succ, List.setIfInBounds_toArray, List.set_cons_zero, List.set_cons_succ]
                  refine wpAnyH_take (i := 22) (v := .bool false) rfl (by kernel_rfl) (by kernel_rfl) (by kernel_rfl) (fun _ _ _ h => h) (Or.inl ⟨by rfl, fun w hw => by go_simp⟩) hHeld ?_
                  simp only [Act.put, List.getElem_toArray, List.getElem_cons_zero, List.getElem_cons_succ, List.setIfInBounds_toArray, List.set_cons_zero, List.set_cons_succ]
                  refine wpAnyH_take (i := 23) (v := .bool false) rfl (by kernel_rfl) (by kernel_rfl) (by kernel_rfl) (fun _ _ _ h => h) (Or.inl ⟨by rfl, fun w hw => by go_simp⟩) hHeld ?_
                  simp only [Act.put, List.getElem_toArray, List.getElem_cons_zero, List.getElem_cons_succ, List.setIfInBounds_toArray, List.set_cons_zero, List.set_cons_succ]
                  refine wpAnyH_done (by kernel_rfl) ?_ _
                  clear hHeld
                  go_wp2_with fail
                  go_meet
                  exact ⟨belowN HC1.out 1, fun _ _ => HCT.out⟩
                · obtain ⟨sm, hsme⟩ : ∃ z, z = x.m.b + (x.D.length : Int) := ⟨_, rfl⟩
                  have hadd : IntKind.i64.wrap (x.m.b + (x.D.length : Int)) = sm := by rw [← hsme]; exact IntWalk.i64_in _ (by omega)
                  have hsm : ¬ sm = lx := by rw [hsme]; exact hsum
                  clear hsum hrm1 hr0 hmod0 hmod1 hsme
                  go_upto_region 9 with fail
                  refine wp_region_held_drew (S := fun u => u.cell? ⟨wr.heap.size, 1, none⟩ = some (.int .i64 (mi : Int)) ∧ u.cell? ⟨wr.heap.size, 2, none⟩ = some (.int .i64 x.m.b) ∧ u.cell? ⟨W.heap.size, 0, none⟩ = some (.int .i64 b) ∧ u.cell? ⟨lg, lo + mi, none⟩ = some (.int .i64 lx)) (by kernel_rfl) (HV7.out) (fun hHeld => ?_)
                  refine wpAnyH_take (i := 0) (v := .pointer (some ⟨wr.heap.size, 2, none⟩)) rfl (by kernel_rfl) (by kernel_rfl) (by kernel_rfl) (fun _ _ _ h => h) (Or.inl ⟨by rfl, fun w hw => by go_simp⟩) hHeld ?_
                  simp only [Act.put, List.getElem_toArray, List.getElem_cons_zero, List.setIfInBounds_toArray, List.set_cons_zero, List.set_cons_succ]
                  refine wpAnyH_take (i := 1) (v := .int .i64 x.m.b) rfl (by kernel_rfl) (by kernel_rfl) (by kernel_rfl) (fun _ _ _ h => h) (Or.inl ⟨by rfl, fun w hw => by have hq := hw.2.1; go_simp⟩) hHeld ?_
                  simp only [Act.put, List.getElem_toArray, List.getElem_cons_zero, List.getElem_cons_succ, List.setIfInBounds_toArray, List.set_cons_zero, List.set_cons_succ]
                  refine wpAnyH_take (i := 2) (v := .pointer (some ⟨W.heap.size, 0, none⟩)) rfl (by kernel_rfl) (by kernel_rfl) (by kernel_rfl) (fun _ _ _ h => h) (Or.inl ⟨by rfl, fun w hw => by go_simp⟩) hHeld ?_
                  simp only [Act.put, List.getElem_toArray, List.getElem_cons_zero, List.getElem_cons_succ, List.setIfInBounds_toArray, List.set_cons_zero, List.set_cons_succ]
                  refine wpAnyH_take (i := 3) (v := .int .i64 b) rfl (by kernel_rfl) (by kernel_rfl) (by kernel_rfl) (fun _ _ _ h => h) (Or.inl ⟨by rfl, fun w hw => by have hq := hw.2.2.1; go_simp⟩) hHeld ?_
                  simp only [Act.put, List.getElem_toArray, List.getElem_cons_zero, List.getElem_cons_succ, List.setIfInBounds_toArray, List.set_cons_zero, List.set_cons_succ]
                  refine wpAnyH_take (i := 4) (v := .int .i64 0) rfl (by kernel_rfl) (by kernel_rfl) (by kernel_rfl) (fun _ _ _ h => h) (Or.inl ⟨by rfl, fun w hw => by have hq1 := hrm; have hq2 := hwm; have hq4 : ¬ b = 0 := hbne2; go_simp⟩) hHeld ?_
                  simp only [Act.put, List.getElem_toArray, List.getElem_cons_zero, List.getElem_cons_succ, List.setIfInBounds_toArray, List.set_cons_zero, List.set_cons_succ]
                  refine wpAnyH_take (i := 5) (v := .bool false) rfl (by kernel_rfl) (by kernel_rfl) (by kernel_rfl) (fun _ _ _ h => h) (Or.inl ⟨by rfl, fun w hw => by go_simp⟩) hHeld ?_
                  simp only [Act.put, List.getElem_toArray, List.getElem_cons_zero, List.getElem_cons_succ, List.setIfInBounds_toArray, List.set_cons_zero, List.set_cons_succ]
                  refine wpAnyH_take (i := 6) (v := .bool false) rfl (by kernel_rfl) (by kernel_rfl) (by kernel_rfl) (fun _ _ _ h => h) (Or.inl ⟨by rfl, fun w hw => by go_simp⟩) hHeld ?_
                  simp only [Act.put, List.getElem_toArray, List.getElem_cons_zero, List.getElem_cons_succ, List.setIfInBounds_toArray, List.set_cons_zero, List.set_cons_succ]
                  refine wpAnyH_take (i := 7) (v := .int .i64 (x.D.length : Int)) rfl (by kernel_rfl) (by kernel_rfl) (by kernel_rfl) (fun _ _ _ h => h) (Or.inl ⟨by rfl, fun w hw => by go_simp⟩) hHeld ?_
                  simp only [Act.put, List.getElem_toArray, List.getElem_cons_zero, List.getElem_cons_succ, List.setIfInBounds_toArray, List.set_cons_zero, List.set_cons_succ]
                  refine wpAnyH_take (i := 8) (v := .pointer (some ⟨W.heap.size, 0, none⟩)) rfl (by kernel_rfl) (by kernel_rfl) (by kernel_rfl) (fun _ _ _ h => h) (Or.inl ⟨by rfl, fun w hw => by go_simp⟩) hHeld ?_
                  simp only [Act.put, List.getElem_toArray, List.getElem_cons_zero, List.getElem_cons_succ, List.setIfInBounds_toArray, List.set_cons_zero, List.set_cons_succ]
                  refine wpAnyH_take (i := 9) (v := .int .i64 b) rfl (by kernel_rfl) (by kernel_rfl) (by kernel_rfl) (fun _ _ _ h => h) (Or.inl ⟨by rfl, fun w hw => by have hq := hw.2.2.1; go_simp⟩) hHeld ?_
                  simp only [Act.put, List.getElem_toArray, List.getElem_cons_zero, List.getElem_cons_succ, List.setIfInBounds_toArray, List.set_cons_zero, List.set_cons_succ]
                  refine wpAnyH_take (i := 10) (v := .bool true) rfl (by kernel_rfl) (by kernel_rfl) (by kernel_rfl) (fun _ _ _ h => h) (Or.inl ⟨by rfl, fun w hw => by have hq := hnb; go_simp⟩) hHeld ?_
                  simp only [Act.put, List.getElem_toArray, List.getElem_cons_zero, List.getElem_cons_succ, List.setIfInBounds_toArray, List.set_cons_zero, List.set_cons_succ]
                  refine wpAnyH_take (i := 11) (v := .bool true) rfl (by kernel_rfl) (by kernel_rfl) (by kernel_rfl) (fun _ _ _ h => h) (Or.inl ⟨by rfl, fun w hw => by go_simp⟩) hHeld ?_
                  simp only [Act.put, List.getElem_toArray, List.getElem_cons_zero, List.getElem_cons_succ, List.setIfInBounds_toArray, List.set_cons_zero, List.set_cons_succ]
                  refine wpAnyH_take (i := 12) (v := .pointer (some ⟨wr.heap.size, 2, none⟩)) rfl (by kernel_rfl) (by kernel_rfl) (by kernel_rfl) (fun _ _ _ h => h) (Or.inl ⟨by rfl, fun w hw => by go_simp⟩) hHeld ?_
                  simp only [Act.put, List.getElem_toArray, List.getElem_cons_zero, List.getElem_cons_succ, List.setIfInBounds_toArray, List.set_cons_zero, List.set_cons_succ]
                  refine wpAnyH_take (i := 13) (v := .int .i64 x.m.b) rfl (by kernel_rfl) (by kernel_rfl) (by kernel_rfl) (fun _ _ _ h => h) (Or.inl ⟨by rfl, fun w hw => by have hq := hw.2.1; go_simp⟩) hHeld ?_
                  simp only [Act.put, List.getElem_toArray, List.getElem_cons_zero, List.getElem_cons_succ, List.setIfInBounds_toArray, List.set_cons_zero, List.set_cons_succ]
                  refine wpAnyH_take (i := 14) (v := .int .i64 (x.D.length : Int)) rfl (by kernel_rfl) (by kernel_rfl) (by kernel_rfl) (fun _ _ _ h => h) (Or.inl ⟨by rfl, fun w hw => by go_simp⟩) hHeld ?_
                  simp only [Act.put, List.getElem_toArray, List.getElem_cons_zero, List.getElem_cons_succ, List.setIfInBounds_toArray, List.set_cons_zero, List.set_cons_succ]
                  refine wpAnyH_take (i := 15) (v := .int .i64 sm) rfl (by kernel_rfl) (by kernel_rfl) (by kernel_rfl) (fun _ _ _ h => h) (Or.inl ⟨by rfl, fun w hw => by have hq := hadd; go_simp⟩) hHeld ?_
                  simp only [Act.put, List.getElem_toArray, List.getElem_cons_zero, List.getElem_cons_succ, List.setIfInBounds_toArray, List.set_cons_zero, List.set_cons_succ]
                  refine wpAnyH_take (i := 16) (v := .slice (some ⟨lg, lo, none⟩) L.length lc) rfl (by kernel_rfl) (by kernel_rfl) (by kernel_rfl) (fun _ _ _ h => h) (Or.inl ⟨by rfl, fun w hw => by go_simp⟩) hHeld ?_
                  simp only [Act.put, List.getElem_toArray, List.getElem_cons_zero, List.getElem_cons_succ, List.setIfInBounds_toArray, List.set_cons_zero, List.set_cons_succ]
                  refine wpAnyH_take (i := 17) (v := .pointer (some ⟨wr.heap.size, 1, none⟩)) rfl (by kernel_rfl) (by kernel_rfl) (by kernel_rfl) (fun _ _ _ h => h) (Or.inl ⟨by rfl, fun w hw => by go_simp⟩) hHeld ?_
                  simp only [Act.put, List.getElem_toArray, List.getElem_cons_zero, List.getElem_cons_succ, List.setIfInBounds_toArray, List.set_cons_zero, List.set_cons_succ]
                  refine wpAnyH_take (i := 18) (v := .int .i64 (mi : Int)) rfl (by kernel_rfl) (by kernel_rfl) (by kernel_rfl) (fun _ _ _ h => h) (Or.inl ⟨by rfl, fun w hw => by have hq := hw.1; go_simp⟩) hHeld ?_
                  simp only [Act.put, List.getElem_toArray, List.getElem_cons_zero, List.getElem_cons_succ, List.setIfInBounds_toArray, List.set_cons_zero, List.set_cons_succ]
                  refine wpAnyH_take (i := 19) (v := .pointer (some ⟨lg, lo + mi, none⟩)) rfl (by kernel_rfl) (by kernel_rfl) (by kernel_rfl) (fun _ _ _ h => h) (Or.inl ⟨by rfl, fun w hw => by have hq := hmiL; have hq2 := hmi0; go_simp⟩) hHeld ?_
                  simp only [Act.put, List.getElem_toArray, List.getElem_cons_zero, List.getElem_cons_succ, List.setIfInBounds_toArray, List.set_cons_zero, List.set_cons_succ]
                  refine wpAnyH_take (i := 20) (v := .int .i64 lx) rfl (by kernel_rfl) (by kernel_rfl) (by kernel_rfl) (fun _ _ _ h => h) (Or.inl ⟨by rfl, fun w hw => by have hq := hw.2.2.2; go_simp⟩) hHeld ?_
                  simp only [Act.put, List.getElem_toArray, List.getElem_cons_zero, List.getElem_cons_succ, List.setIfInBounds_toArray, List.set_cons_zero, List.set_cons_succ]
                  refine wpAnyH_take (i := 21) (v := .bool true) rfl (by kernel_rfl) (by kernel_rfl) (by kernel_rfl) (fun _ _ _ h => h) (Or.inl ⟨by rfl, fun w hw => by have hq := hsm; go_simp⟩) hHeld ?_
                  simp only [Act.put, List.getElem_toArray, List.getElem_cons_zero, List.getElem_cons_succ, List.setIfInBounds_toArray, List.set_cons_zero, List.set_cons_succ]
                  refine wpAnyH_take (i := 22) (v := .bool true) rfl (by kernel_rfl) (by kernel_rfl) (by kernel_rfl) (fun _ _ _ h => h) (Or.inl ⟨by rfl, fun w hw => by go_simp⟩) hHeld ?_
                  simp only [Act.put, List.getElem_toArray, List.getElem_cons_zero, List.getElem_cons_succ, List.setIfInBounds_toArray, List.set_cons_zero, List.set_cons_succ]
                  refine wpAnyH_take (i := 23) (v := .bool true) rfl (by kernel_rfl) (by kernel_rfl) (by kernel_rfl) (fun _ _ _ h => h) (Or.inl ⟨by rfl, fun w hw => by go_simp⟩) hHeld ?_
                  simp only [Act.put, List.getElem_toArray, List.getElem_cons_zero, List.getElem_cons_succ, List.setIfInBounds_toArray, List.set_cons_zero, List.set_cons_succ]
                  refine wpAnyH_done (by kernel_rfl) ?_ _
                  clear hHeld
                  go_wp2_with fail
                  go_roundw
                  case rel => exact ⟨i + 1, Pn, S, ms, ta, tc, sva, svc, by omega, by go_num, rfl, rfl, HI.out.next (HX.out.2.1.trans ((belowN HC1.out 1).mono HX.out.2.1.size))⟩
                  case measure => (simp [intOf] <;> omega)
            · obtain ⟨rm, hrme⟩ : ∃ z, z = x.m.b % b := ⟨_, rfl⟩
              have hrm : x.m.b.tmod b = rm := by rw [hrme]; exact hrm1
              have hwm : IntKind.i64.wrap rm = rm := IntWalk.i64_in _ (by omega)
              have hrm0 : ¬ rm = 0 := by rw [hrme]; exact hr0
              clear hrm1 hr0 hmod0 hmod1 hrme
              go_upto_region 9 with fail
              refine wp_region_held_drew (S := fun u => u.cell? ⟨wr.heap.size, 1, none⟩ = some (.int .i64 (mi : Int)) ∧ u.cell? ⟨wr.heap.size, 2, none⟩ = some (.int .i64 x.m.b) ∧ u.cell? ⟨W.heap.size, 0, none⟩ = some (.int .i64 b) ∧ u.cell? ⟨lg, lo + mi, none⟩ = some (.int .i64 lx)) (by kernel_rfl) (HV7.out) (fun hHeld => ?_)
              refine wpAnyH_take (i := 0) (v := .pointer (some ⟨wr.heap.size, 2, none⟩)) rfl (by kernel_rfl) (by kernel_rfl) (by kernel_rfl) (fun _ _ _ h => h) (Or.inl ⟨by rfl, fun w hw => by go_simp⟩) hHeld ?_
              simp only [Act.put, List.getElem_toArray, List.getElem_cons_zero, List.setIfInBounds_toArray, List.set_cons_zero, List.set_cons_succ]
              refine wpAnyH_take (i := 1) (v := .int .i64 x.m.b) rfl (by kernel_rfl) (by kernel_rfl) (by kernel_rfl) (fun _ _ _ h => h) (Or.inl ⟨by rfl, fun w hw => by have hq := hw.2.1; go_simp⟩) hHeld ?_
              simp only [Act.put, List.getElem_toArray, List.getElem_cons_zero, List.getElem_cons_succ, List.setIfInBounds_toArray, List.set_cons_zero, List.set_cons_succ]
              refine wpAnyH_take (i := 2) (v := .pointer (some ⟨W.heap.size, 0, none⟩)) rfl (by kernel_rfl) (by kernel_rfl) (by kernel_rfl) (fun _ _ _ h => h) (Or.inl ⟨by rfl, fun w hw => by go_simp⟩) hHeld ?_
              simp only [Act.put, List.getElem_toArray, List.getElem_cons_zero, List.getElem_cons_succ, List.setIfInBounds_toArray, List.set_cons_zero, List.set_cons_succ]
              refine wpAnyH_take (i := 3) (v := .int .i64 b) rfl (by kernel_rfl) (by kernel_rfl) (by kernel_rfl) (fun _ _ _ h => h) (Or.inl ⟨by rfl, fun w hw => by have hq := hw.2.2.1; go_simp⟩) hHeld ?_
              simp only [Act.put, List.getElem_toArray, List.getElem_cons_zero, List.getElem_cons_succ, List.setIfInBounds_toArray, List.set_cons_zero, List.set_cons_succ]
              refine wpAnyH_take (i := 4) (v := .int .i64 rm) rfl (by kernel_rfl) (by kernel_rfl) (by kernel_rfl) (fun _ _ _ h => h) (Or.inl ⟨by rfl, fun w hw => by have hq1 := hrm; have hq2 := hwm; have hq4 : ¬ b = 0 := hbne2; go_simp⟩) hHeld ?_
              simp only [Act.put, List.getElem_toArray, List.getElem_cons_zero, List.getElem_cons_succ, List.setIfInBounds_toArray, List.set_cons_zero, List.set_cons_succ]
              refine wpAnyH_take (i := 5) (v := .bool true) rfl (by kernel_rfl) (by kernel_rfl) (by kernel_rfl) (fun _ _ _ h => h) (Or.inl ⟨by rfl, fun w hw => by have hq := hrm0; go_simp⟩) hHeld ?_
              simp only [Act.put, List.getElem_toArray, List.getElem_cons_zero, List.getElem_cons_succ, List.setIfInBounds_toArray, List.set_cons_zero, List.set_cons_succ]
              refine wpAnyH_take (i := 6) (v := .bool true) rfl (by kernel_rfl) (by kernel_rfl) (by kernel_rfl) (fun _ _ _ h => h) (Or.inl ⟨by rfl, fun w hw => by go_simp⟩) hHeld ?_
              simp only [Act.put, List.getElem_toArray, List.getElem_cons_zero, List.getElem_cons_succ, List.setIfInBounds_toArray, List.set_cons_zero, List.set_cons_succ]
              refine wpAnyH_take (i := 7) (v := undef) rfl (by kernel_rfl) (by kernel_rfl) (by kernel_rfl) (fun _ _ _ h => h) (Or.inr ⟨by rfl, rfl⟩) hHeld ?_
              simp only [Act.put, List.getElem_toArray, List.getElem_cons_zero, List.getElem_cons_succ, List.setIfInBounds_toArray, List.set_cons_zero, List.set_cons_succ]
              refine wpAnyH_take (i := 8) (v := undef) rfl (by kernel_rfl) (by kernel_rfl) (by kernel_rfl) (fun _ _ _ h => h) (Or.inr ⟨by rfl, rfl⟩) hHeld ?_
              simp only [Act.put, List.getElem_toArray, List.getElem_cons_zero, List.getElem_cons_succ, List.setIfInBounds_toArray, List.set_cons_zero, List.set_cons_succ]
              refine wpAnyH_take (i := 9) (v := undef) rfl (by kernel_rfl) (by kernel_rfl) (by kernel_rfl) (fun _ _ _ h => h) (Or.inr ⟨by rfl, rfl⟩) hHeld ?_
              simp only [Act.put, List.getElem_toArray, List.getElem_cons_zero, List.getElem_cons_succ, List.setIfInBounds_toArray, List.set_cons_zero, List.set_cons_succ]
              refine wpAnyH_take (i := 10) (v := undef) rfl (by kernel_rfl) (by kernel_rfl) (by kernel_rfl) (fun _ _ _ h => h) (Or.inr ⟨by rfl, rfl⟩) hHeld ?_
              simp only [Act.put, List.getElem_toArray, List.getElem_cons_zero, List.getElem_cons_succ, List.setIfInBounds_toArray, List.set_cons_zero, List.set_cons_succ]
              refine wpAnyH_take (i := 11) (v := undef) rfl (by kernel_rfl) (by kernel_rfl) (by kernel_rfl) (fun _ _ _ h => h) (Or.inr ⟨by rfl, rfl⟩) hHeld ?_
              simp only [Act.put, List.getElem_toArray, List.getElem_cons_zero, List.getElem_cons_succ, List.setIfInBounds_toArray, List.set_cons_zero, List.set_cons_succ]
              refine wpAnyH_take (i := 12) (v := undef) rfl (by kernel_rfl) (by kernel_rfl) (by kernel_rfl) (fun _ _ _ h => h) (Or.inr ⟨by rfl, rfl⟩) hHeld ?_
              simp only [Act.put, List.getElem_toArray, List.getElem_cons_zero, List.getElem_cons_succ, List.setIfInBounds_toArray, List.set_cons_zero, List.set_cons_succ]
              refine wpAnyH_take (i := 13) (v := undef) rfl (by kernel_rfl) (by kernel_rfl) (by kernel_rfl) (fun _ _ _ h => h) (Or.inr ⟨by rfl, rfl⟩) hHeld ?_
              simp only [Act.put, List.getElem_toArray, List.getElem_cons_zero, List.getElem_cons_succ, List.setIfInBounds_toArray, List.set_cons_zero, List.set_cons_succ]
              refine wpAnyH_take (i := 14) (v := undef) rfl (by kernel_rfl) (by kernel_rfl) (by kernel_rfl) (fun _ _ _ h => h) (Or.inr ⟨by rfl, rfl⟩) hHeld ?_
              simp only [Act.put, List.getElem_toArray, List.getElem_cons_zero, List.getElem_cons_succ, List.setIfInBounds_toArray, List.set_cons_zero, List.set_cons_succ]
              refine wpAnyH_take (i := 15) (v := undef) rfl (by kernel_rfl) (by kernel_rfl) (by kernel_rfl) (fun _ _ _ h => h) (Or.inr ⟨by rfl, rfl⟩) hHeld ?_
              simp only [Act.put, List.getElem_toArray, List.getElem_cons_zero, List.getElem_cons_succ, List.setIfInBounds_toArray, List.set_cons_zero, List.set_cons_succ]
              refine wpAnyH_take (i := 16) (v := undef) rfl (by kernel_rfl) (by kernel_rfl) (by kernel_rfl) (fun _ _ _ h => h) (Or.inr ⟨by rfl, rfl⟩) hHeld ?_
              simp only [Act.put, List.getElem_toArray, List.getElem_cons_zero, List.getElem_cons_succ, List.setIfInBounds_toArray, List.set_cons_zero, List.set_cons_succ]
              refine wpAnyH_take (i := 17) (v := undef) rfl (by kernel_rfl) (by kernel_rfl) (by kernel_rfl) (fun _ _ _ h => h) (Or.inr ⟨by rfl, rfl⟩) hHeld ?_
              simp only [Act.put, List.getElem_toArray, List.getElem_cons_zero, List.getElem_cons_succ, List.setIfInBounds_toArray, List.set_cons_zero, List.set_cons_succ]
              refine wpAnyH_take (i := 18) (v := undef) rfl (by kernel_rfl) (by kernel_rfl) (by kernel_rfl) (fun _ _ _ h => h) (Or.inr ⟨by rfl, rfl⟩) hHeld ?_
              simp only [Act.put, List.getElem_toArray, List.getElem_cons_zero, List.getElem_cons_succ, List.setIfInBounds_toArray, List.set_cons_zero, List.set_cons_succ]
              refine wpAnyH_take (i := 19) (v := undef) rfl (by kernel_rfl) (by kernel_rfl) (by kernel_rfl) (fun _ _ _ h => h) (Or.inr ⟨by rfl, rfl⟩) hHeld ?_
              simp only [Act.put, List.getElem_toArray, List.getElem_cons_zero, List.getElem_cons_succ, List.setIfInBounds_toArray, List.set_cons_zero, List.set_cons_succ]
              refine wpAnyH_take (i := 20) (v := undef) rfl (by kernel_rfl) (by kernel_rfl) (by kernel_rfl) (fun _ _ _ h => h) (Or.inr ⟨by rfl, rfl⟩) hHeld ?_
              simp only [Act.put, List.getElem_toArray, List.getElem_cons_zero, List.getElem_cons_succ, List.setIfInBounds_toArray, List.set_cons_zero, List.set_cons_succ]
              refine wpAnyH_take (i := 21) (v := undef) rfl (by kernel_rfl) (by kernel_rfl) (by kernel_rfl) (fun _ _ _ h => h) (Or.inr ⟨by rfl, rfl⟩) hHeld ?_
              simp only [Act.put, List.getElem_toArray, List.getElem_cons_zero, List.getElem_cons_succ, List.setIfInBounds_toArray, List.set_cons_zero, List.set_cons_succ]
              refine wpAnyH_take (i := 22) (v := undef) rfl (by kernel_rfl) (by kernel_rfl) (by kernel_rfl) (fun _ _ _ h => h) (Or.inr ⟨by rfl, rfl⟩) hHeld ?_
              simp only [Act.put, List.getElem_toArray, List.getElem_cons_zero, List.getElem_cons_succ, List.setIfInBounds_toArray, List.set_cons_zero, List.set_cons_succ]
              refine wpAnyH_take (i := 23) (v := .bool true) rfl (by kernel_rfl) (by kernel_rfl) (by kernel_rfl) (fun _ _ _ h => h) (Or.inl ⟨by rfl, fun w hw => by go_simp⟩) hHeld ?_
              simp only [Act.put, List.getElem_toArray, List.getElem_cons_zero, List.getElem_cons_succ, List.setIfInBounds_toArray, List.set_cons_zero, List.set_cons_succ]
              refine wpAnyH_done (by kernel_rfl) ?_ _
              clear hHeld
              go_wp2_with fail
              go_roundw
              case rel => exact ⟨i + 1, Pn, S, ms, ta, tc, sva, svc, by omega, by go_num, rfl, rfl, HI.out.next (HX.out.2.1.trans ((belowN HC1.out 1).mono HX.out.2.1.size))⟩
              case measure => (simp [intOf] <;> omega)
        case rest =>
          have HC2 := hcut
          clear hcut c0 c1 c2 c4 d0 d1 HDV
          have bc2 : Below wr.heap.size wr wc := HX.out.2.1.trans (HC2.out.1.mono HX.out.2.1.size)
          have fpc := HI.out.fa.below bc2
          have mmc := HX.out.2.2.keep HC2.out.1
          have mbc := HX.out.1.below HC2.out.1
          have hcX := mbc.cells
          have him2 := info_msg mmc.ok
          have hsh : sln x.m.h ≤ 140737488351232 := by have h1 := mmc.sh; have h2 := mmc.hl; omega
          have hsd : sln x.m.d ≤ 140737488351232 := by have h1 := mmc.sd; have h2 := mmc.dl; omega
          have HC3 := Lib.hid (And.intro bc2 (And.intro fpc (And.intro mmc mbc)))
          have hgaw : ga < wr.heap.size := HI.out.fa.pk.lt
          by_cases hok : valE x.m = 0 ∧ mayE L Pn x.m x.D = true
          · obtain ⟨hval, hmay⟩ := hok
            have hbd := val_bd hval
            have HSy := Lib.hid (sayOk wc ga Pn L fpc.pl fpc.why fpc.kt fpc.mt x.m x.D x.hb mmc ⟨hbd.1, hbd.2.1, hbd.2.2.1, hbd.2.2.2, mmc.dl⟩ hmay hval hsh hsd)
            have HVM : Hid (valE x.m = 0 ∧ mayE L Pn x.m x.D = true) := ⟨hval, hmay⟩
            clear hval hmay hbd fpc mmc mbc bc2 hsh hsd
            go_upto_region 11 with (first | (with_reducible (show wpList _ _ _ (⟨_, Op.load 47 _, _, _, _, _⟩ :: _) _ _); refine wpList_load_msg rfl _ rfl wr.heap.size rfl x.m hcX him2 ?_) | (go_at_call 15; refine HSy.out.mono ?_; rintro e w5 ⟨v5, rfl, o5, k5, f5⟩; obtain ⟨a5, c5, hv5⟩ := o5.form; subst hv5))
            have f5' : Fm.Fr (fun k => k ≠ ga) W1 w5 := HI.out.fr.trans (T := fun k => k ≠ ga) (frT (Fm.Fr.of_below HC3.out.1) f5) (fun _ _ h => h)
            have hz1 : W1.heap.size = W.heap.size + 1 := HW1.out.1
            have hgW : ga < W.heap.size := HO.out.2.2.2.2.2.2.1
            have fp5 := HC3.out.2.1.say f5 k5 rfl rfl rfl rfl rfl
            have mm5 : MM w5 x.m x.D x.hb := by
              have h1 := below_fr (HBW.out.trans (HC3.out.1.mono HBW.out.size)) f5 (Nat.le_trans HBW.out.size HC3.out.1.size) (fun k hk => by have := HO.out.1; omega)
              exact (HM.out.1.keep h1).elim (fun a h => by obtain ⟨c, _, _, _, hm⟩ := h; exact hm x (List.mem_of_getElem? HXX.out))
            have mb5 : MB w5 wr.heap.size x.m := (f5.block wr.heap.size HC3.out.2.2.2.lt (by omega)).trans HC3.out.2.2.2
            have ot5 : OW W1.heap.size w5 (.slice ta (wirB S).length tc) (wirB S) := OW.frame (HI.out.ot.grow HC3.out.1) (by omega) f5
            have os5 : OMS W1.heap.size w5 (.slice sva ms.length svc) ms := by
              have h1 := HI.out.os.grow HC3.out.1
              refine ⟨own_at h1.1 (fun k hk _ => f5.block k (own_ge h1.1 hk).2 (by have := (own_ge h1.1 hk).1; omega)), fun y hy => ?_⟩
              have h2 := h1.2 y hy
              obtain ⟨n, en, hh⟩ := h2.h
              exact ⟨h2.ok, own_at h2.d (fun k hk _ => f5.block k (own_ge h2.d hk).2 (by have := (own_ge h2.d hk).1; omega)), ⟨n, en, own_at hh (fun k hk _ => f5.block k (own_ge hh hk).2 (by have := (own_ge hh hk).1; omega))⟩, h2.dl, h2.hl⟩
            have vx : Vx x := ⟨HVM.out.1, mm5.ok, mm5.sd, mm5.sh⟩
            have hpb : Pn.b = b := by rw [HI.out.pe]; exact HBB.out.1
            have hlg : legE L b (fl (Pa.wc, Pa.wi, Pa.wb) S).2.2 x.m x.D = 0 := by
              have h1 := leg_of_may HVM.out.2 (fun h7 => by
                rw [hpb]
                refine HC2.out.2 h7 ?_
                have hm := HVM.out.2
                unfold mayE at hm
                rw [if_neg (by omega), if_neg (by omega), if_pos h7] at hm
                simp only [Bool.and_eq_true] at hm
                have hrg := hm.2
                unfold rgp at hrg
                simp only [Bool.and_eq_true, decide_eq_true_eq] at hrg
                have hb0 := (val_bd HVM.out.1).1
                have hd1 := val_data HVM.out.1 h7
                have hd2 := mm5.sd
                rw [hpb] at hrg
                unfold rg1
                rw [hrg.1.1, decide_eq_true hb0, decide_eq_true (show (1 : Int) ≤ (x.D.length : Int) by omega), decide_eq_true hrg.1.2, decide_eq_true hrg.2]
                rfl)
              rw [hpb] at h1
              have hwb : Pn.wb = (fl (Pa.wc, Pa.wi, Pa.wb) S).2.2 := by rw [HI.out.pe]
              rw [hwb] at h1
              exact h1
            have hbu : (wirB S ++ wirB [x]).length ≤ 6 * mgW (MS.take (i + 1)) := by
              rw [mgW_take HXX.out, List.length_append]
              have h1 := (wirB_bulk [x] (fun y hy => by simp at hy; subst hy; exact mm5)).1
              have h2 := HI.out.bu
              omega
            have hbl := mgW_le MS (i + 1)
            have hll : (wirB S).length + (wirB [x]).length ≤ 140737488351232 := by rw [List.length_append] at hbu; omega
            have H5 := Lib.hid (And.intro f5' (And.intro fp5 (And.intro mm5 (And.intro mb5 (And.intro ot5 (And.intro os5 (And.intro vx (And.intro hlg (And.intro hbu o5.rb)))))))))
            have hB5 : W1.heap.size ≤ w5.heap.size := f5'.size
            have c05 := mb5.c0
            clear f5' fp5 mm5 mb5 ot5 os5 vx hlg hbu o5 k5 f5 HSy hcX hpb hbl
            go_upto_region 15 with (first | (go_at_call 11; refine (numLT _ _).mono ?_; rintro e w9 ⟨rfl, rfl⟩) | (refine Fm.append_held (B := W1.heap.size) (l := wirB S) (m := wirB [⟨x.m, x.D, x.hb⟩]) rfl _ _ rfl rfl H5.out.2.2.2.2.1 HI.out.tn rfl H5.out.2.2.2.2.2.2.2.2.2 hB5 hll ?_; intro v6 w6 o6 n6 g6 at6))
            have hle5 : ∀ k, (Value.slice ta (wirB S).length tc).ownBlock = some k → W1.heap.size ≤ k ∧ k < w5.heap.size ∧ ∃ cs, w5.heap[k]? = some (.cells cs 5 (0, 0)) := fun k hk => by
              have h1 := own_ge H5.out.2.2.2.2.1 hk
              rcases H5.out.2.2.2.2.1.2 with ⟨h, _⟩ | ⟨q, cap, cur, h, _, h3, _⟩
              · rw [h] at hk; simp [Value.ownBlock] at hk
              · rw [h] at hk; simp [Value.ownBlock] at hk; subst hk; exact ⟨h1.1, h1.2, _, h3⟩
            have b6 : Below W1.heap.size w5 w6 := (Below.refl _ _).grown g6 hB5 (fun k hk => (hle5 k hk).1)
            have hoth : ∀ (k : Nat) (cs : Array Value) (t : TypeId), w5.heap[k]? = some (Obj.cells cs t (0, 0)) → t ≠ 5 → w6.heap[k]? = w5.heap[k]? := fun k cs t hk ht => g6.block k (Array.getElem?_eq_some_iff.1 hk).1 (fun e => by
              obtain ⟨_, _, cs', h⟩ := hle5 k e.symm
              rw [hk] at h
              simp at h
              exact ht h.2)
            have mb6 : MB w6 wr.heap.size x.m := (hoth _ _ _ H5.out.2.2.2.1 (by decide)).trans H5.out.2.2.2.1
            have fp6 := H5.out.2.1.low b6 HLH.out.2.2.2 HLH.out.2.2.1 (by rw [HI.out.pe]; exact HLH.out.1) (by rw [HI.out.pe]; exact HLH.out.2.1)
            have os6 : OMS W1.heap.size w6 (.slice sva ms.length svc) ms := by
              have h1 := H5.out.2.2.2.2.2.1
              refine ⟨own_at h1.1 (fun k hk hx => hx.elim (fun cs e => hoth k cs _ e (by decide))), fun y hy => (h1.2 y hy).but (HI.out.nh y hy · · |> fun h => fun e => h e) ?_ g6⟩
              intro k cs e he
              obtain ⟨_, _, cs', h⟩ := hle5 k e
              rw [he] at h
              simp at h
            have nh6 : ∀ y ∈ ms, ∀ k, y.m.d.ownBlock = some k → v6.ownBlock ≠ some k := fun y hy k hk e => by
              rcases at6 with h | h
              · rw [h] at e; exact HI.out.nh y hy k hk e
              · rw [h] at e
                have := (own_ge (H5.out.2.2.2.2.2.1.2 y hy).d hk).2
                simp at e
                omega
            have bw6 : Below W0.heap.size W0 w6 := by
              have h1 := below_fr HM.out.2.2.2.2 H5.out.1 HM.out.2.2.2.2.size (fun k hk => by have := HO.out.1; omega)
              exact h1.trans (b6.mono HM.out.2.2.2.2.size)
            have mm6 : MM w6 x.m x.D x.hb := (HM.out.1.keep bw6).elim (fun a h => by obtain ⟨c, _, _, _, hm⟩ := h; exact hm x (List.mem_of_getElem? HXX.out))
            have fr6 : Fm.Fr (fun k => k ≠ ga) W1 w6 := H5.out.1.trans (T := fun k => k < W1.heap.size) ⟨b6.os, b6.tape, b6.output, b6.size, fun k _ hk => b6.block k hk⟩ (fun k hk _ => hk)
            obtain ⟨a6, c6, hv6⟩ := o6.form
            subst hv6
            have hwx : wirB S ++ wirB [⟨x.m, x.D, x.hb⟩] = wirB (S ++ [x]) := (wirB_one S x).symm
            rw [hwx] at o6 n6 nh6 ⊢
            have hpe : ({ Pn with wc := (sy x.m.k Pn.wc Pn.wi Pn.wb).1, wi := (sy x.m.k Pn.wc Pn.wi Pn.wb).2.1, wb := (sy x.m.k Pn.wc Pn.wi Pn.wb).2.2 } : Pv) = { Pa with wc := (fl (Pa.wc, Pa.wi, Pa.wb) (S ++ [x])).1, wi := (fl (Pa.wc, Pa.wi, Pa.wb) (S ++ [x])).2.1, wb := (fl (Pa.wc, Pa.wi, Pa.wb) (S ++ [x])).2.2 } := by
              rw [fl_snoc, HI.out.pe]
            have hbu6 : (wirB (S ++ [x])).length ≤ 6 * mgW (MS.take (i + 1)) := by rw [← hwx]; exact H5.out.2.2.2.2.2.2.2.2.1
            have c06 := mb6.c0
            have H6 := Lib.hid (And.intro fp6 (And.intro os6 (And.intro nh6 (And.intro mm6 (And.intro fr6 (And.intro o6 (And.intro n6 (And.intro hpe (And.intro hbu6 mb6)))))))))
            have hB6 : W1.heap.size ≤ w6.heap.size := Nat.le_trans hB5 b6.size
            clear hle5 hoth mb6 fp6 os6 nh6 bw6 mm6 fr6 o6 n6 hpe hbu6 g6 at6 b6 hwx c05
            by_cases hk1 : x.m.k = 1000
            · rw [hk1] at c06
              have HI8 : Hid (TL W1 ga Ra Pa L b Ha pa sa MS (i + 1) (.slice a6 (wirB (S ++ [x])).length c6) (.slice sva ms.length svc) { Pn with wc := (sy x.m.k Pn.wc Pn.wi Pn.wb).1, wi := (sy x.m.k Pn.wc Pn.wi Pn.wb).2.1, wb := (sy x.m.k Pn.wc Pn.wi Pn.wb).2.2 } (S ++ [x]) ms w6) := by
                refine ⟨H6.out.1, H6.out.2.2.2.2.2.2.2.1, H6.out.2.2.2.2.1, H6.out.2.2.2.2.2.1, H6.out.2.1, ?_, HI.out.lg.snoc H5.out.2.2.2.2.2.2.2.1 H5.out.2.2.2.2.2.2.1, H6.out.2.2.2.2.2.2.2.2.1, Nat.le_succ_of_le HI.out.ml, H6.out.2.2.2.2.2.2.1, H6.out.2.2.1⟩
                rw [List.filter_append, List.filter_cons_of_neg (by simp [hk1]), List.filter_nil, List.append_nil]
                exact HI.out.sm
              clear H6 H5
              go_wp2_with fail
              go_roundw
              case rel => exact ⟨i + 1, _, S ++ [x], ms, a6, c6, sva, svc, by omega, by go_num, rfl, rfl, HI8⟩
              case measure => (simp [intOf] <;> omega)
            · have hsm := vx_small H5.out.2.2.2.2.2.2.1
              have HTw := Lib.hid (twinO w6 x.m x.D x.hb H6.out.2.2.2.1 hsm.1 hsm.2)
              have hc6 := H6.out.2.2.2.2.2.2.2.2.2.cells
              clear hsm
              go_upto_region 5 with (first | (with_reducible (show wpList _ _ _ (⟨_, Op.load 47 _, _, _, _, _⟩ :: _) _ _); refine wpList_load_msg rfl _ rfl wr.heap.size rfl x.m hc6 him2 ?_) | (go_at_call 50; refine HTw.out.mono ?_; rintro e w7 ⟨d7, h7, rfl, o7, b7⟩) | (refine build_msg rfl _ rfl _ rfl o7.ok.size ?_) | (at_builtin; refine append_msg (B := W1.heap.size) (ms := ms) rfl _ _ rfl rfl (H6.out.2.1.grow (b7.trans ((Below.refl _ _).alloc (Nat.le_refl _) _ |>.mono b7.size))) w7.heap.size ⟨{ x.m with d := d7, h := h7 }, x.D, x.hb⟩ rfl (heapNew _ _) ((o7.mono hB6).grow ((Below.refl _ _).alloc (Nat.le_refl _) _)) (by simp; have := b7.size; omega) (by have := HI.out.ml; omega) ?_; intro v9 w9 o9 b9 k9))
              obtain ⟨a9, c9, hv9⟩ : ∃ a c, v9 = .slice a (ms ++ [(⟨{ x.m with d := d7, h := h7 }, x.D, x.hb⟩ : Mg)]).length c := by
                rcases o9.1.2 with ⟨h1, h2⟩ | ⟨g, cap, cur, h1, _⟩
                · exact ⟨none, 0, by rw [h1, h2]⟩
                · exact ⟨_, _, h1⟩
              subst hv9
              have b8 : Below w6.heap.size w6 (w7.alloc (.cells (Mv.cs { x.m with d := d7, h := h7 }) 47)) := b7.trans (((Below.refl _ _).alloc (Nat.le_refl _) _).mono b7.size)
              have HI8 : Hid (TL W1 ga Ra Pa L b Ha pa sa MS (i + 1) (.slice a6 (wirB (S ++ [x])).length c6) (.slice a9 (ms ++ [(⟨{ x.m with d := d7, h := h7 }, x.D, x.hb⟩ : Mg)]).length c9) { Pn with wc := (sy x.m.k Pn.wc Pn.wi Pn.wb).1, wi := (sy x.m.k Pn.wc Pn.wi Pn.wb).2.1, wb := (sy x.m.k Pn.wc Pn.wi Pn.wb).2.2 } (S ++ [x]) (ms ++ [(⟨{ x.m with d := d7, h := h7 }, x.D, x.hb⟩ : Mg)]) w9) := by
                have hot := H6.out.2.2.2.2.2.1.grow b8
                refine ⟨(H6.out.1.below b8).low b9 HLH.out.2.2.2 HLH.out.2.2.1 (by rw [HI.out.pe]; exact HLH.out.1) (by rw [HI.out.pe]; exact HLH.out.2.1), H6.out.2.2.2.2.2.2.2.1, ?_, own_at hot (fun k hk hx => hx.elim (fun cs e => (k9 k cs 5 e (by decide)).trans e.symm)), o9, ?_, HI.out.lg.snoc H5.out.2.2.2.2.2.2.2.1 H5.out.2.2.2.2.2.2.1, H6.out.2.2.2.2.2.2.2.2.1, ?_, H6.out.2.2.2.2.2.2.1, ?_⟩
                · exact (H6.out.2.2.2.2.1.trans (T := fun _ => True) (Fm.Fr.of_below b8) (fun _ _ _ => trivial)).trans (T := fun k => k < W1.heap.size) ⟨b9.os, b9.tape, b9.output, b9.size, fun k _ hk => b9.block k hk⟩ (fun k hk _ => hk)
                · rw [List.filter_append, List.filter_cons_of_pos (by simp [hk1]), List.filter_nil]
                  exact HI.out.sm.snoc rfl rfl (fun _ _ => rfl)
                · rw [List.length_append]; have := HI.out.ml; simp; omega
                · intro y hy k hk e
                  rcases List.mem_append.1 hy with hy | hy
                  · exact H6.out.2.2.1 y hy k hk e
                  · simp at hy
                    subst hy
                    have h1 := (own_ge o7.d hk).1
                    have h2 := (own_ge H6.out.2.2.2.2.2.1 e).2
                    omega
              clear o9 b9 k9 b8 o7 b7 H6 H5 hc6
              go_wp2_with fail
              go_roundw
              case rel => exact ⟨i + 1, _, S ++ [x], _, a6, c6, a9, c9, by omega, by go_num, rfl, rfl, HI8⟩
              case measure => (simp [intOf] <;> omega)
          · have HSn := Lib.hid (sayNo wc ga Pn L fpc.pl fpc.why fpc.kt fpc.mt x.m x.D x.hb mmc (by
              by_cases hv : valE x.m = 0
              · exact .inr (by cases hm : mayE L Pn x.m x.D with | false => rfl | true => exact absurd ⟨hv, hm⟩ hok)
              · exact .inl hv) hsh hsd)
            obtain ⟨er, hee, her0, her1⟩ : ∃ er : Int, (if valE x.m = 0 then 175 else valE x.m) = er ∧ er ≠ 0 ∧ er ≠ 170 := by
              refine ⟨_, rfl, ?_, ?_⟩
              · split
                · decide
                · assumption
              · split
                · decide
                · exact valE_170 _
            rw [hee] at HSn
            have q0 : (er != 0) = true := by simpa using her0
            have q1 : (er == 170) = false := by simpa using her1
            clear hok hee fpc mmc mbc bc2 hsh hsd
            go_wp2_with (first | (go_at_call 11; refine (numLT _ _).mono ?_; rintro e w9 ⟨rfl, rfl⟩) | (with_reducible (show wpList _ _ _ (⟨_, Op.load 47 _, _, _, _, _⟩ :: _) _ _); refine wpList_load_msg rfl _ rfl wr.heap.size rfl x.m hcX him2 ?_) | (go_at_call 15; refine HSn.out.mono ?_; rintro e w5 ⟨rfl, b5⟩))
            go_roundw
            case rel => exact ⟨i + 1, Pn, S, ms, ta, tc, sva, svc, by omega, by go_num, rfl, rfl, HI.out.next (HC3.out.1.trans (b5.mono HC3.out.1.size))⟩
            case measure => (simp [intOf] <;> omega)
    · skip
      obtain rfl : i = MS.length := by omega
      have h0 := HO.out
      have bwr : Below W0.heap.size W0 wr := below_fr HM.out.2.2.2.2 HI.out.fr HM.out.2.2.2.2.size (fun k hk => by omega)
      have hz1 : W1.heap.size = W.heap.size + 1 := HW1.out.1
      have fbw : FP wr gb Rb Pb L Hb pb sb [] (.slice none 0 0) := by
        have hg1 := HI.out.fa.g1
        exact HFB.out.1.frame HI.out.fr (by omega) (by omega) (by omega) (by omega) HRW.out.1 HRW.out.2
      have hbl := mgW_le MS MS.length
      have hbu := HI.out.bu
      have hRN : Fm.RN (fun k => k < wr.heap.size ∧ k ≠ gb ∧ k ≠ Rb) wr (.slice ta (wirB S).length tc) (wirB S) := by
        obtain ⟨a, c, e, hle, h⟩ := HI.out.ot.rb
        refine ⟨a, c, e, hle, ?_⟩
        rcases HI.out.ot.2 with ⟨h1, h2⟩ | ⟨q, cap, cur, h1, h2, h3, _⟩
        · exact .inl (List.length_eq_zero_iff.1 h2)
        · rcases h with h | ⟨g, o, hh, hlt, hc⟩
          · exact .inl h
          · refine .inr ⟨g, o, hh, ⟨hlt, ?_⟩, hlt, hc⟩
            rw [e, hh] at h1
            simp at h1
            obtain ⟨⟨rfl, _⟩, _⟩ := h1
            exact ⟨by omega, by omega⟩
      have HFd := Lib.hid (fedG wr gb Rb Pb L Hb pb sb fbw HFB.out.2.2 W0.heap.size h0.2.1 _ (wirB S) hRN (by omega) (.slice ca zs.length cc) zs (RZo.of HM.out.2.2.1 bwr) hzl HM.out.2.2.2.1)
      have HFW := Lib.hid (And.intro fbw bwr)
      clear hRN fbw bwr hbl hbu h0
      go_wp2_with fail
      refine HFd.out.mono ?_
      rintro e w5 ⟨ev, fin, es, met, xs, q', rfl, hes, heh, htel, fr5, hfin⟩
      obtain ⟨ea, ec, rfl⟩ := hes.form
      have hkey : fin = 0 ∧ met = [] ∧ (q'.c, q'.i, q'.b) = fl (Pb.ic, Pb.ii, Pb.ib) S ∧ SameX xs (S.filter fun x => decide (x.m.k ≠ 1000)) ∧ ∀ met2 bs2 h2 r2, Fm.Rd false (wirB S) met2 bs2 h2 r2 0 → h2 = false ∧ r2 = [] := by
        have hlg : LgS L b (Pb.ic, Pb.ii, Pb.ib) S := by rw [← HFL.out]; exact HI.out.lg
        have hlen : ∀ x ∈ S, (encB x.m x.D x.hb).length ≤ 32768 := fun x hx => by
          obtain ⟨k, hk, rfl⟩ := List.getElem_of_mem hx
          have hv := (hlg k _ (List.getElem?_eq_getElem hk)).2
          exact (back_way _ hv.ok _ _ hv.v hv.d hv.h).2.2.2.2
        have hrd : ∀ met2 bs2 h2 r2 e2, Fm.Rd false (wirB S) met2 bs2 h2 r2 e2 → met2 = [] ∧ bs2 = encs S ∧ h2 = false ∧ r2 = [] ∧ e2 = 0 := fun met2 bs2 h2 r2 e2 d => by
          rw [← List.append_nil (wirB S)] at d
          obtain ⟨bs', rfl, d'⟩ := rd_wire S hlen d
          cases d' with
          | num => exact ⟨rfl, by simp, rfl, rfl, rfl⟩
          | big _ h => simp at h
          | part _ h => simp at h
          | body _ _ _ _ _ _ h => simp at h
        rw [HFB.out.2.1] at htel
        obtain ⟨m0, bs, h', r, er, d1, hx⟩ := htel
        obtain ⟨rfl, rfl, rfl, rfl, rfl⟩ := hrd _ _ _ _ _ d1
        rcases hx with ⟨h, e1, _⟩ | ⟨_, rfl, f1, hr1, rfl⟩
        · cases e1
        · rw [HBB.out.2.1] at hr1
          obtain ⟨r1, r2, r3⟩ := hr_said hr1 hlg
          subst r1
          exact ⟨rfl, rfl, r2, r3, fun met2 bs2 h2 r2 d => ⟨(hrd _ _ _ _ _ d).2.2.1, (hrd _ _ _ _ _ d).2.2.2.1⟩⟩
      obtain ⟨rfl, rfl, hflags, hsame, hrest⟩ := hkey
      obtain ⟨Pm, pm, sm, held, hv, hfp, i1, i2, i3, i4, i5, i6, i7, i8, i9, bs, hrd⟩ := hfin rfl
      rw [HFB.out.2.1] at hrd
      obtain ⟨hpm, htm⟩ := hrest _ _ _ _ hrd
      have hheld : held = [] ∧ Fm.tx pm sm [] = [] := by
        unfold Fm.tx at htm ⊢
        by_cases hp1 : pm = 1
        · rw [if_pos hp1] at htm
          have := congrArg List.length htm
          simp [be4] at this
        · rw [if_neg hp1] at htm ⊢
          exact ⟨htm, rfl⟩
      obtain ⟨rfl, htx⟩ := hheld
      have hhv := hfp.nil rfl
      subst hhv
      obtain ⟨es', hee, hem⟩ := heh
      have hee2 : es' = es := by simpa using hee.symm
      clear hee
      subst hee2
      have hlenE : es'.length = ms.length := hem.1.trans (hsame.1.trans HI.out.sm.1.symm)
      have HEQ : Hid (∀ (k : Nat) (x : Ev) (y : Mg), es'[k]? = some x → ms[k]? = some y → x.hello = false ∧ y.D = x.x.D ∧ y.hb = x.x.hb ∧ y.m = { x.x.m with d := y.m.d, h := y.m.h }) := fun k x y hx hy => by
        have hk := (List.getElem?_eq_some_iff.1 hx).1
        obtain ⟨z, hz⟩ : ∃ z, xs[k]? = some z := ⟨_, List.getElem?_eq_getElem (by rw [← hem.1]; exact hk)⟩
        obtain ⟨u, hu⟩ : ∃ u, (S.filter fun x => decide (x.m.k ≠ 1000))[k]? = some u := ⟨_, List.getElem?_eq_getElem (by rw [← hsame.1, ← hem.1]; exact hk)⟩
        obtain ⟨a1, _, a3, a4, a5⟩ := hem.2 k x z hx hz
        obtain ⟨b1, b2, b3⟩ := hsame.2 k z u hz hu
        obtain ⟨c1, c2, c3⟩ := HI.out.sm.2 k y u hy hu
        refine ⟨a1, c1.trans (b1.symm.trans a3.symm), c2.trans (b2.symm.trans a4.symm), ?_⟩
        have e1 := c3 y.m.d y.m.h
        have e2 := b3 y.m.d y.m.h
        rw [a5]
        show y.m = { z.m with d := y.m.d, h := y.m.h }
        rw [e2]
        exact e1
      have fa5 : FP w5 ga Ra Pn L Ha pa sa [] (.slice none 0 0) := by
        have h0 := HO.out
        have hg1 := HI.out.fa.g1
        exact HI.out.fa.frame fr5 (by omega) (by omega) (by have := HFW.out.1.g1; have := HFW.out.1.gR; omega) (by have := HFW.out.1.g1; have := HFW.out.1.gR; omega) HFW.out.1.rows.1 HFW.out.1.rows.2
      have os5 : OMS W1.heap.size w5 (.slice sva ms.length svc) ms := by
        have h0 := HO.out
        have h1 := HI.out.os
        refine ⟨own_at h1.1 (fun k hk _ => fr5.block k (own_ge h1.1 hk).2 (by have := (own_ge h1.1 hk).1; omega)), fun y hy => ?_⟩
        have h2 := h1.2 y hy
        obtain ⟨n, en, hh⟩ := h2.h
        exact ⟨h2.ok, own_at h2.d (fun k hk _ => fr5.block k (own_ge h2.d hk).2 (by have := (own_ge h2.d hk).1; omega)), ⟨n, en, own_at hh (fun k hk _ => fr5.block k (own_ge hh hk).2 (by have := (own_ge hh hk).1; omega))⟩, h2.dl, h2.hl⟩
      have HEND : Hid (∀ w', Below w5.heap.size w5 w' → ∃ Pn Pm Hm pm sm, FP w' ga Ra Pn L Ha pa sa [] (.slice none 0 0) ∧ FP w' gb Rb Pm L Hm pm sm [] (.slice none 0 0) ∧ (pm == 2) = false ∧ Fm.tx pm sm [] = [] ∧ (Pn.wc, Pn.wi, Pn.wb) = (Pm.ic, Pm.ii, Pm.ib) ∧ (Pn.ic, Pn.ii, Pn.ib) = (Pa.ic, Pa.ii, Pa.ib) ∧ (Pm.wc, Pm.wi, Pm.wb) = (Pb.wc, Pb.wi, Pb.wb) ∧ Pn.b = b ∧ Pm.b = b ∧ Fm.Fr (fun k => k ≠ ga ∧ k ≠ gb ∧ k ≠ Rb) W w') := fun w' hb' => by
        refine ⟨Pn, Pm, q'.H, pm, sm, fa5.below hb', hfp.below hb', hpm, htx, ?_, ?_, by rw [i3, i4, i5], by rw [HI.out.pe]; exact HBB.out.1, i2.trans HBB.out.2.1, ?_⟩
        · rw [i6, i7, i8, HI.out.pe, hflags, ← HFL.out]
        · rw [HI.out.pe]
        · have f1 : Fm.Fr (fun k => k ≠ ga ∧ k ≠ gb ∧ k ≠ Rb) W W1 := Fm.Fr.of_below HW1.out.2
          have f2 : Fm.Fr (fun k => k ≠ ga ∧ k ≠ gb ∧ k ≠ Rb) W wr := f1.trans (T := fun k => k ≠ ga) HI.out.fr (fun _ _ h => h.1)
          have f3 : Fm.Fr (fun k => k ≠ ga ∧ k ≠ gb ∧ k ≠ Rb) W w5 := f2.trans (T := fun k => k ≠ gb ∧ k ≠ Rb) fr5 (fun _ _ h => h.2)
          exact f3.trans (T := fun _ => True) (Fm.Fr.of_below hb') (fun _ _ _ => trivial)
      have H5 := Lib.hid (And.intro hes os5)
      have hl9 : es'.length ≤ 2000000 := by have := HI.out.ml; omega
      clear hes os5 fa5 hfp i1 i2 i3 i4 i5 i6 i7 i8 i9 hrd htm hrest hflags hsame hem htel fr5 hfin HFd HI HFW HFB HM
      obtain ⟨n, hn⟩ : ∃ n, n = es'.length := ⟨_, rfl⟩
      have HN : Hid (n = es'.length ∧ n = ms.length) := ⟨hn, hn.trans hlenE⟩
      rw [← hlenE, ← hn] at H5 ⊢
      rw [← hn] at hl9
      clear hn hlenE
      go_wp2_with (first | (go_at_call 11; refine (numLT _ _).mono ?_; rintro e w9 ⟨rfl, rfl⟩))
      go_loopw [22] (fun t wr => ∃ k : Nat, k ≤ n ∧ t = .int .i64 k ∧ Hid (Below w5.heap.size w5 wr)) (fun t _ => n - (intOf t).toNat)
      case atStart => exact ⟨0, Nat.zero_le _, rfl, Below.refl _ _⟩
      case round =>
        obtain ⟨k, hk, rfl, HBQ⟩ := hrel
        by_cases hlt2 : k < n
        · obtain ⟨x, hx⟩ : ∃ x, es'[k]? = some x := ⟨_, List.getElem?_eq_getElem (by rw [← HN.out.1]; exact hlt2)⟩
          obtain ⟨y, hy⟩ : ∃ y, ms[k]? = some y := ⟨_, List.getElem?_eq_getElem (by rw [← HN.out.2]; exact hlt2)⟩
          obtain ⟨ge, rfl⟩ : ∃ ge, ea = some ⟨ge, 0, none⟩ := by
            rcases H5.out.1.1.2 with ⟨h, _⟩ | ⟨g, cap, cur, h, _⟩
            · simp at h; omega
            · simp at h; exact ⟨g, h.1⟩
          obtain ⟨gm, rfl⟩ : ∃ gm, sva = some ⟨gm, 0, none⟩ := by
            rcases H5.out.2.1.2 with ⟨h, _⟩ | ⟨g, cap, cur, h, _⟩
            · simp at h; omega
            · simp at h; exact ⟨g, h.1⟩
          have HQ := Lib.hid (HEQ.out k x y hx hy)
          have o1 := H5.out.1.2 x (List.mem_of_getElem? hx)
          have o2 := H5.out.2.2 y (List.mem_of_getElem? hy)
          have r1 := rangeKeepX (H5.out.1.at HN.out.1 hx) HBQ.out
          have r2 : wr.rangeAt gm (k * 40) y.m.ls := rangeKeepX (fun j u hu => by
            have hj := (List.getElem?_eq_some_iff.1 hu).1
            have h40 : y.m.ls.length = 40 := ok_ls o2.ok
            have hm := H5.out.2.1
            rw [HN.out.2] at hm hlt2
            rw [World.ownsRow.cellAt hm (k * 40 + j) (by omega), flat40 ms (fun z hz => ok_ls (H5.out.2.2 z hz).ok) k y hy j (by omega)]
            exact hu) HBQ.out
          have hx20 := o1.pr
          have him1 : (Tryz.prog.info? 47).map (·.size) = some x.x.m.ls.length := by rw [info_msg o1.mg.ok, Mv.cs, List.size_toArray]
          have him2 : (Tryz.prog.info? 47).map (·.size) = some y.m.ls.length := by rw [info_msg o2.ok, Mv.cs, List.size_toArray]
          have HV : Hid (wr.rangeAt ge (k * 61) (Ev.ls x) ∧ wr.rangeAt gm (k * 40) y.m.ls) := ⟨r1, r2⟩
          have HKP : Hid (∀ w8, Below (wr.drewN 1).heap.size (wr.drewN 1) w8 → w8.rangeAt ge (k * 61) (Ev.ls x) ∧ w8.rangeAt gm (k * 40) y.m.ls) := fun w8 b8 => ⟨rangeKeepX (u := wr.drewN 1) HV.out.1 b8, rangeKeepX (u := wr.drewN 1) HV.out.2 b8⟩
          have HMS := Lib.hid (msameT (wr.drewN 1) x.x.m y.m x.x.D x.x.hb (o1.mg.mm.keep (belowN HBQ.out 1)) (by have := o2.mm; rw [HQ.out.2.1, HQ.out.2.2.1] at this; exact this.keep (belowN HBQ.out 1)) HQ.out.2.2.2)
          have hkn : (k : Int) < (n : Int) := by omega
          have hk0 : (0 : Int) ≤ (k : Int) := by omega
          clear o1 o2 r1 r2 hx hy
          go_upto_region 23 with fail
          refine wp_region_held_drew (S := fun u => u.rangeAt ge (k * 61) (Ev.ls x) ∧ u.rangeAt gm (k * 40) y.m.ls) (by kernel_rfl) (HV.out) (fun hHeld => ?_)
          refine wpAnyH_take (i := 0) (v := .slice (some ⟨ge, 0, none⟩) n ec) rfl (by kernel_rfl) (by kernel_rfl) (by kernel_rfl) (fun _ _ _ h => h) (Or.inl ⟨by rfl, fun w hw => by go_simp⟩) hHeld ?_
          simp only [Act.put, List.getElem_toArray, List.getElem_cons_zero, List.setIfInBounds_toArray, List.set_cons_zero, List.set_cons_succ]
          refine wpAnyH_take (i := 1) (v := .int .i64 (k : Int)) rfl (by kernel_rfl) (by kernel_rfl) (by kernel_rfl) (fun _ _ _ h => h) (Or.inl ⟨by rfl, fun w hw => by go_simp⟩) hHeld ?_
          simp only [Act.put, List.getElem_toArray, List.getElem_cons_zero, List.getElem_cons_succ, List.setIfInBounds_toArray, List.set_cons_zero, List.set_cons_succ]
          refine wpAnyH_take (i := 2) (v := .pointer (some ⟨ge, k * 61, none⟩)) rfl (by kernel_rfl) (by kernel_rfl) (by kernel_rfl) (fun _ _ _ h => h) (Or.inl ⟨by rfl, fun w hw => by have hq := hkn; have hq2 := hk0; go_simp⟩) hHeld ?_
          simp only [Act.put, List.getElem_toArray, List.getElem_cons_zero, List.getElem_cons_succ, List.setIfInBounds_toArray, List.set_cons_zero, List.set_cons_succ]
          refine wpAnyH_take (i := 3) (v := .pointer (some ⟨ge, k * 61, none⟩)) rfl (by kernel_rfl) (by kernel_rfl) (by kernel_rfl) (fun _ _ _ h => h) (Or.inl ⟨by rfl, fun w hw => by go_simp⟩) hHeld ?_
          simp only [Act.put, List.getElem_toArray, List.getElem_cons_zero, List.getElem_cons_succ, List.setIfInBounds_toArray, List.set_cons_zero, List.set_cons_succ]
          refine wpAnyH_take (i := 4) (v := .bool false) rfl (by kernel_rfl) (by kernel_rfl) (by kernel_rfl) (fun _ _ _ h => h) (Or.inl ⟨by rfl, fun w hw => by have hq : w.cell? ⟨ge, k * 61, none⟩ = some (.bool x.hello) := hw.1 0 _ rfl; rw [HQ.out.1] at hq; go_simp⟩) hHeld ?_
          simp only [Act.put, List.getElem_toArray, List.getElem_cons_zero, List.getElem_cons_succ, List.setIfInBounds_toArray, List.set_cons_zero, List.set_cons_succ]
          refine wpAnyH_take (i := 5) (v := .bool false) rfl (by kernel_rfl) (by kernel_rfl) (by kernel_rfl) (fun _ _ _ h => h) (Or.inl ⟨by rfl, fun w hw => by go_simp⟩) hHeld ?_
          simp only [Act.put, List.getElem_toArray, List.getElem_cons_zero, List.getElem_cons_succ, List.setIfInBounds_toArray, List.set_cons_zero, List.set_cons_succ]
          refine wpAnyH_take (i := 6) (v := .slice (some ⟨ge, 0, none⟩) n ec) rfl (by kernel_rfl) (by kernel_rfl) (by kernel_rfl) (fun _ _ _ h => h) (Or.inl ⟨by rfl, fun w hw => by go_simp⟩) hHeld ?_
          simp only [Act.put, List.getElem_toArray, List.getElem_cons_zero, List.getElem_cons_succ, List.setIfInBounds_toArray, List.set_cons_zero, List.set_cons_succ]
          refine wpAnyH_take (i := 7) (v := .int .i64 (k : Int)) rfl (by kernel_rfl) (by kernel_rfl) (by kernel_rfl) (fun _ _ _ h => h) (Or.inl ⟨by rfl, fun w hw => by go_simp⟩) hHeld ?_
          simp only [Act.put, List.getElem_toArray, List.getElem_cons_zero, List.getElem_cons_succ, List.setIfInBounds_toArray, List.set_cons_zero, List.set_cons_succ]
          refine wpAnyH_take (i := 8) (v := .pointer (some ⟨ge, k * 61, none⟩)) rfl (by kernel_rfl) (by kernel_rfl) (by kernel_rfl) (fun _ _ _ h => h) (Or.inl ⟨by rfl, fun w hw => by have hq := hkn; have hq2 := hk0; go_simp⟩) hHeld ?_
          simp only [Act.put, List.getElem_toArray, List.getElem_cons_zero, List.getElem_cons_succ, List.setIfInBounds_toArray, List.set_cons_zero, List.set_cons_succ]
          refine wpAnyH_take (i := 9) (v := .pointer (some ⟨ge, k * 61 + 21, none⟩)) rfl (by kernel_rfl) (by kernel_rfl) (by kernel_rfl) (fun _ _ _ h => h) (Or.inl ⟨by rfl, fun w hw => by go_simp⟩) hHeld ?_
          simp only [Act.put, List.getElem_toArray, List.getElem_cons_zero, List.getElem_cons_succ, List.setIfInBounds_toArray, List.set_cons_zero, List.set_cons_succ]
          refine wpAnyH_take (i := 10) (v := .agg x.x.m.cs) rfl (by kernel_rfl) (by kernel_rfl) (by kernel_rfl) (fun _ _ _ h => h) (yieldsIf_load_mid (by rfl) _ _ rfl _ _ rfl _ _ (fun u hw => ms_of hx20 hw.1) Tryz.underlying47 rfl him1) hHeld ?_
          simp only [Act.put, List.getElem_toArray, List.getElem_cons_zero, List.getElem_cons_succ, List.setIfInBounds_toArray, List.set_cons_zero, List.set_cons_succ]
          refine wpAnyH_take (i := 11) (v := .slice (some ⟨gm, 0, none⟩) n svc) rfl (by kernel_rfl) (by kernel_rfl) (by kernel_rfl) (fun _ _ _ h => h) (Or.inl ⟨by rfl, fun w hw => by go_simp⟩) hHeld ?_
          simp only [Act.put, List.getElem_toArray, List.getElem_cons_zero, List.getElem_cons_succ, List.setIfInBounds_toArray, List.set_cons_zero, List.set_cons_succ]
          refine wpAnyH_take (i := 12) (v := .int .i64 (k : Int)) rfl (by kernel_rfl) (by kernel_rfl) (by kernel_rfl) (fun _ _ _ h => h) (Or.inl ⟨by rfl, fun w hw => by go_simp⟩) hHeld ?_
          simp only [Act.put, List.getElem_toArray, List.getElem_cons_zero, List.getElem_cons_succ, List.setIfInBounds_toArray, List.set_cons_zero, List.set_cons_succ]
          refine wpAnyH_take (i := 13) (v := .pointer (some ⟨gm, k * 40, none⟩)) rfl (by kernel_rfl) (by kernel_rfl) (by kernel_rfl) (fun _ _ _ h => h) (Or.inl ⟨by rfl, fun w hw => by have hq := hkn; have hq2 := hk0; go_simp⟩) hHeld ?_
          simp only [Act.put, List.getElem_toArray, List.getElem_cons_zero, List.getElem_cons_succ, List.setIfInBounds_toArray, List.set_cons_zero, List.set_cons_succ]
          refine wpAnyH_take (i := 14) (v := .agg y.m.cs) rfl (by kernel_rfl) (by kernel_rfl) (by kernel_rfl) (fun _ _ _ h => h) (yieldsIf_load_mid (by rfl) _ _ rfl _ _ rfl _ _ (fun u hw => hw.2) Tryz.underlying47 rfl him2) hHeld ?_
          simp only [Act.put, List.getElem_toArray, List.getElem_cons_zero, List.getElem_cons_succ, List.setIfInBounds_toArray, List.set_cons_zero, List.set_cons_succ]
          refine wpAnyH_ready (rs := [15]) (by kernel_rfl) (by simp) ?_
          refine AllReadyH.cons (o := _) rfl (fun K hK => ?_) AllReadyH.nil
          go_simp
          refine (HMS.out).mono ?_
          rintro e w8 ⟨rfl, b8⟩
          have HV8 : Hid (w8.rangeAt ge (k * 61) (Ev.ls x) ∧ w8.rangeAt gm (k * 40) y.m.ls) := HKP.out w8 b8
          have HB8 : Hid (Below w5.heap.size w5 w8) := (belowN HBQ.out 1).trans (b8.mono HBQ.out.size)
          clear b8
          go_wp2_with fail
          refine hK.out _ _ (HV8.out) (fun hHeld => ?_)
          clear hK K
          refine wpAnyH_take (i := 16) (v := .bool false) rfl (by kernel_rfl) (by kernel_rfl) (by kernel_rfl) (fun _ _ _ h => h) (Or.inl ⟨by rfl, fun w hw => by go_simp⟩) hHeld ?_
          simp only [Act.put, List.getElem_toArray, List.getElem_cons_zero, List.getElem_cons_succ, List.setIfInBounds_toArray, List.set_cons_zero, List.set_cons_succ]
          refine wpAnyH_take (i := 17) (v := .bool false) rfl (by kernel_rfl) (by kernel_rfl) (by kernel_rfl) (fun _ _ _ h => h) (Or.inl ⟨by rfl, fun w hw => by go_simp⟩) hHeld ?_
          simp only [Act.put, List.getElem_toArray, List.getElem_cons_zero, List.getElem_cons_succ, List.setIfInBounds_toArray, List.set_cons_zero, List.set_cons_succ]
          refine wpAnyH_done (by kernel_rfl) ?_ _
          clear hHeld
          go_wp2
          exact ⟨⟨k + 1, by omega, by go_num, HB8⟩, by simp [intOf]; omega⟩
        · obtain rfl : k = n := by omega
          go_wp2
          go_ret
          exact ⟨rfl, HEND.out _ HBQ.out⟩
end Go.Proofs.YtabjpffaleaoaaaGreatDoor
