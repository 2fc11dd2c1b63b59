import Derived.Test.YtbnnfpjgjieaeaaDoorMb
namespace Go.Proofs.YtbnnfpjgjieaeaaDoor
open Go.RowKit
set_option maxHeartbeats 8000000 in
set_option maxRecDepth 100000 in
theorem cuttingT (w : World) (v cv : Value) (hello : Bool) (ms : List Mg) (zs : List Int) (hr : RMS w v ms) (hc : RI w cv zs) (hb : mgW ms ≤ 1048576) (hzl : zs.length ≤ 1048576) (hz : ∀ z ∈ zs, -9223372036854775808 ≤ z ∧ z ≤ 9223372036854775807) (hk : KT w) (hhe : hello = true) :
    Calls Tryd.prog 3 #[v, cv, .bool hello] w fun e w' => e = .returned (.bool true) ∧ Below w.heap.size w w' := by
  obtain ⟨a, c, rfl, _⟩ := id hr
  obtain ⟨ca, cc, rfl, _⟩ := id hc
  have hsz := wirB_bulk (w := w) ms (fun x hx => hr.mem x hx)
  have HO : Hid (RMS w (.slice a ms.length c) ms ∧ RI w (.slice ca zs.length cc) zs ∧ mgW ms ≤ 1048576 ∧ KT w ∧ (wirB ms).length ≤ 6291456 ∧ ms.length ≤ 1048576 ∧ (∀ z ∈ zs, -9223372036854775808 ≤ z ∧ z ≤ 9223372036854775807)) := ⟨hr, hc, hb, hk, by omega, by omega, hz⟩
  clear hr hc hb hk hsz hz
  generalize hlen : ms.length = len at *
  have HN : Hid (ms.length = len) := hlen
  clear hlen
  have hlm : len ≤ 1048576 := HO.out.2.2.2.2.2.1
  generalize hzn : zs.length = zn at *
  have HZN : Hid (zs.length = zn) := hzn
  clear hzn
  go_enter Tryd.func3, Tryd.ntmps3
  go_wp2_with fail
  refine (farMsgsT w _ ms HO.out.1 HO.out.2.2.1).mono ?_
  rintro e w1 ⟨rfl, b1⟩
  have H1 : Hid (KT w1 ∧ Below w.heap.size w w1) := ⟨HO.out.2.2.2.1.below b1 HO.out.2.2.2.1.pos, b1⟩
  clear b1
  go_wp2_with fail
  refine (awakeT w1 H1.out.1).mono ?_
  rintro e w2 ⟨rfl, b2⟩
  have H2 : Hid (KT w2 ∧ Below w.heap.size w w2 ∧ RMS w2 (.slice a len c) ms) := ⟨H1.out.1.below b2 H1.out.1.pos, H1.out.2.trans (b2.mono H1.out.2.size), HO.out.1.keep (H1.out.2.trans (b2.mono H1.out.2.size))⟩
  clear b2 H1
  go_wp2_with fail
  refine (wireT w2 _ ms H2.out.2.2 H2.out.1 (by have := HN.out; omega)).mono ?_
  rintro e w3 ⟨v3, rfl, o3, b3⟩
  obtain ⟨va, vn, vc, rfl⟩ := o3.form3
  have HCAP : Hid ((va = none → vc = 0) ∧ vn ≤ vc) := o3.cap
  by_cases hE : wirE ms = 0
  · have H3 : Hid (KT w3 ∧ Below w.heap.size w w3 ∧ RB w3 (.slice va vn vc) (wirB ms) ∧ wirE ms = 0) := by
      have h9 := o3.rb
      rw [if_pos hE] at h9
      exact ⟨H2.out.1.below b3 H2.out.1.pos, H2.out.2.1.trans (b3.mono H2.out.2.1.size), h9, hE⟩
    rw [hE]
    clear b3 o3 H2 hE
    obtain ⟨BH, hBH⟩ : ∃ BH, BH = bc h48 := ⟨_, rfl⟩
    have bt4h : Tryd.prog.built 34 [(0, .agg b8), (1, .agg b20a), (2, .agg b20b)] = some BH := by rw [hBH]; exact bt4
    have hzh := heapNew w3 (.cells z48 34)
    have hih : (Tryd.prog.info? 34).map (·.size) = some BH.size := by rw [hBH]; exact Fm.info_hello (hb := h48) rfl
    have hoh : BH.all (·.oneCell') = true := by rw [hBH]; exact bc_one h48
    have hsh : z48.size = BH.size := by rw [hBH]; rfl
    have HBH : Hid (BH = bc h48) := hBH
    clear hBH
    cases hello with
    | false => exact absurd hhe (by decide)
    | true =>
      clear hhe
      go_upto_region 9 with (first | (go_at_call 8; refine (numLT _ _).mono ?_; rintro e w9 ⟨rfl, rfl⟩))
      refine wp_region_lit ?_
      refine wpList_built rfl 31 _ rfl b8 (by simp only [List.map_toArray, List.map_cons, List.map_nil]; exact bt1) ?_
      simp only [Act.put, List.setIfInBounds_toArray, List.set_cons_zero, List.set_cons_succ]
      refine wpList_built rfl 32 _ rfl b20a (by simp only [List.map_toArray, List.map_cons, List.map_nil]; exact bt2) ?_
      simp only [Act.put, List.setIfInBounds_toArray, List.set_cons_zero, List.set_cons_succ]
      refine wpList_built rfl 32 _ rfl b20b (by simp only [List.map_toArray, List.map_cons, List.map_nil]; exact bt3) ?_
      simp only [Act.put, List.setIfInBounds_toArray, List.set_cons_zero, List.set_cons_succ]
      refine wpList_built rfl 34 _ rfl BH (by simp only [List.map_toArray, List.map_cons, List.map_nil]; exact bt4h) ?_
      simp only [Act.put, List.setIfInBounds_toArray, List.set_cons_zero, List.set_cons_succ]
      have hch := heapSetRow _ _ _ BH _ hzh
      go_wp2_with (first | (refine wpList_store_row rfl 34 _ _ rfl w3.heap.size BH rfl rfl 34 z48 hzh hih hsh hoh ?_) | (go_at_call 8; refine (numLT _ _).mono ?_; rintro e w9 ⟨rfl, rfl⟩) | (refine wpList_load_row rfl 34 _ rfl w3.heap.size rfl 34 BH (0, 0) _ hch Tryd.underlying34 rfl hih ?_))
      have hG := heapSetRow _ _ _ BH _ hzh
      have bX : Below w3.heap.size w3 ((w3.alloc (.cells z48 34)).setRow w3.heap.size BH) := belowSetRow ((Below.refl _ _).alloc (Nat.le_refl _) _) (Nat.le_refl _) _
      have HX : Hid (KT ((w3.alloc (.cells z48 34)).setRow w3.heap.size BH) ∧ Below w.heap.size w ((w3.alloc (.cells z48 34)).setRow w3.heap.size BH) ∧ RB ((w3.alloc (.cells z48 34)).setRow w3.heap.size BH) (.slice va vn vc) (wirB ms) ∧ ((w3.alloc (.cells z48 34)).setRow w3.heap.size BH).heap[w3.heap.size]? = some (.cells BH 34 (0, 0))) := ⟨H3.out.1.below bX H3.out.1.pos, H3.out.2.1.trans (bX.mono H3.out.2.1.size), H3.out.2.2.1.keep bX, hG⟩
      have HWE : Hid (wirE ms = 0) := H3.out.2.2.2
      clear hG bX H3 hzh hih hsh hoh bt4h hch
      generalize (w3.alloc (.cells z48 34)).setRow w3.heap.size BH = X at *
      generalize w3.heap.size = G0 at *
      have hgr : Calls Tryd.prog 9 #[.agg BH] X fun e w' => ∃ v, e = .returned v ∧ OW X.heap.size w' v (Fm.sgn ++ h48) ∧ Below X.heap.size X w' := by rw [HBH.out]; exact Fm.greet h48 rfl X
      refine hgr.mono ?_
      rintro e w4 ⟨v4, rfl, o4, b4⟩
      obtain ⟨ga, gn, gc, rfl⟩ := o4.form3
      have HX4 : Hid (KT w4 ∧ Below w.heap.size w w4 ∧ RB w4 (.slice va vn vc) (wirB ms) ∧ w4.heap[G0]? = some (.cells BH 34 (0, 0)) ∧ RB w4 (.slice ga gn gc) (Fm.sgn ++ h48)) := ⟨HX.out.1.below b4 HX.out.1.pos, HX.out.2.1.trans (b4.mono HX.out.2.1.size), HX.out.2.2.1.keep b4, (b4.block G0 (Array.getElem?_eq_some_iff.1 HX.out.2.2.2).1).trans HX.out.2.2.2, o4.rb⟩
      clear HX hgr o4 b4
      go_wp2_with fail
      refine (joinedT w4 _ _ (Fm.sgn ++ h48) (wirB ms) HX4.out.2.2.2.2 HX4.out.2.2.1 (by have := HO.out.2.2.2.2.1; rw [show (Fm.sgn ++ h48).length = 68 from rfl]; omega)).mono ?_
      rintro e X ⟨v5, rfl, o5, b5⟩
      obtain ⟨va, vn, vc, rfl⟩ := o5.form3
      clear HCAP
      have HCAP : Hid ((va = none → vc = 0) ∧ vn ≤ vc) := o5.cap
      have HS : Hid (∃ T, KT X ∧ Below w.heap.size w X ∧ RB X (.slice va vn vc) T ∧ T = gt true h48 ++ wirB ms ∧ X.heap[G0]? = some (.cells BH 34 (0, 0)) ∧ T.length ≤ 6291600) := ⟨(Fm.sgn ++ h48) ++ wirB ms, HX4.out.1.below b5 HX4.out.1.pos, HX4.out.2.1.trans (b5.mono HX4.out.2.1.size), o5.rb, rfl, (b5.block G0 (Array.getElem?_eq_some_iff.1 HX4.out.2.2.2.1).1).trans HX4.out.2.2.2.1, by rw [List.length_append, show (Fm.sgn ++ h48).length = 68 from rfl]; have := HO.out.2.2.2.2.1; omega⟩
      clear HX4 o5 b5
      go_wp2_with fail
      obtain ⟨T, HT0⟩ := HS.out
      have HT : Hid (KT X ∧ Below w.heap.size w X ∧ RB X (.slice va vn vc) T ∧ T = gt true h48 ++ wirB ms ∧ X.heap[G0]? = some (.cells BH 34 (0, 0)) ∧ T.length ≤ 6291600) := HT0
      clear HT0 HS
      have hvn : vn = T.length := by
        obtain ⟨_, _, ev, _⟩ := HT.out.2.2.1
        simp only [Value.slice.injEq] at ev
        exact ev.2.1
      have hvl : vn ≤ 6291600 := by rw [hvn]; exact HT.out.2.2.2.2.2
      have HVN : Hid (vn = T.length) := hvn
      clear hvn
      refine (Fm.new X true).mono ?_
      rintro e Y ⟨rfl, rk0, b0⟩
      have HR0 : Hid (∃ R p s held hv ns, R = X.heap.size ∧ CI w Y R true (.slice va vn vc) T ms 0 0 (.slice none 0 0) p s held hv ns ns.length) := by
        refine ⟨X.heap.size, if true then 2 else 0, 0, [], .slice none 0 0, [], rfl, rk0, ?_, World.ownsRow_nil _ _ _ _, fun _ => rfl, OMS.nil _ _, fun x hx => by simp at hx, ⟨rfl, fun i x b hx _ => by simp at hx⟩, Nat.le_refl _, Nat.zero_le _, ?_, rfl, ?_, Nat.zero_le _, ?_, HT.out.2.1.trans (b0.mono HT.out.2.1.size), HT.out.2.1.size⟩
        · first | exact .inr (.inl ⟨rfl, by decide⟩) | exact .inl ⟨rfl, by decide, by decide⟩
        · rw [HT.out.2.2.2.1]; rfl
        · first | (intro h; exact absurd h (by decide)) | (intro _; exact ⟨rfl, rfl, rfl⟩)
        · exact (Fm.RN.of_rb HT.out.2.2.1).move (fun _ h => h) (fun g _ hg _ => b0.block g hg)
      obtain ⟨R, p0, s0, held0, hv0, ns0, hRX, HC0⟩ := HR0.out
      have HC : Hid (CI w Y R true (.slice va vn vc) T ms 0 0 (.slice none 0 0) p0 s0 held0 hv0 ns0 ns0.length ∧ Y.heap[G0]? = some (.cells BH 34 (0, 0)) ∧ G0 < R ∧ T.length ≤ 6291600 ∧ w.heap.size ≤ R) := ⟨HC0, (b0.block G0 (Array.getElem?_eq_some_iff.1 HT.out.2.2.2.2.1).1).trans HT.out.2.2.2.2.1, by rw [hRX]; exact (Array.getElem?_eq_some_iff.1 HT.out.2.2.2.2.1).1, HT.out.2.2.2.2.2, by rw [hRX]; exact HT.out.2.1.size⟩
      rw [← hRX]
      clear hRX HR0 rk0 b0 HC0 HT
      have HMB : Hid (∀ y ∈ ms, (encB y.m y.D y.hb).length ≤ 32768) := fun y hy => (HO.out.1.mem y hy).enc_le
      go_wp2
      have HC1 : Hid (∃ p s held hv ns, CI w Y R true (.slice va vn vc) T ms 0 0 (.slice none 0 0) p s held hv ns ns.length ∧ Y.heap[G0]? = some (.cells BH 34 (0, 0))) := ⟨p0, s0, held0, hv0, ns0, HC.out.1, HC.out.2.1⟩
      have HG : Hid (G0 < R ∧ T.length ≤ 6291600 ∧ w.heap.size ≤ R) := HC.out.2.2
      clear HC
      go_loopw [13, 14, 15, 16] (fun u mz az iz wr => ∃ i n m : Nat, i ≤ zn + 1 ∧ n ≤ vn ∧ m ≤ 1 ∧ mz = .int .i64 m ∧ az = .int .i64 n ∧ iz = .int .i64 i ∧ Hid ((∃ p s held hv ns, CI w wr R true (.slice va vn vc) T ms n m u p s held hv ns ns.length ∧ wr.heap[G0]? = some (.cells BH 34 (0, 0))) ∧ (i = zn + 1 → n = vn))) (fun _ _ _ iz _ => zn + 1 - (intOf iz).toNat)
      case atStart => exact ⟨0, 0, 0, by omega, by omega, by omega, rfl, rfl, rfl, HC1.out, fun h => by omega⟩
      case round =>
        clear HC1
        obtain ⟨i, n, m, hi, hn, hm1, rfl, rfl, rfl, hI⟩ := hrel
        obtain ⟨⟨p, s, held, hv, ns, hC, hG0⟩, hIe⟩ := hI.out
        obtain ⟨ua, uc, rfl⟩ := hC.o.form
        have hnsl : ns.length ≤ 1048576 := by have h1 := hC.kl; have h2 := HN.out; omega
        by_cases hlt : i ≤ zn
        · have HI : Hid (CI w wr R true (.slice va vn vc) T ms n m (.slice ua ns.length uc) p s held hv ns ns.length ∧ wr.heap[G0]? = some (.cells BH 34 (0, 0))) := ⟨hC, hG0⟩
          clear hC hG0 hI hIe
          by_cases hA : i < zn
          · have hRI := HO.out.2.1
            obtain ⟨_, _, ev, hle, hrow⟩ := hRI
            simp only [Value.slice.injEq] at ev
            obtain ⟨rfl, -, rfl⟩ := ev
            rcases hrow with h | ⟨gz, oz, rfl, hgz, hrow⟩
            · have := HZN.out; rw [h] at this; simp at this; omega
            have hcz : wr.cell? ⟨gz, oz + i, none⟩ = some (.int .i64 (zs.getD i 0)) := (HI.out.1.b.cell (p := ⟨gz, oz + i, none⟩) hgz).trans (hrow i (by rw [HZN.out]; exact hA))
            have hzb : -9223372036854775808 ≤ zs.getD i 0 ∧ zs.getD i 0 ≤ 9223372036854775807 := HO.out.2.2.2.2.2.2 _ (by
              have h1 : i < zs.length := by rw [HZN.out]; exact hA
              rw [List.getD_eq_getElem?_getD, List.getElem?_eq_getElem h1]
              exact List.getElem_mem h1)
            clear hrow hle
            generalize zs.getD i 0 = z at *
            by_cases hz0 : 0 ≤ z
            · obtain ⟨zt, rfl⟩ := Int.eq_ofNat_of_zero_le hz0
              clear hz0
              by_cases hz1 : (zt : Int) < (vn : Int) - (n : Int)
              · have hz2 : n + zt ≤ vn := by omega
                obtain ⟨pv, hsl, hpv⟩ : ∃ pv, (∀ w' : World, (Instr.sliceAt 26 (.slice va vn vc) (some (.int .i64 (n : Int))) (some (.int .i64 ((n : Int) + (zt : Int)))) none).run Tryd.prog w' = .ok pv w') ∧ Fm.RN (fun g => g < R) wr pv ((T.drop n).take (n + zt - n)) := by
                  have hrb := HI.out.1.rb
                  rw [HVN.out] at hrb
                  exact ⟨_, slice_to va vn vc n (n + zt) ((n : Int) + (zt : Int)) (by omega) (by omega) (by omega) HCAP.out.2 HCAP.out.1, RN.cut hrb (by omega) (by have := HVN.out; omega)⟩
                have HPV : Hid (Fm.RN (fun g => g < R) wr pv ((T.drop n).take (n + zt - n))) := hpv
                clear hpv
                go_wp2_with fail
                clear hsl
                refine (Fm.push wr R p s hv pv held ((T.drop n).take (n + zt - n)) HI.out.1.rk HI.out.1.st HI.out.1.ow HI.out.1.nil (HPV.out.move (fun g hg e => by have := (HI.out.1.ow.blk e).1; omega) (fun _ _ _ _ => rfl)) (by rw [List.length_take, List.length_drop]; have := HG.out.2.1; omega)).mono ?_
                rintro e w5 ⟨mv, bsv, er, met, bs, h', r, p', s', held', hv', rfl, po⟩
                obtain ⟨he, hmet, k, hbs, hC5⟩ := HI.out.1.push (tn := n + zt) (by omega) (by have := HVN.out; omega) HMB.out po
                subst he
                obtain ⟨ma, mc, rfl⟩ := po.om.form
                obtain ⟨sa, sc, rfl⟩ := po.ob.form
                have hbl : ∀ b ∈ bs, b.length ≤ 32768 := by
                  intro b hb
                  obtain ⟨q, hq⟩ := List.mem_iff_getElem?.1 hb
                  obtain ⟨y, hy, rfl⟩ := body_at hbs hq
                  exact HMB.out y (List.mem_of_getElem? hy)
                have hml : met.length ≤ 1 ∧ m + met.length ≤ 1 := by
                  have h1 := hC5.met
                  rcases hmet with rfl | ⟨rfl, _⟩
                  · exact ⟨by simp, by simpa using hm1⟩
                  · refine ⟨by simp, ?_⟩
                    rw [h1]; split <;> omega
                have hbsl : bs.length ≤ 1048576 := by
                  rw [hbs]; unfold encs; rw [List.length_map, List.length_take, List.length_drop]
                  have := HN.out; omega
                have HJ : Hid (CI w w5 R true (.slice va vn vc) T ms (n + zt) (m + met.length) (.slice ua ns.length uc) p' s' held' hv' ns k ∧ w5.heap[G0]? = some (.cells BH 34 (0, 0)) ∧ Fm.OR wr.heap.size w5 (.slice sa bs.length sc) bs ∧ Fm.OM wr.heap.size w5 (.slice ma met.length mc) met ∧ (met = [] ∨ (met = [h48] ∧ ns = [])) ∧ bs = encs ((ms.drop ns.length).take (k - ns.length)) ∧ R < wr.heap.size) := by
                  refine ⟨hC5, (po.fr.block G0 (Array.getElem?_eq_some_iff.1 HI.out.2).1 ⟨by have := HG.out.1; omega, fun e => by have h1 := (HI.out.1.ow.blk e).1; have h2 := HG.out.1; omega⟩).trans HI.out.2, OR.of_ob (po.ob.weak (Nat.le_refl _) (fun _ x => x.1)) hbl, po.om, hmet, hbs, HI.out.1.rk.lt⟩
                clear hmet hbs hC5 hbl po HI HPV
                generalize hmtl : met.length = mtl at *
                have HMT : Hid (met.length = mtl) := hmtl
                clear hmtl
                generalize hbll : bs.length = bll at *
                have HBL : Hid (bs.length = bll) := hbll
                clear hbll
                go_wp2_with (first | (go_at_call 8; refine (numLT _ _).mono ?_; rintro e w9 ⟨rfl, rfl⟩))
                go_loopw [14, 21] (fun mz kz wq => ∃ k2 : Nat, k2 ≤ mtl ∧ mz = .int .i64 (m + k2 : Nat) ∧ kz = .int .i64 k2 ∧ Hid (∃ nq, wq = w5.drewN nq)) (fun _ kz _ => mtl - (intOf kz).toNat)
                case atStart => exact ⟨0, by omega, rfl, rfl, ⟨0, rfl⟩⟩
                case round =>
                  obtain ⟨k2, hk2, rfl, rfl, hW⟩ := hrel
                  obtain ⟨nq, rfl⟩ := hW.out
                  clear hW
                  by_cases hkt : k2 < mtl
                  · obtain ⟨hh, hhh⟩ : ∃ hh, hh = h48 := ⟨_, rfl⟩
                    obtain ⟨hmt, hns⟩ : met = [hh] ∧ ns.length = 0 := by
                      rw [hhh]
                      rcases HJ.out.2.2.2.2.1 with h | h
                      · have := HMT.out; rw [h] at this; simp at this; omega
                      · exact ⟨h.1, by rw [h.2]; rfl⟩
                    have hk0 : k2 = 0 := by omega
                    subst hk0
                    have hmt1 : mtl = 1 := by rw [← HMT.out, hmt]; rfl
                    subst hmt1
                    have hom := HJ.out.2.2.2.1
                    rw [hmt] at hom
                    obtain ⟨gm, cm, em, hl48, _, rgm⟩ := hom.one
                    simp only [Value.slice.injEq, true_and] at em
                    obtain ⟨rfl, rfl⟩ := em
                    have RGM : Hid (∀ n, ((w5.drewN nq).drewN n).rangeAt gm 0 (Lib.byteCells hh)) := fun n => rgm
                    have RGH : Hid (∀ n, ((w5.drewN nq).drewN n).rangeAt G0 0 (Lib.byteCells hh)) := fun n => by
                      have h9 := HJ.out.2.1
                      rw [HBH.out, ← hhh] at h9
                      exact rangeOf (w := w5) (cs := Lib.byteCells hh) h9
                    have HL48 : Hid (hh.length = 48) := hl48
                    have hgd : Tryd.prog.eqGuardType Tryd.prog.depth 34 = false := by kernel_rfl
                    have heq := fun u => Fm.neq_hello u hh hl48
                    clear rgm hom hl48 hmt hhh
                    rw [hns]
                    go_wp2
                    refine wp_region_quiet_lit (by kernel_rfl) (by kernel_rfl) ?_
                    quiet_step (fail)
                    quiet_step (fail)
                    quiet_step (fail)
                    refine Fm.wpQuiet_load rfl _ rfl gm 0 rfl hh (fun w' hw' => by obtain ⟨m, rfl⟩ := hw'; exact RGM.out _) HL48.out ?_
                    refine Fm.wpQuiet_load rfl _ rfl G0 0 rfl hh (fun w' hw' => by obtain ⟨m, rfl⟩ := hw'; exact RGH.out _) HL48.out ?_
                    quiet_step (fail)
                    quiet_step (fail)
                    quiet_step (fail)
                    quiet_step (fail)
                    quiet_step (fail)
                    quiet_step (fail)
                    refine wpQuiet_nil ?_
                    intro _ hw'
                    obtain ⟨nz, hw''⟩ := hw'
                    subst hw''
                    clear hgd heq RGM RGH HL48
                    go_wp2
                    exact ⟨⟨1, by omega, by go_num, by go_num, ⟨nq + nz, rfl⟩⟩, by simp [intOf]⟩
                  · have hk3 : k2 = mtl := by omega
                    subst hk3
                    have HQ : Hid (CI w (w5.drewN nq) R true (.slice va vn vc) T ms (n + zt) (m + k2) (.slice ua ns.length uc) p' s' held' hv' ns k ∧ (w5.drewN nq).heap[G0]? = some (.cells BH 34 (0, 0)) ∧ Fm.OR wr.heap.size (w5.drewN nq) (.slice sa bll sc) bs ∧ bs = encs ((ms.drop ns.length).take (k - ns.length)) ∧ R < wr.heap.size) := ⟨HJ.out.1.below (belowDrew _ _), HJ.out.2.1, OR.grow HJ.out.2.2.1 (belowDrew _ _), HJ.out.2.2.2.2.2.1, HJ.out.2.2.2.2.2.2⟩
                    clear HJ HMT
                    have hmk1 : m + k2 ≤ 1 := hml.2
                    clear hml
                    generalize m + k2 = mk at *
                    generalize w5.drewN nq = w6 at *
                    generalize wr.heap.size = B1 at *
                    generalize hnsl2 : ns.length = nsl at *
                    have HNS : Hid (ns.length = nsl) := hnsl2
                    clear hnsl2
                    have HBS : Hid (bs = encs ((ms.drop nsl).take (k - nsl)) ∧ R < B1) := HQ.out.2.2.2
                    have HQ1 : Hid (∃ ns2, CI w w6 R true (.slice va vn vc) T ms (n + zt) mk (.slice ua nsl uc) p' s' held' hv' ns2 k ∧ ns2.length = nsl + 0 ∧ w6.heap[G0]? = some (.cells BH 34 (0, 0)) ∧ Fm.OR B1 w6 (.slice sa bll sc) bs) := ⟨ns, HQ.out.1, HNS.out, HQ.out.2.1, HQ.out.2.2.1⟩
                    clear HQ
                    go_wp2
                    go_loopw [13, 22] (fun u kz wb => ∃ q : Nat, q ≤ bll ∧ kz = .int .i64 q ∧ Hid (∃ ns2, CI w wb R true (.slice va vn vc) T ms (n + zt) mk u p' s' held' hv' ns2 k ∧ ns2.length = nsl + q ∧ wb.heap[G0]? = some (.cells BH 34 (0, 0)) ∧ Fm.OR B1 wb (.slice sa bll sc) bs)) (fun _ kz _ => bll - (intOf kz).toNat)
                    case atStart => exact ⟨0, by omega, rfl, HQ1.out⟩
                    case round =>
                      clear HQ1
                      obtain ⟨q, hq, rfl, hQ⟩ := hrel
                      obtain ⟨ns2, hC, hn2, hG2, hOR⟩ := hQ.out
                      by_cases hql : q < bll
                      · have hl2 : q < bs.length := by rw [HBL.out]; exact hql
                        have hx : bs[q]? = some bs[q] := List.getElem?_eq_getElem hl2
                        generalize bs[q] = b at hx
                        obtain ⟨y, hy, hby⟩ := body_at HBS.out.1 hx
                        have hbl : b.length ≤ 32768 := by rw [hby]; exact HMB.out y (List.mem_of_getElem? hy)
                        have hde : decE b = 0 := encs_good (w := w) (fun z hz => HO.out.1.mem z hz) HWE.out b (by rw [hby]; exact List.mem_map.2 ⟨y, List.mem_of_getElem? hy, rfl⟩)
                        obtain ⟨a', c', e', _, hR⟩ := hOR.rbs
                        simp only [Value.slice.injEq] at e'
                        obtain ⟨rfl, -, rfl⟩ := e'
                        rcases hR with h | ⟨g, o, rfl, hg, hR⟩
                        · rw [h] at hl2; simp at hl2
                        obtain ⟨bu, hcu, hbu⟩ := hR q hl2
                        have hgd : bs.getD q [] = b := by rw [List.getD_eq_getElem?_getD, hx]; rfl
                        rw [hgd] at hbu
                        obtain ⟨ba, bc', rfl, _⟩ := id hbu
                        obtain ⟨xa, xc, rfl⟩ := hC.o.form
                        have hkk : ns2.length + 1 ≤ k := by
                          have h1 := HBL.out
                          rw [HBS.out.1] at h1
                          unfold encs at h1
                          rw [List.length_map, List.length_take] at h1
                          omega
                        have HU : Hid (CI w wr R true (.slice va vn vc) T ms (n + zt) mk (.slice xa ns2.length xc) p' s' held' hv' ns2 k ∧ RB wr (.slice ba b.length bc') b ∧ ns2.length = nsl + q ∧ wr.heap[G0]? = some (.cells BH 34 (0, 0)) ∧ Fm.OR B1 wr (.slice (some ⟨g, o, none⟩) bll sc) bs ∧ encs (ms.take (ns2.length + 1)) = encs (ms.take ns2.length) ++ [b] ∧ ns2.length + 1 ≤ k ∧ ns2.length < 1073741824 ∧ KT wr ∧ decE b = 0) := by
                          refine ⟨hC, hbu, hn2, hG2, hOR, ?_, hkk, ?_, HO.out.2.2.2.1.below hC.b HO.out.2.2.2.1.pos, hde⟩
                          · rw [hby]; exact encs_take (by rw [hn2]; exact hy)
                          · have h1 := hC.kl; have h2 := HN.out; omega
                        clear hC hOR hQ hG2 hbu hx hgd hR hy hby hde hkk hn2
                        go_wp2_with fail
                        refine (decodeT wr _ b (by omega) HU.out.2.1 HU.out.2.2.2.2.2.2.2.2.1).mono ?_
                        rintro e w7 ⟨d1, h1, rfl, q1, q2, q3⟩
                        have hRw : R + 1 ≤ wr.heap.size := HU.out.1.rk.lt
                        have M1 : OMg (R + 1) w7 (mgOf b d1 h1) := OMg.of_dec hRw q1 q2
                        have hap : ∀ g, hv'.ownBlock = some g → d1.ownBlock ≠ some g := fun g e1 e2 => by
                          have a1 := (HU.out.1.ow.blk e1).2.1
                          have a2 := (q1.blk e2).1
                          omega
                        have e1 : ({ (decS b).m with d := d1, h := h1 } : Mv) = (mgOf b d1 h1).m := rfl
                        rw [e1, HU.out.2.2.2.2.2.2.2.2.2]
                        obtain ⟨mm, hmm⟩ : ∃ mm, mm = mgOf b d1 h1 := ⟨_, rfl⟩
                        rw [← hmm] at M1 ⊢
                        have HMM : Hid ((∀ g, hv'.ownBlock = some g → mm.m.d.ownBlock ≠ some g) ∧ MsOf (ns2 ++ [mm]) (encs (ms.take (ns2.length + 1)))) := by
                          rw [hmm, HU.out.2.2.2.2.2.1]
                          exact ⟨hap, HU.out.1.mo.snoc b d1 h1⟩
                        clear hmm hap e1
                        have hz2 := heapNew w7 (.cells z40 47)
                        have hi1 := info_msg M1.ok
                        have ho1 := M1.ok.one
                        have hs1 : z40.size = mm.m.cs.size := M1.ok.size.symm
                        have hc := heapSetRow _ _ _ mm.m.cs _ hz2
                        have hsz40 : mm.m.cs.size = 40 := M1.ok.size
                        have bX : Below w7.heap.size w7 ((w7.alloc (.cells z40 47)).setRow w7.heap.size mm.m.cs) := belowSetRow ((Below.refl _ _).alloc (Nat.le_refl _) _) (Nat.le_refl _) _
                        have b9 : Below wr.heap.size wr ((w7.alloc (.cells z40 47)).setRow w7.heap.size mm.m.cs) := q3.trans (bX.mono q3.size)
                        have bZ : Below ((w7.alloc (.cells z40 47)).setRow w7.heap.size mm.m.cs).heap.size ((w7.alloc (.cells z40 47)).setRow w7.heap.size mm.m.cs) (((w7.alloc (.cells z40 47)).setRow w7.heap.size mm.m.cs).alloc (.cells mm.m.cs 47)) := (Below.refl _ _).alloc (Nat.le_refl _) _
                        have bT : Below wr.heap.size wr (((w7.alloc (.cells z40 47)).setRow w7.heap.size mm.m.cs).alloc (.cells mm.m.cs 47)) := b9.trans (bZ.mono b9.size)
                        have HV : Hid (CI w (((w7.alloc (.cells z40 47)).setRow w7.heap.size mm.m.cs).alloc (.cells mm.m.cs 47)) R true (.slice va vn vc) T ms (n + zt) mk (.slice xa ns2.length xc) p' s' held' hv' ns2 k ∧ OMg (R + 1) (((w7.alloc (.cells z40 47)).setRow w7.heap.size mm.m.cs).alloc (.cells mm.m.cs 47)) mm ∧ (((w7.alloc (.cells z40 47)).setRow w7.heap.size mm.m.cs).alloc (.cells mm.m.cs 47)).heap[((w7.alloc (.cells z40 47)).setRow w7.heap.size mm.m.cs).heap.size]? = some (.cells mm.m.cs 47 (0, 0)) ∧ (((w7.alloc (.cells z40 47)).setRow w7.heap.size mm.m.cs).alloc (.cells mm.m.cs 47)).heap[G0]? = some (.cells BH 34 (0, 0)) ∧ Fm.OR B1 (((w7.alloc (.cells z40 47)).setRow w7.heap.size mm.m.cs).alloc (.cells mm.m.cs 47)) (.slice (some ⟨g, o, none⟩) bll sc) bs ∧ R + 1 ≤ (((w7.alloc (.cells z40 47)).setRow w7.heap.size mm.m.cs).alloc (.cells mm.m.cs 47)).heap.size) := ⟨HU.out.1.below bT, (M1.grow bX).grow bZ, heapNew _ _, (bT.block G0 (Array.getElem?_eq_some_iff.1 HU.out.2.2.2.1).1).trans HU.out.2.2.2.1, OR.grow HU.out.2.2.2.2.1 bT, Nat.le_trans hRw bT.size⟩
                        clear q1 q2 q3 bX b9 bZ bT M1 hRw
                        go_wp2_with (first | (refine wpList_store_row rfl 47 _ _ rfl w7.heap.size mm.m.cs rfl rfl 47 z40 hz2 hi1 hs1 ho1 ?_) | (refine wpList_load_row rfl 47 _ rfl w7.heap.size rfl 47 mm.m.cs (0, 0) _ hc Tryd.underlying47 rfl hi1 ?_) | (refine build_msg rfl _ rfl mm.m.cs rfl hsz40 ?_) | (at_builtin; refine append_msg rfl _ _ rfl rfl HV.out.1.o ((w7.alloc (.cells z40 47)).setRow w7.heap.size mm.m.cs).heap.size mm rfl HV.out.2.2.1 HV.out.2.1 HV.out.2.2.2.2.2 HU.out.2.2.2.2.2.2.2.1 ?_; intro v8 w8 o8 b8' r8) | (go_at_call 8; refine (numLT _ _).mono ?_; rintro e w9 ⟨rfl, rfl⟩))
                        refine ⟨⟨q + 1, by omega, by go_num, ⟨ns2 ++ [mm], HV.out.1.app o8 b8' r8 HMM.out.1 HMM.out.2 HU.out.2.2.2.2.2.2.1, by rw [List.length_append, HU.out.2.2.1]; rfl, r8 _ _ _ HV.out.2.2.2.1 (by decide), OR.rows HV.out.2.2.2.2.1 r8⟩⟩, by simp [intOf]; omega⟩
                      · have hq2 : q = bll := by omega
                        subst hq2
                        have HF : Hid (∃ p s held hv ns3, CI w wr R true (.slice va vn vc) T ms (n + zt) mk u13 p s held hv ns3 ns3.length ∧ wr.heap[G0]? = some (.cells BH 34 (0, 0))) := by
                          refine ⟨p', s', held', hv', ns2, ?_, hG2⟩
                          have h1 := HBL.out
                          rw [HBS.out.1] at h1
                          unfold encs at h1
                          rw [List.length_map, List.length_take, List.length_drop] at h1
                          have h3 := hC.kl
                          have h4 := hC.nk
                          have hk : ns2.length = k := by omega
                          rw [hk]
                          exact hC
                        clear hC hG2 hOR hQ
                        go_wp2
                        exact ⟨⟨i + 1, n + zt, mk, by omega, by omega, by omega, by go_num, by go_num, by go_num, HF.out, fun h => by omega⟩, by first | (simp [intOf]; done) | (simp [intOf]; omega)⟩
              · have hz2 : ¬ ((zt : Int) < (vn : Int) - (n : Int)) := hz1
                obtain ⟨pv, hsl, hpv⟩ : ∃ pv, (∀ w' : World, (Instr.sliceAt 26 (.slice va vn vc) (some (.int .i64 (n : Int))) (some (.int .i64 (vn : Int))) none).run Tryd.prog w' = .ok pv w') ∧ Fm.RN (fun g => g < R) wr pv ((T.drop n).take (vn - n)) := by
                  have hrb := HI.out.1.rb
                  rw [HVN.out] at hrb
                  exact ⟨_, slice_to va vn vc n (vn) (vn : Int) (by omega) (by omega) (by omega) HCAP.out.2 HCAP.out.1, RN.cut hrb (by omega) (by have := HVN.out; omega)⟩
                have HPV : Hid (Fm.RN (fun g => g < R) wr pv ((T.drop n).take (vn - n))) := hpv
                clear hpv
                go_wp2_with fail
                clear hsl
                refine (Fm.push wr R p s hv pv held ((T.drop n).take (vn - n)) HI.out.1.rk HI.out.1.st HI.out.1.ow HI.out.1.nil (HPV.out.move (fun g hg e => by have := (HI.out.1.ow.blk e).1; omega) (fun _ _ _ _ => rfl)) (by rw [List.length_take, List.length_drop]; have := HG.out.2.1; omega)).mono ?_
                rintro e w5 ⟨mv, bsv, er, met, bs, h', r, p', s', held', hv', rfl, po⟩
                obtain ⟨he, hmet, k, hbs, hC5⟩ := HI.out.1.push (tn := vn) (by omega) (by have := HVN.out; omega) HMB.out po
                subst he
                obtain ⟨ma, mc, rfl⟩ := po.om.form
                obtain ⟨sa, sc, rfl⟩ := po.ob.form
                have hbl : ∀ b ∈ bs, b.length ≤ 32768 := by
                  intro b hb
                  obtain ⟨q, hq⟩ := List.mem_iff_getElem?.1 hb
                  obtain ⟨y, hy, rfl⟩ := body_at hbs hq
                  exact HMB.out y (List.mem_of_getElem? hy)
                have hml : met.length ≤ 1 ∧ m + met.length ≤ 1 := by
                  have h1 := hC5.met
                  rcases hmet with rfl | ⟨rfl, _⟩
                  · exact ⟨by simp, by simpa using hm1⟩
                  · refine ⟨by simp, ?_⟩
                    rw [h1]; split <;> omega
                have hbsl : bs.length ≤ 1048576 := by
                  rw [hbs]; unfold encs; rw [List.length_map, List.length_take, List.length_drop]
                  have := HN.out; omega
                have HJ : Hid (CI w w5 R true (.slice va vn vc) T ms (vn) (m + met.length) (.slice ua ns.length uc) p' s' held' hv' ns k ∧ w5.heap[G0]? = some (.cells BH 34 (0, 0)) ∧ Fm.OR wr.heap.size w5 (.slice sa bs.length sc) bs ∧ Fm.OM wr.heap.size w5 (.slice ma met.length mc) met ∧ (met = [] ∨ (met = [h48] ∧ ns = [])) ∧ bs = encs ((ms.drop ns.length).take (k - ns.length)) ∧ R < wr.heap.size) := by
                  refine ⟨hC5, (po.fr.block G0 (Array.getElem?_eq_some_iff.1 HI.out.2).1 ⟨by have := HG.out.1; omega, fun e => by have h1 := (HI.out.1.ow.blk e).1; have h2 := HG.out.1; omega⟩).trans HI.out.2, OR.of_ob (po.ob.weak (Nat.le_refl _) (fun _ x => x.1)) hbl, po.om, hmet, hbs, HI.out.1.rk.lt⟩
                clear hmet hbs hC5 hbl po HI HPV
                generalize hmtl : met.length = mtl at *
                have HMT : Hid (met.length = mtl) := hmtl
                clear hmtl
                generalize hbll : bs.length = bll at *
                have HBL : Hid (bs.length = bll) := hbll
                clear hbll
                go_wp2_with (first | (go_at_call 8; refine (numLT _ _).mono ?_; rintro e w9 ⟨rfl, rfl⟩))
                go_loopw [14, 21] (fun mz kz wq => ∃ k2 : Nat, k2 ≤ mtl ∧ mz = .int .i64 (m + k2 : Nat) ∧ kz = .int .i64 k2 ∧ Hid (∃ nq, wq = w5.drewN nq)) (fun _ kz _ => mtl - (intOf kz).toNat)
                case atStart => exact ⟨0, by omega, rfl, rfl, ⟨0, rfl⟩⟩
                case round =>
                  obtain ⟨k2, hk2, rfl, rfl, hW⟩ := hrel
                  obtain ⟨nq, rfl⟩ := hW.out
                  clear hW
                  by_cases hkt : k2 < mtl
                  · obtain ⟨hh, hhh⟩ : ∃ hh, hh = h48 := ⟨_, rfl⟩
                    obtain ⟨hmt, hns⟩ : met = [hh] ∧ ns.length = 0 := by
                      rw [hhh]
                      rcases HJ.out.2.2.2.2.1 with h | h
                      · have := HMT.out; rw [h] at this; simp at this; omega
                      · exact ⟨h.1, by rw [h.2]; rfl⟩
                    have hk0 : k2 = 0 := by omega
                    subst hk0
                    have hmt1 : mtl = 1 := by rw [← HMT.out, hmt]; rfl
                    subst hmt1
                    have hom := HJ.out.2.2.2.1
                    rw [hmt] at hom
                    obtain ⟨gm, cm, em, hl48, _, rgm⟩ := hom.one
                    simp only [Value.slice.injEq, true_and] at em
                    obtain ⟨rfl, rfl⟩ := em
                    have RGM : Hid (∀ n, ((w5.drewN nq).drewN n).rangeAt gm 0 (Lib.byteCells hh)) := fun n => rgm
                    have RGH : Hid (∀ n, ((w5.drewN nq).drewN n).rangeAt G0 0 (Lib.byteCells hh)) := fun n => by
                      have h9 := HJ.out.2.1
                      rw [HBH.out, ← hhh] at h9
                      exact rangeOf (w := w5) (cs := Lib.byteCells hh) h9
                    have HL48 : Hid (hh.length = 48) := hl48
                    have hgd : Tryd.prog.eqGuardType Tryd.prog.depth 34 = false := by kernel_rfl
                    have heq := fun u => Fm.neq_hello u hh hl48
                    clear rgm hom hl48 hmt hhh
                    rw [hns]
                    go_wp2
                    refine wp_region_quiet_lit (by kernel_rfl) (by kernel_rfl) ?_
                    quiet_step (fail)
                    quiet_step (fail)
                    quiet_step (fail)
                    refine Fm.wpQuiet_load rfl _ rfl gm 0 rfl hh (fun w' hw' => by obtain ⟨m, rfl⟩ := hw'; exact RGM.out _) HL48.out ?_
                    refine Fm.wpQuiet_load rfl _ rfl G0 0 rfl hh (fun w' hw' => by obtain ⟨m, rfl⟩ := hw'; exact RGH.out _) HL48.out ?_
                    quiet_step (fail)
                    quiet_step (fail)
                    quiet_step (fail)
                    quiet_step (fail)
                    quiet_step (fail)
                    quiet_step (fail)
                    refine wpQuiet_nil ?_
                    intro _ hw'
                    obtain ⟨nz, hw''⟩ := hw'
                    subst hw''
                    clear hgd heq RGM RGH HL48
                    go_wp2
                    exact ⟨⟨1, by omega, by go_num, by go_num, ⟨nq + nz, rfl⟩⟩, by simp [intOf]⟩
                  · have hk3 : k2 = mtl := by omega
                    subst hk3
                    have HQ : Hid (CI w (w5.drewN nq) R true (.slice va vn vc) T ms (vn) (m + k2) (.slice ua ns.length uc) p' s' held' hv' ns k ∧ (w5.drewN nq).heap[G0]? = some (.cells BH 34 (0, 0)) ∧ Fm.OR wr.heap.size (w5.drewN nq) (.slice sa bll sc) bs ∧ bs = encs ((ms.drop ns.length).take (k - ns.length)) ∧ R < wr.heap.size) := ⟨HJ.out.1.below (belowDrew _ _), HJ.out.2.1, OR.grow HJ.out.2.2.1 (belowDrew _ _), HJ.out.2.2.2.2.2.1, HJ.out.2.2.2.2.2.2⟩
                    clear HJ HMT
                    have hmk1 : m + k2 ≤ 1 := hml.2
                    clear hml
                    generalize m + k2 = mk at *
                    generalize w5.drewN nq = w6 at *
                    generalize wr.heap.size = B1 at *
                    generalize hnsl2 : ns.length = nsl at *
                    have HNS : Hid (ns.length = nsl) := hnsl2
                    clear hnsl2
                    have HBS : Hid (bs = encs ((ms.drop nsl).take (k - nsl)) ∧ R < B1) := HQ.out.2.2.2
                    have HQ1 : Hid (∃ ns2, CI w w6 R true (.slice va vn vc) T ms (vn) mk (.slice ua nsl uc) p' s' held' hv' ns2 k ∧ ns2.length = nsl + 0 ∧ w6.heap[G0]? = some (.cells BH 34 (0, 0)) ∧ Fm.OR B1 w6 (.slice sa bll sc) bs) := ⟨ns, HQ.out.1, HNS.out, HQ.out.2.1, HQ.out.2.2.1⟩
                    clear HQ
                    go_wp2
                    go_loopw [13, 22] (fun u kz wb => ∃ q : Nat, q ≤ bll ∧ kz = .int .i64 q ∧ Hid (∃ ns2, CI w wb R true (.slice va vn vc) T ms (vn) mk u p' s' held' hv' ns2 k ∧ ns2.length = nsl + q ∧ wb.heap[G0]? = some (.cells BH 34 (0, 0)) ∧ Fm.OR B1 wb (.slice sa bll sc) bs)) (fun _ kz _ => bll - (intOf kz).toNat)
                    case atStart => exact ⟨0, by omega, rfl, HQ1.out⟩
                    case round =>
                      clear HQ1
                      obtain ⟨q, hq, rfl, hQ⟩ := hrel
                      obtain ⟨ns2, hC, hn2, hG2, hOR⟩ := hQ.out
                      by_cases hql : q < bll
                      · have hl2 : q < bs.length := by rw [HBL.out]; exact hql
                        have hx : bs[q]? = some bs[q] := List.getElem?_eq_getElem hl2
                        generalize bs[q] = b at hx
                        obtain ⟨y, hy, hby⟩ := body_at HBS.out.1 hx
                        have hbl : b.length ≤ 32768 := by rw [hby]; exact HMB.out y (List.mem_of_getElem? hy)
                        have hde : decE b = 0 := encs_good (w := w) (fun z hz => HO.out.1.mem z hz) HWE.out b (by rw [hby]; exact List.mem_map.2 ⟨y, List.mem_of_getElem? hy, rfl⟩)
                        obtain ⟨a', c', e', _, hR⟩ := hOR.rbs
                        simp only [Value.slice.injEq] at e'
                        obtain ⟨rfl, -, rfl⟩ := e'
                        rcases hR with h | ⟨g, o, rfl, hg, hR⟩
                        · rw [h] at hl2; simp at hl2
                        obtain ⟨bu, hcu, hbu⟩ := hR q hl2
                        have hgd : bs.getD q [] = b := by rw [List.getD_eq_getElem?_getD, hx]; rfl
                        rw [hgd] at hbu
                        obtain ⟨ba, bc', rfl, _⟩ := id hbu
                        obtain ⟨xa, xc, rfl⟩ := hC.o.form
                        have hkk : ns2.length + 1 ≤ k := by
                          have h1 := HBL.out
                          rw [HBS.out.1] at h1
                          unfold encs at h1
                          rw [List.length_map, List.length_take] at h1
                          omega
                        have HU : Hid (CI w wr R true (.slice va vn vc) T ms (vn) mk (.slice xa ns2.length xc) p' s' held' hv' ns2 k ∧ RB wr (.slice ba b.length bc') b ∧ ns2.length = nsl + q ∧ wr.heap[G0]? = some (.cells BH 34 (0, 0)) ∧ Fm.OR B1 wr (.slice (some ⟨g, o, none⟩) bll sc) bs ∧ encs (ms.take (ns2.length + 1)) = encs (ms.take ns2.length) ++ [b] ∧ ns2.length + 1 ≤ k ∧ ns2.length < 1073741824 ∧ KT wr ∧ decE b = 0) := by
                          refine ⟨hC, hbu, hn2, hG2, hOR, ?_, hkk, ?_, HO.out.2.2.2.1.below hC.b HO.out.2.2.2.1.pos, hde⟩
                          · rw [hby]; exact encs_take (by rw [hn2]; exact hy)
                          · have h1 := hC.kl; have h2 := HN.out; omega
                        clear hC hOR hQ hG2 hbu hx hgd hR hy hby hde hkk hn2
                        go_wp2_with fail
                        refine (decodeT wr _ b (by omega) HU.out.2.1 HU.out.2.2.2.2.2.2.2.2.1).mono ?_
                        rintro e w7 ⟨d1, h1, rfl, q1, q2, q3⟩
                        have hRw : R + 1 ≤ wr.heap.size := HU.out.1.rk.lt
                        have M1 : OMg (R + 1) w7 (mgOf b d1 h1) := OMg.of_dec hRw q1 q2
                        have hap : ∀ g, hv'.ownBlock = some g → d1.ownBlock ≠ some g := fun g e1 e2 => by
                          have a1 := (HU.out.1.ow.blk e1).2.1
                          have a2 := (q1.blk e2).1
                          omega
                        have e1 : ({ (decS b).m with d := d1, h := h1 } : Mv) = (mgOf b d1 h1).m := rfl
                        rw [e1, HU.out.2.2.2.2.2.2.2.2.2]
                        obtain ⟨mm, hmm⟩ : ∃ mm, mm = mgOf b d1 h1 := ⟨_, rfl⟩
                        rw [← hmm] at M1 ⊢
                        have HMM : Hid ((∀ g, hv'.ownBlock = some g → mm.m.d.ownBlock ≠ some g) ∧ MsOf (ns2 ++ [mm]) (encs (ms.take (ns2.length + 1)))) := by
                          rw [hmm, HU.out.2.2.2.2.2.1]
                          exact ⟨hap, HU.out.1.mo.snoc b d1 h1⟩
                        clear hmm hap e1
                        have hz2 := heapNew w7 (.cells z40 47)
                        have hi1 := info_msg M1.ok
                        have ho1 := M1.ok.one
                        have hs1 : z40.size = mm.m.cs.size := M1.ok.size.symm
                        have hc := heapSetRow _ _ _ mm.m.cs _ hz2
                        have hsz40 : mm.m.cs.size = 40 := M1.ok.size
                        have bX : Below w7.heap.size w7 ((w7.alloc (.cells z40 47)).setRow w7.heap.size mm.m.cs) := belowSetRow ((Below.refl _ _).alloc (Nat.le_refl _) _) (Nat.le_refl _) _
                        have b9 : Below wr.heap.size wr ((w7.alloc (.cells z40 47)).setRow w7.heap.size mm.m.cs) := q3.trans (bX.mono q3.size)
                        have bZ : Below ((w7.alloc (.cells z40 47)).setRow w7.heap.size mm.m.cs).heap.size ((w7.alloc (.cells z40 47)).setRow w7.heap.size mm.m.cs) (((w7.alloc (.cells z40 47)).setRow w7.heap.size mm.m.cs).alloc (.cells mm.m.cs 47)) := (Below.refl _ _).alloc (Nat.le_refl _) _
                        have bT : Below wr.heap.size wr (((w7.alloc (.cells z40 47)).setRow w7.heap.size mm.m.cs).alloc (.cells mm.m.cs 47)) := b9.trans (bZ.mono b9.size)
                        have HV : Hid (CI w (((w7.alloc (.cells z40 47)).setRow w7.heap.size mm.m.cs).alloc (.cells mm.m.cs 47)) R true (.slice va vn vc) T ms (vn) mk (.slice xa ns2.length xc) p' s' held' hv' ns2 k ∧ OMg (R + 1) (((w7.alloc (.cells z40 47)).setRow w7.heap.size mm.m.cs).alloc (.cells mm.m.cs 47)) mm ∧ (((w7.alloc (.cells z40 47)).setRow w7.heap.size mm.m.cs).alloc (.cells mm.m.cs 47)).heap[((w7.alloc (.cells z40 47)).setRow w7.heap.size mm.m.cs).heap.size]? = some (.cells mm.m.cs 47 (0, 0)) ∧ (((w7.alloc (.cells z40 47)).setRow w7.heap.size mm.m.cs).alloc (.cells mm.m.cs 47)).heap[G0]? = some (.cells BH 34 (0, 0)) ∧ Fm.OR B1 (((w7.alloc (.cells z40 47)).setRow w7.heap.size mm.m.cs).alloc (.cells mm.m.cs 47)) (.slice (some ⟨g, o, none⟩) bll sc) bs ∧ R + 1 ≤ (((w7.alloc (.cells z40 47)).setRow w7.heap.size mm.m.cs).alloc (.cells mm.m.cs 47)).heap.size) := ⟨HU.out.1.below bT, (M1.grow bX).grow bZ, heapNew _ _, (bT.block G0 (Array.getElem?_eq_some_iff.1 HU.out.2.2.2.1).1).trans HU.out.2.2.2.1, OR.grow HU.out.2.2.2.2.1 bT, Nat.le_trans hRw bT.size⟩
                        clear q1 q2 q3 bX b9 bZ bT M1 hRw
                        go_wp2_with (first | (refine wpList_store_row rfl 47 _ _ rfl w7.heap.size mm.m.cs rfl rfl 47 z40 hz2 hi1 hs1 ho1 ?_) | (refine wpList_load_row rfl 47 _ rfl w7.heap.size rfl 47 mm.m.cs (0, 0) _ hc Tryd.underlying47 rfl hi1 ?_) | (refine build_msg rfl _ rfl mm.m.cs rfl hsz40 ?_) | (at_builtin; refine append_msg rfl _ _ rfl rfl HV.out.1.o ((w7.alloc (.cells z40 47)).setRow w7.heap.size mm.m.cs).heap.size mm rfl HV.out.2.2.1 HV.out.2.1 HV.out.2.2.2.2.2 HU.out.2.2.2.2.2.2.2.1 ?_; intro v8 w8 o8 b8' r8) | (go_at_call 8; refine (numLT _ _).mono ?_; rintro e w9 ⟨rfl, rfl⟩))
                        refine ⟨⟨q + 1, by omega, by go_num, ⟨ns2 ++ [mm], HV.out.1.app o8 b8' r8 HMM.out.1 HMM.out.2 HU.out.2.2.2.2.2.2.1, by rw [List.length_append, HU.out.2.2.1]; rfl, r8 _ _ _ HV.out.2.2.2.1 (by decide), OR.rows HV.out.2.2.2.2.1 r8⟩⟩, by simp [intOf]; omega⟩
                      · have hq2 : q = bll := by omega
                        subst hq2
                        have HF : Hid (∃ p s held hv ns3, CI w wr R true (.slice va vn vc) T ms (vn) mk u13 p s held hv ns3 ns3.length ∧ wr.heap[G0]? = some (.cells BH 34 (0, 0))) := by
                          refine ⟨p', s', held', hv', ns2, ?_, hG2⟩
                          have h1 := HBL.out
                          rw [HBS.out.1] at h1
                          unfold encs at h1
                          rw [List.length_map, List.length_take, List.length_drop] at h1
                          have h3 := hC.kl
                          have h4 := hC.nk
                          have hk : ns2.length = k := by omega
                          rw [hk]
                          exact hC
                        clear hC hG2 hOR hQ
                        go_wp2
                        exact ⟨⟨i + 1, vn, mk, by omega, by omega, by omega, by go_num, by go_num, by go_num, HF.out, fun h => by omega⟩, by first | (simp [intOf]; done) | (simp [intOf]; omega)⟩
            · have hz2 : ¬ (0 ≤ z) := hz0
              obtain ⟨pv, hsl, hpv⟩ : ∃ pv, (∀ w' : World, (Instr.sliceAt 26 (.slice va vn vc) (some (.int .i64 (n : Int))) (some (.int .i64 (vn : Int))) none).run Tryd.prog w' = .ok pv w') ∧ Fm.RN (fun g => g < R) wr pv ((T.drop n).take (vn - n)) := by
                have hrb := HI.out.1.rb
                rw [HVN.out] at hrb
                exact ⟨_, slice_to va vn vc n (vn) (vn : Int) (by omega) (by omega) (by omega) HCAP.out.2 HCAP.out.1, RN.cut hrb (by omega) (by have := HVN.out; omega)⟩
              have HPV : Hid (Fm.RN (fun g => g < R) wr pv ((T.drop n).take (vn - n))) := hpv
              clear hpv
              go_wp2_with fail
              clear hsl
              refine (Fm.push wr R p s hv pv held ((T.drop n).take (vn - n)) HI.out.1.rk HI.out.1.st HI.out.1.ow HI.out.1.nil (HPV.out.move (fun g hg e => by have := (HI.out.1.ow.blk e).1; omega) (fun _ _ _ _ => rfl)) (by rw [List.length_take, List.length_drop]; have := HG.out.2.1; omega)).mono ?_
              rintro e w5 ⟨mv, bsv, er, met, bs, h', r, p', s', held', hv', rfl, po⟩
              obtain ⟨he, hmet, k, hbs, hC5⟩ := HI.out.1.push (tn := vn) (by omega) (by have := HVN.out; omega) HMB.out po
              subst he
              obtain ⟨ma, mc, rfl⟩ := po.om.form
              obtain ⟨sa, sc, rfl⟩ := po.ob.form
              have hbl : ∀ b ∈ bs, b.length ≤ 32768 := by
                intro b hb
                obtain ⟨q, hq⟩ := List.mem_iff_getElem?.1 hb
                obtain ⟨y, hy, rfl⟩ := body_at hbs hq
                exact HMB.out y (List.mem_of_getElem? hy)
              have hml : met.length ≤ 1 ∧ m + met.length ≤ 1 := by
                have h1 := hC5.met
                rcases hmet with rfl | ⟨rfl, _⟩
                · exact ⟨by simp, by simpa using hm1⟩
                · refine ⟨by simp, ?_⟩
                  rw [h1]; split <;> omega
              have hbsl : bs.length ≤ 1048576 := by
                rw [hbs]; unfold encs; rw [List.length_map, List.length_take, List.length_drop]
                have := HN.out; omega
              have HJ : Hid (CI w w5 R true (.slice va vn vc) T ms (vn) (m + met.length) (.slice ua ns.length uc) p' s' held' hv' ns k ∧ w5.heap[G0]? = some (.cells BH 34 (0, 0)) ∧ Fm.OR wr.heap.size w5 (.slice sa bs.length sc) bs ∧ Fm.OM wr.heap.size w5 (.slice ma met.length mc) met ∧ (met = [] ∨ (met = [h48] ∧ ns = [])) ∧ bs = encs ((ms.drop ns.length).take (k - ns.length)) ∧ R < wr.heap.size) := by
                refine ⟨hC5, (po.fr.block G0 (Array.getElem?_eq_some_iff.1 HI.out.2).1 ⟨by have := HG.out.1; omega, fun e => by have h1 := (HI.out.1.ow.blk e).1; have h2 := HG.out.1; omega⟩).trans HI.out.2, OR.of_ob (po.ob.weak (Nat.le_refl _) (fun _ x => x.1)) hbl, po.om, hmet, hbs, HI.out.1.rk.lt⟩
              clear hmet hbs hC5 hbl po HI HPV
              generalize hmtl : met.length = mtl at *
              have HMT : Hid (met.length = mtl) := hmtl
              clear hmtl
              generalize hbll : bs.length = bll at *
              have HBL : Hid (bs.length = bll) := hbll
              clear hbll
              go_wp2_with (first | (go_at_call 8; refine (numLT _ _).mono ?_; rintro e w9 ⟨rfl, rfl⟩))
              go_loopw [14, 21] (fun mz kz wq => ∃ k2 : Nat, k2 ≤ mtl ∧ mz = .int .i64 (m + k2 : Nat) ∧ kz = .int .i64 k2 ∧ Hid (∃ nq, wq = w5.drewN nq)) (fun _ kz _ => mtl - (intOf kz).toNat)
              case atStart => exact ⟨0, by omega, rfl, rfl, ⟨0, rfl⟩⟩
              case round =>
                obtain ⟨k2, hk2, rfl, rfl, hW⟩ := hrel
                obtain ⟨nq, rfl⟩ := hW.out
                clear hW
                by_cases hkt : k2 < mtl
                · obtain ⟨hh, hhh⟩ : ∃ hh, hh = h48 := ⟨_, rfl⟩
                  obtain ⟨hmt, hns⟩ : met = [hh] ∧ ns.length = 0 := by
                    rw [hhh]
                    rcases HJ.out.2.2.2.2.1 with h | h
                    · have := HMT.out; rw [h] at this; simp at this; omega
                    · exact ⟨h.1, by rw [h.2]; rfl⟩
                  have hk0 : k2 = 0 := by omega
                  subst hk0
                  have hmt1 : mtl = 1 := by rw [← HMT.out, hmt]; rfl
                  subst hmt1
                  have hom := HJ.out.2.2.2.1
                  rw [hmt] at hom
                  obtain ⟨gm, cm, em, hl48, _, rgm⟩ := hom.one
                  simp only [Value.slice.injEq, true_and] at em
                  obtain ⟨rfl, rfl⟩ := em
                  have RGM : Hid (∀ n, ((w5.drewN nq).drewN n).rangeAt gm 0 (Lib.byteCells hh)) := fun n => rgm
                  have RGH : Hid (∀ n, ((w5.drewN nq).drewN n).rangeAt G0 0 (Lib.byteCells hh)) := fun n => by
                    have h9 := HJ.out.2.1
                    rw [HBH.out, ← hhh] at h9
                    exact rangeOf (w := w5) (cs := Lib.byteCells hh) h9
                  have HL48 : Hid (hh.length = 48) := hl48
                  have hgd : Tryd.prog.eqGuardType Tryd.prog.depth 34 = false := by kernel_rfl
                  have heq := fun u => Fm.neq_hello u hh hl48
                  clear rgm hom hl48 hmt hhh
                  rw [hns]
                  go_wp2
                  refine wp_region_quiet_lit (by kernel_rfl) (by kernel_rfl) ?_
                  quiet_step (fail)
                  quiet_step (fail)
                  quiet_step (fail)
                  refine Fm.wpQuiet_load rfl _ rfl gm 0 rfl hh (fun w' hw' => by obtain ⟨m, rfl⟩ := hw'; exact RGM.out _) HL48.out ?_
                  refine Fm.wpQuiet_load rfl _ rfl G0 0 rfl hh (fun w' hw' => by obtain ⟨m, rfl⟩ := hw'; exact RGH.out _) HL48.out ?_
                  quiet_step (fail)
                  quiet_step (fail)
                  quiet_step (fail)
                  quiet_step (fail)
                  quiet_step (fail)
                  quiet_step (fail)
                  refine wpQuiet_nil ?_
                  intro _ hw'
                  obtain ⟨nz, hw''⟩ := hw'
                  subst hw''
                  clear hgd heq RGM RGH HL48
                  go_wp2
                  exact ⟨⟨1, by omega, by go_num, by go_num, ⟨nq + nz, rfl⟩⟩, by simp [intOf]⟩
                · have hk3 : k2 = mtl := by omega
                  subst hk3
                  have HQ : Hid (CI w (w5.drewN nq) R true (.slice va vn vc) T ms (vn) (m + k2) (.slice ua ns.length uc) p' s' held' hv' ns k ∧ (w5.drewN nq).heap[G0]? = some (.cells BH 34 (0, 0)) ∧ Fm.OR wr.heap.size (w5.drewN nq) (.slice sa bll sc) bs ∧ bs = encs ((ms.drop ns.length).take (k - ns.length)) ∧ R < wr.heap.size) := ⟨HJ.out.1.below (belowDrew _ _), HJ.out.2.1, OR.grow HJ.out.2.2.1 (belowDrew _ _), HJ.out.2.2.2.2.2.1, HJ.out.2.2.2.2.2.2⟩
                  clear HJ HMT
                  have hmk1 : m + k2 ≤ 1 := hml.2
                  clear hml
                  generalize m + k2 = mk at *
                  generalize w5.drewN nq = w6 at *
                  generalize wr.heap.size = B1 at *
                  generalize hnsl2 : ns.length = nsl at *
                  have HNS : Hid (ns.length = nsl) := hnsl2
                  clear hnsl2
                  have HBS : Hid (bs = encs ((ms.drop nsl).take (k - nsl)) ∧ R < B1) := HQ.out.2.2.2
                  have HQ1 : Hid (∃ ns2, CI w w6 R true (.slice va vn vc) T ms (vn) mk (.slice ua nsl uc) p' s' held' hv' ns2 k ∧ ns2.length = nsl + 0 ∧ w6.heap[G0]? = some (.cells BH 34 (0, 0)) ∧ Fm.OR B1 w6 (.slice sa bll sc) bs) := ⟨ns, HQ.out.1, HNS.out, HQ.out.2.1, HQ.out.2.2.1⟩
                  clear HQ
                  go_wp2
                  go_loopw [13, 22] (fun u kz wb => ∃ q : Nat, q ≤ bll ∧ kz = .int .i64 q ∧ Hid (∃ ns2, CI w wb R true (.slice va vn vc) T ms (vn) mk u p' s' held' hv' ns2 k ∧ ns2.length = nsl + q ∧ wb.heap[G0]? = some (.cells BH 34 (0, 0)) ∧ Fm.OR B1 wb (.slice sa bll sc) bs)) (fun _ kz _ => bll - (intOf kz).toNat)
                  case atStart => exact ⟨0, by omega, rfl, HQ1.out⟩
                  case round =>
                    clear HQ1
                    obtain ⟨q, hq, rfl, hQ⟩ := hrel
                    obtain ⟨ns2, hC, hn2, hG2, hOR⟩ := hQ.out
                    by_cases hql : q < bll
                    · have hl2 : q < bs.length := by rw [HBL.out]; exact hql
                      have hx : bs[q]? = some bs[q] := List.getElem?_eq_getElem hl2
                      generalize bs[q] = b at hx
                      obtain ⟨y, hy, hby⟩ := body_at HBS.out.1 hx
                      have hbl : b.length ≤ 32768 := by rw [hby]; exact HMB.out y (List.mem_of_getElem? hy)
                      have hde : decE b = 0 := encs_good (w := w) (fun z hz => HO.out.1.mem z hz) HWE.out b (by rw [hby]; exact List.mem_map.2 ⟨y, List.mem_of_getElem? hy, rfl⟩)
                      obtain ⟨a', c', e', _, hR⟩ := hOR.rbs
                      simp only [Value.slice.injEq] at e'
                      obtain ⟨rfl, -, rfl⟩ := e'
                      rcases hR with h | ⟨g, o, rfl, hg, hR⟩
                      · rw [h] at hl2; simp at hl2
                      obtain ⟨bu, hcu, hbu⟩ := hR q hl2
                      have hgd : bs.getD q [] = b := by rw [List.getD_eq_getElem?_getD, hx]; rfl
                      rw [hgd] at hbu
                      obtain ⟨ba, bc', rfl, _⟩ := id hbu
                      obtain ⟨xa, xc, rfl⟩ := hC.o.form
                      have hkk : ns2.length + 1 ≤ k := by
                        have h1 := HBL.out
                        rw [HBS.out.1] at h1
                        unfold encs at h1
                        rw [List.length_map, List.length_take] at h1
                        omega
                      have HU : Hid (CI w wr R true (.slice va vn vc) T ms (vn) mk (.slice xa ns2.length xc) p' s' held' hv' ns2 k ∧ RB wr (.slice ba b.length bc') b ∧ ns2.length = nsl + q ∧ wr.heap[G0]? = some (.cells BH 34 (0, 0)) ∧ Fm.OR B1 wr (.slice (some ⟨g, o, none⟩) bll sc) bs ∧ encs (ms.take (ns2.length + 1)) = encs (ms.take ns2.length) ++ [b] ∧ ns2.length + 1 ≤ k ∧ ns2.length < 1073741824 ∧ KT wr ∧ decE b = 0) := by
                        refine ⟨hC, hbu, hn2, hG2, hOR, ?_, hkk, ?_, HO.out.2.2.2.1.below hC.b HO.out.2.2.2.1.pos, hde⟩
                        · rw [hby]; exact encs_take (by rw [hn2]; exact hy)
                        · have h1 := hC.kl; have h2 := HN.out; omega
                      clear hC hOR hQ hG2 hbu hx hgd hR hy hby hde hkk hn2
                      go_wp2_with fail
                      refine (decodeT wr _ b (by omega) HU.out.2.1 HU.out.2.2.2.2.2.2.2.2.1).mono ?_
                      rintro e w7 ⟨d1, h1, rfl, q1, q2, q3⟩
                      have hRw : R + 1 ≤ wr.heap.size := HU.out.1.rk.lt
                      have M1 : OMg (R + 1) w7 (mgOf b d1 h1) := OMg.of_dec hRw q1 q2
                      have hap : ∀ g, hv'.ownBlock = some g → d1.ownBlock ≠ some g := fun g e1 e2 => by
                        have a1 := (HU.out.1.ow.blk e1).2.1
                        have a2 := (q1.blk e2).1
                        omega
                      have e1 : ({ (decS b).m with d := d1, h := h1 } : Mv) = (mgOf b d1 h1).m := rfl
                      rw [e1, HU.out.2.2.2.2.2.2.2.2.2]
                      obtain ⟨mm, hmm⟩ : ∃ mm, mm = mgOf b d1 h1 := ⟨_, rfl⟩
                      rw [← hmm] at M1 ⊢
                      have HMM : Hid ((∀ g, hv'.ownBlock = some g → mm.m.d.ownBlock ≠ some g) ∧ MsOf (ns2 ++ [mm]) (encs (ms.take (ns2.length + 1)))) := by
                        rw [hmm, HU.out.2.2.2.2.2.1]
                        exact ⟨hap, HU.out.1.mo.snoc b d1 h1⟩
                      clear hmm hap e1
                      have hz2 := heapNew w7 (.cells z40 47)
                      have hi1 := info_msg M1.ok
                      have ho1 := M1.ok.one
                      have hs1 : z40.size = mm.m.cs.size := M1.ok.size.symm
                      have hc := heapSetRow _ _ _ mm.m.cs _ hz2
                      have hsz40 : mm.m.cs.size = 40 := M1.ok.size
                      have bX : Below w7.heap.size w7 ((w7.alloc (.cells z40 47)).setRow w7.heap.size mm.m.cs) := belowSetRow ((Below.refl _ _).alloc (Nat.le_refl _) _) (Nat.le_refl _) _
                      have b9 : Below wr.heap.size wr ((w7.alloc (.cells z40 47)).setRow w7.heap.size mm.m.cs) := q3.trans (bX.mono q3.size)
                      have bZ : Below ((w7.alloc (.cells z40 47)).setRow w7.heap.size mm.m.cs).heap.size ((w7.alloc (.cells z40 47)).setRow w7.heap.size mm.m.cs) (((w7.alloc (.cells z40 47)).setRow w7.heap.size mm.m.cs).alloc (.cells mm.m.cs 47)) := (Below.refl _ _).alloc (Nat.le_refl _) _
                      have bT : Below wr.heap.size wr (((w7.alloc (.cells z40 47)).setRow w7.heap.size mm.m.cs).alloc (.cells mm.m.cs 47)) := b9.trans (bZ.mono b9.size)
                      have HV : Hid (CI w (((w7.alloc (.cells z40 47)).setRow w7.heap.size mm.m.cs).alloc (.cells mm.m.cs 47)) R true (.slice va vn vc) T ms (vn) mk (.slice xa ns2.length xc) p' s' held' hv' ns2 k ∧ OMg (R + 1) (((w7.alloc (.cells z40 47)).setRow w7.heap.size mm.m.cs).alloc (.cells mm.m.cs 47)) mm ∧ (((w7.alloc (.cells z40 47)).setRow w7.heap.size mm.m.cs).alloc (.cells mm.m.cs 47)).heap[((w7.alloc (.cells z40 47)).setRow w7.heap.size mm.m.cs).heap.size]? = some (.cells mm.m.cs 47 (0, 0)) ∧ (((w7.alloc (.cells z40 47)).setRow w7.heap.size mm.m.cs).alloc (.cells mm.m.cs 47)).heap[G0]? = some (.cells BH 34 (0, 0)) ∧ Fm.OR B1 (((w7.alloc (.cells z40 47)).setRow w7.heap.size mm.m.cs).alloc (.cells mm.m.cs 47)) (.slice (some ⟨g, o, none⟩) bll sc) bs ∧ R + 1 ≤ (((w7.alloc (.cells z40 47)).setRow w7.heap.size mm.m.cs).alloc (.cells mm.m.cs 47)).heap.size) := ⟨HU.out.1.below bT, (M1.grow bX).grow bZ, heapNew _ _, (bT.block G0 (Array.getElem?_eq_some_iff.1 HU.out.2.2.2.1).1).trans HU.out.2.2.2.1, OR.grow HU.out.2.2.2.2.1 bT, Nat.le_trans hRw bT.size⟩
                      clear q1 q2 q3 bX b9 bZ bT M1 hRw
                      go_wp2_with (first | (refine wpList_store_row rfl 47 _ _ rfl w7.heap.size mm.m.cs rfl rfl 47 z40 hz2 hi1 hs1 ho1 ?_) | (refine wpList_load_row rfl 47 _ rfl w7.heap.size rfl 47 mm.m.cs (0, 0) _ hc Tryd.underlying47 rfl hi1 ?_) | (refine build_msg rfl _ rfl mm.m.cs rfl hsz40 ?_) | (at_builtin; refine append_msg rfl _ _ rfl rfl HV.out.1.o ((w7.alloc (.cells z40 47)).setRow w7.heap.size mm.m.cs).heap.size mm rfl HV.out.2.2.1 HV.out.2.1 HV.out.2.2.2.2.2 HU.out.2.2.2.2.2.2.2.1 ?_; intro v8 w8 o8 b8' r8) | (go_at_call 8; refine (numLT _ _).mono ?_; rintro e w9 ⟨rfl, rfl⟩))
                      refine ⟨⟨q + 1, by omega, by go_num, ⟨ns2 ++ [mm], HV.out.1.app o8 b8' r8 HMM.out.1 HMM.out.2 HU.out.2.2.2.2.2.2.1, by rw [List.length_append, HU.out.2.2.1]; rfl, r8 _ _ _ HV.out.2.2.2.1 (by decide), OR.rows HV.out.2.2.2.2.1 r8⟩⟩, by simp [intOf]; omega⟩
                    · have hq2 : q = bll := by omega
                      subst hq2
                      have HF : Hid (∃ p s held hv ns3, CI w wr R true (.slice va vn vc) T ms (vn) mk u13 p s held hv ns3 ns3.length ∧ wr.heap[G0]? = some (.cells BH 34 (0, 0))) := by
                        refine ⟨p', s', held', hv', ns2, ?_, hG2⟩
                        have h1 := HBL.out
                        rw [HBS.out.1] at h1
                        unfold encs at h1
                        rw [List.length_map, List.length_take, List.length_drop] at h1
                        have h3 := hC.kl
                        have h4 := hC.nk
                        have hk : ns2.length = k := by omega
                        rw [hk]
                        exact hC
                      clear hC hG2 hOR hQ
                      go_wp2
                      exact ⟨⟨i + 1, vn, mk, by omega, by omega, by omega, by go_num, by go_num, by go_num, HF.out, fun h => by omega⟩, by first | (simp [intOf]; done) | (simp [intOf]; omega)⟩
          · have hi2 : i = zn := by omega
            subst hi2
            obtain ⟨pv, hsl, hpv⟩ : ∃ pv, (∀ w' : World, (Instr.sliceAt 26 (.slice va vn vc) (some (.int .i64 (n : Int))) (some (.int .i64 (vn : Int))) none).run Tryd.prog w' = .ok pv w') ∧ Fm.RN (fun g => g < R) wr pv ((T.drop n).take (vn - n)) := by
              have hrb := HI.out.1.rb
              rw [HVN.out] at hrb
              exact ⟨_, slice_to va vn vc n (vn) (vn : Int) (by omega) (by omega) (by omega) HCAP.out.2 HCAP.out.1, RN.cut hrb (by omega) (by have := HVN.out; omega)⟩
            have HPV : Hid (Fm.RN (fun g => g < R) wr pv ((T.drop n).take (vn - n))) := hpv
            clear hpv
            go_wp2_with fail
            clear hsl
            refine (Fm.push wr R p s hv pv held ((T.drop n).take (vn - n)) HI.out.1.rk HI.out.1.st HI.out.1.ow HI.out.1.nil (HPV.out.move (fun g hg e => by have := (HI.out.1.ow.blk e).1; omega) (fun _ _ _ _ => rfl)) (by rw [List.length_take, List.length_drop]; have := HG.out.2.1; omega)).mono ?_
            rintro e w5 ⟨mv, bsv, er, met, bs, h', r, p', s', held', hv', rfl, po⟩
            obtain ⟨he, hmet, k, hbs, hC5⟩ := HI.out.1.push (tn := vn) (by omega) (by have := HVN.out; omega) HMB.out po
            subst he
            obtain ⟨ma, mc, rfl⟩ := po.om.form
            obtain ⟨sa, sc, rfl⟩ := po.ob.form
            have hbl : ∀ b ∈ bs, b.length ≤ 32768 := by
              intro b hb
              obtain ⟨q, hq⟩ := List.mem_iff_getElem?.1 hb
              obtain ⟨y, hy, rfl⟩ := body_at hbs hq
              exact HMB.out y (List.mem_of_getElem? hy)
            have hml : met.length ≤ 1 ∧ m + met.length ≤ 1 := by
              have h1 := hC5.met
              rcases hmet with rfl | ⟨rfl, _⟩
              · exact ⟨by simp, by simpa using hm1⟩
              · refine ⟨by simp, ?_⟩
                rw [h1]; split <;> omega
            have hbsl : bs.length ≤ 1048576 := by
              rw [hbs]; unfold encs; rw [List.length_map, List.length_take, List.length_drop]
              have := HN.out; omega
            have HJ : Hid (CI w w5 R true (.slice va vn vc) T ms (vn) (m + met.length) (.slice ua ns.length uc) p' s' held' hv' ns k ∧ w5.heap[G0]? = some (.cells BH 34 (0, 0)) ∧ Fm.OR wr.heap.size w5 (.slice sa bs.length sc) bs ∧ Fm.OM wr.heap.size w5 (.slice ma met.length mc) met ∧ (met = [] ∨ (met = [h48] ∧ ns = [])) ∧ bs = encs ((ms.drop ns.length).take (k - ns.length)) ∧ R < wr.heap.size) := by
              refine ⟨hC5, (po.fr.block G0 (Array.getElem?_eq_some_iff.1 HI.out.2).1 ⟨by have := HG.out.1; omega, fun e => by have h1 := (HI.out.1.ow.blk e).1; have h2 := HG.out.1; omega⟩).trans HI.out.2, OR.of_ob (po.ob.weak (Nat.le_refl _) (fun _ x => x.1)) hbl, po.om, hmet, hbs, HI.out.1.rk.lt⟩
            clear hmet hbs hC5 hbl po HI HPV
            generalize hmtl : met.length = mtl at *
            have HMT : Hid (met.length = mtl) := hmtl
            clear hmtl
            generalize hbll : bs.length = bll at *
            have HBL : Hid (bs.length = bll) := hbll
            clear hbll
            go_wp2_with (first | (go_at_call 8; refine (numLT _ _).mono ?_; rintro e w9 ⟨rfl, rfl⟩))
            go_loopw [14, 21] (fun mz kz wq => ∃ k2 : Nat, k2 ≤ mtl ∧ mz = .int .i64 (m + k2 : Nat) ∧ kz = .int .i64 k2 ∧ Hid (∃ nq, wq = w5.drewN nq)) (fun _ kz _ => mtl - (intOf kz).toNat)
            case atStart => exact ⟨0, by omega, rfl, rfl, ⟨0, rfl⟩⟩
            case round =>
              obtain ⟨k2, hk2, rfl, rfl, hW⟩ := hrel
              obtain ⟨nq, rfl⟩ := hW.out
              clear hW
              by_cases hkt : k2 < mtl
              · obtain ⟨hh, hhh⟩ : ∃ hh, hh = h48 := ⟨_, rfl⟩
                obtain ⟨hmt, hns⟩ : met = [hh] ∧ ns.length = 0 := by
                  rw [hhh]
                  rcases HJ.out.2.2.2.2.1 with h | h
                  · have := HMT.out; rw [h] at this; simp at this; omega
                  · exact ⟨h.1, by rw [h.2]; rfl⟩
                have hk0 : k2 = 0 := by omega
                subst hk0
                have hmt1 : mtl = 1 := by rw [← HMT.out, hmt]; rfl
                subst hmt1
                have hom := HJ.out.2.2.2.1
                rw [hmt] at hom
                obtain ⟨gm, cm, em, hl48, _, rgm⟩ := hom.one
                simp only [Value.slice.injEq, true_and] at em
                obtain ⟨rfl, rfl⟩ := em
                have RGM : Hid (∀ n, ((w5.drewN nq).drewN n).rangeAt gm 0 (Lib.byteCells hh)) := fun n => rgm
                have RGH : Hid (∀ n, ((w5.drewN nq).drewN n).rangeAt G0 0 (Lib.byteCells hh)) := fun n => by
                  have h9 := HJ.out.2.1
                  rw [HBH.out, ← hhh] at h9
                  exact rangeOf (w := w5) (cs := Lib.byteCells hh) h9
                have HL48 : Hid (hh.length = 48) := hl48
                have hgd : Tryd.prog.eqGuardType Tryd.prog.depth 34 = false := by kernel_rfl
                have heq := fun u => Fm.neq_hello u hh hl48
                clear rgm hom hl48 hmt hhh
                rw [hns]
                go_wp2
                refine wp_region_quiet_lit (by kernel_rfl) (by kernel_rfl) ?_
                quiet_step (fail)
                quiet_step (fail)
                quiet_step (fail)
                refine Fm.wpQuiet_load rfl _ rfl gm 0 rfl hh (fun w' hw' => by obtain ⟨m, rfl⟩ := hw'; exact RGM.out _) HL48.out ?_
                refine Fm.wpQuiet_load rfl _ rfl G0 0 rfl hh (fun w' hw' => by obtain ⟨m, rfl⟩ := hw'; exact RGH.out _) HL48.out ?_
                quiet_step (fail)
                quiet_step (fail)
                quiet_step (fail)
                quiet_step (fail)
                quiet_step (fail)
                quiet_step (fail)
                refine wpQuiet_nil ?_
                intro _ hw'
                obtain ⟨nz, hw''⟩ := hw'
                subst hw''
                clear hgd heq RGM RGH HL48
                go_wp2
                exact ⟨⟨1, by omega, by go_num, by go_num, ⟨nq + nz, rfl⟩⟩, by simp [intOf]⟩
              · have hk3 : k2 = mtl := by omega
                subst hk3
                have HQ : Hid (CI w (w5.drewN nq) R true (.slice va vn vc) T ms (vn) (m + k2) (.slice ua ns.length uc) p' s' held' hv' ns k ∧ (w5.drewN nq).heap[G0]? = some (.cells BH 34 (0, 0)) ∧ Fm.OR wr.heap.size (w5.drewN nq) (.slice sa bll sc) bs ∧ bs = encs ((ms.drop ns.length).take (k - ns.length)) ∧ R < wr.heap.size) := ⟨HJ.out.1.below (belowDrew _ _), HJ.out.2.1, OR.grow HJ.out.2.2.1 (belowDrew _ _), HJ.out.2.2.2.2.2.1, HJ.out.2.2.2.2.2.2⟩
                clear HJ HMT
                have hmk1 : m + k2 ≤ 1 := hml.2
                clear hml
                generalize m + k2 = mk at *
                generalize w5.drewN nq = w6 at *
                generalize wr.heap.size = B1 at *
                generalize hnsl2 : ns.length = nsl at *
                have HNS : Hid (ns.length = nsl) := hnsl2
                clear hnsl2
                have HBS : Hid (bs = encs ((ms.drop nsl).take (k - nsl)) ∧ R < B1) := HQ.out.2.2.2
                have HQ1 : Hid (∃ ns2, CI w w6 R true (.slice va vn vc) T ms (vn) mk (.slice ua nsl uc) p' s' held' hv' ns2 k ∧ ns2.length = nsl + 0 ∧ w6.heap[G0]? = some (.cells BH 34 (0, 0)) ∧ Fm.OR B1 w6 (.slice sa bll sc) bs) := ⟨ns, HQ.out.1, HNS.out, HQ.out.2.1, HQ.out.2.2.1⟩
                clear HQ
                go_wp2
                go_loopw [13, 22] (fun u kz wb => ∃ q : Nat, q ≤ bll ∧ kz = .int .i64 q ∧ Hid (∃ ns2, CI w wb R true (.slice va vn vc) T ms (vn) mk u p' s' held' hv' ns2 k ∧ ns2.length = nsl + q ∧ wb.heap[G0]? = some (.cells BH 34 (0, 0)) ∧ Fm.OR B1 wb (.slice sa bll sc) bs)) (fun _ kz _ => bll - (intOf kz).toNat)
                case atStart => exact ⟨0, by omega, rfl, HQ1.out⟩
                case round =>
                  clear HQ1
                  obtain ⟨q, hq, rfl, hQ⟩ := hrel
                  obtain ⟨ns2, hC, hn2, hG2, hOR⟩ := hQ.out
                  by_cases hql : q < bll
                  · have hl2 : q < bs.length := by rw [HBL.out]; exact hql
                    have hx : bs[q]? = some bs[q] := List.getElem?_eq_getElem hl2
                    generalize bs[q] = b at hx
                    obtain ⟨y, hy, hby⟩ := body_at HBS.out.1 hx
                    have hbl : b.length ≤ 32768 := by rw [hby]; exact HMB.out y (List.mem_of_getElem? hy)
                    have hde : decE b = 0 := encs_good (w := w) (fun z hz => HO.out.1.mem z hz) HWE.out b (by rw [hby]; exact List.mem_map.2 ⟨y, List.mem_of_getElem? hy, rfl⟩)
                    obtain ⟨a', c', e', _, hR⟩ := hOR.rbs
                    simp only [Value.slice.injEq] at e'
                    obtain ⟨rfl, -, rfl⟩ := e'
                    rcases hR with h | ⟨g, o, rfl, hg, hR⟩
                    · rw [h] at hl2; simp at hl2
                    obtain ⟨bu, hcu, hbu⟩ := hR q hl2
                    have hgd : bs.getD q [] = b := by rw [List.getD_eq_getElem?_getD, hx]; rfl
                    rw [hgd] at hbu
                    obtain ⟨ba, bc', rfl, _⟩ := id hbu
                    obtain ⟨xa, xc, rfl⟩ := hC.o.form
                    have hkk : ns2.length + 1 ≤ k := by
                      have h1 := HBL.out
                      rw [HBS.out.1] at h1
                      unfold encs at h1
                      rw [List.length_map, List.length_take] at h1
                      omega
                    have HU : Hid (CI w wr R true (.slice va vn vc) T ms (vn) mk (.slice xa ns2.length xc) p' s' held' hv' ns2 k ∧ RB wr (.slice ba b.length bc') b ∧ ns2.length = nsl + q ∧ wr.heap[G0]? = some (.cells BH 34 (0, 0)) ∧ Fm.OR B1 wr (.slice (some ⟨g, o, none⟩) bll sc) bs ∧ encs (ms.take (ns2.length + 1)) = encs (ms.take ns2.length) ++ [b] ∧ ns2.length + 1 ≤ k ∧ ns2.length < 1073741824 ∧ KT wr ∧ decE b = 0) := by
                      refine ⟨hC, hbu, hn2, hG2, hOR, ?_, hkk, ?_, HO.out.2.2.2.1.below hC.b HO.out.2.2.2.1.pos, hde⟩
                      · rw [hby]; exact encs_take (by rw [hn2]; exact hy)
                      · have h1 := hC.kl; have h2 := HN.out; omega
                    clear hC hOR hQ hG2 hbu hx hgd hR hy hby hde hkk hn2
                    go_wp2_with fail
                    refine (decodeT wr _ b (by omega) HU.out.2.1 HU.out.2.2.2.2.2.2.2.2.1).mono ?_
                    rintro e w7 ⟨d1, h1, rfl, q1, q2, q3⟩
                    have hRw : R + 1 ≤ wr.heap.size := HU.out.1.rk.lt
                    have M1 : OMg (R + 1) w7 (mgOf b d1 h1) := OMg.of_dec hRw q1 q2
                    have hap : ∀ g, hv'.ownBlock = some g → d1.ownBlock ≠ some g := fun g e1 e2 => by
                      have a1 := (HU.out.1.ow.blk e1).2.1
                      have a2 := (q1.blk e2).1
                      omega
                    have e1 : ({ (decS b).m with d := d1, h := h1 } : Mv) = (mgOf b d1 h1).m := rfl
                    rw [e1, HU.out.2.2.2.2.2.2.2.2.2]
                    obtain ⟨mm, hmm⟩ : ∃ mm, mm = mgOf b d1 h1 := ⟨_, rfl⟩
                    rw [← hmm] at M1 ⊢
                    have HMM : Hid ((∀ g, hv'.ownBlock = some g → mm.m.d.ownBlock ≠ some g) ∧ MsOf (ns2 ++ [mm]) (encs (ms.take (ns2.length + 1)))) := by
                      rw [hmm, HU.out.2.2.2.2.2.1]
                      exact ⟨hap, HU.out.1.mo.snoc b d1 h1⟩
                    clear hmm hap e1
                    have hz2 := heapNew w7 (.cells z40 47)
                    have hi1 := info_msg M1.ok
                    have ho1 := M1.ok.one
                    have hs1 : z40.size = mm.m.cs.size := M1.ok.size.symm
                    have hc := heapSetRow _ _ _ mm.m.cs _ hz2
                    have hsz40 : mm.m.cs.size = 40 := M1.ok.size
                    have bX : Below w7.heap.size w7 ((w7.alloc (.cells z40 47)).setRow w7.heap.size mm.m.cs) := belowSetRow ((Below.refl _ _).alloc (Nat.le_refl _) _) (Nat.le_refl _) _
                    have b9 : Below wr.heap.size wr ((w7.alloc (.cells z40 47)).setRow w7.heap.size mm.m.cs) := q3.trans (bX.mono q3.size)
                    have bZ : Below ((w7.alloc (.cells z40 47)).setRow w7.heap.size mm.m.cs).heap.size ((w7.alloc (.cells z40 47)).setRow w7.heap.size mm.m.cs) (((w7.alloc (.cells z40 47)).setRow w7.heap.size mm.m.cs).alloc (.cells mm.m.cs 47)) := (Below.refl _ _).alloc (Nat.le_refl _) _
                    have bT : Below wr.heap.size wr (((w7.alloc (.cells z40 47)).setRow w7.heap.size mm.m.cs).alloc (.cells mm.m.cs 47)) := b9.trans (bZ.mono b9.size)
                    have HV : Hid (CI w (((w7.alloc (.cells z40 47)).setRow w7.heap.size mm.m.cs).alloc (.cells mm.m.cs 47)) R true (.slice va vn vc) T ms (vn) mk (.slice xa ns2.length xc) p' s' held' hv' ns2 k ∧ OMg (R + 1) (((w7.alloc (.cells z40 47)).setRow w7.heap.size mm.m.cs).alloc (.cells mm.m.cs 47)) mm ∧ (((w7.alloc (.cells z40 47)).setRow w7.heap.size mm.m.cs).alloc (.cells mm.m.cs 47)).heap[((w7.alloc (.cells z40 47)).setRow w7.heap.size mm.m.cs).heap.size]? = some (.cells mm.m.cs 47 (0, 0)) ∧ (((w7.alloc (.cells z40 47)).setRow w7.heap.size mm.m.cs).alloc (.cells mm.m.cs 47)).heap[G0]? = some (.cells BH 34 (0, 0)) ∧ Fm.OR B1 (((w7.alloc (.cells z40 47)).setRow w7.heap.size mm.m.cs).alloc (.cells mm.m.cs 47)) (.slice (some ⟨g, o, none⟩) bll sc) bs ∧ R + 1 ≤ (((w7.alloc (.cells z40 47)).setRow w7.heap.size mm.m.cs).alloc (.cells mm.m.cs 47)).heap.size) := ⟨HU.out.1.below bT, (M1.grow bX).grow bZ, heapNew _ _, (bT.block G0 (Array.getElem?_eq_some_iff.1 HU.out.2.2.2.1).1).trans HU.out.2.2.2.1, OR.grow HU.out.2.2.2.2.1 bT, Nat.le_trans hRw bT.size⟩
                    clear q1 q2 q3 bX b9 bZ bT M1 hRw
                    go_wp2_with (first | (refine wpList_store_row rfl 47 _ _ rfl w7.heap.size mm.m.cs rfl rfl 47 z40 hz2 hi1 hs1 ho1 ?_) | (refine wpList_load_row rfl 47 _ rfl w7.heap.size rfl 47 mm.m.cs (0, 0) _ hc Tryd.underlying47 rfl hi1 ?_) | (refine build_msg rfl _ rfl mm.m.cs rfl hsz40 ?_) | (at_builtin; refine append_msg rfl _ _ rfl rfl HV.out.1.o ((w7.alloc (.cells z40 47)).setRow w7.heap.size mm.m.cs).heap.size mm rfl HV.out.2.2.1 HV.out.2.1 HV.out.2.2.2.2.2 HU.out.2.2.2.2.2.2.2.1 ?_; intro v8 w8 o8 b8' r8) | (go_at_call 8; refine (numLT _ _).mono ?_; rintro e w9 ⟨rfl, rfl⟩))
                    refine ⟨⟨q + 1, by omega, by go_num, ⟨ns2 ++ [mm], HV.out.1.app o8 b8' r8 HMM.out.1 HMM.out.2 HU.out.2.2.2.2.2.2.1, by rw [List.length_append, HU.out.2.2.1]; rfl, r8 _ _ _ HV.out.2.2.2.1 (by decide), OR.rows HV.out.2.2.2.2.1 r8⟩⟩, by simp [intOf]; omega⟩
                  · have hq2 : q = bll := by omega
                    subst hq2
                    have HF : Hid (∃ p s held hv ns3, CI w wr R true (.slice va vn vc) T ms (vn) mk u13 p s held hv ns3 ns3.length ∧ wr.heap[G0]? = some (.cells BH 34 (0, 0))) := by
                      refine ⟨p', s', held', hv', ns2, ?_, hG2⟩
                      have h1 := HBL.out
                      rw [HBS.out.1] at h1
                      unfold encs at h1
                      rw [List.length_map, List.length_take, List.length_drop] at h1
                      have h3 := hC.kl
                      have h4 := hC.nk
                      have hk : ns2.length = k := by omega
                      rw [hk]
                      exact hC
                    clear hC hG2 hOR hQ
                    go_wp2
                    exact ⟨⟨i + 1, vn, mk, by omega, by omega, by omega, by go_num, by go_num, by go_num, HF.out, fun h => by omega⟩, by first | (simp [intOf]; done) | (simp [intOf]; omega)⟩
        · have hi2 : i = zn + 1 := by omega
          obtain ⟨d1, d2⟩ := hC.done (by rw [← HVN.out]; exact hIe hi2) HMB.out
          have HD : Hid (Below w.heap.size w wr ∧ RMS wr (.slice ua ns.length uc) ns ∧ RMS wr (.slice a len c) ms ∧ MsEq ns ms ∧ ns.length = len) := by
            have hml : ns.length = ms.length := d1
            refine ⟨hC.b, hC.o.rms, HO.out.1.keep hC.b, ms_back (w := w) (fun y hy => HO.out.1.mem y hy) HWE.out ?_, by rw [hml]; exact HN.out⟩
            have := hC.mo
            rw [hml, List.take_length] at this
            exact this
          have hmv : m = if true then 1 else 0 := by
            have := hC.met
            rw [d2] at this
            simpa using this
          subst hi2
          simp only [if_true] at hmv
          subst hmv
          clear hC hG0 hI hIe d1 d2
          generalize hnl : ns.length = nl at *
          obtain rfl : nl = len := HD.out.2.2.2.2
          have HNL : Hid (ns.length = nl) := hnl
          clear hnl
          go_wp2_with fail
          refine (rowSameT wr _ _ ns ms HD.out.2.1 HD.out.2.2.1 HD.out.2.2.2.1 (by rw [HNL.out]; omega)).mono ?_
          rintro e w12 ⟨rfl, b12⟩
          have HZ : Hid (Below w.heap.size w w12) := HD.out.1.trans (b12.mono HD.out.1.size)
          clear HD b12
          go_wp2
          go_ret
          exact ⟨rfl, HZ.out⟩
  · obtain ⟨ve, hve⟩ : ∃ ve, wirE ms = ve := ⟨_, rfl⟩
    rw [hve] at hE ⊢
    have HV : Hid (Below w.heap.size w w3) := H2.out.2.1.trans (b3.mono H2.out.2.1.size)
    clear b3 o3 H2 hve
    go_wp2_with (first | (go_at_call 8; refine (numLT _ _).mono ?_; rintro e w9 ⟨rfl, rfl⟩))
    go_ret
    exact ⟨rfl, HV.out⟩
end Go.Proofs.YtbnnfpjgjieaeaaDoor
