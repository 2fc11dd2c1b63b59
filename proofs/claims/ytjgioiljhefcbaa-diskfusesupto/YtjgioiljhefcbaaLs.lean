import Derived.Test.YtjgioiljhefcbaaHi
import Derived.Deep.RegionHeld3
namespace Go.Proofs.Ytjgioiljhefcbaa
open Go.RowKit
/-- one byte is written -/
theorem OW.set {B : Nat} {w : World} {g c n : Nat} {l : List UInt8} (h : OW B w (.slice (some ⟨g, 0, none⟩) n c) l) (t : Nat) (ht : t < l.length) (x : UInt8) :
    w.cell? ⟨g, t, none⟩ = some (.int .u8 ((byt l t).toNat : Int)) ∧ w.frozen? ⟨g, t, none⟩ = false ∧ OW B (w.setCell ⟨g, t, none⟩ (.int .u8 (x.toNat : Int))) (.slice (some ⟨g, 0, none⟩) n c) (l.set t x) ∧ Fr (fun k => k ≠ g) w (w.setCell ⟨g, t, none⟩ (.int .u8 (x.toNat : Int))) := by
  have hr := h.rb
  rcases h.2 with ⟨e, _⟩ | ⟨g', c', cur, e, h1, h2, h3, h4, h5, h6⟩
  · cases e
  have e' := e
  simp only [Value.slice.injEq, Option.some.injEq, Addr.mk.injEq] at e
  obtain ⟨⟨rfl, _⟩, _, rfl⟩ := e
  rw [Nat.mul_one] at h5 h6
  refine ⟨?_, by simp [World.frozen?, h2], ?_, setCell_fr _ _ _ _⟩
  · have := hr.cells t ht
    rwa [Nat.zero_add] at this
  · refine ⟨by simp [bcl_len], .inr ⟨g, c, cur.setIfInBounds t (.int .u8 (x.toNat : Int)), by rw [List.length_set]; exact e', h1, ?_, by rw [List.length_set]; exact h3, h4, by simp; exact h5, ?_⟩⟩
    · rw [setCell_eq_setRow w g _ _ _ _ _ h2]; exact heapSetRow _ _ _ _ _ h2
    · rw [List.length_set, Nat.mul_one, Array.toList_setIfInBounds, List.take_set, h6]
      simp [Lib.byteCells, List.map_set]
theorem img_snoc (base : List UInt8) (ws : List Wt) (x : Wt) (hd : x.data.length = 64) (hs : 64 * x.at_ + 64 ≤ base.length) : img base (ws ++ [x]) = sp (img base ws) (64 * x.at_) x.data := by
  unfold img
  rw [sp_lf _ _ _ _ (by omega)]
  apply lf_congr
  intro i hi
  unfold imB
  rw [nw_snoc]
  by_cases h : i / 64 = x.at_
  · rw [if_pos h.symm, if_pos (by omega)]
    show byt x.data _ = _
    congr 1
    omega
  · rw [if_neg (fun e => h e.symm), if_neg (by omega)]
theorem sp_set (L : List UInt8) (o : Nat) (d : List UInt8) (j : Nat) (hj : j < d.length) (hf : o + d.length ≤ L.length) : (sp L o (d.take j)).set (o + j) (byt d j) = sp L o (d.take (j + 1)) := by
  have l1 : (d.take j).length = j := by rw [List.length_take]; omega
  have l2 : (d.take (j + 1)).length = j + 1 := by rw [List.length_take]; omega
  have s1 := sp_len L o (d.take j) (by omega)
  have s2 := sp_len L o (d.take (j + 1)) (by omega)
  apply byt_ext (by rw [List.length_set, s1, s2])
  intro i hi
  rw [List.length_set, s1] at hi
  rw [sp_byt _ _ _ (by omega)]
  by_cases h : o + j = i
  · subst h
    have : byt ((sp L o (d.take j)).set (o + j) (byt d j)) (o + j) = byt d j := by
      unfold byt
      simp only [List.getD_eq_getElem?_getD, List.getElem?_set]
      rw [if_pos trivial, if_pos (by omega)]
      rfl
    rw [this, if_pos (by omega), byt_take _ _ _ (by omega)]
    congr 1
    omega
  · have : byt ((sp L o (d.take j)).set (o + j) (byt d j)) i = byt (sp L o (d.take j)) i := by
      unfold byt
      simp only [List.getD_eq_getElem?_getD, List.getElem?_set]
      rw [if_neg h]
    rw [this, sp_byt _ _ _ (by omega)]
    by_cases h1 : o ≤ i ∧ i < o + (d.take j).length
    · rw [if_pos h1, if_pos (by omega), byt_take _ _ _ (by omega), byt_take _ _ _ (by omega)]
    · rw [if_neg h1, if_neg (by omega)]
theorem sp_zero (L : List UInt8) (o : Nat) : sp L o [] = L := by simp [sp]
theorem crD_false {D : Dk} (hg : Gd D) (n : Nat) : crD (kp [] n) (-1) 0 D.last D.ws = D.last := by
  rw [crD_eq]
  conv => rhs; rw [← lf_self D.last]
  apply lf_congr
  intro i hi
  have hm := hg.mul
  unfold crB
  have h0 : ∀ (xs : List (Nat × List UInt8)) (c : List UInt8), crS (kp [] n) (-1) 0 xs c = c := by
    intro xs
    induction xs with
    | nil => intro c; rfl
    | cons x xs ih =>
      intro c
      simp only [crS, List.foldl_cons]
      have : crX (kp [] n) (-1) 0 c x = c := by
        apply crX_none
        · omega
        · by_cases hx : x.1 < n
          · rw [kp_at _ _ _ hx]; simp
          · rw [List.getD_eq_getElem?_getD, List.getElem?_eq_none (by rw [kp_len]; omega)]; rfl
      rw [this]
      exact ih c
  rw [h0, sec_byt _ _ _ (Nat.mod_lt _ (by omega))]
  congr 1
  omega
set_option maxHeartbeats 8000000 in
set_option maxRecDepth 100000 in
theorem lastsLaw (iv v : Value) (l : List UInt8) (us : List Wv) (sy : Bool) (w : World) (hi : RB w iv l) (hl : l.length ≤ 140737488351232) (hr : RWv w v us) (hul : us.length ≤ 1048576) :
    Calls Try.prog 4 #[iv, v, .bool sy] w fun e w' => e = .returned (.bool true) ∧ Below w.heap.size w w' := by
  have HAW := Lib.hid (awake w)
  have HI : Hid (RB w iv l) := hi
  have HR : Hid (RWv w v us) := hr
  have HLL : Hid (l.length ≤ 140737488351232 ∧ us.length ≤ 1048576) := ⟨hl, hul⟩
  obtain ⟨ia, ic, rfl, _, _⟩ := hi
  obtain ⟨wa, wc, rfl, _, _⟩ := hr.1
  clear hr
  go_enter Try.func4, Try.ntmps4
  go_wp2_with fail
  refine HAW.out.mono ?_
  rintro e w1 ⟨rfl, b1⟩
  have P1 : Hid (Below w.heap.size w w1 ∧ RB w1 (.slice ia l.length ic) l ∧ RWv w1 (.slice wa us.length wc) us) := ⟨b1, HI.out.keep b1, HR.out.keep b1⟩
  clear b1 HAW HI HR
  go_wp2_with fail
  refine (whole _ l w1 P1.out.2.1 HLL.out.1).mono ?_
  rintro e w2 ⟨ov, rfl, ho, b2⟩
  obtain ⟨oa, oc, rfl⟩ := ho.form
  have P2 : Hid (Below w.heap.size w w2 ∧ RB w2 (.slice ia l.length ic) l ∧ RWv w2 (.slice wa us.length wc) us ∧ OW w.heap.size w2 (.slice oa (wh l).length oc) (wh l)) := ⟨P1.out.1.trans (b2.mono P1.out.1.size), P1.out.2.1.keep b2, P1.out.2.2.keep b2, ho.mono P1.out.1.size⟩
  clear ho b2 P1
  have hwl : (wh l).length ≤ 32768 := (wh_gd l).2.2
  go_wp2_with fail
  refine (inside _ us ((wh l).length / 64) w2 P2.out.2.2.1 (by omega) (by have := HLL.out.2; omega)).mono ?_
  rintro e w3 ⟨lv', rfl, hx, b3⟩
  obtain ⟨la, lc, hlv⟩ := ownsRow_form hx
  have P3 : Hid (PX w w3 (.slice ia l.length ic) (.slice wa us.length wc) (.slice oa (wh l).length oc) (.slice la (ins l us).length lc) l us) := ⟨P2.out.1.trans (b3.mono P2.out.1.size), P2.out.2.1.keep b3, P2.out.2.2.1.keep b3, P2.out.2.2.2.grow b3, by rw [← show lv' = .slice la (ins l us).length lc from hlv]; exact ownsRow_base hx P2.out.1.size⟩
  have hlv' : lv' = .slice la (ins l us).length lc := hlv
  subst hlv'
  clear hx b3 P2 hlv
  have HNL : Hid ((ins l us).length ≤ 1048576) := Nat.le_trans (ins_len l us) HLL.out.2
  go_wp2_with fail
  refine (P3.out.made HLL.out.2).mono ?_
  rintro e w4 ⟨pa, rfl, hda, b4⟩
  have M4 : Hid (DK (fun k => w3.heap.size ≤ k ∧ k < w4.heap.size) w4 pa (dk0 l us) ∧ w3.heap.size ≤ w4.heap.size) := ⟨hda.sub (fun k hk h => ⟨h, hk⟩), b4.size⟩
  have P4 := Lib.hid (P3.out.on b4)
  have HS3 : Hid (w.heap.size ≤ w3.heap.size) := P3.out.b.size
  have HOL : Hid (∀ g, (Value.slice oa (wh l).length oc).ownBlock = some g → g < w3.heap.size) := fun g hg => (ownsRow_lt P3.out.o g hg).1
  clear hda b4 P3
  go_wp2_with fail
  refine (whole _ l w4 P4.out.i HLL.out.1).mono ?_
  rintro e w5 ⟨nv, rfl, hno, b5⟩
  obtain ⟨gn, cn, hnv⟩ : ∃ g c, nv = .slice (some ⟨g, 0, none⟩) (wh l).length c := by
    rcases hno.2 with ⟨_, h0⟩ | ⟨g, c, _, h1, _⟩
    · have := (wh_gd l).2.1; omega
    · exact ⟨g, c, h1⟩
  subst hnv
  have hcn : (wh l).length ≤ cn ∧ cn ≤ 9223372036854775807 := by
    rcases hno.2 with ⟨e, _⟩ | ⟨g', c, cur, e, _, _, h1, h2, _⟩
    · cases e
    · simp only [Value.slice.injEq] at e
      unfold maxLen at h2
      omega
  have L5 : Hid (OW w4.heap.size w5 (.slice (some ⟨gn, 0, none⟩) (wh l).length cn) (img (wh l) (((ins l us).take 0).map mkW)) ∧ Below w4.heap.size w4 w5) := ⟨by rw [List.take_zero, List.map_nil, img_nil]; exact hno, b5⟩
  have HGN : Hid (w4.heap.size ≤ gn) := by
    rcases hno.2 with ⟨e, _⟩ | ⟨g', c, cur, e, h1, _⟩
    · cases e
    · simp only [Value.slice.injEq, Option.some.injEq, Addr.mk.injEq] at e
      rw [e.1.1]; exact h1
  clear hno b5
  have HNL2 : Hid ((wh l).length % 64 = 0) := (wh_gd l).1
  generalize hns : (ins l us).length = n at *
  have HNS : Hid ((ins l us).length = n) := hns
  clear hns
  generalize hnl : (wh l).length = nl at *
  have HWL : Hid ((wh l).length = nl) := hnl
  clear hnl
  have hn30 : n ≤ 1048576 := by have := HNL.out; omega
  obtain ⟨hcn1, hcn2⟩ := hcn
  go_wp2_with fail
  go_loopw [12, 13, 14] (fun i b j wr => ∃ (k : Nat), k ≤ n ∧ i = .int .i64 k ∧ Hid (OW w4.heap.size wr (.slice (some ⟨gn, 0, none⟩) nl cn) (img (wh l) (((ins l us).take k).map mkW)) ∧ Below w4.heap.size w4 wr)) (fun i _ _ _ => n - (intOf i).toNat)
  case atStart => exact ⟨0, Nat.zero_le _, rfl, L5⟩
  case round =>
    clear L5
    obtain ⟨k, hk, rfl, H⟩ := hrel
    by_cases hlt : k < n
    · have HX := Lib.hid (P4.out.on H.out.2)
      obtain ⟨u, hu⟩ : ∃ u, (ins l us)[k]? = some u := ⟨(ins l us)[k]'(by rw [HNS.out]; exact hlt), List.getElem?_eq_getElem _⟩
      obtain ⟨gl, rfl⟩ : ∃ g, la = some ⟨g, 0, none⟩ := by
        rcases HX.out.x.2 with ⟨e, h0⟩ | ⟨g, c', _, e, _⟩
        · have := HNS.out; omega
        · simp only [Value.slice.injEq] at e
          exact ⟨g, e.1⟩
      obtain ⟨hc1, hc2⟩ := OWv.at HX.out.x k u hu
      have hum := List.mem_of_getElem? hu
      have hrb := (HX.out.rx.2 u hum).1
      have hul2 := (HX.out.rx.2 u hum).2
      obtain ⟨hu0, hu1⟩ := ins_in l us u hum
      rw [HWL.out] at hu1
      have HGL : Hid (gl < w4.heap.size) := (ownsRow_lt P4.out.x gl rfl).1
      have HT0 : ((ins l us).take (k + 1)).map mkW = ((ins l us).take k).map mkW ++ [mkW u] := by
        obtain ⟨h1, h2⟩ := List.getElem?_eq_some_iff.1 hu
        rw [List.take_succ_eq_append_getElem h1, List.map_append, h2]
        rfl
      obtain ⟨ua, ud, ul⟩ := u
      dsimp only at *
      obtain ⟨s, rfl⟩ : ∃ s : Nat, ua = s := ⟨ua.toNat, by omega⟩
      have HIM : Hid (img (wh l) (((ins l us).take (k + 1)).map mkW) = sp (img (wh l) (((ins l us).take k).map mkW)) (64 * s) (fl ul)) := by
        show img _ _ = _
        rw [HT0, img_snoc _ _ (mkW ⟨s, ud, ul⟩) (fl_len _) (by show 64 * s + 64 ≤ (wh l).length; rw [HWL.out]; omega)]
        rfl
      have HFU := Lib.hid (full ud ul wr hrb hul2)
      obtain ⟨da, dc, e, _⟩ := id hrb
      obtain ⟨dn, hdn⟩ : ∃ dn, ul.length = dn := ⟨_, rfl⟩
      rw [hdn] at e
      subst e
      clear hrb hul2 hum hu HT0 hdn HX
      generalize himk : img (wh l) (((ins l us).take k).map mkW) = imk at *
      have HIL : Hid (imk.length = nl) := by show imk.length = nl; rw [← himk, img_len]; exact HWL.out
      clear himk
      go_wp2_with fail
      refine HFU.out.mono ?_
      rintro e w6 ⟨gb, rfl, hgb, hrb6, b6⟩
      have B6 : Hid (OW w4.heap.size w6 (.slice (some ⟨gn, 0, none⟩) nl cn) (sp imk (64 * s) ((fl ul).take 0)) ∧ Below w4.heap.size w4 w6 ∧ RB w6 (.slice (some ⟨gb, 0, none⟩) 64 64) (fl ul) ∧ w6.cell? ⟨gl, k * 2, none⟩ = some (.int .i64 s) ∧ gb ≠ gn ∧ gl < w6.heap.size ∧ gb < w6.heap.size ∧ gn < wr.heap.size) := by
        have h1 := (ownsRow_lt H.out.1 gn rfl).1
        have h2 := H.out.2.size
        have h3 := HGL.out
        refine ⟨by rw [List.take_zero, sp_zero]; exact H.out.1.grow b6, H.out.2.trans (b6.mono h2), hrb6, ?_, by omega, by have := b6.size; omega, ?_, h1⟩
        · rw [World.cell?_of_block (w := wr) (b6.block gl (by omega))]; exact hc1
        · have := hrb6.cells 0 (by rw [fl_len]; omega)
          exact World.block_lt_of_cell? w6 _ this
      clear hgb hrb6 b6 HFU H hc1 hc2
      go_wp2_with fail
      go_loopw [14] (fun jv wr => ∃ (j : Nat), j ≤ 64 ∧ jv = .int .i64 j ∧ Hid (OW w4.heap.size wr (.slice (some ⟨gn, 0, none⟩) nl cn) (sp imk (64 * s) ((fl ul).take j)) ∧ Fr (fun b => b ≠ gn) w6 wr)) (fun jv _ => 64 - (intOf jv).toNat)
      case atStart => exact ⟨0, by omega, rfl, B6.out.1, Fr.refl _ _⟩
      case round =>
        obtain ⟨j, hj, rfl, HJ⟩ := hrel
        by_cases hjl : j < 64
        · have HJL : Hid ((sp imk (64 * s) ((fl ul).take j)).length = nl) := by
            show (sp imk (64 * s) ((fl ul).take j)).length = nl
            rw [sp_len _ _ _ (by rw [List.length_take, fl_len, HIL.out]; omega), HIL.out]
          have hOWd : OW w4.heap.size wr (.slice (some ⟨gn, 0, none⟩) nl cn) (sp imk (64 * s) ((fl ul).take j)) := HJ.out.1
          obtain ⟨hcn, hfn, hset, hfr⟩ := hOWd.set (64 * s + j) (by rw [HJL.out]; omega) (byt (fl ul) j)
          rw [sp_set _ _ _ _ (by rw [fl_len]; exact hjl) (by rw [fl_len, HIL.out]; omega)] at hset
          have hfd : Fr (fun b => b ≠ gn) w6 wr := HJ.out.2
          have HJ2 : Hid (OW w4.heap.size (wr.setCell ⟨gn, 64 * s + j, none⟩ (.int .u8 ((byt (fl ul) j).toNat : Int))).drew (.slice (some ⟨gn, 0, none⟩) nl cn) (sp imk (64 * s) ((fl ul).take (j + 1))) ∧ Fr (fun b => b ≠ gn) w6 (wr.setCell ⟨gn, 64 * s + j, none⟩ (.int .u8 ((byt (fl ul) j).toNat : Int))).drew) := ⟨hset, (hfd.trans hfr (fun _ _ h => h)).drew 1⟩
          have hne1 : gl ≠ gn := by have h1 := HGL.out; have h2 := HGN.out; omega
          have hne2 : gb ≠ gn := B6.out.2.2.2.2.1
          have hgl : wr.cell? ⟨gl, k * 2, none⟩ = some (.int .i64 s) := (World.cell?_of_block (w := w6) (hfd.block gl B6.out.2.2.2.2.2.1 hne1)).trans B6.out.2.2.2.1
          have hgb : wr.cell? ⟨gb, j, none⟩ = some (.int .u8 ((byt (fl ul) j).toNat : Int)) := by
            have := B6.out.2.2.1.cells j (by rw [fl_len]; exact hjl)
            rw [Nat.zero_add] at this
            exact (World.cell?_of_block (w := w6) (hfd.block gb B6.out.2.2.2.2.2.2.1 hne2)).trans this
          generalize ((byt (fl ul) j).toNat : Int) = x at *
          generalize ((byt (sp imk (64 * s) ((fl ul).take j)) (64 * s + j)).toNat : Int) = y at *
          clear hset hfr hfd hOWd HJ
          have hw1 : IntKind.i64.wrap (64 * (s : Int)) = 64 * (s : Int) := by simp [IntKind.wrap, IntKind.signed, IntKind.bits]; omega
          have hw2 : IntKind.i64.wrap (64 * (s : Int) + (j : Int)) = 64 * (s : Int) + (j : Int) := by simp [IntKind.wrap, IntKind.signed, IntKind.bits]; omega
          have hix : 0 ≤ 64 * (s : Int) + (j : Int) ∧ 64 * (s : Int) + (j : Int) < (nl : Int) := by omega
          have htn : (64 * (s : Int) + (j : Int)).toNat = 64 * s + j := by omega
          go_wp2_with fail
          refine wp_region_held_drew (S := fun u => u.cell? ⟨gl, k * 2, none⟩ = some (.int .i64 s) ∧ u.cell? ⟨gb, j, none⟩ = some (.int .u8 x)) (by kernel_rfl) (⟨hgl, hgb⟩) (fun hHeld => ?_)
          refine wpAnyH_take (i := 0) (v := .slice (some ⟨gn, 0, none⟩) nl cn) rfl (by kernel_rfl) (by kernel_rfl) (by kernel_rfl) (fun _ _ _ h => h) (Or.inl ⟨by rfl, fun w hw => by go_simp⟩) hHeld ?_
          simp only [Act.put, List.getElem_toArray, List.getElem_cons_zero, List.setIfInBounds_toArray, List.set_cons_zero, List.set_cons_succ]
          refine wpAnyH_take (i := 1) (v := .slice (some ⟨gl, 0, none⟩) n lc) rfl (by kernel_rfl) (by kernel_rfl) (by kernel_rfl) (fun _ _ _ h => h) (Or.inl ⟨by rfl, fun w hw => by go_simp⟩) hHeld ?_
          simp only [Act.put, List.getElem_toArray, List.getElem_cons_zero, List.getElem_cons_succ, List.setIfInBounds_toArray, List.set_cons_zero, List.set_cons_succ]
          refine wpAnyH_take (i := 2) (v := .int .i64 k) rfl (by kernel_rfl) (by kernel_rfl) (by kernel_rfl) (fun _ _ _ h => h) (Or.inl ⟨by rfl, fun w hw => by go_simp⟩) hHeld ?_
          simp only [Act.put, List.getElem_toArray, List.getElem_cons_zero, List.getElem_cons_succ, List.setIfInBounds_toArray, List.set_cons_zero, List.set_cons_succ]
          refine wpAnyH_take (i := 3) (v := .pointer (some ⟨gl, k * 2, none⟩)) rfl (by kernel_rfl) (by kernel_rfl) (by kernel_rfl) (fun _ _ _ h => h) (Or.inl ⟨by rfl, fun w hw => by go_simp⟩) hHeld ?_
          simp only [Act.put, List.getElem_toArray, List.getElem_cons_zero, List.getElem_cons_succ, List.setIfInBounds_toArray, List.set_cons_zero, List.set_cons_succ]
          refine wpAnyH_take (i := 4) (v := .pointer (some ⟨gl, k * 2, none⟩)) rfl (by kernel_rfl) (by kernel_rfl) (by kernel_rfl) (fun _ _ _ h => h) (Or.inl ⟨by rfl, fun w hw => by go_simp⟩) hHeld ?_
          simp only [Act.put, List.getElem_toArray, List.getElem_cons_zero, List.getElem_cons_succ, List.setIfInBounds_toArray, List.set_cons_zero, List.set_cons_succ]
          refine wpAnyH_take (i := 5) (v := .int .i64 s) rfl (by kernel_rfl) (by kernel_rfl) (by kernel_rfl) (fun _ _ _ h => h) (Or.inl ⟨by rfl, fun w hw => by have hw2 : w.cell? ⟨gl, k * 2, none⟩ = _ := hw.1; go_simp⟩) hHeld ?_
          simp only [Act.put, List.getElem_toArray, List.getElem_cons_zero, List.getElem_cons_succ, List.setIfInBounds_toArray, List.set_cons_zero, List.set_cons_succ]
          refine wpAnyH_take (i := 6) (v := .int .i64 (64 * (s : Int))) rfl (by kernel_rfl) (by kernel_rfl) (by kernel_rfl) (fun _ _ _ h => h) (Or.inl ⟨by rfl, fun w hw => by go_simp⟩) hHeld ?_
          simp only [Act.put, List.getElem_toArray, List.getElem_cons_zero, List.getElem_cons_succ, List.setIfInBounds_toArray, List.set_cons_zero, List.set_cons_succ]
          refine wpAnyH_take (i := 7) (v := .int .i64 j) rfl (by kernel_rfl) (by kernel_rfl) (by kernel_rfl) (fun _ _ _ h => h) (Or.inl ⟨by rfl, fun w hw => by go_simp⟩) hHeld ?_
          simp only [Act.put, List.getElem_toArray, List.getElem_cons_zero, List.getElem_cons_succ, List.setIfInBounds_toArray, List.set_cons_zero, List.set_cons_succ]
          refine wpAnyH_take (i := 8) (v := .int .i64 (64 * (s : Int) + (j : Int))) rfl (by kernel_rfl) (by kernel_rfl) (by kernel_rfl) (fun _ _ _ h => h) (Or.inl ⟨by rfl, fun w hw => by go_simp⟩) hHeld ?_
          simp only [Act.put, List.getElem_toArray, List.getElem_cons_zero, List.getElem_cons_succ, List.setIfInBounds_toArray, List.set_cons_zero, List.set_cons_succ]
          refine wpAnyH_take (i := 9) (v := .slice (some ⟨gb, 0, none⟩) 64 64) rfl (by kernel_rfl) (by kernel_rfl) (by kernel_rfl) (fun _ _ _ h => h) (Or.inl ⟨by rfl, fun w hw => by go_simp⟩) hHeld ?_
          simp only [Act.put, List.getElem_toArray, List.getElem_cons_zero, List.getElem_cons_succ, List.setIfInBounds_toArray, List.set_cons_zero, List.set_cons_succ]
          refine wpAnyH_take (i := 10) (v := .int .i64 j) rfl (by kernel_rfl) (by kernel_rfl) (by kernel_rfl) (fun _ _ _ h => h) (Or.inl ⟨by rfl, fun w hw => by go_simp⟩) hHeld ?_
          simp only [Act.put, List.getElem_toArray, List.getElem_cons_zero, List.getElem_cons_succ, List.setIfInBounds_toArray, List.set_cons_zero, List.set_cons_succ]
          refine wpAnyH_take (i := 11) (v := .pointer (some ⟨gb, j, none⟩)) rfl (by kernel_rfl) (by kernel_rfl) (by kernel_rfl) (fun _ _ _ h => h) (Or.inl ⟨by rfl, fun w hw => by go_simp⟩) hHeld ?_
          simp only [Act.put, List.getElem_toArray, List.getElem_cons_zero, List.getElem_cons_succ, List.setIfInBounds_toArray, List.set_cons_zero, List.set_cons_succ]
          refine wpAnyH_take (i := 12) (v := .int .u8 x) rfl (by kernel_rfl) (by kernel_rfl) (by kernel_rfl) (fun _ _ _ h => h) (Or.inl ⟨by rfl, fun w hw => by have hw2 : w.cell? ⟨gb, j, none⟩ = _ := hw.2; go_simp⟩) hHeld ?_
          simp only [Act.put, List.getElem_toArray, List.getElem_cons_zero, List.getElem_cons_succ, List.setIfInBounds_toArray, List.set_cons_zero, List.set_cons_succ]
          refine wpAnyH_take (i := 13) (v := .pointer (some ⟨gn, 64 * s + j, none⟩)) rfl (by kernel_rfl) (by kernel_rfl) (by kernel_rfl) (fun _ _ _ h => h) (Or.inl ⟨by rfl, fun w hw => by go_simp⟩) hHeld ?_
          simp only [Act.put, List.getElem_toArray, List.getElem_cons_zero, List.getElem_cons_succ, List.setIfInBounds_toArray, List.set_cons_zero, List.set_cons_succ]
          refine wpAnyH_ready (rs := [14]) (by kernel_rfl) (by simp) ?_
          refine AllReadyH.cons (o := _) rfl (fun K hK => ?_) AllReadyH.nil
          have hc0 : wr.drew.cell? ⟨gn, 64 * s + j, none⟩ = some (.int .u8 y) := hcn
          have hf0 : wr.drew.frozen? ⟨gn, 64 * s + j, none⟩ = false := hfn
          go_simp
          refine hK.out _ _ (⟨(World.cell?_of_block (w := wr) (setCell_other hne1)).trans hgl, (World.cell?_of_block (w := wr) (setCell_other hne2)).trans hgb⟩) (fun hHeld => ?_)
          clear hK K
          refine wpAnyH_done (by kernel_rfl) ?_ _
          clear hHeld hc0 hf0
          generalize World.drew (World.setCell wr ⟨gn, 64 * s + j, none⟩ (.int .u8 x)) = wz at *
          go_wp2_with fail
          go_roundw
          case rel => exact ⟨j + 1, by omega, by go_num, HJ2⟩
          case measure => (simp [intOf]; omega)
        · have hj64 : j = 64 := by omega
          subst hj64
          have HE : Hid (OW w4.heap.size wr (.slice (some ⟨gn, 0, none⟩) nl cn) (img (wh l) (((ins l us).take (k + 1)).map mkW)) ∧ Below w4.heap.size w4 wr) := by
            have h1 := HJ.out.1
            rw [List.take_of_length_le (by rw [fl_len]; omega), ← HIM.out] at h1
            have h2 := HJ.out.2
            have h3 := B6.out.2.1
            have h4 := h3.size
            have h5 := HGN.out
            exact ⟨h1, ⟨h2.os.trans h3.os, h2.tape.trans h3.tape, h2.output.trans h3.output, Nat.le_trans h4 h2.size, fun b hb => (h2.block b (by omega) (by omega)).trans (h3.block b hb)⟩⟩
          clear HJ
          go_wp2_with fail
          go_roundw
          case rel => exact ⟨k + 1, by omega, by go_num, HE⟩
          case measure => (simp [intOf]; omega)
    · have hkn : k = (ins l us).length := by rw [HNS.out]; omega
      have P6 : Hid (PX w wr (.slice ia l.length ic) (.slice wa us.length wc) (.slice oa nl oc) (.slice la n lc) l us ∧ DK (fun k => w3.heap.size ≤ k ∧ k < w4.heap.size) wr pa (dk0 l us) ∧ OW w4.heap.size wr (.slice (some ⟨gn, 0, none⟩) nl cn) (img (wh l) (dk0 l us).ws)) := ⟨P4.out.on H.out.2, M4.out.1.below H.out.2, by have := H.out.1; rw [hkn, List.take_length] at this; exact this⟩
      have HWS : Hid ((dk0 l us).ws.length = n ∧ (dk0 l us).last = wh l) := ⟨by rw [dk0_len]; exact HNS.out, rfl⟩
      clear H hkn P4
      generalize hD0 : dk0 l us = D0 at *
      have HGD : Hid (Gd D0) := P6.out.2.1.gd
      have HDL : Hid (D0.last = wh l ∧ D0.fu = none) := by rw [← hD0]; exact ⟨rfl, rfl⟩
      have HIL2 : Hid ((img (wh l) D0.ws).length = nl) := by show (img _ _).length = nl; rw [img_len]; exact HWL.out
      clear hD0
      go_wp2_with fail
      refine (image P6.out.2.1).mono ?_
      rintro e w6 ⟨v6, rfl, ho, hb⟩
      rw [HDL.out.1] at ho
      have Q6 : Hid (PX w w6 (.slice ia l.length ic) (.slice wa us.length wc) (.slice oa nl oc) (.slice la n lc) l us ∧ DK (fun k => w3.heap.size ≤ k ∧ k < w4.heap.size) w6 pa D0 ∧ OW w4.heap.size w6 (.slice (some ⟨gn, 0, none⟩) nl cn) (img (wh l) D0.ws) ∧ RB w6 v6 (img (wh l) D0.ws)) := ⟨P6.out.1.on hb, P6.out.2.1.below hb, P6.out.2.2.grow hb, ho.rb⟩
      obtain ⟨a6, c6, e6⟩ := ho.form
      rw [HIL2.out] at e6
      subst e6
      clear ho hb P6
      go_wp2_with fail
      refine (same _ _ (img (wh l) D0.ws) w6 (by rw [HIL2.out]; omega) Q6.out.2.2.2 Q6.out.2.2.1.rb).mono ?_
      rintro e w7 ⟨rfl, nq, rfl⟩
      have Q7 : Hid (PX w (w6.drewN nq) (.slice ia l.length ic) (.slice wa us.length wc) (.slice oa nl oc) (.slice la n lc) l us ∧ DK (fun k => w3.heap.size ≤ k ∧ k < w4.heap.size) (w6.drewN nq) pa D0 ∧ OW w4.heap.size (w6.drewN nq) (.slice (some ⟨gn, 0, none⟩) nl cn) (img (wh l) D0.ws)) := ⟨Q6.out.1.on (belowDrew _ _), Q6.out.2.1.below (belowDrew _ _), Q6.out.2.2.1.grow (belowDrew _ _)⟩
      clear Q6
      generalize w6.drewN nq = w7 at *
      go_wp2_with fail
      refine (durable Q7.out.2.1).mono ?_
      rintro e w8 ⟨v8, rfl, ho, hb⟩
      rw [HDL.out.1] at ho
      have Q8 : Hid (PX w w8 (.slice ia l.length ic) (.slice wa us.length wc) (.slice oa nl oc) (.slice la n lc) l us ∧ DK (fun k => w3.heap.size ≤ k ∧ k < w4.heap.size) w8 pa D0 ∧ OW w4.heap.size w8 (.slice (some ⟨gn, 0, none⟩) nl cn) (img (wh l) D0.ws) ∧ RB w8 v8 (wh l)) := ⟨Q7.out.1.on hb, Q7.out.2.1.below hb, Q7.out.2.2.grow hb, ho.rb⟩
      obtain ⟨a8, c8, e8⟩ := ho.form
      rw [HWL.out] at e8
      subst e8
      clear ho hb Q7
      go_wp2_with fail
      refine (same _ _ (wh l) w8 (by rw [HWL.out]; omega) Q8.out.2.2.2 Q8.out.1.o.rb).mono ?_
      rintro e w9 ⟨rfl, nq2, rfl⟩
      have Q9 : Hid (PX w (w8.drewN nq2) (.slice ia l.length ic) (.slice wa us.length wc) (.slice oa nl oc) (.slice la n lc) l us ∧ DK (fun k => w3.heap.size ≤ k ∧ k < w4.heap.size) (w8.drewN nq2) pa D0 ∧ OW w4.heap.size (w8.drewN nq2) (.slice (some ⟨gn, 0, none⟩) nl cn) (img (wh l) D0.ws)) := ⟨Q8.out.1.on (belowDrew _ _), Q8.out.2.1.below (belowDrew _ _), Q8.out.2.2.1.grow (belowDrew _ _)⟩
      clear Q8
      generalize w8.drewN nq2 = w9 at *
      go_wp2_with fail
      refine (pending Q9.out.2.1 (by rw [HWS.out.1]; omega)).mono ?_
      rintro e w10 ⟨v10, rfl, ho, hb⟩
      obtain ⟨a10, c10, e10⟩ := ownsRow_form ho
      rw [HWS.out.1] at e10
      subst e10
      have Q10 : Hid (PX w w10 (.slice ia l.length ic) (.slice wa us.length wc) (.slice oa nl oc) (.slice la n lc) l us ∧ DK (fun k => w3.heap.size ≤ k ∧ k < w4.heap.size) w10 pa D0 ∧ OW w4.heap.size w10 (.slice (some ⟨gn, 0, none⟩) nl cn) (img (wh l) D0.ws)) := ⟨Q9.out.1.on hb, Q9.out.2.1.below hb, Q9.out.2.2.grow hb⟩
      clear ho hb Q9
      cases sy with
      | false =>
        have Q15 : Hid (Below w.heap.size w w10 ∧ DK (fun k => w3.heap.size ≤ k ∧ k < w4.heap.size) w10 pa D0 ∧ RB w10 (.slice oa nl oc) (wh l) ∧ D0.ws.length = n ∧ D0.last = wh l ∧ ∀ g, (Value.slice oa nl oc).ownBlock = some g → ¬ (w3.heap.size ≤ g ∧ g < w4.heap.size)) := ⟨Q10.out.1.b, Q10.out.2.1, Q10.out.1.o.rb, HWS.out.1, HDL.out.1, (fun g hg h => by have := HOL.out g hg; omega)⟩
        have HCF : Hid (crD (kp [] n) (-1) 0 D0.last D0.ws = wh l) := by
          exact (crD_false Q15.out.2.1.gd n).trans Q15.out.2.2.2.2.1
        have H410 : w4.heap.size ≤ w10.heap.size := by have h1 := (ownsRow_lt Q10.out.2.2 gn rfl).1; have h2 := HGN.out; omega
        clear Q10
        go_wp2_with fail
        refine (kept (.slice none 0 0) [] n w10 ⟨none, 0, rfl, Nat.le_refl _, .inl rfl⟩ (by simp) (by omega)).mono ?_
        rintro e w16 ⟨kw, rfl, hko, b16⟩
        have hkg : ∀ g, kw.ownBlock = some g → w10.heap.size ≤ g := fun g hg => by
          rcases hko.2 with ⟨e, _⟩ | ⟨g', _, _, e, h1, _⟩
          · rw [e] at hg; simp [Value.ownBlock] at hg
          · rw [e] at hg; simp [Value.ownBlock] at hg; omega
        have NC := Lib.hid (crash (Q15.out.2.1.below b16) kw (kp [] n) hko.rb (by rw [kp_len, Q15.out.2.2.2.1]) (fun g hg h => by have := hkg g hg; omega) (by rw [Q15.out.2.2.2.1]; omega) (-1) 0 (by omega) (by omega) (fun h => absurd rfl h))
        rw [if_pos rfl, HCF.out] at NC
        obtain ⟨ak, ck, ek⟩ := ownsRow_form hko
        rw [kp_len] at ek
        have B16 : Hid (Below w.heap.size w w16 ∧ RB w16 (.slice oa nl oc) (wh l)) := ⟨Q15.out.1.trans (b16.mono Q15.out.1.size), Q15.out.2.2.1.keep b16⟩
        clear hko b16 hkg
        subst ek
        go_wp2_with fail
        refine NC.out.mono ?_
        rintro e w17 ⟨rfl, hd, hf⟩
        have Q17 : Hid (Below w.heap.size w w17 ∧ DK (fun k => w3.heap.size ≤ k ∧ k < w4.heap.size) w17 pa ⟨wh l, [], none⟩ ∧ RB w17 (.slice oa nl oc) (wh l)) := by
          have hz := B16.out.1.size
          have h3 := HS3.out
          exact ⟨⟨hf.os.trans B16.out.1.os, hf.tape.trans B16.out.1.tape, hf.output.trans B16.out.1.output, Nat.le_trans hz hf.size, fun k hk => (hf.block k (by omega) (by omega)).trans (B16.out.1.block k hk)⟩, hd, B16.out.2.fr hf Q15.out.2.2.2.2.2⟩
        clear hd hf NC B16 Q15 H410
        go_wp2_with fail
        refine (image Q17.out.2.1).mono ?_
        rintro e w18 ⟨v18, rfl, ho, hb⟩
        have ho' : OW w17.heap.size w18 v18 (img (wh l) []) := ho
        rw [img_nil] at ho'
        have Q18 : Hid (Below w.heap.size w w18 ∧ DK (fun k => w3.heap.size ≤ k ∧ k < w4.heap.size) w18 pa ⟨wh l, [], none⟩ ∧ RB w18 (.slice oa nl oc) (wh l) ∧ RB w18 v18 (wh l)) := ⟨Q17.out.1.trans (hb.mono Q17.out.1.size), Q17.out.2.1.below hb, Q17.out.2.2.keep hb, ho'.rb⟩
        obtain ⟨a18, c18, e18⟩ := ho'.form
        rw [HWL.out] at e18
        subst e18
        clear ho ho' hb Q17
        go_wp2_with fail
        refine (same _ _ (wh l) w18 (by rw [HWL.out]; omega) Q18.out.2.2.2 Q18.out.2.2.1).mono ?_
        rintro e w19 ⟨rfl, nq5, rfl⟩
        have Q19 : Hid (Below w.heap.size w (w18.drewN nq5) ∧ DK (fun k => w3.heap.size ≤ k ∧ k < w4.heap.size) (w18.drewN nq5) pa ⟨wh l, [], none⟩ ∧ RB (w18.drewN nq5) (.slice oa nl oc) (wh l)) := ⟨belowN Q18.out.1 nq5, Q18.out.2.1.below (belowDrew _ _), Q18.out.2.2.1.keep (belowDrew _ _)⟩
        clear Q18
        generalize w18.drewN nq5 = w19 at *
        go_wp2_with fail
        refine (durable Q19.out.2.1).mono ?_
        rintro e w20 ⟨v20, rfl, ho, hb⟩
        have ho' : OW w19.heap.size w20 v20 (wh l) := ho
        have Q20 : Hid (Below w.heap.size w w20 ∧ DK (fun k => w3.heap.size ≤ k ∧ k < w4.heap.size) w20 pa ⟨wh l, [], none⟩ ∧ RB w20 (.slice oa nl oc) (wh l) ∧ RB w20 v20 (wh l)) := ⟨Q19.out.1.trans (hb.mono Q19.out.1.size), Q19.out.2.1.below hb, Q19.out.2.2.keep hb, ho'.rb⟩
        obtain ⟨a20, c20, e20⟩ := ho'.form
        rw [HWL.out] at e20
        subst e20
        clear ho ho' hb Q19
        go_wp2_with fail
        refine (same _ _ (wh l) w20 (by rw [HWL.out]; omega) Q20.out.2.2.2 Q20.out.2.2.1).mono ?_
        rintro e w21 ⟨rfl, nq6, rfl⟩
        have Q21 : Hid (Below w.heap.size w (w20.drewN nq6) ∧ DK (fun k => w3.heap.size ≤ k ∧ k < w4.heap.size) (w20.drewN nq6) pa ⟨wh l, [], none⟩) := ⟨belowN Q20.out.1 nq6, Q20.out.2.1.below (belowDrew _ _)⟩
        clear Q20
        generalize w20.drewN nq6 = w21 at *
        go_wp2_with fail
        refine (pending Q21.out.2 (by show ([] : List Wt).length ≤ _; simp)).mono ?_
        rintro e w22 ⟨v22, rfl, ho, hb⟩
        obtain ⟨a22, c22, e22⟩ := ownsRow_form ho
        have e22' : v22 = .slice a22 0 c22 := e22
        subst e22'
        have Q22 : Hid (Below w.heap.size w w22) := Q21.out.1.trans (hb.mono Q21.out.1.size)
        clear ho hb Q21 e22
        go_wp2_with fail
        go_ret
        exact ⟨rfl, Q22.out⟩
      | true =>
        go_wp2_with fail
        refine (sync_live Q10.out.2.1 (by rw [HDL.out.2]; rfl)).mono ?_
        rintro e w11 ⟨rfl, hd, hf⟩
        have Q11 : Hid (Below w.heap.size w w11 ∧ DK (fun k => w3.heap.size ≤ k ∧ k < w4.heap.size) w11 pa ⟨img (wh l) D0.ws, [], none⟩ ∧ OW w4.heap.size w11 (.slice (some ⟨gn, 0, none⟩) nl cn) (img (wh l) D0.ws)) := by
          have hz := Q10.out.1.b.size
          have h3 := HS3.out
          have h4 := HGN.out
          rw [HDL.out.1, HDL.out.2] at hd
          exact ⟨⟨hf.os.trans Q10.out.1.b.os, hf.tape.trans Q10.out.1.b.tape, hf.output.trans Q10.out.1.b.output, Nat.le_trans hz hf.size, fun k hk => (hf.block k (by omega) (by omega)).trans (Q10.out.1.b.block k hk)⟩, hd, ownsRow_fr Q10.out.2.2 hf (fun g hg => by simp [Value.ownBlock] at hg; omega)⟩
        clear hd hf Q10
        go_wp2_with fail
        refine (pending Q11.out.2.1 (by show ([] : List Wt).length ≤ _; simp)).mono ?_
        rintro e w12 ⟨v12, rfl, ho, hb⟩
        obtain ⟨a12, c12, e12⟩ := ownsRow_form ho
        have e12' : v12 = .slice a12 0 c12 := e12
        subst e12'
        have Q12 : Hid (Below w.heap.size w w12 ∧ DK (fun k => w3.heap.size ≤ k ∧ k < w4.heap.size) w12 pa ⟨img (wh l) D0.ws, [], none⟩ ∧ OW w4.heap.size w12 (.slice (some ⟨gn, 0, none⟩) nl cn) (img (wh l) D0.ws)) := ⟨Q11.out.1.trans (hb.mono Q11.out.1.size), Q11.out.2.1.below hb, Q11.out.2.2.grow hb⟩
        clear ho hb Q11 e12
        go_wp2_with fail
        refine (durable Q12.out.2.1).mono ?_
        rintro e w13 ⟨v13, rfl, ho, hb⟩
        have ho' : OW w12.heap.size w13 v13 (img (wh l) D0.ws) := ho
        have Q13 : Hid (Below w.heap.size w w13 ∧ DK (fun k => w3.heap.size ≤ k ∧ k < w4.heap.size) w13 pa ⟨img (wh l) D0.ws, [], none⟩ ∧ OW w4.heap.size w13 (.slice (some ⟨gn, 0, none⟩) nl cn) (img (wh l) D0.ws) ∧ RB w13 v13 (img (wh l) D0.ws)) := ⟨Q12.out.1.trans (hb.mono Q12.out.1.size), Q12.out.2.1.below hb, Q12.out.2.2.grow hb, ho'.rb⟩
        obtain ⟨a13, c13, e13⟩ := ho'.form
        rw [HIL2.out] at e13
        subst e13
        clear ho ho' hb Q12
        go_wp2_with fail
        refine (same _ _ (img (wh l) D0.ws) w13 (by rw [HIL2.out]; omega) Q13.out.2.2.2 Q13.out.2.2.1.rb).mono ?_
        rintro e w14 ⟨rfl, nq3, rfl⟩
        have Q10 : Hid (Below w.heap.size w (w13.drewN nq3) ∧ DK (fun k => w3.heap.size ≤ k ∧ k < w4.heap.size) (w13.drewN nq3) pa ⟨img (wh l) D0.ws, [], none⟩ ∧ OW w4.heap.size (w13.drewN nq3) (.slice (some ⟨gn, 0, none⟩) nl cn) (img (wh l) D0.ws)) := ⟨belowN Q13.out.1 nq3, Q13.out.2.1.below (belowDrew _ _), Q13.out.2.2.1.grow (belowDrew _ _)⟩
        clear Q13
        generalize w13.drewN nq3 = w10 at *
        have Q15 : Hid (Below w.heap.size w w10 ∧ DK (fun k => w3.heap.size ≤ k ∧ k < w4.heap.size) w10 pa (⟨img (wh l) D0.ws, [], none⟩ : Dk) ∧ RB w10 (.slice (some ⟨gn, 0, none⟩) nl cn) (img (wh l) D0.ws) ∧ (⟨img (wh l) D0.ws, [], none⟩ : Dk).ws.length = 0 ∧ (⟨img (wh l) D0.ws, [], none⟩ : Dk).last = img (wh l) D0.ws ∧ ∀ g, (Value.slice (some ⟨gn, 0, none⟩) nl cn).ownBlock = some g → ¬ (w3.heap.size ≤ g ∧ g < w4.heap.size)) := ⟨Q10.out.1, Q10.out.2.1, Q10.out.2.2.rb, rfl, rfl, (fun g hg h => by simp [Value.ownBlock] at hg; have := HGN.out; omega)⟩
        have HCF : Hid (crD (kp [] 0) (-1) 0 (⟨img (wh l) D0.ws, [], none⟩ : Dk).last (⟨img (wh l) D0.ws, [], none⟩ : Dk).ws = img (wh l) D0.ws) := by
          exact (crD_false Q15.out.2.1.gd 0).trans Q15.out.2.2.2.2.1
        have H410 : w4.heap.size ≤ w10.heap.size := by have h1 := (ownsRow_lt Q10.out.2.2 gn rfl).1; have h2 := HGN.out; omega
        clear Q10
        go_wp2_with fail
        refine (kept (.slice none 0 0) [] 0 w10 ⟨none, 0, rfl, Nat.le_refl _, .inl rfl⟩ (by simp) (by omega)).mono ?_
        rintro e w16 ⟨kw, rfl, hko, b16⟩
        have hkg : ∀ g, kw.ownBlock = some g → w10.heap.size ≤ g := fun g hg => by
          rcases hko.2 with ⟨e, _⟩ | ⟨g', _, _, e, h1, _⟩
          · rw [e] at hg; simp [Value.ownBlock] at hg
          · rw [e] at hg; simp [Value.ownBlock] at hg; omega
        have NC := Lib.hid (crash (Q15.out.2.1.below b16) kw (kp [] 0) hko.rb (by rw [kp_len, Q15.out.2.2.2.1]) (fun g hg h => by have := hkg g hg; omega) (by rw [Q15.out.2.2.2.1]; omega) (-1) 0 (by omega) (by omega) (fun h => absurd rfl h))
        rw [if_pos rfl, HCF.out] at NC
        obtain ⟨ak, ck, ek⟩ := ownsRow_form hko
        rw [kp_len] at ek
        have B16 : Hid (Below w.heap.size w w16 ∧ RB w16 (.slice (some ⟨gn, 0, none⟩) nl cn) (img (wh l) D0.ws)) := ⟨Q15.out.1.trans (b16.mono Q15.out.1.size), Q15.out.2.2.1.keep b16⟩
        clear hko b16 hkg
        subst ek
        go_wp2_with fail
        refine NC.out.mono ?_
        rintro e w17 ⟨rfl, hd, hf⟩
        have Q17 : Hid (Below w.heap.size w w17 ∧ DK (fun k => w3.heap.size ≤ k ∧ k < w4.heap.size) w17 pa ⟨img (wh l) D0.ws, [], none⟩ ∧ RB w17 (.slice (some ⟨gn, 0, none⟩) nl cn) (img (wh l) D0.ws)) := by
          have hz := B16.out.1.size
          have h3 := HS3.out
          exact ⟨⟨hf.os.trans B16.out.1.os, hf.tape.trans B16.out.1.tape, hf.output.trans B16.out.1.output, Nat.le_trans hz hf.size, fun k hk => (hf.block k (by omega) (by omega)).trans (B16.out.1.block k hk)⟩, hd, B16.out.2.fr hf Q15.out.2.2.2.2.2⟩
        clear hd hf NC B16 Q15 H410
        go_wp2_with fail
        refine (image Q17.out.2.1).mono ?_
        rintro e w18 ⟨v18, rfl, ho, hb⟩
        have ho' : OW w17.heap.size w18 v18 (img (img (wh l) D0.ws) []) := ho
        rw [img_nil] at ho'
        have Q18 : Hid (Below w.heap.size w w18 ∧ DK (fun k => w3.heap.size ≤ k ∧ k < w4.heap.size) w18 pa ⟨img (wh l) D0.ws, [], none⟩ ∧ RB w18 (.slice (some ⟨gn, 0, none⟩) nl cn) (img (wh l) D0.ws) ∧ RB w18 v18 (img (wh l) D0.ws)) := ⟨Q17.out.1.trans (hb.mono Q17.out.1.size), Q17.out.2.1.below hb, Q17.out.2.2.keep hb, ho'.rb⟩
        obtain ⟨a18, c18, e18⟩ := ho'.form
        rw [HIL2.out] at e18
        subst e18
        clear ho ho' hb Q17
        go_wp2_with fail
        refine (same _ _ (img (wh l) D0.ws) w18 (by rw [HIL2.out]; omega) Q18.out.2.2.2 Q18.out.2.2.1).mono ?_
        rintro e w19 ⟨rfl, nq5, rfl⟩
        have Q19 : Hid (Below w.heap.size w (w18.drewN nq5) ∧ DK (fun k => w3.heap.size ≤ k ∧ k < w4.heap.size) (w18.drewN nq5) pa ⟨img (wh l) D0.ws, [], none⟩ ∧ RB (w18.drewN nq5) (.slice (some ⟨gn, 0, none⟩) nl cn) (img (wh l) D0.ws)) := ⟨belowN Q18.out.1 nq5, Q18.out.2.1.below (belowDrew _ _), Q18.out.2.2.1.keep (belowDrew _ _)⟩
        clear Q18
        generalize w18.drewN nq5 = w19 at *
        go_wp2_with fail
        refine (durable Q19.out.2.1).mono ?_
        rintro e w20 ⟨v20, rfl, ho, hb⟩
        have ho' : OW w19.heap.size w20 v20 (img (wh l) D0.ws) := ho
        have Q20 : Hid (Below w.heap.size w w20 ∧ DK (fun k => w3.heap.size ≤ k ∧ k < w4.heap.size) w20 pa ⟨img (wh l) D0.ws, [], none⟩ ∧ RB w20 (.slice (some ⟨gn, 0, none⟩) nl cn) (img (wh l) D0.ws) ∧ RB w20 v20 (img (wh l) D0.ws)) := ⟨Q19.out.1.trans (hb.mono Q19.out.1.size), Q19.out.2.1.below hb, Q19.out.2.2.keep hb, ho'.rb⟩
        obtain ⟨a20, c20, e20⟩ := ho'.form
        rw [HIL2.out] at e20
        subst e20
        clear ho ho' hb Q19
        go_wp2_with fail
        refine (same _ _ (img (wh l) D0.ws) w20 (by rw [HIL2.out]; omega) Q20.out.2.2.2 Q20.out.2.2.1).mono ?_
        rintro e w21 ⟨rfl, nq6, rfl⟩
        have Q21 : Hid (Below w.heap.size w (w20.drewN nq6) ∧ DK (fun k => w3.heap.size ≤ k ∧ k < w4.heap.size) (w20.drewN nq6) pa ⟨img (wh l) D0.ws, [], none⟩) := ⟨belowN Q20.out.1 nq6, Q20.out.2.1.below (belowDrew _ _)⟩
        clear Q20
        generalize w20.drewN nq6 = w21 at *
        go_wp2_with fail
        refine (pending Q21.out.2 (by show ([] : List Wt).length ≤ _; simp)).mono ?_
        rintro e w22 ⟨v22, rfl, ho, hb⟩
        obtain ⟨a22, c22, e22⟩ := ownsRow_form ho
        have e22' : v22 = .slice a22 0 c22 := e22
        subst e22'
        have Q22 : Hid (Below w.heap.size w w22) := Q21.out.1.trans (hb.mono Q21.out.1.size)
        clear ho hb Q21 e22
        go_wp2_with fail
        go_ret
        exact ⟨rfl, Q22.out⟩
end Go.Proofs.Ytjgioiljhefcbaa
