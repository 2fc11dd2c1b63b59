import Derived.Test.YtpembmfpgolniaaDoorQA
import Derived.Deep.RegionHeld3
import Derived.Deep.Cut
import Derived.Deep.CutRange
import Derived.Deep.QuietTactic
import Derived.BigQuiet
namespace Go.Proofs.YtpembmfpgolniaaDoor
open Go.RowKit
set_option maxHeartbeats 8000000 in
set_option maxRecDepth 100000 in
theorem ownLaw (w : World) (bv : Value) (l : List UInt8) (m : Mv) (D hb : List UInt8) (hr : RB w bv l) (hm : MM w m D hb) (hk : KT w) (hl : l.length ≤ 1048576) (hD : D.length ≤ 1048576) (hH : hb.length ≤ 33554432) :
    Calls Tryd.prog 3 #[bv, .agg m.cs] w fun e w' => e = .returned (.bool true) ∧ Below w.heap.size w w' := by
  have b0 : Below w.heap.size w (w.alloc (.cells m.cs 27)) := (Below.refl _ _).alloc (Nat.le_refl _) _
  obtain ⟨W, hW⟩ : ∃ W, W = w.alloc (.cells m.cs 27) := ⟨_, rfl⟩
  have H0 : Hid (RB W bv l ∧ MM W m D hb ∧ KT W ∧ MB W w.heap.size m ∧ Below w.heap.size w W ∧ W.heap.size = w.heap.size + 1) := by
    rw [hW]
    exact ⟨hr.keep b0, hm.keep b0, hk.below b0 hk.pos, heapNew _ _, b0, by simp⟩
  have HWE : Hid (W = w.alloc (.cells m.cs 27)) := hW
  have ok := hm.ok
  have him := info_msg ok
  obtain ⟨ba, bc', rfl, _⟩ := id hr
  clear hr hm hk b0 hW
  go_enter Tryd.func3, Tryd.ntmps3
  go_wp2_with fail
  rw [← HWE.out]
  refine (awakeT W H0.out.2.2.1).mono ?_
  rintro e w1 ⟨rfl, b1⟩
  have hcv := conv5 w1
  have BW1 : Below W.heap.size W (spW w1) := b1.trans ((spW_below w1).mono b1.size)
  have JT : Hid (Calls Tryd.prog 5 #[.slice ba l.length bc', .slice (some ⟨w1.heap.size, 0, none⟩) 5 5] (spW w1) fun e w' => ∃ v, e = .returned v ∧ OW (spW w1).heap.size w' v (l ++ sp5) ∧ Below (spW w1).heap.size (spW w1) w') := joinedT _ _ _ l sp5 (H0.out.1.keep BW1) (spW_rb w1) (by have : sp5.length = 5 := rfl; omega)
  go_wp2_with fail
  refine JT.out.mono ?_
  rintro e w2 ⟨tv, rfl, o2, b2⟩
  obtain ⟨G, cap, rfl, oG, hcap, hG, hGl⟩ := room5 o2
  have B02 : Below W.heap.size W w2 := BW1.trans (b2.mono BW1.size)
  have T2 : Hid (OWI W.heap.size w2.heap.size w2 (.slice (some ⟨G, 0, none⟩) (l.length + 5) cap) (l ++ sp5) ∧ OWI W.heap.size w2.heap.size w2 (.slice (some ⟨G, 0, none⟩) l.length cap) l ∧ Below W.heap.size W w2 ∧ W.heap.size ≤ G ∧ G < w2.heap.size) := ⟨OWI.of (o2.mono BW1.size) (Nat.le_refl _), OWI.of (oG.mono BW1.size) (Nat.le_refl _), B02, by have := BW1.size; omega, hGl⟩
  have DA : Hid (Calls Tryd.prog 6 #[.slice (some ⟨G, 0, none⟩) l.length cap] w2 fun e w' => DCR w2 w' e l) := decodeT w2 _ l (by omega) oG.rb (H0.out.2.2.1.below B02 H0.out.2.2.1.pos)
  have hcI : (l.length : Int) ≤ cap := by omega
  clear JT o2 b2 oG hG hGl b1 hcv BW1 B02
  go_wp2_with fail
  refine DA.out.mono ?_
  rintro e w3 ⟨d1, h1, rfl, q1, q2, q3⟩
  have M1 := MM.of_dec q1 q2
  obtain ⟨mA, hmA, e1, eD, eH⟩ : ∃ x : Mv, ({ (decS l).m with d := d1, h := h1 } : Mv) = x ∧ x = { (decS l).m with d := x.d, h := x.h } ∧ x.d = d1 ∧ x.h = h1 := ⟨_, rfl, rfl, rfl, rfl⟩
  rw [hmA] at M1 ⊢
  rw [← eD] at q1
  rw [← eH] at q2
  clear hmA eD eH
  have hz3 := heapNew w3 (.cells z40 27)
  have hi3 := info_msg M1.ok
  have ho3 := M1.ok.one
  have hs3 : z40.size = mA.cs.size := M1.ok.size.symm
  have hcA := heapSetRow _ _ _ mA.cs _ hz3
  have bX : Below w3.heap.size w3 ((w3.alloc (.cells z40 27)).setRow w3.heap.size mA.cs) := belowSetRow ((Below.refl _ _).alloc (Nat.le_refl _) _) (Nat.le_refl _) _
  obtain ⟨X3, hX3⟩ : ∃ X, X = (w3.alloc (.cells z40 27)).setRow w3.heap.size mA.cs := ⟨_, rfl⟩
  have HX3 : Hid (X3 = (w3.alloc (.cells z40 27)).setRow w3.heap.size mA.cs) := hX3
  rw [← hX3] at hcA bX
  have B23 : Below w2.heap.size w2 X3 := q3.trans (bX.mono q3.size)
  have T3 : Hid (OWI w2.heap.size w3.heap.size X3 mA.d (decS l).D ∧ OHI w2.heap.size w3.heap.size X3 mA.h (decS l).hb ∧ MB X3 w3.heap.size mA ∧ mA = { (decS l).m with d := mA.d, h := mA.h } ∧ mA.ok ∧ Below w2.heap.size w2 X3 ∧ w3.heap.size < X3.heap.size ∧ w2.heap.size ≤ w3.heap.size) := ⟨(OWI.of q1 (Nat.le_refl _)).fr (Fm.Fr.of_below (S := fun _ => True) bX) (fun _ _ _ => trivial), (OHI.of q2 (Nat.le_refl _)).fr (Fm.Fr.of_below (S := fun _ => True) bX) (fun _ _ _ => trivial), hcA, e1, M1.ok, B23, MB.lt hcA, q3.size⟩
  have DB : Hid (Calls Tryd.prog 6 #[.slice (some ⟨G, 0, none⟩) l.length cap] X3 fun e w' => DCR X3 w' e l) := decodeT X3 _ l (by omega) (T2.out.2.1.1.grow B23).rb ((H0.out.2.2.1.below T2.out.2.2.1 H0.out.2.2.1.pos).below B23 (H0.out.2.2.1.below T2.out.2.2.1 H0.out.2.2.1.pos).pos)
  clear q1 q2 q3 e1 M1 hcA bX B23 DA hX3
  go_wp2_with (first | (refine wpList_store_row rfl 27 _ _ rfl w3.heap.size mA.cs rfl rfl 27 z40 hz3 hi3 hs3 ho3 ?_; rw [← HX3.out]))
  refine DB.out.mono ?_
  rintro e w4 ⟨d2, h2, rfl, q1, q2, q3⟩
  clear HX3 hz3 hi3 ho3 hs3
  have M2 := MM.of_dec q1 q2
  obtain ⟨mB, hmB, e2, eD, eH⟩ : ∃ x : Mv, ({ (decS l).m with d := d2, h := h2 } : Mv) = x ∧ x = { (decS l).m with d := x.d, h := x.h } ∧ x.d = d2 ∧ x.h = h2 := ⟨_, rfl, rfl, rfl, rfl⟩
  rw [hmB] at M2 ⊢
  rw [← eD] at q1
  rw [← eH] at q2
  clear hmB eD eH
  have hz4 := heapNew w4 (.cells z40 27)
  have hi4 := info_msg M2.ok
  have ho4 := M2.ok.one
  have hs4 : z40.size = mB.cs.size := M2.ok.size.symm
  have hcB := heapSetRow _ _ _ mB.cs _ hz4
  have bX : Below w4.heap.size w4 ((w4.alloc (.cells z40 27)).setRow w4.heap.size mB.cs) := belowSetRow ((Below.refl _ _).alloc (Nat.le_refl _) _) (Nat.le_refl _) _
  obtain ⟨X4, hX4⟩ : ∃ X, X = (w4.alloc (.cells z40 27)).setRow w4.heap.size mB.cs := ⟨_, rfl⟩
  have HX4 : Hid (X4 = (w4.alloc (.cells z40 27)).setRow w4.heap.size mB.cs) := hX4
  rw [← hX4] at hcB bX
  have B34 : Below X3.heap.size X3 X4 := q3.trans (bX.mono q3.size)
  have T4 : Hid (OWI X3.heap.size w4.heap.size X4 mB.d (decS l).D ∧ OHI X3.heap.size w4.heap.size X4 mB.h (decS l).hb ∧ MB X4 w4.heap.size mB ∧ mB = { (decS l).m with d := mB.d, h := mB.h } ∧ mB.ok ∧ Below X3.heap.size X3 X4 ∧ w4.heap.size < X4.heap.size ∧ X3.heap.size ≤ w4.heap.size) := ⟨(OWI.of q1 (Nat.le_refl _)).fr (Fm.Fr.of_below (S := fun _ => True) bX) (fun _ _ _ => trivial), (OHI.of q2 (Nat.le_refl _)).fr (Fm.Fr.of_below (S := fun _ => True) bX) (fun _ _ _ => trivial), hcB, e2, M2.ok, B34, MB.lt hcB, q3.size⟩
  have B04 : Below W.heap.size W X4 := (T2.out.2.2.1.trans (T3.out.2.2.2.2.2.1.mono T2.out.2.2.1.size)).trans (B34.mono (Nat.le_trans T2.out.2.2.1.size T3.out.2.2.2.2.2.1.size))
  have B24 : Below w2.heap.size w2 X4 := T3.out.2.2.2.2.2.1.trans (B34.mono T3.out.2.2.2.2.2.1.size)
  have UA : Hid (Calls Tryd.prog 7 #[.slice (some ⟨G, 0, none⟩) l.length cap] X4 fun e w' => ∃ bs er, (∃ r, Fm.Rd false l [] bs false r er) ∧ UNR2 X4 w' e bs er) := unwireD X4 _ l (by omega) (T2.out.2.1.1.grow B24).rb (H0.out.2.2.1.below B04 H0.out.2.2.1.pos)
  clear q1 q2 q3 e2 M2 hcB bX B34 DB hX4
  go_wp2_with (first | (refine wpList_store_row rfl 27 _ _ rfl w4.heap.size mB.cs rfl rfl 27 z40 hz4 hi4 hs4 ho4 ?_; rw [← HX4.out]))
  refine UA.out.mono ?_
  rintro e w5 ⟨bs, er, ⟨r1, R1⟩, rv, ms, rfl, o5, of5, b5, md5⟩
  clear HX4 hz4 hi4 ho4 hs4 UA
  obtain ⟨ra, rc, rfl⟩ := o5.form
  have B05 : Below W.heap.size W w5 := B04.trans (b5.mono B04.size)
  have T5 : Hid (OMI X4.heap.size w5.heap.size w5 (.slice ra ms.length rc) ms ∧ MsOf ms (gds bs) ∧ Fm.Rd false l [] bs false r1 er ∧ Below X4.heap.size X4 w5 ∧ Below W.heap.size W w5) := ⟨OMI.of o5 md5 (Nat.le_refl _), of5, R1, b5, B05⟩
  have hc5 := (H0.out.2.2.2.1.below (B05.mono (Nat.le_refl _))).cells
  have hz5 := heapNew w5 (.cells z40 27)
  have ho5 := ok.one
  have hs5' : z40.size = m.cs.size := ok.size.symm
  have hg5 : MB ((w5.alloc (.cells z40 27)).setRow w5.heap.size m.cs) w5.heap.size m := heapSetRow _ _ _ m.cs _ hz5
  have bX : Below w5.heap.size w5 ((w5.alloc (.cells z40 27)).setRow w5.heap.size m.cs) := belowSetRow ((Below.refl _ _).alloc (Nat.le_refl _) _) (Nat.le_refl _) _
  obtain ⟨X5, hX5⟩ : ∃ X, X = (w5.alloc (.cells z40 27)).setRow w5.heap.size m.cs := ⟨_, rfl⟩
  have HX5 : Hid (X5 = (w5.alloc (.cells z40 27)).setRow w5.heap.size m.cs) := hX5
  rw [← hX5] at hg5 bX
  have B0X : Below W.heap.size W X5 := B05.trans (bX.mono B05.size)
  have T6 : Hid (MB X5 w.heap.size m ∧ MB X5 w5.heap.size m ∧ Below w5.heap.size w5 X5 ∧ Below W.heap.size W X5 ∧ w5.heap.size < X5.heap.size) := ⟨H0.out.2.2.2.1.below B0X, hg5, bX, B0X, hg5.lt⟩
  clear o5 of5 b5 md5 R1 B04 B24 B05 hX5 hg5 bX B0X
  go_upto_region 9 with (first | (refine wpList_load_row rfl 27 _ rfl w.heap.size rfl 27 m.cs (0, 0) _ hc5 Tryd.underlying27 rfl him ?_) | (refine wpList_load_row rfl 27 _ rfl w.heap.size rfl 27 m.cs (0, 0) _ ((heapOld _ _ _ (MB.lt hc5)).trans hc5) Tryd.underlying27 rfl him ?_) | (refine wpList_store_row rfl 27 _ _ rfl w5.heap.size m.cs rfl rfl 27 z40 hz5 him hs5' ho5 ?_; rw [← HX5.out]))
  obtain ⟨da0, dc0, hmd⟩ : ∃ a c, m.d = .slice a D.length c := by obtain ⟨a, c, e, _⟩ := H0.out.2.1.d; exact ⟨a, c, e⟩
  have HMD : Hid (m.d = .slice da0 D.length dc0) := hmd
  have hd4 := T6.out.1.c4
  rw [hmd] at hd4
  have HS4 : Hid (∀ u, Below X5.heap.size X5 u → u.cell? ⟨w.heap.size, 4, none⟩ = some (.slice da0 D.length dc0)) := fun u hb => (hb.cell (p := ⟨w.heap.size, 4, none⟩) T6.out.1.lt).trans hd4
  have BD : Below X5.heap.size X5 X5.drew := belowDrew X5 1
  have BS : Below X5.heap.size X5 (spW X5.drew) := BD.trans (spW_below X5.drew)
  have HBA : Hid (Below X5.heap.size X5 (X5.alloc (.cells #[.int .u8 115, .int .u8 112, .int .u8 97, .int .u8 114, .int .u8 101] 5)).drew) := ((Below.refl X5.heap.size X5).alloc (Nat.le_refl _) _).trans ((belowDrew _ 1).mono (by simp))
  have hcvd : (convert 22 22 (.slice (some ⟨X5.heap.size, 0, none⟩) 5 5)).run Tryd.prog (X5.alloc (.cells #[.int .u8 115, .int .u8 112, .int .u8 97, .int .u8 114, .int .u8 101] 5)).drew = .ok (.slice (some ⟨X5.heap.size, 0, none⟩) 5 5) (spW X5.drew) := conv5 X5.drew
  have hDX : RB X5 m.d D := (H0.out.2.1.keep T6.out.2.2.2.1).d
  rw [hmd] at hDX
  have JI : Hid (Calls Tryd.prog 5 #[.slice da0 D.length dc0, .slice (some ⟨X5.heap.size, 0, none⟩) 5 5] (spW X5.drew) fun e w' => ∃ v, e = .returned v ∧ OW (spW X5.drew).heap.size w' v (D ++ sp5) ∧ Below (spW X5.drew).heap.size (spW X5.drew) w') := joinedT _ _ _ D sp5 (hDX.keep BS) (spW_rb X5.drew) (by have : sp5.length = 5 := rfl; omega)
  have HBS : Hid (Below X5.heap.size X5 (spW X5.drew)) := BS
  clear BD BS hDX hmd
  refine wp_region_held_drew (S := fun u => u.cell? ⟨w.heap.size, 4, none⟩ = some (.slice da0 D.length dc0)) (by kernel_rfl) (hd4) (fun hHeld => ?_)
  refine wpAnyH_take (i := 0) (v := .pointer (some ⟨w.heap.size, 4, none⟩)) rfl (by kernel_rfl) (by kernel_rfl) (by kernel_rfl) (fun _ _ _ h => h) (Or.inl ⟨by rfl, fun w hw => by go_simp⟩) hHeld ?_
  simp only [Act.put, List.getElem_toArray, List.getElem_cons_zero, List.setIfInBounds_toArray, List.set_cons_zero, List.set_cons_succ]
  refine wpAnyH_take (i := 1) (v := .slice da0 D.length dc0) rfl (by kernel_rfl) (by kernel_rfl) (by kernel_rfl) (fun _ _ _ h => h) (Or.inl ⟨by rfl, fun w hw => by have hq := hw; go_simp⟩) hHeld ?_
  simp only [Act.put, List.getElem_toArray, List.getElem_cons_zero, List.getElem_cons_succ, List.setIfInBounds_toArray, List.set_cons_zero, List.set_cons_succ]
  refine wpAnyH_take (i := 5) (v := .pointer (some ⟨w.heap.size, 4, none⟩)) rfl (by kernel_rfl) (by kernel_rfl) (by kernel_rfl) (fun _ _ _ h => h) (Or.inl ⟨by rfl, fun w hw => by go_simp⟩) hHeld ?_
  simp only [Act.put, List.getElem_toArray, List.getElem_cons_zero, List.getElem_cons_succ, List.setIfInBounds_toArray, List.set_cons_zero, List.set_cons_succ]
  refine wpAnyH_take (i := 6) (v := .slice da0 D.length dc0) rfl (by kernel_rfl) (by kernel_rfl) (by kernel_rfl) (fun _ _ _ h => h) (Or.inl ⟨by rfl, fun w hw => by have hq := hw; go_simp⟩) hHeld ?_
  simp only [Act.put, List.getElem_toArray, List.getElem_cons_zero, List.getElem_cons_succ, List.setIfInBounds_toArray, List.set_cons_zero, List.set_cons_succ]
  refine wpAnyH_take (i := 7) (v := .int .i64 D.length) rfl (by kernel_rfl) (by kernel_rfl) (by kernel_rfl) (fun _ _ _ h => h) (Or.inl ⟨by rfl, fun w hw => by go_simp⟩) hHeld ?_
  simp only [Act.put, List.getElem_toArray, List.getElem_cons_zero, List.getElem_cons_succ, List.setIfInBounds_toArray, List.set_cons_zero, List.set_cons_succ]
  refine wpAnyH_ready (rs := [2]) (by kernel_rfl) (by simp) ?_
  refine AllReadyH.cons (o := _) rfl (fun K hK => ?_) AllReadyH.nil
  go_simp
  refine hK.out _ _ (HS4.out _ HBA.out) (fun hHeld => ?_)
  clear hK K
  refine wpAnyH_ready (rs := [3]) (by kernel_rfl) (by simp) ?_
  refine AllReadyH.cons (o := _) rfl (fun K hK => ?_) AllReadyH.nil
  go_simp
  refine hK.out _ _ (HS4.out _ HBS.out) (fun hHeld => ?_)
  clear hK K
  refine wpAnyH_ready (rs := [4]) (by kernel_rfl) (by simp) ?_
  refine AllReadyH.cons (o := _) rfl (fun K hK => ?_) AllReadyH.nil
  go_simp
  refine JI.out.mono ?_
  rintro e w7 ⟨iv, rfl, o7, b7⟩
  obtain ⟨Gi, capi, rfl, oGi, hcapi, hGi, hGil⟩ := room5 o7
  have B57 : Below X5.heap.size X5 w7 := HBS.out.trans (b7.mono HBS.out.size)
  have hs7 : (spW X5.drew).heap.size = X5.heap.size + 1 := by simp [spW]
  have T7 : Hid (OWI X5.heap.size w7.heap.size w7 (.slice (some ⟨Gi, 0, none⟩) (D.length + 5) capi) (D ++ sp5) ∧ OWI X5.heap.size w7.heap.size w7 (.slice (some ⟨Gi, 0, none⟩) D.length capi) D ∧ Below X5.heap.size X5 w7 ∧ X5.heap.size < Gi ∧ Gi < w7.heap.size ∧ MB w7 w.heap.size m ∧ MB w7 w5.heap.size m) := ⟨OWI.of (o7.mono HBS.out.size) (Nat.le_refl _), OWI.of (oGi.mono HBS.out.size) (Nat.le_refl _), B57, by omega, hGil, T6.out.1.below B57, T6.out.2.1.below B57⟩
  have hci : (D.length : Int) ≤ capi := by omega
  have a4 := T7.out.2.2.2.2.2.2.c4
  have f4 := T7.out.2.2.2.2.2.2.free 4
  rw [HMD.out] at a4
  have HS7 : Hid (w7.cell? ⟨w.heap.size, 4, none⟩ = some (.slice da0 D.length dc0)) := HS4.out _ B57
  clear o7 b7 oGi hGi hGil B57 hs7 JI hcvd
  go_wp2_with fail
  refine hK.out _ _ HS7.out (fun hHeld => ?_)
  clear hK K
  refine wpAnyH_take (i := 8) (v := .slice (some ⟨Gi, 0, none⟩) D.length capi) rfl (by kernel_rfl) (by kernel_rfl) (by kernel_rfl) (fun _ _ _ h => h) (Or.inl ⟨by rfl, fun w hw => by go_simp; try (intro h; omega)⟩) hHeld ?_
  simp only [Act.put, List.getElem_toArray, List.getElem_cons_zero, List.getElem_cons_succ, List.setIfInBounds_toArray, List.set_cons_zero, List.set_cons_succ]
  refine wpAnyH_take (i := 9) (v := .pointer (some ⟨w5.heap.size, 4, none⟩)) rfl (by kernel_rfl) (by kernel_rfl) (by kernel_rfl) (fun _ _ _ h => h) (Or.inl ⟨by rfl, fun w hw => by go_simp⟩) hHeld ?_
  simp only [Act.put, List.getElem_toArray, List.getElem_cons_zero, List.getElem_cons_succ, List.setIfInBounds_toArray, List.set_cons_zero, List.set_cons_succ]
  refine wpAnyH_ready (rs := [10]) (by kernel_rfl) (by simp) ?_
  refine AllReadyH.cons (o := _) rfl (fun K hK => ?_) AllReadyH.nil
  go_simp
  have HI7 : Hid (MB (w7.setCell ⟨w5.heap.size, 4, none⟩ (.slice (some ⟨Gi, 0, none⟩) D.length capi)) w.heap.size m ∧ MB (w7.setCell ⟨w5.heap.size, 4, none⟩ (.slice (some ⟨Gi, 0, none⟩) D.length capi)) w5.heap.size { m with d := .slice (some ⟨Gi, 0, none⟩) D.length capi }) := ⟨T7.out.2.2.2.2.2.1.besides (Besides.setCell _ _ _ _) (by have := T5.out.2.2.2.2.size; have := H0.out.2.2.2.2.2; omega), T7.out.2.2.2.2.2.2.set 4 _ rfl⟩
  have hS8 := HI7.out.1.c4
  rw [HMD.out] at hS8
  refine hK.out _ _ hS8 (fun hHeld => ?_)
  clear hK K
  refine wpAnyH_done (by kernel_rfl) ?_ _
  clear hHeld hS8 a4 f4 HS7 hd4 HS4 HBA HBS
  obtain ⟨X7, hX7⟩ : ∃ X, X = w7.setCell ⟨w5.heap.size, 4, none⟩ (.slice (some ⟨Gi, 0, none⟩) D.length capi) := ⟨_, rfl⟩
  have HX7 : Hid (X7 = w7.setCell ⟨w5.heap.size, 4, none⟩ (.slice (some ⟨Gi, 0, none⟩) D.length capi)) := hX7
  have f7 : Fm.Fr (fun k => k ≠ w5.heap.size) w7 X7 := by rw [hX7]; exact (Fm.Fr.refl _ _).setCell w5.heap.size 4 _ (fun x => x rfl)
  have T8 : Hid (MB X7 w.heap.size m ∧ MB X7 w5.heap.size { m with d := .slice (some ⟨Gi, 0, none⟩) D.length capi } ∧ Fm.Fr (fun k => k ≠ w5.heap.size) w7 X7) := by rw [hX7] at f7 ⊢; exact ⟨HI7.out.1, HI7.out.2, f7⟩
  rw [← hX7]
  clear hX7 f7 HI7 HX7
  have okA : Mv.ok { m with d := .slice (some ⟨Gi, 0, none⟩) D.length capi } := ⟨ok.r, ⟨_, _, _, rfl⟩, ok.h⟩
  have a39 := T8.out.2.1.c39 okA
  have f39 := T8.out.2.1.free 39
  obtain ⟨ha0, hn0, hc0, hmh⟩ := ok.h
  have HMH : Hid (m.h = .slice ha0 hn0 hc0) := hmh
  simp only [hmh] at a39
  clear hmh
  obtain ⟨XB, hXB⟩ : ∃ X, X = X7.setCell ⟨w5.heap.size, 39, none⟩ (.slice none 0 0) := ⟨_, rfl⟩
  have HXB : Hid (X7.setCell ⟨w5.heap.size, 39, none⟩ (.slice none 0 0) = XB) := hXB.symm
  have okB : Mv.ok { m with d := .slice (some ⟨Gi, 0, none⟩) D.length capi, h := .slice none 0 0 } := ⟨ok.r, ⟨_, _, _, rfl⟩, ⟨_, _, _, rfl⟩⟩
  have hN5 : w.heap.size ≠ w5.heap.size := by have := T5.out.2.2.2.2.size; have := H0.out.2.2.2.2.2; omega
  have T9 : Hid (MB XB w.heap.size m ∧ MB XB w5.heap.size { m with d := .slice (some ⟨Gi, 0, none⟩) D.length capi, h := .slice none 0 0 } ∧ Fm.Fr (fun k => k ≠ w5.heap.size) w7 XB) := by rw [hXB]; exact ⟨T8.out.1.besides (Besides.setCell _ _ _ _) hN5, T8.out.2.1.set 39 _ (Mv.set39 okA _), T8.out.2.2.setCell w5.heap.size 39 _ (fun x => x rfl)⟩
  go_upto_region 11 with fail
  rw [HXB.out]
  clear a39 f39 HXB hXB T8
  have a39 : XB.cell? ⟨w5.heap.size, 39, none⟩ = some (.slice none 0 0) := T9.out.2.1.c39 okB
  have f39 := T9.out.2.1.free 39
  have m39 := T9.out.1.c39 ok
  rw [HMH.out] at m39
  have hlt2 : w5.heap.size < XB.heap.size := T9.out.2.1.lt
  have B0B : Below W.heap.size W XB := bel_fr (T6.out.2.2.2.1.trans (T7.out.2.2.1.mono T6.out.2.2.2.1.size)) T9.out.2.2 (fun k hk => by have := T5.out.2.2.2.2.size; omega) (Nat.le_refl _)
  have HH : Hid (RH XB (.slice ha0 hn0 hc0) hb ∧ hb.length ≤ 140737488351232 ∧ Below W.heap.size W XB) := by rw [← HMH.out]; exact ⟨(H0.out.2.1.keep B0B).h, by omega, B0B⟩
  clear B0B
  go_upto_region 12 with (first | (at_builtin; refine append_hashes rfl _ _ rfl rfl rfl HH.out.1 HH.out.2.1 ?_; intro h' X9 o9 b9; obtain ⟨ha, hn, hc, rfl, _⟩ := o9.rh; have t4 := (b9.cell (p := ⟨w5.heap.size, 39, none⟩) hlt2).trans a39; have t5 := (b9.frozen (p := ⟨w5.heap.size, 39, none⟩) hlt2).trans f39))
  obtain ⟨X6, hX6⟩ : ∃ X, X = X9.setCell ⟨w5.heap.size, 39, none⟩ (.slice ha hn hc) := ⟨_, rfl⟩
  rw [← hX6]
  obtain ⟨mI, hmI, eI, eId, eIh⟩ : ∃ x : Mv, x = { m with d := .slice (some ⟨Gi, 0, none⟩) D.length capi, h := .slice ha hn hc } ∧ x = { m with d := x.d, h := x.h } ∧ x.d = .slice (some ⟨Gi, 0, none⟩) D.length capi ∧ x.h = .slice ha hn hc := ⟨_, rfl, rfl, rfl, rfl⟩
  have f79 : Fm.Fr (fun k => k ≠ w5.heap.size) w7 X6 := by rw [hX6]; exact (T9.out.2.2.trans (Fm.Fr.of_below (S := fun _ => True) b9) (fun _ _ _ => trivial)).setCell w5.heap.size 39 _ (fun x => x rfl)
  have f59 : Fm.Fr (fun k => k ≠ w5.heap.size) w5 X6 := ((Fm.Fr.of_below T6.out.2.2.1).trans (Fm.Fr.of_below (S := fun _ => True) T7.out.2.2.1) (fun _ _ _ => trivial)).trans f79 (fun _ _ x => x)
  have f49 : Fm.Fr (fun k => k ≠ w5.heap.size) X4 X6 := (Fm.Fr.of_below T5.out.2.2.2.1).trans f59 (fun _ _ x => x)
  have f39 : Fm.Fr (fun k => k ≠ w5.heap.size) X3 X6 := (Fm.Fr.of_below T4.out.2.2.2.2.2.1).trans f49 (fun _ _ x => x)
  have f29 : Fm.Fr (fun k => k ≠ w5.heap.size) w2 X6 := (Fm.Fr.of_below T3.out.2.2.2.2.2.1).trans f39 (fun _ _ x => x)
  have z23 := T3.out.2.2.2.2.2.1.size
  have z34 := T4.out.2.2.2.2.2.1.size
  have z45 := T5.out.2.2.2.1.size
  have z5x := T6.out.2.2.1.size
  have zx7 := T7.out.2.2.1.size
  have z3 := T3.out.2.2.2.2.2.2.1
  have z4 := T4.out.2.2.2.2.2.2.1
  have z34b := T4.out.2.2.2.2.2.2.2
  have z7B := T9.out.2.2.size
  have BX6 : Below W.heap.size W X6 := bel_fr T2.out.2.2.1 f29 (fun k hk => by have := T5.out.2.2.2.2.size; omega) (Nat.le_refl _)
  have okI : mI.ok := by rw [hmI]; exact ⟨ok.r, ⟨_, _, _, rfl⟩, ⟨_, _, _, rfl⟩⟩
  have P6 : Hid (OWI W.heap.size w2.heap.size X6 (.slice (some ⟨G, 0, none⟩) (l.length + 5) cap) (l ++ sp5) ∧ OWI W.heap.size w2.heap.size X6 (.slice (some ⟨G, 0, none⟩) l.length cap) l ∧ OWI w2.heap.size w3.heap.size X6 mA.d (decS l).D ∧ OHI w2.heap.size w3.heap.size X6 mA.h (decS l).hb ∧ MB X6 w3.heap.size mA ∧ OWI X3.heap.size w4.heap.size X6 mB.d (decS l).D ∧ OHI X3.heap.size w4.heap.size X6 mB.h (decS l).hb ∧ MB X6 w4.heap.size mB ∧ OMI X4.heap.size w5.heap.size X6 (.slice ra ms.length rc) ms ∧ MB X6 w5.heap.size mI ∧ MB X6 w.heap.size m ∧ OWI X5.heap.size w7.heap.size X6 (.slice (some ⟨Gi, 0, none⟩) (D.length + 5) capi) (D ++ sp5) ∧ OWI X5.heap.size w7.heap.size X6 mI.d D ∧ OHI XB.heap.size X9.heap.size X6 mI.h hb ∧ Below W.heap.size W X6) := by
    obtain ⟨n9, hn9, hr9⟩ := id o9
    have oh9 : OHI XB.heap.size X9.heap.size X6 mI.h hb := by rw [eIh]; exact (OHI.of o9 (Nat.le_refl _)).fr (by rw [hX6]; exact (Fm.Fr.refl (fun k => k ≠ w5.heap.size) X9).setCell w5.heap.size 39 _ (fun x => x rfl)) (fun k h1 h2 => by omega)
    refine ⟨T2.out.1.fr f29 (fun k h1 h2 => by omega), T2.out.2.1.fr f29 (fun k h1 h2 => by omega), T3.out.1.fr f39 (fun k h1 h2 => by omega), T3.out.2.1.fr f39 (fun k h1 h2 => by omega), T3.out.2.2.1.fr f39 (by omega), T4.out.1.fr f49 (fun k h1 h2 => by omega), T4.out.2.1.fr f49 (fun k h1 h2 => by omega), T4.out.2.2.1.fr f49 (by omega), T5.out.1.fr f59 (fun k h1 h2 => by omega), ?_, ?_, T7.out.1.fr f79 (fun k h1 h2 => by have := T6.out.2.2.2.2; omega), by rw [eId]; exact T7.out.2.1.fr f79 (fun k h1 h2 => by have := T6.out.2.2.2.2; omega), oh9, BX6⟩
    · rw [hX6, hmI]; exact (T9.out.2.1.below b9).set 39 _ (Mv.set39 okB _)
    · rw [hX6]; exact (T9.out.1.below b9).besides (Besides.setCell _ _ _ _) hN5
  have HMI : Hid (MM X6 mI D hb ∧ KT X6 ∧ mI.ok ∧ mI = { m with d := mI.d, h := mI.h } ∧ mI.d = .slice (some ⟨Gi, 0, none⟩) D.length capi ∧ mI.h = .slice ha hn hc) := ⟨⟨okI, P6.out.2.2.2.2.2.2.2.2.2.2.2.2.1.1.rb, P6.out.2.2.2.2.2.2.2.2.2.2.2.2.2.1.1.rh, by omega, by omega⟩, H0.out.2.2.1.below BX6 H0.out.2.2.1.pos, okI, eI, eId, eIh⟩
  have Z6 : Hid (W.heap.size ≤ w2.heap.size ∧ w2.heap.size ≤ w3.heap.size ∧ w3.heap.size < X3.heap.size ∧ X3.heap.size ≤ w4.heap.size ∧ w4.heap.size < X4.heap.size ∧ X4.heap.size ≤ w5.heap.size ∧ w5.heap.size < X5.heap.size ∧ X5.heap.size ≤ w7.heap.size ∧ w7.heap.size ≤ XB.heap.size ∧ XB.heap.size ≤ X9.heap.size ∧ X9.heap.size ≤ X6.heap.size ∧ w.heap.size < W.heap.size) := ⟨T2.out.2.2.1.size, T3.out.2.2.2.2.2.2.2, z3, z34b, z4, z45, T6.out.2.2.2.2, zx7, z7B, b9.size, by rw [hX6]; simp, by have := H0.out.2.2.2.2.2; omega⟩
  have ES : Hid (Calls Tryd.prog 8 #[.agg mI.cs] X6 fun e w' => ∃ v, e = .returned (.tuple #[v, .int .i64 (valE mI)]) ∧ OW X6.heap.size w' v (encB mI D hb) ∧ Below X6.heap.size X6 w') := encodeT X6 mI D hb HMI.out.1 HMI.out.2.1
  have gI := P6.out.2.2.2.2.2.2.2.2.2.1.cells
  have hiI := info_msg okI
  have hsI : mI.cs.size = 40 := okI.size
  clear t4 t5 o9 b9 hX6 hmI eI eId eIh f79 f59 f49 f39 f29 z23 z34 z45 z5x zx7 z3 z4 z34b z7B BX6 okA okB hN5 a39 m39 hlt2 HH T9 T7 T6 HMD HMH
  go_wp2_with (first | (refine wpList_load_row rfl 27 _ rfl w5.heap.size rfl 27 mI.cs (0, 0) _ gI Tryd.underlying27 rfl hiI ?_))
  refine ES.out.mono ?_
  rintro e wA ⟨tv, rfl, oA, bA⟩
  obtain ⟨ta, tc, rfl⟩ := oA.form
  have QA : Hid (OWI X6.heap.size wA.heap.size wA (.slice ta (encB mI D hb).length tc) (encB mI D hb) ∧ Below X6.heap.size X6 wA) := ⟨OWI.of oA (Nat.le_refl _), bA⟩
  have gA := (P6.out.2.2.2.2.2.2.2.2.2.1.below bA).cells
  have EU : Hid (Calls Tryd.prog 8 #[.agg mI.cs] wA fun e w' => ∃ v, e = .returned (.tuple #[v, .int .i64 (valE mI)]) ∧ OW wA.heap.size w' v (encB mI D hb) ∧ Below wA.heap.size wA w') := encodeT wA mI D hb (HMI.out.1.keep bA) (HMI.out.2.1.below bA HMI.out.2.1.pos)
  clear ES oA bA gI
  go_wp2_with (first | (refine wpList_load_row rfl 27 _ rfl w5.heap.size rfl 27 mI.cs (0, 0) _ gA Tryd.underlying27 rfl hiI ?_))
  refine EU.out.mono ?_
  rintro e wB ⟨uv, rfl, oB, bB⟩
  obtain ⟨ua, uc, rfl⟩ := oB.form
  have B6B : Below X6.heap.size X6 wB := QA.out.2.trans (bB.mono QA.out.2.size)
  have QB : Hid (OWI wA.heap.size wB.heap.size wB (.slice ua (encB mI D hb).length uc) (encB mI D hb) ∧ Below wA.heap.size wA wB ∧ Below X6.heap.size X6 wB) := ⟨OWI.of oB (Nat.le_refl _), bB, B6B⟩
  have gB := (P6.out.2.2.2.2.2.2.2.2.2.1.below B6B).cells
  have bal : Below wB.heap.size wB (wB.alloc (.cells (mI.cs ++ mI.cs) 27)) := (Below.refl _ _).alloc (Nat.le_refl _) _
  have B6C : Below X6.heap.size X6 (wB.alloc (.cells (mI.cs ++ mI.cs) 27)) := B6B.trans (bal.mono B6B.size)
  have WW : Hid (Calls Tryd.prog 9 #[.slice (some ⟨wB.heap.size, 0, none⟩) 2 2] (wB.alloc (.cells (mI.cs ++ mI.cs) 27)) fun e w' => WIR (wB.alloc (.cells (mI.cs ++ mI.cs) 27)) w' e [⟨mI, D, hb⟩, ⟨mI, D, hb⟩]) := wireT _ _ [⟨mI, D, hb⟩, ⟨mI, D, hb⟩] (rms_twoM (x := ⟨mI, D, hb⟩) (y := ⟨mI, D, hb⟩) (HMI.out.1.keep B6B) (HMI.out.1.keep B6B)) (HMI.out.2.1.below B6C HMI.out.2.1.pos) (by simp)
  clear EU oB bB B6B gA
  go_wp2_with (first | (refine wpList_load_row rfl 27 _ rfl w5.heap.size rfl 27 mI.cs (0, 0) _ gB Tryd.underlying27 rfl hiI ?_) | (refine build_twoM rfl _ _ rfl mI.cs mI.cs rfl rfl hsI hsI ?_))
  refine WW.out.mono ?_
  rintro e wC ⟨wv, rfl, oC, bC⟩
  obtain ⟨lw, hlw⟩ : ∃ x, x = (if wirE [⟨mI, D, hb⟩, ⟨mI, D, hb⟩] = 0 then wirB [⟨mI, D, hb⟩, ⟨mI, D, hb⟩] else []) := ⟨_, rfl⟩
  rw [← hlw] at oC
  have hlwb : lw.length ≤ 65544 := by
    rw [hlw]
    split
    · have := wirB_le [⟨mI, D, hb⟩, ⟨mI, D, hb⟩] (w := X6) (fun x hx => by simp at hx; subst hx; exact HMI.out.1)
      simpa using this
    · simp
  have HLW : Hid (lw = (if wirE [⟨mI, D, hb⟩, ⟨mI, D, hb⟩] = 0 then wirB [⟨mI, D, hb⟩, ⟨mI, D, hb⟩] else [])) := hlw
  obtain ⟨wa, wc, rfl⟩ := oC.form
  have BBC : Below wB.heap.size wB wC := bal.trans (bC.mono bal.size)
  have B6c : Below X6.heap.size X6 wC := QB.out.2.2.trans (BBC.mono QB.out.2.2.size)
  have QC : Hid (OWI wB.heap.size wC.heap.size wC (.slice wa lw.length wc) lw ∧ Below wB.heap.size wB wC ∧ Below X6.heap.size X6 wC) := ⟨OWI.of (oC.mono bal.size) (Nat.le_refl _), BBC, B6c⟩
  have UP : Hid (Calls Tryd.prog 7 #[.slice wa lw.length wc] wC fun e w' => ∃ bs er, (∃ r, Fm.Rd false lw [] bs false r er) ∧ UNR2 wC w' e bs er) := unwireD wC _ lw (by omega) oC.rb (HMI.out.2.1.below B6c HMI.out.2.1.pos)
  clear WW oC bC bal B6C BBC B6c gB hlw
  go_wp2_with fail
  refine UP.out.mono ?_
  rintro e wD ⟨bs2, er2, ⟨r2, R2⟩, pv, ms2, rfl, oD, ofD, bD, mdD⟩
  obtain ⟨pa, pc, rfl⟩ := oD.form
  have QD : Hid (OMI wC.heap.size wD.heap.size wD (.slice pa ms2.length pc) ms2 ∧ MsOf ms2 (gds bs2) ∧ Fm.Rd false lw [] bs2 false r2 er2 ∧ Below wC.heap.size wC wD ∧ Below X6.heap.size X6 wD) := ⟨OMI.of oD mdD (Nat.le_refl _), ofD, R2, bD, QC.out.2.2.trans (bD.mono QC.out.2.2.size)⟩
  clear UP oD mdD ofD bD R2
  go_upto_region 16 with fail
  have HBG : Hid (Bag W wD ((LIt W.heap.size 27 40 (.slice pa ms2.length pc) ms2.length (ms2.flatMap fun x : Mg => x.m.ls) :: (DIs W.heap.size ms2 ++ HIs W.heap.size ms2)) ++ (LB W.heap.size (.slice ua (encB mI D hb).length uc) (encB mI D hb) :: LB W.heap.size (.slice ta (encB mI D hb).length tc) (encB mI D hb) :: LHn W.heap.size mI.h hb :: LB W.heap.size mI.d D :: MI w5.heap.size mI :: ((LIt W.heap.size 27 40 (.slice ra ms.length rc) ms.length (ms.flatMap fun x : Mg => x.m.ls) :: (DIs W.heap.size ms ++ HIs W.heap.size ms)) ++ [MI w4.heap.size mB, LHn W.heap.size mB.h (decS l).hb, LB W.heap.size mB.d (decS l).D, MI w3.heap.size mA, LHn W.heap.size mA.h (decS l).hb, LB W.heap.size mA.d (decS l).D, LB W.heap.size (.slice (some ⟨G, 0, none⟩) l.length cap) l])))) := by
    obtain ⟨z1, z2, z3, z4, z5, z6, z7, z8, z9, z10, z11, z12⟩ := Z6.out
    have b6 := QD.out.2.2.2.2
    have f6 : Fm.Fr (fun _ => True) X6 wD := Fm.Fr.of_below b6
    have zA := QA.out.2.size
    have zB := QB.out.2.1.size
    have zC := QC.out.2.1.size
    have zD := QD.out.2.2.2.1.size
    have B0D : Below W.heap.size W wD := P6.out.2.2.2.2.2.2.2.2.2.2.2.2.2.2.trans (b6.mono P6.out.2.2.2.2.2.2.2.2.2.2.2.2.2.2.size)
    have fBD : Below wB.heap.size wB wD := QC.out.2.1.trans (QD.out.2.2.2.1.mono zC)
    have fAD : Below wA.heap.size wA wD := QB.out.2.1.trans (fBD.mono zB)
    have u0 : BagU W wD [] W.heap.size := ⟨Bag.nil' B0D, fun x hx => by simp at hx⟩
    have u1 := u0.owi (P6.out.2.1.fr f6 (fun _ _ _ => trivial)) (Nat.le_refl _) (Nat.le_refl _) z1
    have u2 := u1.two (P6.out.2.2.1.fr f6 (fun _ _ _ => trivial)) (P6.out.2.2.2.1.fr f6 (fun _ _ _ => trivial)) z1 (Nat.le_refl _) z2
    have u3 := u2.mb (P6.out.2.2.2.2.1.fr f6 trivial) (by omega) (Nat.le_refl _) z3
    have u4 := u3.two (P6.out.2.2.2.2.2.1.fr f6 (fun _ _ _ => trivial)) (P6.out.2.2.2.2.2.2.1.fr f6 (fun _ _ _ => trivial)) (by omega) (Nat.le_refl _) z4
    have u5 := u4.mb (P6.out.2.2.2.2.2.2.2.1.fr f6 trivial) (by omega) (Nat.le_refl _) z5
    have u6 := u5.rows (P6.out.2.2.2.2.2.2.2.2.1.fr f6 (fun _ _ _ => trivial)) (by omega) (Nat.le_refl _) z6
    have u7 := u6.mb (P6.out.2.2.2.2.2.2.2.2.2.1.fr f6 trivial) (by omega) (Nat.le_refl _) z7
    have u8 := u7.owi (P6.out.2.2.2.2.2.2.2.2.2.2.2.2.1.fr f6 (fun _ _ _ => trivial)) (by omega) (Nat.le_refl _) z8
    have u9 := u8.ohi (P6.out.2.2.2.2.2.2.2.2.2.2.2.2.2.1.fr f6 (fun _ _ _ => trivial)) (by omega) z9 (by omega)
    have u10 := u9.owi (QA.out.1.fr (Fm.Fr.of_below (S := fun _ => True) fAD) (fun _ _ _ => trivial)) (by omega) z11 (by omega)
    have u11 := u10.owi (QB.out.1.fr (Fm.Fr.of_below (S := fun _ => True) fBD) (fun _ _ _ => trivial)) (by omega) (Nat.le_refl _) zB
    have u12 := u11.rows QD.out.1 (by omega) zC (by omega)
    exact u12.b
  have HPR : Hid ((wirE [⟨mI, D, hb⟩, ⟨mI, D, hb⟩] = 0 ∧ ms2.length = 2 ∧ MsEq ms2 [⟨mI, D, hb⟩, ⟨mI, D, hb⟩]) ∨ (wirE [⟨mI, D, hb⟩, ⟨mI, D, hb⟩] ≠ 0 ∧ ms2 = [])) := pair_fact (x := ⟨mI, D, hb⟩) HMI.out.1 HLW.out QD.out.2.2.1 QD.out.2.1
  have HMO : Hid (MOk ms ∧ MOk ms2 ∧ mA.ok ∧ mB.ok ∧ mI.ok ∧ mA = { (decS l).m with d := mA.d, h := mA.h } ∧ mI = { m with d := mI.d, h := mI.h } ∧ mI.d = .slice (some ⟨Gi, 0, none⟩) D.length capi ∧ mI.h = .slice ha hn hc ∧ MsOf ms (gds bs) ∧ Fm.Rd false l [] bs false r1 er) := ⟨T5.out.1.mok, QD.out.1.mok, T3.out.2.2.2.2.1, T4.out.2.2.2.2.1, HMI.out.2.2.1, T3.out.2.2.2.1, HMI.out.2.2.2.1, HMI.out.2.2.2.2.1, HMI.out.2.2.2.2.2, T5.out.2.1, T5.out.2.2.1⟩
  go_cut [169] from 123 to 169 (fun s wc => s = .bool false ∧ Hid (Bag W wc ((LIt W.heap.size 27 40 (.slice pa ms2.length pc) ms2.length (ms2.flatMap fun x : Mg => x.m.ls) :: (DIs W.heap.size ms2 ++ HIs W.heap.size ms2)) ++ (LB W.heap.size (.slice ua (encB mI D hb).length uc) (encB mI D hb) :: LB W.heap.size (.slice ta (encB mI D hb).length tc) (encB mI D hb) :: LHn W.heap.size mI.h hb :: LB W.heap.size mI.d D :: MI w5.heap.size mI :: ((LIt W.heap.size 27 40 (.slice ra ms.length rc) ms.length (ms.flatMap fun x : Mg => x.m.ls) :: (DIs W.heap.size ms ++ HIs W.heap.size ms)) ++ [MI w4.heap.size mB, LHn W.heap.size mB.h (decS l).hb, LB W.heap.size mB.d (decS l).D, MI w3.heap.size mA, LHn W.heap.size mA.h (decS l).hb, LB W.heap.size mA.d (decS l).D, LB W.heap.size (.slice (some ⟨G, 0, none⟩) l.length cap) l])))))
  case first =>
    have BDd : Below wD.heap.size wD wD.drew := belowDrew wD 1
    have BSd : Below wD.heap.size wD (spW wD.drew) := BDd.trans (spW_below wD.drew)
    have HBAd : Hid (Below wD.heap.size wD (wD.alloc (.cells #[.int .u8 115, .int .u8 112, .int .u8 97, .int .u8 114, .int .u8 101] 5)).drew) := ((Below.refl wD.heap.size wD).alloc (Nat.le_refl _) _).trans ((belowDrew _ 1).mono (by simp))
    have hcvd : (convert 22 22 (.slice (some ⟨wD.heap.size, 0, none⟩) 5 5)).run Tryd.prog (wD.alloc (.cells #[.int .u8 115, .int .u8 112, .int .u8 97, .int .u8 114, .int .u8 101] 5)).drew = .ok (.slice (some ⟨wD.heap.size, 0, none⟩) 5 5) (spW wD.drew) := conv5 wD.drew
    have B0D : Below W.heap.size W wD := P6.out.2.2.2.2.2.2.2.2.2.2.2.2.2.2.trans (QD.out.2.2.2.2.mono P6.out.2.2.2.2.2.2.2.2.2.2.2.2.2.2.size)
    have JJ : Hid (Calls Tryd.prog 5 #[.slice ba l.length bc', .slice (some ⟨wD.heap.size, 0, none⟩) 5 5] (spW wD.drew) fun e w' => ∃ v, e = .returned v ∧ OW (spW wD.drew).heap.size w' v (l ++ sp5) ∧ Below (spW wD.drew).heap.size (spW wD.drew) w') := joinedT _ _ _ l sp5 ((H0.out.1.keep B0D).keep BSd) (spW_rb wD.drew) (by have : sp5.length = 5 := rfl; omega)
    have HBSd : Hid (Below wD.heap.size wD (spW wD.drew)) := BSd
    have HTX : Hid (∀ u, Below wD.heap.size wD u → RB u (.slice (some ⟨G, 0, none⟩) (l.length + 5) cap) (l ++ sp5)) := fun u hb => ((P6.out.1.1.grow QD.out.2.2.2.2).grow hb).rb
    have HMs : Hid (∀ u, Below wD.heap.size wD u → MM u mI D hb ∧ MM u m D hb ∧ u.rangeAt w5.heap.size 0 mI.ls ∧ u.rangeAt w.heap.size 0 m.ls) := fun u hb' => ⟨(HMI.out.1.keep QD.out.2.2.2.2).keep hb', (H0.out.2.1.keep B0D).keep hb', fun j v hj => by rw [Nat.zero_add]; exact ((P6.out.2.2.2.2.2.2.2.2.2.1.below QD.out.2.2.2.2).below hb').cell j hj, fun j v hj => by rw [Nat.zero_add]; exact ((P6.out.2.2.2.2.2.2.2.2.2.2.1.below QD.out.2.2.2.2).below hb').cell j hj⟩
    have hiIl : (Tryd.prog.info? 27).map (·.size) = some mI.ls.length := by rw [ok_ls HMI.out.2.2.1]; exact (info_msg HMI.out.2.2.1).trans (by rw [HMI.out.2.2.1.size])
    have himl : (Tryd.prog.info? 27).map (·.size) = some m.ls.length := by rw [ok_ls ok]; exact him.trans (by rw [ok.size])
    clear BDd BSd B0D
    refine wp_region_held_drew (S := fun u => Below wD.heap.size wD u) (by kernel_rfl) (belowDrew wD 1) (fun hHeld => ?_)
    refine wpAnyH_take (i := 0) (v := .slice (some ⟨G, 0, none⟩) (l.length + 5) cap) rfl (by kernel_rfl) (by kernel_rfl) (by kernel_rfl) (fun _ _ _ h => h) (Or.inl ⟨by rfl, fun w hw => by go_simp⟩) hHeld ?_
    simp only [Act.put, List.getElem_toArray, List.getElem_cons_zero, List.setIfInBounds_toArray, List.set_cons_zero, List.set_cons_succ]
    refine wpAnyH_take (i := 1) (v := .slice ba l.length bc') rfl (by kernel_rfl) (by kernel_rfl) (by kernel_rfl) (fun _ _ _ h => h) (Or.inl ⟨by rfl, fun w hw => by go_simp⟩) hHeld ?_
    simp only [Act.put, List.getElem_toArray, List.getElem_cons_zero, List.getElem_cons_succ, List.setIfInBounds_toArray, List.set_cons_zero, List.set_cons_succ]
    refine wpAnyH_ready (rs := [2]) (by kernel_rfl) (by simp) ?_
    refine AllReadyH.cons (o := _) rfl (fun K hK => ?_) AllReadyH.nil
    go_simp
    refine hK.out _ _ HBAd.out (fun hHeld => ?_)
    clear hK K
    refine wpAnyH_ready (rs := [3]) (by kernel_rfl) (by simp) ?_
    refine AllReadyH.cons (o := _) rfl (fun K hK => ?_) AllReadyH.nil
    go_simp
    refine hK.out _ _ HBSd.out (fun hHeld => ?_)
    clear hK K
    refine wpAnyH_ready (rs := [4]) (by kernel_rfl) (by simp) ?_
    refine AllReadyH.cons (o := _) rfl (fun K hK => ?_) AllReadyH.nil
    go_simp
    refine JJ.out.mono ?_
    rintro e wE ⟨jv, rfl, oE, bE⟩
    obtain ⟨ja, jc, hjf⟩ := oE.form
    have e5 : (l ++ sp5).length = l.length + 5 := by rw [List.length_append]; rfl
    rw [e5] at hjf
    subst hjf
    have QE : Hid (RB wE (.slice ja (l.length + 5) jc) (l ++ sp5) ∧ Below wD.heap.size wD wE ∧ (l ++ sp5).length ≤ 140737488351232) := ⟨oE.rb, HBSd.out.trans (bE.mono HBSd.out.size), by omega⟩
    clear JJ oE bE e5 hcvd HBAd HBSd
    go_wp2_with fail
    refine hK.out _ _ QE.out.2.1 (fun hHeld => ?_)
    clear hK K
    refine wpAnyH_ready (rs := [5]) (by kernel_rfl) (by simp) ?_
    refine AllReadyH.cons (o := _) rfl (fun K hK => ?_) AllReadyH.nil
    go_simp
    refine (same _ _ (l ++ sp5) wE QE.out.2.2 (HTX.out _ QE.out.2.1) QE.out.1).mono ?_
    rintro e wF ⟨rfl, nF, rfl⟩
    have QF : Hid (Below wD.heap.size wD (wE.drewN nF)) := belowN QE.out.2.1 nF
    clear QE
    generalize wE.drewN nF = wF at *
    go_wp2_with fail
    refine hK.out _ _ QF.out (fun hHeld => ?_)
    clear hK K
    refine wpAnyH_take (i := 6) (v := .bool false) rfl (by kernel_rfl) (by kernel_rfl) (by kernel_rfl) (fun _ _ _ h => h) (Or.inl ⟨by rfl, fun w hw => by go_simp⟩) hHeld ?_
    simp only [Act.put, List.getElem_toArray, List.getElem_cons_zero, List.getElem_cons_succ, List.setIfInBounds_toArray, List.set_cons_zero, List.set_cons_succ]
    refine wpAnyH_take (i := 7) (v := .bool false) rfl (by kernel_rfl) (by kernel_rfl) (by kernel_rfl) (fun _ _ _ h => h) (Or.inl ⟨by rfl, fun w hw => by go_simp⟩) hHeld ?_
    simp only [Act.put, List.getElem_toArray, List.getElem_cons_zero, List.getElem_cons_succ, List.setIfInBounds_toArray, List.set_cons_zero, List.set_cons_succ]
    refine wpAnyH_take (i := 8) (v := .agg mI.cs) rfl (by kernel_rfl) (by kernel_rfl) (by kernel_rfl) (fun _ _ _ h => h) (yieldsIf_load_mid (by rfl) _ _ rfl _ _ rfl _ _ (fun u hw => (HMs.out _ hw).2.2.1) Tryd.underlying27 rfl hiIl) hHeld ?_
    simp only [Act.put, List.getElem_toArray, List.getElem_cons_zero, List.getElem_cons_succ, List.setIfInBounds_toArray, List.set_cons_zero, List.set_cons_succ]
    refine wpAnyH_take (i := 9) (v := .agg m.cs) rfl (by kernel_rfl) (by kernel_rfl) (by kernel_rfl) (fun _ _ _ h => h) (yieldsIf_load_mid (by rfl) _ _ rfl _ _ rfl _ _ (fun u hw => (HMs.out _ hw).2.2.2) Tryd.underlying27 rfl himl) hHeld ?_
    simp only [Act.put, List.getElem_toArray, List.getElem_cons_zero, List.getElem_cons_succ, List.setIfInBounds_toArray, List.set_cons_zero, List.set_cons_succ]
    refine wpAnyH_ready (rs := [10]) (by kernel_rfl) (by simp) ?_
    refine AllReadyH.cons (o := _) rfl (fun K hK => ?_) AllReadyH.nil
    go_simp
    refine (msameT wF mI m D hb (HMs.out _ QF.out).1 (HMs.out _ QF.out).2.1 (by rw [HMI.out.2.2.2.1])).mono ?_
    rintro e wG ⟨rfl, bG⟩
    have QG : Hid (Below wD.heap.size wD wG) := QF.out.trans (bG.mono QF.out.size)
    have hcs : (convert 22 9 (.slice (some ⟨Gi, D.length, none⟩) 5 (capi - D.length))).run Tryd.prog wG = .ok (.string { data := #[115, 112, 97, 114, 101] }) wG := by
      have h1 : RB wG (.slice (some ⟨Gi, 0, none⟩) (D.length + 5) capi) (D ++ sp5) := ((P6.out.2.2.2.2.2.2.2.2.2.2.2.1.1.grow QD.out.2.2.2.2).grow QG.out).rb
      have e5 : (D ++ sp5).length = D.length + 5 := by rw [List.length_append]; rfl
      rw [← e5] at h1
      have h2 := h1.cut (m := D.length) (n := (D ++ sp5).length) (by omega) (Nat.le_refl _)
      rw [if_neg (by omega), e5, Nat.add_sub_cancel_left, List.drop_left] at h2
      have hadd : (⟨Gi, 0, none⟩ : Addr).add D.length = ⟨Gi, D.length, none⟩ := addr0L _ _
      have h3 : RB wG (.slice (some ⟨Gi, D.length, none⟩) 5 (capi - D.length)) sp5 := by rw [← hadd]; exact h2
      exact Fm.conv_rb h3
    have hsl1 : (0 : Int) ≤ (D.length : Int) + 5 := by omega
    have hsl2 : (D.length : Int) + 5 ≤ (capi : Int) := by omega
    have hsl3 : ((D.length : Int) + 5).toNat = D.length + 5 := by omega
    have hsl4 : ¬ (D.length + 5 = D.length) := by omega
    have hsl5 : ¬ (capi = D.length) := by omega
    have hwr5 : IntKind.i64.wrap ((D.length : Int) + 5) = (D.length : Int) + 5 := IntWalk.i64_in _ (by omega)
    have HCD : Hid (∀ u, Below wD.heap.size wD u → u.cell? ⟨w5.heap.size, 4, none⟩ = some (.slice (some ⟨Gi, 0, none⟩) D.length capi)) := fun u hb' => by rw [← HMI.out.2.2.2.2.1]; exact ((P6.out.2.2.2.2.2.2.2.2.2.1.below QD.out.2.2.2.2).below hb').c4
    clear QF bG
    go_wp2_with fail
    refine hK.out _ _ QG.out (fun hHeld => ?_)
    clear hK K
    refine wpAnyH_take (i := 11) (v := .bool false) rfl (by kernel_rfl) (by kernel_rfl) (by kernel_rfl) (fun _ _ _ h => h) (Or.inl ⟨by rfl, fun w hw => by go_simp⟩) hHeld ?_
    simp only [Act.put, List.getElem_toArray, List.getElem_cons_zero, List.getElem_cons_succ, List.setIfInBounds_toArray, List.set_cons_zero, List.set_cons_succ]
    refine wpAnyH_take (i := 12) (v := .bool false) rfl (by kernel_rfl) (by kernel_rfl) (by kernel_rfl) (fun _ _ _ h => h) (Or.inl ⟨by rfl, fun w hw => by go_simp⟩) hHeld ?_
    simp only [Act.put, List.getElem_toArray, List.getElem_cons_zero, List.getElem_cons_succ, List.setIfInBounds_toArray, List.set_cons_zero, List.set_cons_succ]
    refine wpAnyH_take (i := 13) (v := .bool false) rfl (by kernel_rfl) (by kernel_rfl) (by kernel_rfl) (fun _ _ _ h => h) (Or.inl ⟨by rfl, fun w hw => by go_simp⟩) hHeld ?_
    simp only [Act.put, List.getElem_toArray, List.getElem_cons_zero, List.getElem_cons_succ, List.setIfInBounds_toArray, List.set_cons_zero, List.set_cons_succ]
    refine wpAnyH_take (i := 14) (v := .pointer (some ⟨w5.heap.size, 4, none⟩)) rfl (by kernel_rfl) (by kernel_rfl) (by kernel_rfl) (fun _ _ _ h => h) (Or.inl ⟨by rfl, fun w hw => by go_simp⟩) hHeld ?_
    simp only [Act.put, List.getElem_toArray, List.getElem_cons_zero, List.getElem_cons_succ, List.setIfInBounds_toArray, List.set_cons_zero, List.set_cons_succ]
    refine wpAnyH_take (i := 15) (v := .slice (some ⟨Gi, 0, none⟩) D.length capi) rfl (by kernel_rfl) (by kernel_rfl) (by kernel_rfl) (fun _ _ _ h => h) (Or.inl ⟨by rfl, fun w hw => by have hq := HCD.out _ hw; go_simp⟩) hHeld ?_
    simp only [Act.put, List.getElem_toArray, List.getElem_cons_zero, List.getElem_cons_succ, List.setIfInBounds_toArray, List.set_cons_zero, List.set_cons_succ]
    refine wpAnyH_take (i := 16) (v := .pointer (some ⟨w5.heap.size, 4, none⟩)) rfl (by kernel_rfl) (by kernel_rfl) (by kernel_rfl) (fun _ _ _ h => h) (Or.inl ⟨by rfl, fun w hw => by go_simp⟩) hHeld ?_
    simp only [Act.put, List.getElem_toArray, List.getElem_cons_zero, List.getElem_cons_succ, List.setIfInBounds_toArray, List.set_cons_zero, List.set_cons_succ]
    refine wpAnyH_take (i := 17) (v := .slice (some ⟨Gi, 0, none⟩) D.length capi) rfl (by kernel_rfl) (by kernel_rfl) (by kernel_rfl) (fun _ _ _ h => h) (Or.inl ⟨by rfl, fun w hw => by have hq := HCD.out _ hw; go_simp⟩) hHeld ?_
    simp only [Act.put, List.getElem_toArray, List.getElem_cons_zero, List.getElem_cons_succ, List.setIfInBounds_toArray, List.set_cons_zero, List.set_cons_succ]
    refine wpAnyH_take (i := 18) (v := .int .i64 D.length) rfl (by kernel_rfl) (by kernel_rfl) (by kernel_rfl) (fun _ _ _ h => h) (Or.inl ⟨by rfl, fun w hw => by go_simp⟩) hHeld ?_
    simp only [Act.put, List.getElem_toArray, List.getElem_cons_zero, List.getElem_cons_succ, List.setIfInBounds_toArray, List.set_cons_zero, List.set_cons_succ]
    refine wpAnyH_take (i := 19) (v := .int .i64 ((D.length : Int) + 5)) rfl (by kernel_rfl) (by kernel_rfl) (by kernel_rfl) (fun _ _ _ h => h) (Or.inl ⟨by rfl, fun w hw => by go_simp⟩) hHeld ?_
    simp only [Act.put, List.getElem_toArray, List.getElem_cons_zero, List.getElem_cons_succ, List.setIfInBounds_toArray, List.set_cons_zero, List.set_cons_succ]
    refine wpAnyH_take (i := 20) (v := .slice (some ⟨Gi, 0, none⟩) (D.length + 5) capi) rfl (by kernel_rfl) (by kernel_rfl) (by kernel_rfl) (fun _ _ _ h => h) (Or.inl ⟨by rfl, fun w hw => by go_simp⟩) hHeld ?_
    simp only [Act.put, List.getElem_toArray, List.getElem_cons_zero, List.getElem_cons_succ, List.setIfInBounds_toArray, List.set_cons_zero, List.set_cons_succ]
    refine wpAnyH_take (i := 21) (v := .pointer (some ⟨w5.heap.size, 4, none⟩)) rfl (by kernel_rfl) (by kernel_rfl) (by kernel_rfl) (fun _ _ _ h => h) (Or.inl ⟨by rfl, fun w hw => by go_simp⟩) hHeld ?_
    simp only [Act.put, List.getElem_toArray, List.getElem_cons_zero, List.getElem_cons_succ, List.setIfInBounds_toArray, List.set_cons_zero, List.set_cons_succ]
    refine wpAnyH_take (i := 22) (v := .slice (some ⟨Gi, 0, none⟩) D.length capi) rfl (by kernel_rfl) (by kernel_rfl) (by kernel_rfl) (fun _ _ _ h => h) (Or.inl ⟨by rfl, fun w hw => by have hq := HCD.out _ hw; go_simp⟩) hHeld ?_
    simp only [Act.put, List.getElem_toArray, List.getElem_cons_zero, List.getElem_cons_succ, List.setIfInBounds_toArray, List.set_cons_zero, List.set_cons_succ]
    refine wpAnyH_take (i := 23) (v := .int .i64 D.length) rfl (by kernel_rfl) (by kernel_rfl) (by kernel_rfl) (fun _ _ _ h => h) (Or.inl ⟨by rfl, fun w hw => by go_simp⟩) hHeld ?_
    simp only [Act.put, List.getElem_toArray, List.getElem_cons_zero, List.getElem_cons_succ, List.setIfInBounds_toArray, List.set_cons_zero, List.set_cons_succ]
    refine wpAnyH_take (i := 24) (v := .slice (some ⟨Gi, D.length, none⟩) 5 (capi - D.length)) rfl (by kernel_rfl) (by kernel_rfl) (by kernel_rfl) (fun _ _ _ h => h) (Or.inl ⟨by rfl, fun w hw => by go_simp; intro h; omega⟩) hHeld ?_
    simp only [Act.put, List.getElem_toArray, List.getElem_cons_zero, List.getElem_cons_succ, List.setIfInBounds_toArray, List.set_cons_zero, List.set_cons_succ]
    refine wpAnyH_ready (rs := [25]) (by kernel_rfl) (by simp) ?_
    refine AllReadyH.cons (o := _) rfl (fun K hK => ?_) AllReadyH.nil
    go_simp
    refine hK.out _ _ QG.out (fun hHeld => ?_)
    clear hK K
    refine wpAnyH_take (i := 26) (v := .bool false) rfl (by kernel_rfl) (by kernel_rfl) (by kernel_rfl) (fun _ _ _ h => h) (Or.inl ⟨by rfl, fun w hw => by go_simp⟩) hHeld ?_
    simp only [Act.put, List.getElem_toArray, List.getElem_cons_zero, List.getElem_cons_succ, List.setIfInBounds_toArray, List.set_cons_zero, List.set_cons_succ]
    refine wpAnyH_take (i := 27) (v := .bool false) rfl (by kernel_rfl) (by kernel_rfl) (by kernel_rfl) (fun _ _ _ h => h) (Or.inl ⟨by rfl, fun w hw => by go_simp⟩) hHeld ?_
    simp only [Act.put, List.getElem_toArray, List.getElem_cons_zero, List.getElem_cons_succ, List.setIfInBounds_toArray, List.set_cons_zero, List.set_cons_succ]
    refine wpAnyH_take (i := 28) (v := .bool false) rfl (by kernel_rfl) (by kernel_rfl) (by kernel_rfl) (fun _ _ _ h => h) (Or.inl ⟨by rfl, fun w hw => by go_simp⟩) hHeld ?_
    simp only [Act.put, List.getElem_toArray, List.getElem_cons_zero, List.getElem_cons_succ, List.setIfInBounds_toArray, List.set_cons_zero, List.set_cons_succ]
    refine wpAnyH_take (i := 29) (v := .int .i64 (decE l)) rfl (by kernel_rfl) (by kernel_rfl) (by kernel_rfl) (fun _ _ _ h => h) (Or.inl ⟨by rfl, fun w hw => by go_simp⟩) hHeld ?_
    simp only [Act.put, List.getElem_toArray, List.getElem_cons_zero, List.getElem_cons_succ, List.setIfInBounds_toArray, List.set_cons_zero, List.set_cons_succ]
    refine wpAnyH_take (i := 31) (v := .int .i64 (decE l)) rfl (by kernel_rfl) (by kernel_rfl) (by kernel_rfl) (fun _ _ _ h => h) (Or.inl ⟨by rfl, fun w hw => by go_simp⟩) hHeld ?_
    simp only [Act.put, List.getElem_toArray, List.getElem_cons_zero, List.getElem_cons_succ, List.setIfInBounds_toArray, List.set_cons_zero, List.set_cons_succ]
    refine wpAnyH_ready (rs := [30]) (by kernel_rfl) (by simp) ?_
    refine AllReadyH.cons (o := _) rfl (fun K hK => ?_) AllReadyH.nil
    go_simp
    refine (numLT wG _).mono ?_
    rintro e wx ⟨rfl, rfl⟩
    go_wp2_with fail
    refine hK.out _ _ QG.out (fun hHeld => ?_)
    clear hK K
    refine wpAnyH_ready (rs := [32]) (by kernel_rfl) (by simp) ?_
    refine AllReadyH.cons (o := _) rfl (fun K hK => ?_) AllReadyH.nil
    go_simp
    refine (numLT wG _).mono ?_
    rintro e wx ⟨rfl, rfl⟩
    go_wp2_with fail
    refine hK.out _ _ QG.out (fun hHeld => ?_)
    clear hK K
    refine wpAnyH_take (i := 33) (v := .bool false) rfl (by kernel_rfl) (by kernel_rfl) (by kernel_rfl) (fun _ _ _ h => h) (Or.inl ⟨by rfl, fun w hw => by go_simp⟩) hHeld ?_
    simp only [Act.put, List.getElem_toArray, List.getElem_cons_zero, List.getElem_cons_succ, List.setIfInBounds_toArray, List.set_cons_zero, List.set_cons_succ]
    refine wpAnyH_take (i := 34) (v := .bool false) rfl (by kernel_rfl) (by kernel_rfl) (by kernel_rfl) (fun _ _ _ h => h) (Or.inl ⟨by rfl, fun w hw => by go_simp⟩) hHeld ?_
    simp only [Act.put, List.getElem_toArray, List.getElem_cons_zero, List.getElem_cons_succ, List.setIfInBounds_toArray, List.set_cons_zero, List.set_cons_succ]
    refine wpAnyH_take (i := 35) (v := .bool false) rfl (by kernel_rfl) (by kernel_rfl) (by kernel_rfl) (fun _ _ _ h => h) (Or.inl ⟨by rfl, fun w hw => by go_simp⟩) hHeld ?_
    simp only [Act.put, List.getElem_toArray, List.getElem_cons_zero, List.getElem_cons_succ, List.setIfInBounds_toArray, List.set_cons_zero, List.set_cons_succ]
    have HAB : Hid (∀ u, Below wD.heap.size wD u → MM u mA (decS l).D (decS l).hb ∧ MM u mB (decS l).D (decS l).hb ∧ u.rangeAt w3.heap.size 0 mA.ls ∧ u.rangeAt w4.heap.size 0 mB.ls) := fun u hb' => by
      have h6 : Below X6.heap.size X6 u := QD.out.2.2.2.2.trans (hb'.mono QD.out.2.2.2.2.size)
      have hl := decS_len l
      refine ⟨⟨T3.out.2.2.2.2.1, (P6.out.2.2.1.1.grow h6).rb, (P6.out.2.2.2.1.1.rh).keep h6, by omega, by omega⟩, ⟨T4.out.2.2.2.2.1, (P6.out.2.2.2.2.2.1.1.grow h6).rb, (P6.out.2.2.2.2.2.2.1.1.rh).keep h6, by omega, by omega⟩, fun j v hj => ?_, fun j v hj => ?_⟩
      · rw [Nat.zero_add]; exact (P6.out.2.2.2.2.1.below h6).cell j hj
      · rw [Nat.zero_add]; exact (P6.out.2.2.2.2.2.2.2.1.below h6).cell j hj
    have hiAl : (Tryd.prog.info? 27).map (·.size) = some mA.ls.length := by rw [ok_ls T3.out.2.2.2.2.1]; exact (info_msg T3.out.2.2.2.2.1).trans (by rw [T3.out.2.2.2.2.1.size])
    have hiBl : (Tryd.prog.info? 27).map (·.size) = some mB.ls.length := by rw [ok_ls T4.out.2.2.2.2.1]; exact (info_msg T4.out.2.2.2.2.1).trans (by rw [T4.out.2.2.2.2.1.size])
    refine wpAnyH_take (i := 36) (v := .agg mA.cs) rfl (by kernel_rfl) (by kernel_rfl) (by kernel_rfl) (fun _ _ _ h => h) (yieldsIf_load_mid (by rfl) _ _ rfl _ _ rfl _ _ (fun u hw => (HAB.out _ hw).2.2.1) Tryd.underlying27 rfl hiAl) hHeld ?_
    simp only [Act.put, List.getElem_toArray, List.getElem_cons_zero, List.getElem_cons_succ, List.setIfInBounds_toArray, List.set_cons_zero, List.set_cons_succ]
    refine wpAnyH_take (i := 37) (v := .agg mB.cs) rfl (by kernel_rfl) (by kernel_rfl) (by kernel_rfl) (fun _ _ _ h => h) (yieldsIf_load_mid (by rfl) _ _ rfl _ _ rfl _ _ (fun u hw => (HAB.out _ hw).2.2.2) Tryd.underlying27 rfl hiBl) hHeld ?_
    simp only [Act.put, List.getElem_toArray, List.getElem_cons_zero, List.getElem_cons_succ, List.setIfInBounds_toArray, List.set_cons_zero, List.set_cons_succ]
    refine wpAnyH_ready (rs := [38]) (by kernel_rfl) (by simp) ?_
    refine AllReadyH.cons (o := _) rfl (fun K hK => ?_) AllReadyH.nil
    go_simp
    refine (msameT wG mA mB _ _ (HAB.out _ QG.out).1 (HAB.out _ QG.out).2.1 (by rw [T3.out.2.2.2.1]; exact T4.out.2.2.2.1)).mono ?_
    rintro e wH ⟨rfl, bH⟩
    have QH : Hid (Below wD.heap.size wD wH) := QG.out.trans (bH.mono QG.out.size)
    clear bH
    go_wp2_with fail
    refine hK.out _ _ QH.out (fun hHeld => ?_)
    clear hK K
    refine wpAnyH_take (i := 39) (v := .bool false) rfl (by kernel_rfl) (by kernel_rfl) (by kernel_rfl) (fun _ _ _ h => h) (Or.inl ⟨by rfl, fun w hw => by go_simp⟩) hHeld ?_
    simp only [Act.put, List.getElem_toArray, List.getElem_cons_zero, List.getElem_cons_succ, List.setIfInBounds_toArray, List.set_cons_zero, List.set_cons_succ]
    refine wpAnyH_take (i := 40) (v := .bool false) rfl (by kernel_rfl) (by kernel_rfl) (by kernel_rfl) (fun _ _ _ h => h) (Or.inl ⟨by rfl, fun w hw => by go_simp⟩) hHeld ?_
    simp only [Act.put, List.getElem_toArray, List.getElem_cons_zero, List.getElem_cons_succ, List.setIfInBounds_toArray, List.set_cons_zero, List.set_cons_succ]
    refine wpAnyH_take (i := 41) (v := .bool false) rfl (by kernel_rfl) (by kernel_rfl) (by kernel_rfl) (fun _ _ _ h => h) (Or.inl ⟨by rfl, fun w hw => by go_simp⟩) hHeld ?_
    simp only [Act.put, List.getElem_toArray, List.getElem_cons_zero, List.getElem_cons_succ, List.setIfInBounds_toArray, List.set_cons_zero, List.set_cons_succ]
    refine wpAnyH_take (i := 42) (v := .slice ta (encB mI D hb).length tc) rfl (by kernel_rfl) (by kernel_rfl) (by kernel_rfl) (fun _ _ _ h => h) (Or.inl ⟨by rfl, fun w hw => by go_simp⟩) hHeld ?_
    simp only [Act.put, List.getElem_toArray, List.getElem_cons_zero, List.getElem_cons_succ, List.setIfInBounds_toArray, List.set_cons_zero, List.set_cons_succ]
    refine wpAnyH_take (i := 43) (v := .slice ua (encB mI D hb).length uc) rfl (by kernel_rfl) (by kernel_rfl) (by kernel_rfl) (fun _ _ _ h => h) (Or.inl ⟨by rfl, fun w hw => by go_simp⟩) hHeld ?_
    simp only [Act.put, List.getElem_toArray, List.getElem_cons_zero, List.getElem_cons_succ, List.setIfInBounds_toArray, List.set_cons_zero, List.set_cons_succ]
    refine wpAnyH_ready (rs := [44]) (by kernel_rfl) (by simp) ?_
    refine AllReadyH.cons (o := _) rfl (fun K hK => ?_) AllReadyH.nil
    go_simp
    refine (same _ _ (encB mI D hb) wH (by have := HMI.out.1.enc_le; omega) (((QA.out.1.1.grow QB.out.2.1).grow (QC.out.2.1.trans (QD.out.2.2.2.1.mono QC.out.2.1.size))).grow QH.out).rb ((QB.out.1.1.grow (QC.out.2.1.trans (QD.out.2.2.2.1.mono QC.out.2.1.size))).grow QH.out).rb).mono ?_
    rintro e wI ⟨rfl, nI, rfl⟩
    have QI : Hid (Below wD.heap.size wD (wH.drewN nI)) := belowN QH.out nI
    generalize wH.drewN nI = wI at *
    go_wp2_with fail
    refine hK.out _ _ QI.out (fun hHeld => ?_)
    clear hK K
    refine wpAnyH_take (i := 45) (v := .bool false) rfl (by kernel_rfl) (by kernel_rfl) (by kernel_rfl) (fun _ _ _ h => h) (Or.inl ⟨by rfl, fun w hw => by go_simp⟩) hHeld ?_
    simp only [Act.put, List.getElem_toArray, List.getElem_cons_zero, List.getElem_cons_succ, List.setIfInBounds_toArray, List.set_cons_zero, List.set_cons_succ]
    refine wpAnyH_take (i := 46) (v := .bool false) rfl (by kernel_rfl) (by kernel_rfl) (by kernel_rfl) (fun _ _ _ h => h) (Or.inl ⟨by rfl, fun w hw => by go_simp⟩) hHeld ?_
    simp only [Act.put, List.getElem_toArray, List.getElem_cons_zero, List.getElem_cons_succ, List.setIfInBounds_toArray, List.set_cons_zero, List.set_cons_succ]
    refine wpAnyH_done (by kernel_rfl) ?_ _
    clear hHeld
    go_wp2_with fail
    go_meet
    exact ⟨rfl, HBG.out.below QI.out⟩
  case rest =>
  obtain ⟨rfl, HB0⟩ := hcut
  clear HBG P6 QA QB QC QD Z6 T2 T3 T4 T5 HLW
  have hEE : (encB mI D hb).length ≤ 16777216 := by have := HMI.out.1.enc_le; omega
  have H32 : Hid (hb.length = hb.length / 32 * 32) := by
    obtain ⟨_, n5, _, _, e5, _⟩ := HMI.out.1.h
    show _ = _
    omega
  generalize encB mI D hb = EE at *
  generalize wirE [⟨mI, D, hb⟩, ⟨mI, D, hb⟩] = eW at *
  have HB1 := HB0.out.perm (perm4 (LIt W.heap.size 27 40 (.slice pa ms2.length pc) ms2.length (ms2.flatMap fun x : Mg => x.m.ls) :: (DIs W.heap.size ms2 ++ HIs W.heap.size ms2)) [LB W.heap.size (.slice ua EE.length uc) EE, LB W.heap.size (.slice ta EE.length tc) EE, LHn W.heap.size mI.h hb, LB W.heap.size mI.d D, MI w5.heap.size mI] (LIt W.heap.size 27 40 (.slice ra ms.length rc) ms.length (ms.flatMap fun x : Mg => x.m.ls) :: (DIs W.heap.size ms ++ HIs W.heap.size ms)) [MI w4.heap.size mB, LHn W.heap.size mB.h (decS l).hb, LB W.heap.size mB.d (decS l).D, MI w3.heap.size mA, LHn W.heap.size mA.h (decS l).hb, LB W.heap.size mA.d (decS l).D, LB W.heap.size (.slice (some ⟨G, 0, none⟩) l.length cap) l])
  clear HB0
  have hdl := decS_len l
  have e1 := LB_form (HB1.ok (LB W.heap.size mA.d (decS l).D) (by simp)).a
  have e2 := own_form (HB1.ok (LHn W.heap.size mA.h (decS l).hb) (by simp)).a
  have e3 := LB_form (HB1.ok (LB W.heap.size mB.d (decS l).D) (by simp)).a
  have e4 := own_form (HB1.ok (LHn W.heap.size mB.h (decS l).hb) (by simp)).a
  have e5 := own_form (HB1.ok (LHn W.heap.size mI.h hb) (by simp)).a
  obtain ⟨xa, xc, hxd⟩ := e1
  obtain ⟨xha, xhc, hxh⟩ := e2
  obtain ⟨ya, yc, hyd⟩ := e3
  obtain ⟨yha, yhc, hyh⟩ := e4
  have hhn : hn = hb.length / 32 := by
    obtain ⟨a5, c5, h5⟩ := e5
    rw [HMO.out.2.2.2.2.2.2.2.2.1] at h5
    simp only [Value.slice.injEq] at h5
    exact h5.2.1
  clear e5
  rw [hxd, hxh, hyd, hyh, HMO.out.2.2.2.2.2.2.2.1, HMO.out.2.2.2.2.2.2.2.2.1] at HB1
  obtain ⟨DA, hDA⟩ : ∃ x, x = (decS l).D := ⟨_, rfl⟩
  obtain ⟨HA, hHA⟩ : ∃ x, x = (decS l).hb := ⟨_, rfl⟩
  rw [← hDA] at HB1 hdl hxd hyd
  rw [← hHA] at HB1 hdl hxh hyh
  have HXY : Hid (mA.d = .slice xa DA.length xc ∧ mA.h = .slice xha (HA.length / 32) xhc ∧ mB.d = .slice ya DA.length yc ∧ mB.h = .slice yha (HA.length / 32) yhc ∧ DA = (decS l).D ∧ HA = (decS l).hb ∧ hn = hb.length / 32) := ⟨hxd, hxh, hyd, hyh, hDA, hHA, hhn⟩
  have hDl : DA.length ≤ 32768 := hdl.1
  have hHl : HA.length / 32 ≤ 1024 := by have := hdl.2; omega
  clear hxd hxh hyd hyh hDA hHA hdl hhn
  generalize w3.heap.size = gA at *
  generalize w4.heap.size = gB at *
  generalize w5.heap.size = gI at *
  have HB2 : Hid (Bag W wc ([LB W.heap.size (.slice ua EE.length uc) EE, LB W.heap.size (.slice ta EE.length tc) EE, LHn W.heap.size (.slice ha hn hc) hb, LB W.heap.size (.slice (some ⟨Gi, 0, none⟩) D.length capi) D, MI gI mI, MI gB mB, LHn W.heap.size (.slice yha (HA.length / 32) yhc) HA, LB W.heap.size (.slice ya DA.length yc) DA, MI gA mA, LHn W.heap.size (.slice xha (HA.length / 32) xhc) HA, LB W.heap.size (.slice xa DA.length xc) DA, LB W.heap.size (.slice (some ⟨G, 0, none⟩) l.length cap) l] ++ ((LIt W.heap.size 27 40 (.slice pa ms2.length pc) ms2.length (ms2.flatMap fun x : Mg => x.m.ls) :: (DIs W.heap.size ms2 ++ HIs W.heap.size ms2)) ++ (LIt W.heap.size 27 40 (.slice ra ms.length rc) ms.length (ms.flatMap fun x : Mg => x.m.ls) :: (DIs W.heap.size ms ++ HIs W.heap.size ms))))) := HB1
  clear HB1
  obtain ⟨i5, hi5, x50, x51, x52⟩ := info_parts info5
  obtain ⟨iH, hiH, y50, y51, y52⟩ := info_parts info_hashP
  have HI5 : Hid (Tryd.prog.info? 5 = some i5 ∧ i5.zero = some (.int .u8 0) ∧ i5.size = 1 ∧ i5.bytes = 1) := ⟨hi5, x50, x51, x52⟩
  have HIH : Hid (Tryd.prog.info? 24 = some iH ∧ iH.zero = some (.agg (bc (zr 32))) ∧ iH.size = 32 ∧ iH.bytes = 32) := ⟨hiH, y50, y51, y52⟩
  clear hi5 x50 x51 x52 hiH y50 y51 y52
  have HCA : Hid (∀ u, (MI gA mA).A u → u.cell? ⟨gA, 4, none⟩ = some (.slice xa DA.length xc) ∧ u.cell? ⟨gA, 39, none⟩ = some (.slice xha (HA.length / 32) xhc)) := fun u hu => ⟨by rw [← HXY.out.1]; exact MB.c4 hu, by rw [← HXY.out.2.1]; exact MB.c39 hu HMO.out.2.2.1⟩
  have HCB : Hid (∀ u, (MI gB mB).A u → u.cell? ⟨gB, 4, none⟩ = some (.slice ya DA.length yc) ∧ u.cell? ⟨gB, 39, none⟩ = some (.slice yha (HA.length / 32) yhc)) := fun u hu => ⟨by rw [← HXY.out.2.2.1]; exact MB.c4 hu, by rw [← HXY.out.2.2.2.1]; exact MB.c39 hu HMO.out.2.2.2.1⟩
  as_aux_lemma =>
    go_upto_region 18 with fail
    go_cut [177] from 170 to 177 (fun s wx => s = .bool false ∧ wc = wx)
    case first =>
      rcases HPR.out with ⟨hE, h2, _⟩ | ⟨hE, hnil⟩
      · subst hE
        have h2' : ((ms2.length : Int) != 2) = false := by simp [h2]
        clear h2
        go_wp2_with fail
        refine (numLT wc _).mono ?_
        rintro e wx ⟨rfl, rfl⟩
        go_wp2_with fail
        go_meet
        exact ⟨rfl, rfl⟩
      · have hE' : (eW == 0) = false := by simpa using hE
        clear hnil
        go_wp2_with fail
        refine (numLT wc _).mono ?_
        rintro e wx ⟨rfl, rfl⟩
        go_wp2_with fail
        go_meet
        exact ⟨rfl, rfl⟩
    case rest =>
    obtain ⟨rfl, rfl⟩ := hcut
    as_aux_lemma =>
      have a4 := (HCA.out wc (HB2.out.ok (MI gA mA) (by simp)).a).1
      have JD : Hid (Calls Tryd.prog 5 #[.slice xa DA.length xc, .slice none 0 0] wc fun e w' => ∃ v, e = .returned v ∧ OW wc.heap.size w' v (DA ++ []) ∧ Below wc.heap.size wc w') := joinedT wc _ _ DA [] (OW.rb (B := W.heap.size) (HB2.out.ok (LB W.heap.size (.slice xa DA.length xc) DA) (by simp)).a) ⟨none, 0, rfl, Nat.le_refl _, .inl rfl⟩ (by simp; omega)
      go_wp2_with fail
      refine JD.out.mono ?_
      rintro e w8 ⟨dv, rfl, o8, b8⟩
      rw [List.append_nil] at o8
      obtain ⟨qa, qc, rfl⟩ := o8.form
      have HB3 : Hid (Bag W w8 ([LB W.heap.size (.slice qa DA.length qc) DA, LB W.heap.size (.slice ua EE.length uc) EE, LB W.heap.size (.slice ta EE.length tc) EE, LHn W.heap.size (.slice ha hn hc) hb, LB W.heap.size (.slice (some ⟨Gi, 0, none⟩) D.length capi) D, MI gI mI, MI gB mB, LHn W.heap.size (.slice yha (HA.length / 32) yhc) HA, LB W.heap.size (.slice ya DA.length yc) DA, MI gA mA, LHn W.heap.size (.slice xha (HA.length / 32) xhc) HA, LB W.heap.size (.slice xa DA.length xc) DA, LB W.heap.size (.slice (some ⟨G, 0, none⟩) l.length cap) l] ++ ((LIt W.heap.size 27 40 (.slice pa ms2.length pc) ms2.length (ms2.flatMap fun x : Mg => x.m.ls) :: (DIs W.heap.size ms2 ++ HIs W.heap.size ms2)) ++ (LIt W.heap.size 27 40 (.slice ra ms.length rc) ms.length (ms.flatMap fun x : Mg => x.m.ls) :: (DIs W.heap.size ms ++ HIs W.heap.size ms))))) := HB2.out.addL b8 o8
      clear JD o8 b8 HB2 a4
      have a4 := (HCA.out w8 (HB3.out.ok (MI gA mA) (by simp)).a).1
      go_upto_region 22 with (first | (at_builtin; refine append_LI (us := [.int .u8 120]) [LB W.heap.size (.slice qa DA.length qc) DA, LB W.heap.size (.slice ua EE.length uc) EE, LB W.heap.size (.slice ta EE.length tc) EE, LHn W.heap.size (.slice ha hn hc) hb, LB W.heap.size (.slice (some ⟨Gi, 0, none⟩) D.length capi) D, MI gI mI, MI gB mB, LHn W.heap.size (.slice yha (HA.length / 32) yhc) HA, LB W.heap.size (.slice ya DA.length yc) DA, MI gA mA, LHn W.heap.size (.slice xha (HA.length / 32) xhc) HA] ([LB W.heap.size (.slice (some ⟨G, 0, none⟩) l.length cap) l] ++ ((LIt W.heap.size 27 40 (.slice pa ms2.length pc) ms2.length (ms2.flatMap fun x : Mg => x.m.ls) :: (DIs W.heap.size ms2 ++ HIs W.heap.size ms2)) ++ (LIt W.heap.size 27 40 (.slice ra ms.length rc) ms.length (ms.flatMap fun x : Mg => x.m.ls) :: (DIs W.heap.size ms ++ HIs W.heap.size ms)))) i5 _ 1 rfl _ _ rfl Tryd.underlying22 HI5.out.1 HI5.out.2.1 HI5.out.2.2.1 HI5.out.2.2.2 rfl (by omega) rfl (HB3.out.below (al_bel _ _)) w8.heap.size rfl rfl (one_cell _ _ _) (by simp [Value.oneCell']) (by unfold maxLen; omega) (by omega) ?_; intro xa1 xc1 w9 hnew))
      have HB4 : Hid (Bag W w9 ([LB W.heap.size (.slice qa DA.length qc) DA, LB W.heap.size (.slice ua EE.length uc) EE, LB W.heap.size (.slice ta EE.length tc) EE, LHn W.heap.size (.slice ha hn hc) hb, LB W.heap.size (.slice (some ⟨Gi, 0, none⟩) D.length capi) D, MI gI mI, MI gB mB, LHn W.heap.size (.slice yha (HA.length / 32) yhc) HA, LB W.heap.size (.slice ya DA.length yc) DA, MI gA mA, LHn W.heap.size (.slice xha (HA.length / 32) xhc) HA, PI W.heap.size 5 1 (.slice xa DA.length xc) DA.length (Lib.byteCells DA) (.slice xa1 (DA.length + 1) xc1) 1 [.int .u8 120], LB W.heap.size (.slice (some ⟨G, 0, none⟩) l.length cap) l] ++ ((LIt W.heap.size 27 40 (.slice pa ms2.length pc) ms2.length (ms2.flatMap fun x : Mg => x.m.ls) :: (DIs W.heap.size ms2 ++ HIs W.heap.size ms2)) ++ (LIt W.heap.size 27 40 (.slice ra ms.length rc) ms.length (ms.flatMap fun x : Mg => x.m.ls) :: (DIs W.heap.size ms ++ HIs W.heap.size ms))))) := hnew
      clear hnew HB3
      as_aux_lemma =>
        clear a4
        have a4 := (HCB.out w9 (HB4.out.ok (MI gB mB) (by simp)).a).1
        go_upto_region 23 with (first | (at_builtin; refine append_LI (us := [.int .u8 121]) [LB W.heap.size (.slice qa DA.length qc) DA, LB W.heap.size (.slice ua EE.length uc) EE, LB W.heap.size (.slice ta EE.length tc) EE, LHn W.heap.size (.slice ha hn hc) hb, LB W.heap.size (.slice (some ⟨Gi, 0, none⟩) D.length capi) D, MI gI mI, MI gB mB, LHn W.heap.size (.slice yha (HA.length / 32) yhc) HA] ([MI gA mA, LHn W.heap.size (.slice xha (HA.length / 32) xhc) HA, PI W.heap.size 5 1 (.slice xa DA.length xc) DA.length (Lib.byteCells DA) (.slice xa1 (DA.length + 1) xc1) 1 [.int .u8 120], LB W.heap.size (.slice (some ⟨G, 0, none⟩) l.length cap) l] ++ ((LIt W.heap.size 27 40 (.slice pa ms2.length pc) ms2.length (ms2.flatMap fun x : Mg => x.m.ls) :: (DIs W.heap.size ms2 ++ HIs W.heap.size ms2)) ++ (LIt W.heap.size 27 40 (.slice ra ms.length rc) ms.length (ms.flatMap fun x : Mg => x.m.ls) :: (DIs W.heap.size ms ++ HIs W.heap.size ms)))) i5 _ 1 rfl _ _ rfl Tryd.underlying22 HI5.out.1 HI5.out.2.1 HI5.out.2.2.1 HI5.out.2.2.2 rfl (by omega) rfl (HB4.out.below (al_bel _ _)) w9.heap.size rfl rfl (one_cell _ _ _) (by simp [Value.oneCell']) (by unfold maxLen; omega) (by omega) ?_; intro ya1 yc1 w10 hnew))
        have HB5 : Hid (Bag W w10 ([LB W.heap.size (.slice qa DA.length qc) DA, LB W.heap.size (.slice ua EE.length uc) EE, LB W.heap.size (.slice ta EE.length tc) EE, LHn W.heap.size (.slice ha hn hc) hb, LB W.heap.size (.slice (some ⟨Gi, 0, none⟩) D.length capi) D, MI gI mI, MI gB mB, LHn W.heap.size (.slice yha (HA.length / 32) yhc) HA, PI W.heap.size 5 1 (.slice ya DA.length yc) DA.length (Lib.byteCells DA) (.slice ya1 (DA.length + 1) yc1) 1 [.int .u8 121], MI gA mA, LHn W.heap.size (.slice xha (HA.length / 32) xhc) HA, PI W.heap.size 5 1 (.slice xa DA.length xc) DA.length (Lib.byteCells DA) (.slice xa1 (DA.length + 1) xc1) 1 [.int .u8 120], LB W.heap.size (.slice (some ⟨G, 0, none⟩) l.length cap) l] ++ ((LIt W.heap.size 27 40 (.slice pa ms2.length pc) ms2.length (ms2.flatMap fun x : Mg => x.m.ls) :: (DIs W.heap.size ms2 ++ HIs W.heap.size ms2)) ++ (LIt W.heap.size 27 40 (.slice ra ms.length rc) ms.length (ms.flatMap fun x : Mg => x.m.ls) :: (DIs W.heap.size ms ++ HIs W.heap.size ms))))) := hnew
        clear hnew HB4
        as_aux_lemma =>
          clear a4
          have a4 := (HCA.out w10 (HB5.out.ok (MI gA mA) (by simp)).a).2
          go_upto_region 24 with (first | (refine built_hash1 rfl _ rfl _ rfl (hm1 1).toArray (hm1_built 1) ?_) | (refine build_hash rfl _ rfl (hm1 1).toArray rfl rfl ?_) | (at_builtin; refine append_LI (us := hm1 1) [LB W.heap.size (.slice qa DA.length qc) DA, LB W.heap.size (.slice ua EE.length uc) EE, LB W.heap.size (.slice ta EE.length tc) EE, LHn W.heap.size (.slice ha hn hc) hb, LB W.heap.size (.slice (some ⟨Gi, 0, none⟩) D.length capi) D, MI gI mI, MI gB mB, LHn W.heap.size (.slice yha (HA.length / 32) yhc) HA, PI W.heap.size 5 1 (.slice ya DA.length yc) DA.length (Lib.byteCells DA) (.slice ya1 (DA.length + 1) yc1) 1 [.int .u8 121], MI gA mA] ([PI W.heap.size 5 1 (.slice xa DA.length xc) DA.length (Lib.byteCells DA) (.slice xa1 (DA.length + 1) xc1) 1 [.int .u8 120], LB W.heap.size (.slice (some ⟨G, 0, none⟩) l.length cap) l] ++ ((LIt W.heap.size 27 40 (.slice pa ms2.length pc) ms2.length (ms2.flatMap fun x : Mg => x.m.ls) :: (DIs W.heap.size ms2 ++ HIs W.heap.size ms2)) ++ (LIt W.heap.size 27 40 (.slice ra ms.length rc) ms.length (ms.flatMap fun x : Mg => x.m.ls) :: (DIs W.heap.size ms ++ HIs W.heap.size ms)))) iH _ 32 rfl _ _ rfl Tryd.underlying25 HIH.out.1 HIH.out.2.1 HIH.out.2.2.1 HIH.out.2.2.2 rfl (by omega) rfl (HB5.out.below (al_bel _ _)) w10.heap.size rfl rfl (row_cells _ _ _) (hm1_one 1) (by unfold maxLen; omega) (by omega) ?_; intro xha1 xhc1 w11 hnew))
          have HB6 : Hid (Bag W w11 ([LB W.heap.size (.slice qa DA.length qc) DA, LB W.heap.size (.slice ua EE.length uc) EE, LB W.heap.size (.slice ta EE.length tc) EE, LHn W.heap.size (.slice ha hn hc) hb, LB W.heap.size (.slice (some ⟨Gi, 0, none⟩) D.length capi) D, MI gI mI, MI gB mB, LHn W.heap.size (.slice yha (HA.length / 32) yhc) HA, PI W.heap.size 5 1 (.slice ya DA.length yc) DA.length (Lib.byteCells DA) (.slice ya1 (DA.length + 1) yc1) 1 [.int .u8 121], MI gA mA, PI W.heap.size 24 32 (.slice xha (HA.length / 32) xhc) (HA.length / 32) (Lib.byteCells HA) (.slice xha1 (HA.length / 32 + 1) xhc1) 1 (hm1 1), PI W.heap.size 5 1 (.slice xa DA.length xc) DA.length (Lib.byteCells DA) (.slice xa1 (DA.length + 1) xc1) 1 [.int .u8 120], LB W.heap.size (.slice (some ⟨G, 0, none⟩) l.length cap) l] ++ ((LIt W.heap.size 27 40 (.slice pa ms2.length pc) ms2.length (ms2.flatMap fun x : Mg => x.m.ls) :: (DIs W.heap.size ms2 ++ HIs W.heap.size ms2)) ++ (LIt W.heap.size 27 40 (.slice ra ms.length rc) ms.length (ms.flatMap fun x : Mg => x.m.ls) :: (DIs W.heap.size ms ++ HIs W.heap.size ms))))) := hnew
          clear hnew HB5
          as_aux_lemma =>
            clear a4
            have a4 := (HCB.out w11 (HB6.out.ok (MI gB mB) (by simp)).a).2
            go_upto_region 25 with (first | (refine built_hash1 rfl _ rfl _ rfl (hm1 2).toArray (hm1_built 2) ?_) | (refine build_hash rfl _ rfl (hm1 2).toArray rfl rfl ?_) | (at_builtin; refine append_LI (us := hm1 2) [LB W.heap.size (.slice qa DA.length qc) DA, LB W.heap.size (.slice ua EE.length uc) EE, LB W.heap.size (.slice ta EE.length tc) EE, LHn W.heap.size (.slice ha hn hc) hb, LB W.heap.size (.slice (some ⟨Gi, 0, none⟩) D.length capi) D, MI gI mI, MI gB mB] ([PI W.heap.size 5 1 (.slice ya DA.length yc) DA.length (Lib.byteCells DA) (.slice ya1 (DA.length + 1) yc1) 1 [.int .u8 121], MI gA mA, PI W.heap.size 24 32 (.slice xha (HA.length / 32) xhc) (HA.length / 32) (Lib.byteCells HA) (.slice xha1 (HA.length / 32 + 1) xhc1) 1 (hm1 1), PI W.heap.size 5 1 (.slice xa DA.length xc) DA.length (Lib.byteCells DA) (.slice xa1 (DA.length + 1) xc1) 1 [.int .u8 120], LB W.heap.size (.slice (some ⟨G, 0, none⟩) l.length cap) l] ++ ((LIt W.heap.size 27 40 (.slice pa ms2.length pc) ms2.length (ms2.flatMap fun x : Mg => x.m.ls) :: (DIs W.heap.size ms2 ++ HIs W.heap.size ms2)) ++ (LIt W.heap.size 27 40 (.slice ra ms.length rc) ms.length (ms.flatMap fun x : Mg => x.m.ls) :: (DIs W.heap.size ms ++ HIs W.heap.size ms)))) iH _ 32 rfl _ _ rfl Tryd.underlying25 HIH.out.1 HIH.out.2.1 HIH.out.2.2.1 HIH.out.2.2.2 rfl (by omega) rfl (HB6.out.below (al_bel _ _)) w11.heap.size rfl rfl (row_cells _ _ _) (hm1_one 2) (by unfold maxLen; omega) (by omega) ?_; intro yha1 yhc1 w12 hnew))
            have HB7 : Hid (Bag W w12 ([LB W.heap.size (.slice qa DA.length qc) DA, LB W.heap.size (.slice ua EE.length uc) EE, LB W.heap.size (.slice ta EE.length tc) EE, LHn W.heap.size (.slice ha hn hc) hb, LB W.heap.size (.slice (some ⟨Gi, 0, none⟩) D.length capi) D, MI gI mI, MI gB mB, PI W.heap.size 24 32 (.slice yha (HA.length / 32) yhc) (HA.length / 32) (Lib.byteCells HA) (.slice yha1 (HA.length / 32 + 1) yhc1) 1 (hm1 2), PI W.heap.size 5 1 (.slice ya DA.length yc) DA.length (Lib.byteCells DA) (.slice ya1 (DA.length + 1) yc1) 1 [.int .u8 121], MI gA mA, PI W.heap.size 24 32 (.slice xha (HA.length / 32) xhc) (HA.length / 32) (Lib.byteCells HA) (.slice xha1 (HA.length / 32 + 1) xhc1) 1 (hm1 1), PI W.heap.size 5 1 (.slice xa DA.length xc) DA.length (Lib.byteCells DA) (.slice xa1 (DA.length + 1) xc1) 1 [.int .u8 120], LB W.heap.size (.slice (some ⟨G, 0, none⟩) l.length cap) l] ++ ((LIt W.heap.size 27 40 (.slice pa ms2.length pc) ms2.length (ms2.flatMap fun x : Mg => x.m.ls) :: (DIs W.heap.size ms2 ++ HIs W.heap.size ms2)) ++ (LIt W.heap.size 27 40 (.slice ra ms.length rc) ms.length (ms.flatMap fun x : Mg => x.m.ls) :: (DIs W.heap.size ms ++ HIs W.heap.size ms))))) := hnew
            clear hnew HB6
            as_aux_lemma =>
              clear a4
              obtain ⟨a4, a39⟩ := HCA.out w12 (HB7.out.ok (MI gA mA) (by simp)).a
              obtain ⟨b4, b39⟩ := HCB.out w12 (HB7.out.ok (MI gB mB) (by simp)).a
              obtain ⟨_, hx1, g1, hg1, t1⟩ := PI.tail (HB7.out.ok (PI W.heap.size 5 1 (.slice xa DA.length xc) DA.length (Lib.byteCells DA) (.slice xa1 (DA.length + 1) xc1) 1 [.int .u8 120]) (by simp)).a (by omega)
              obtain ⟨_, hx2, g2, hg2, t2⟩ := PI.tail (HB7.out.ok (PI W.heap.size 5 1 (.slice ya DA.length yc) DA.length (Lib.byteCells DA) (.slice ya1 (DA.length + 1) yc1) 1 [.int .u8 121]) (by simp)).a (by omega)
              obtain ⟨_, hx3, g3, hg3, t3⟩ := PI.tail (HB7.out.ok (PI W.heap.size 24 32 (.slice xha (HA.length / 32) xhc) (HA.length / 32) (Lib.byteCells HA) (.slice xha1 (HA.length / 32 + 1) xhc1) 1 (hm1 1)) (by simp)).a (by omega)
              obtain ⟨_, hx4, g4, hg4, t4⟩ := PI.tail (HB7.out.ok (PI W.heap.size 24 32 (.slice yha (HA.length / 32) yhc) (HA.length / 32) (Lib.byteCells HA) (.slice yha1 (HA.length / 32 + 1) yhc1) 1 (hm1 2)) (by simp)).a (by omega)
              subst hg1 hg2 hg3 hg4
              have c1 : w12.cell? ⟨g1, DA.length, none⟩ = some (.int .u8 120) := by have := t1 0 _ rfl; simpa using this
              have c2 : w12.cell? ⟨g2, DA.length, none⟩ = some (.int .u8 121) := by have := t2 0 _ rfl; simpa using this
              have c3 : w12.cell? ⟨g3, HA.length / 32 * 32, none⟩ = some (.int .u8 1) := by have := t3 0 _ (hm1_0 1); simpa using this
              have c4 : w12.cell? ⟨g4, HA.length / 32 * 32, none⟩ = some (.int .u8 2) := by have := t4 0 _ (hm1_0 2); simpa using this
              clear t1 t2 t3 t4
              generalize hHAn : HA.length / 32 = nH at *
              have HNH : Hid (HA.length / 32 = nH) := hHAn
              clear hHAn
              as_aux_lemma =>
                go_upto_region 27 with fail
                clear c1 c2 c3 c4 a4 a39 b4 b39 hx1 hx2 hx3 hx4
                have hnn := HNH.out
                subst hnn
                have HB8 : Hid (Bag W w12 ([LB W.heap.size (.slice qa DA.length qc) DA, LB W.heap.size (.slice ua EE.length uc) EE, LB W.heap.size (.slice ta EE.length tc) EE, LHn W.heap.size (.slice ha hn hc) hb, LB W.heap.size (.slice (some ⟨Gi, 0, none⟩) D.length capi) D, MI gI mI, MI gB mB, LHn W.heap.size (.slice yha (HA.length / 32) yhc) HA, LB W.heap.size (.slice ya DA.length yc) DA, MI gA mA, LHn W.heap.size (.slice xha (HA.length / 32) xhc) HA, LB W.heap.size (.slice xa DA.length xc) DA, LB W.heap.size (.slice (some ⟨G, 0, none⟩) l.length cap) l] ++ ((LIt W.heap.size 27 40 (.slice pa ms2.length pc) ms2.length (ms2.flatMap fun x : Mg => x.m.ls) :: (DIs W.heap.size ms2 ++ HIs W.heap.size ms2)) ++ (LIt W.heap.size 27 40 (.slice ra ms.length rc) ms.length (ms.flatMap fun x : Mg => x.m.ls) :: (DIs W.heap.size ms ++ HIs W.heap.size ms))))) := by
                  have q1 := Bag.forget (ls := [LB W.heap.size (.slice qa DA.length qc) DA, LB W.heap.size (.slice ua EE.length uc) EE, LB W.heap.size (.slice ta EE.length tc) EE, LHn W.heap.size (.slice ha hn hc) hb, LB W.heap.size (.slice (some ⟨Gi, 0, none⟩) D.length capi) D, MI gI mI, MI gB mB, PI W.heap.size 24 32 (.slice yha (HA.length / 32) yhc) (HA.length / 32) (Lib.byteCells HA) (.slice (some ⟨g4, 0, none⟩) (HA.length / 32 + 1) yhc1) 1 (hm1 2), PI W.heap.size 5 1 (.slice ya DA.length yc) DA.length (Lib.byteCells DA) (.slice (some ⟨g2, 0, none⟩) (DA.length + 1) yc1) 1 [.int .u8 121], MI gA mA, PI W.heap.size 24 32 (.slice xha (HA.length / 32) xhc) (HA.length / 32) (Lib.byteCells HA) (.slice (some ⟨g3, 0, none⟩) (HA.length / 32 + 1) xhc1) 1 (hm1 1)]) (rs := ([LB W.heap.size (.slice (some ⟨G, 0, none⟩) l.length cap) l] ++ ((LIt W.heap.size 27 40 (.slice pa ms2.length pc) ms2.length (ms2.flatMap fun x : Mg => x.m.ls) :: (DIs W.heap.size ms2 ++ HIs W.heap.size ms2)) ++ (LIt W.heap.size 27 40 (.slice ra ms.length rc) ms.length (ms.flatMap fun x : Mg => x.m.ls) :: (DIs W.heap.size ms ++ HIs W.heap.size ms))))) HB7.out
                  have q2 := Bag.forget (ls := [LB W.heap.size (.slice qa DA.length qc) DA, LB W.heap.size (.slice ua EE.length uc) EE, LB W.heap.size (.slice ta EE.length tc) EE, LHn W.heap.size (.slice ha hn hc) hb, LB W.heap.size (.slice (some ⟨Gi, 0, none⟩) D.length capi) D, MI gI mI, MI gB mB, PI W.heap.size 24 32 (.slice yha (HA.length / 32) yhc) (HA.length / 32) (Lib.byteCells HA) (.slice (some ⟨g4, 0, none⟩) (HA.length / 32 + 1) yhc1) 1 (hm1 2), PI W.heap.size 5 1 (.slice ya DA.length yc) DA.length (Lib.byteCells DA) (.slice (some ⟨g2, 0, none⟩) (DA.length + 1) yc1) 1 [.int .u8 121], MI gA mA]) (rs := ([LB W.heap.size (.slice xa DA.length xc) DA, LB W.heap.size (.slice (some ⟨G, 0, none⟩) l.length cap) l] ++ ((LIt W.heap.size 27 40 (.slice pa ms2.length pc) ms2.length (ms2.flatMap fun x : Mg => x.m.ls) :: (DIs W.heap.size ms2 ++ HIs W.heap.size ms2)) ++ (LIt W.heap.size 27 40 (.slice ra ms.length rc) ms.length (ms.flatMap fun x : Mg => x.m.ls) :: (DIs W.heap.size ms ++ HIs W.heap.size ms))))) q1
                  have q3 := Bag.forget (ls := [LB W.heap.size (.slice qa DA.length qc) DA, LB W.heap.size (.slice ua EE.length uc) EE, LB W.heap.size (.slice ta EE.length tc) EE, LHn W.heap.size (.slice ha hn hc) hb, LB W.heap.size (.slice (some ⟨Gi, 0, none⟩) D.length capi) D, MI gI mI, MI gB mB, PI W.heap.size 24 32 (.slice yha (HA.length / 32) yhc) (HA.length / 32) (Lib.byteCells HA) (.slice (some ⟨g4, 0, none⟩) (HA.length / 32 + 1) yhc1) 1 (hm1 2)]) (rs := ([MI gA mA, LHn W.heap.size (.slice xha (HA.length / 32) xhc) HA, LB W.heap.size (.slice xa DA.length xc) DA, LB W.heap.size (.slice (some ⟨G, 0, none⟩) l.length cap) l] ++ ((LIt W.heap.size 27 40 (.slice pa ms2.length pc) ms2.length (ms2.flatMap fun x : Mg => x.m.ls) :: (DIs W.heap.size ms2 ++ HIs W.heap.size ms2)) ++ (LIt W.heap.size 27 40 (.slice ra ms.length rc) ms.length (ms.flatMap fun x : Mg => x.m.ls) :: (DIs W.heap.size ms ++ HIs W.heap.size ms))))) q2
                  exact Bag.forget (ls := [LB W.heap.size (.slice qa DA.length qc) DA, LB W.heap.size (.slice ua EE.length uc) EE, LB W.heap.size (.slice ta EE.length tc) EE, LHn W.heap.size (.slice ha hn hc) hb, LB W.heap.size (.slice (some ⟨Gi, 0, none⟩) D.length capi) D, MI gI mI, MI gB mB]) (rs := ([LB W.heap.size (.slice ya DA.length yc) DA, MI gA mA, LHn W.heap.size (.slice xha (HA.length / 32) xhc) HA, LB W.heap.size (.slice xa DA.length xc) DA, LB W.heap.size (.slice (some ⟨G, 0, none⟩) l.length cap) l] ++ ((LIt W.heap.size 27 40 (.slice pa ms2.length pc) ms2.length (ms2.flatMap fun x : Mg => x.m.ls) :: (DIs W.heap.size ms2 ++ HIs W.heap.size ms2)) ++ (LIt W.heap.size 27 40 (.slice ra ms.length rc) ms.length (ms.flatMap fun x : Mg => x.m.ls) :: (DIs W.heap.size ms ++ HIs W.heap.size ms))))) q3
                clear HB7 HNH
                as_aux_lemma =>
                  have UO : Hid (Calls Tryd.prog 7 #[.slice (some ⟨G, 0, none⟩) l.length cap] w12 fun e w' => ∃ bs er, (∃ r, Fm.Rd false l [] bs false r er) ∧ UNR2 w12 w' e bs er) := unwireD w12 _ l (by omega) (OW.rb (B := W.heap.size) (HB8.out.ok (LB W.heap.size (.slice (some ⟨G, 0, none⟩) l.length cap) l) (by simp)).a) (H0.out.2.2.1.below HB8.out.bel H0.out.2.2.1.pos)
                  go_wp2_with fail
                  refine UO.out.mono ?_
                  rintro e w13 ⟨bs3, er3, ⟨r3, R3⟩, ov, ns, rfl, o13, of13, b13, md13⟩
                  obtain ⟨oa, oc, rfl⟩ := o13.form
                  have HEQ : Hid (MsEq ms ns) := by
                    obtain ⟨_, hbb, _⟩ := Fm.Rd.det HMO.out.2.2.2.2.2.2.2.2.2.2 R3
                    rw [hbb] at of13
                    exact MsOf.eq HMO.out.2.2.2.2.2.2.2.2.2.1 of13
                  have hml : ms.length ≤ 1048576 := by
                    have h1 := HMO.out.2.2.2.2.2.2.2.2.2.1.1
                    have h2 := gds_len bs
                    have h3 := sz_ge bs
                    have h4 := (HMO.out.2.2.2.2.2.2.2.2.2.2.frames rfl).2.2.1
                    omega
                  obtain ⟨R, hR⟩ : ∃ x, x = [RI w12.heap.size w13.heap.size (.slice oa ns.length oc) ns, LB W.heap.size (.slice qa DA.length qc) DA, LB W.heap.size (.slice ua EE.length uc) EE, LB W.heap.size (.slice ta EE.length tc) EE, LHn W.heap.size (.slice ha hn hc) hb, LB W.heap.size (.slice (some ⟨Gi, 0, none⟩) D.length capi) D, MI gI mI, MI gB mB, LHn W.heap.size (.slice yha (HA.length / 32) yhc) HA, LB W.heap.size (.slice ya DA.length yc) DA, MI gA mA, LHn W.heap.size (.slice xha (HA.length / 32) xhc) HA, LB W.heap.size (.slice xa DA.length xc) DA, LB W.heap.size (.slice (some ⟨G, 0, none⟩) l.length cap) l] ++ (LIt W.heap.size 27 40 (.slice pa ms2.length pc) ms2.length (ms2.flatMap fun x : Mg => x.m.ls) :: (DIs W.heap.size ms2 ++ HIs W.heap.size ms2)) := ⟨_, rfl⟩
                  have HR : Hid (R = [RI w12.heap.size w13.heap.size (.slice oa ns.length oc) ns, LB W.heap.size (.slice qa DA.length qc) DA, LB W.heap.size (.slice ua EE.length uc) EE, LB W.heap.size (.slice ta EE.length tc) EE, LHn W.heap.size (.slice ha hn hc) hb, LB W.heap.size (.slice (some ⟨Gi, 0, none⟩) D.length capi) D, MI gI mI, MI gB mB, LHn W.heap.size (.slice yha (HA.length / 32) yhc) HA, LB W.heap.size (.slice ya DA.length yc) DA, MI gA mA, LHn W.heap.size (.slice xha (HA.length / 32) xhc) HA, LB W.heap.size (.slice xa DA.length xc) DA, LB W.heap.size (.slice (some ⟨G, 0, none⟩) l.length cap) l] ++ (LIt W.heap.size 27 40 (.slice pa ms2.length pc) ms2.length (ms2.flatMap fun x : Mg => x.m.ls) :: (DIs W.heap.size ms2 ++ HIs W.heap.size ms2))) := hR
                  have HB9 : Hid (RB1 W w13 (.slice none 0 0) (.slice none 0 0) (.slice ra ms.length rc) ms [] [] R) := by
                    rw [hR]
                    exact RB1.start [RI w12.heap.size w13.heap.size (.slice oa ns.length oc) ns, LB W.heap.size (.slice qa DA.length qc) DA, LB W.heap.size (.slice ua EE.length uc) EE, LB W.heap.size (.slice ta EE.length tc) EE, LHn W.heap.size (.slice ha hn hc) hb, LB W.heap.size (.slice (some ⟨Gi, 0, none⟩) D.length capi) D, MI gI mI, MI gB mB, LHn W.heap.size (.slice yha (HA.length / 32) yhc) HA, LB W.heap.size (.slice ya DA.length yc) DA, MI gA mA, LHn W.heap.size (.slice xha (HA.length / 32) xhc) HA, LB W.heap.size (.slice xa DA.length xc) DA, LB W.heap.size (.slice (some ⟨G, 0, none⟩) l.length cap) l] (LIt W.heap.size 27 40 (.slice pa ms2.length pc) ms2.length (ms2.flatMap fun x : Mg => x.m.ls) :: (DIs W.heap.size ms2 ++ HIs W.heap.size ms2)) (HB8.out.add b13 _ (RI.ok o13 md13))
                  clear UO R3 o13 of13 b13 md13 HB8 hR
                  obtain ⟨iB, hiB, z50, z51, z52⟩ := info_parts info_b
                  obtain ⟨iG, hiG, u50, u51, u52⟩ := info_parts info_h
                  have HIB : Hid (Tryd.prog.info? 22 = some iB ∧ iB.zero = some (.slice none 0 0) ∧ iB.size = 1 ∧ iB.bytes = 24) := ⟨hiB, z50, z51, z52⟩
                  have HIG : Hid (Tryd.prog.info? 25 = some iG ∧ iG.zero = some (.slice none 0 0) ∧ iG.size = 1 ∧ iG.bytes = 24) := ⟨hiG, u50, u51, u52⟩
                  clear hiB z50 z51 z52 hiG u50 u51 u52
                  as_aux_lemma =>
                    go_wp2_with fail
                    go_loopw [32, 33, 34] (fun x y t wr => ∃ (k : Nat) (mka : Option Addr) (mkc : Nat) (hka : Option Addr) (hkc : Nat) (zs ys : List Value), k ≤ ms.length ∧ x = .slice mka k mkc ∧ y = .slice hka k hkc ∧ t = .int .i64 k ∧ Hid (zs.length = k ∧ ys.length = k ∧ RB1 W wr (.slice mka k mkc) (.slice hka k hkc) (.slice ra ms.length rc) ms zs ys R)) (fun _ _ t _ => ms.length - (intOf t).toNat)
                    case atStart => exact ⟨0, none, 0, none, 0, [], [], Nat.zero_le _, rfl, rfl, rfl, rfl, rfl, HB9.out⟩
                    case round =>
                      clear HB9
                      obtain ⟨k, mka, mkc, hka, hkc, zs, ys, hk, rfl, rfl, rfl, H⟩ := hrel
                      by_cases hlt : k < ms.length
                      · as_aux_lemma =>
                        obtain ⟨x, hx⟩ : ∃ x, ms[k]? = some x := ⟨_, List.getElem?_eq_getElem hlt⟩
                        have hxm := List.mem_of_getElem? hx
                        obtain ⟨okx, hx1, hx2, hx3⟩ := HMO.out.1 x hxm
                        obtain ⟨gr, hra, hgr, _, d4, d39⟩ := rowsAt H.out.2.2.rows HMO.out.1 hx
                        subst hra
                        obtain ⟨sa, sc, hsd⟩ := (H.out.2.2.d hxm).form
                        obtain ⟨sha, shc, hsh⟩ := own_form (H.out.2.2.h hxm)
                        have hxh : x.hb.length / 32 ≤ 1024 := by omega
                        have HX : Hid (ms[k]? = some x ∧ x ∈ ms ∧ x.m.d = .slice sa x.D.length sc ∧ x.m.h = .slice sha (x.hb.length / 32) shc) := ⟨hx, hxm, hsd, hsh⟩
                        rw [hsd] at d4
                        rw [hsh] at d39
                        have SG : Hid (Calls Tryd.prog 13 #[.slice sa x.D.length sc, .int .i64 (100 + (k : Int))] wr (StrE wr W.heap.size x.m.d x.D (100 + k))) := by
                          have h := stretchedT x.m.d x.D (100 + k) W.heap.size wr (H.out.2.2.d hxm) H.out.2.2.bel.size (by omega)
                          rw [show ((100 + k : Nat) : Int) = 100 + (k : Int) by omega, hsd] at h
                          rw [hsd]
                          exact h
                        have hst1 : ∀ (z : Value) (w' : World), GIL wr W.heap.size 5 1 x.m.d x.D.length (Lib.byteCells x.D) 70 (mkm (100 + k) 35) z w' → Hid (Bag W w' (LIt W.heap.size 22 1 (.slice mka k mkc) k zs :: (LIt W.heap.size 25 1 (.slice hka k hkc) k ys :: (M1 W.heap.size 0 ms (zs ++ [z]) ++ (H1 W.heap.size 0 ms ys ++ (LIt W.heap.size 27 40 (.slice (some ⟨gr, 0, none⟩) ms.length rc) ms.length (ms.flatMap fun x : Mg => x.m.ls) :: R)))))) := fun z w' g => by
                          have := H.out.2.2.str (by rw [H.out.1]; exact HX.out.1) (by rw [H.out.1]; exact g)
                          rw [H.out.1, H.out.2.1] at this
                          exact this
                        clear hx hxm okx hx3 hsd hsh
                        go_wp2_with fail
                        refine SG.out.mono ?_
                        rintro e w14 ⟨z, rfl, g14⟩
                        obtain ⟨za, zn, zc, rfl⟩ := g14.form
                        have K1 := hst1 _ w14 g14
                        clear SG g14 hst1 d4
                        go_upto_region 35 with (first | (at_builtin; refine append_L (us := [.slice za zn zc]) [] _ iB _ 24 rfl _ _ rfl Tryd.underlying42 HIB.out.1 HIB.out.2.1 HIB.out.2.2.1 HIB.out.2.2.2 rfl (by omega) rfl (K1.out.below (al_bel _ _)) w14.heap.size rfl rfl (one_cell _ _ _) (by simp [Value.oneCell']) (by unfold maxLen; omega) (by omega) ?_; intro mka1 mkc1 w15 hnew))
                        have K2 : Hid ((zs ++ [Value.slice za zn zc]).length = k + 1 ∧ RB1 W w15 (.slice mka1 (k + 1) mkc1) (.slice hka k hkc) (.slice (some ⟨gr, 0, none⟩) ms.length rc) ms (zs ++ [.slice za zn zc]) ys R) := by
                          have hlen : (zs ++ [Value.slice za zn zc]).length = k + 1 := by rw [List.length_append, H.out.1]; rfl
                          refine ⟨hlen, ?_⟩
                          unfold RB1
                          rw [hlen, H.out.2.1]
                          exact hnew
                        obtain ⟨gr', hra', _, _, _, d39⟩ := rowsAt K2.out.2.rows HMO.out.1 HX.out.1
                        simp only [Option.some.injEq, Addr.mk.injEq, and_true] at hra'
                        subst hra'
                        rw [HX.out.2.2.2] at d39
                        have DG : Hid (Calls Tryd.prog 14 #[.slice sha (x.hb.length / 32) shc, .int .i64 (100 + (k : Int))] w15 (DrE w15 W.heap.size x.m.h (x.hb.length / 32) (Lib.byteCells x.hb) (100 + k))) := by
                          have h0 := K2.out.2.h HX.out.2.1
                          rw [HX.out.2.2.2] at h0 ⊢
                          have h := drawnT sha (x.hb.length / 32) shc (Lib.byteCells x.hb) (100 + k) W.heap.size w15 h0 K2.out.2.bel.size (by omega)
                          rw [show ((100 + k : Nat) : Int) = 100 + (k : Int) by omega] at h
                          exact h
                        have hst2 : ∀ (y : Value) (w' : World), GIL w15 W.heap.size 24 32 x.m.h (x.hb.length / 32) (Lib.byteCells x.hb) 5 (hms (((100 + k : Nat) : Int) % 256) (((100 + k : Nat) : Int) / 256 % 256) 5) y w' → Hid (Bag W w' ([LIt W.heap.size 22 1 (.slice mka1 (k + 1) mkc1) (k + 1) (zs ++ [.slice za zn zc])] ++ LIt W.heap.size 25 1 (.slice hka k hkc) k ys :: (M1 W.heap.size 0 ms (zs ++ [.slice za zn zc]) ++ (H1 W.heap.size 0 ms (ys ++ [y]) ++ (LIt W.heap.size 27 40 (.slice (some ⟨gr, 0, none⟩) ms.length rc) ms.length (ms.flatMap fun x : Mg => x.m.ls) :: R))))) := fun y w' g => by
                          have := K2.out.2.strH (by rw [H.out.2.1]; exact HX.out.1) (by rw [H.out.2.1]; exact g)
                          rw [K2.out.1, H.out.2.1] at this
                          exact this
                        clear hnew K1
                        go_wp2_with fail
                        refine DG.out.mono ?_
                        rintro e w16 ⟨y, rfl, g16⟩
                        obtain ⟨yza, yzn, yzc, rfl⟩ := g16.form
                        have K3 := hst2 _ w16 g16
                        clear DG g16 hst2 d39
                        go_wp2_with (first | (at_builtin; refine append_L (us := [.slice yza yzn yzc]) [LIt W.heap.size 22 1 (.slice mka1 (k + 1) mkc1) (k + 1) (zs ++ [.slice za zn zc])] _ iG _ 24 rfl _ _ rfl Tryd.underlying43 HIG.out.1 HIG.out.2.1 HIG.out.2.2.1 HIG.out.2.2.2 rfl (by omega) rfl (K3.out.below (al_bel _ _)) w16.heap.size rfl rfl (one_cell _ _ _) (by simp [Value.oneCell']) (by unfold maxLen; omega) (by omega) ?_; intro hka1 hkc1 w17 hnew))
                        have K4 : Hid ((zs ++ [Value.slice za zn zc]).length = k + 1 ∧ (ys ++ [Value.slice yza yzn yzc]).length = k + 1 ∧ RB1 W w17 (.slice mka1 (k + 1) mkc1) (.slice hka1 (k + 1) hkc1) (.slice (some ⟨gr, 0, none⟩) ms.length rc) ms (zs ++ [.slice za zn zc]) (ys ++ [.slice yza yzn yzc]) R) := by
                          have hlen : (ys ++ [Value.slice yza yzn yzc]).length = k + 1 := by rw [List.length_append, H.out.2.1]; rfl
                          refine ⟨K2.out.1, hlen, ?_⟩
                          unfold RB1
                          rw [hlen, K2.out.1]
                          exact hnew
                        exact ⟨⟨k + 1, _, _, _, _, _, _, by omega, rfl, rfl, by go_num, K4⟩, by simp [intOf]; omega⟩
                      · obtain rfl : k = ms.length := by omega
                        obtain ⟨w14, hw14⟩ : ∃ x, x = wr := ⟨_, rfl⟩
                        subst hw14
                        clear hk hlt
                        as_aux_lemma =>
                          go_wp2_with fail
                          go_loopw [37] (fun t wr => ∃ (i nq : Nat), i ≤ ms.length ∧ t = .int .i64 i ∧ wr = w14.drewN nq) (fun t _ => ms.length - (intOf t).toNat)
                          case atStart => exact ⟨0, 0, Nat.zero_le _, rfl, rfl⟩
                          case round =>
                            obtain ⟨i, n0, hi, rfl, hw⟩ := hrel
                            obtain ⟨w15, hw15⟩ : ∃ x, x = wr := ⟨_, rfl⟩
                            subst hw15
                            have HK : Hid (RB1 W w15 (.slice mka ms.length mkc) (.slice hka ms.length hkc) (.slice ra ms.length rc) ms zs ys R) := by rw [hw]; exact H.out.2.2.below (belowDrew _ _)
                            have HW : Hid (w15 = w14.drewN n0) := hw
                            clear hw
                            by_cases hlt : i < ms.length
                            · as_aux_lemma =>
                              obtain ⟨x, hx⟩ : ∃ x, ms[i]? = some x := ⟨_, List.getElem?_eq_getElem hlt⟩
                              have hxm := List.mem_of_getElem? hx
                              obtain ⟨okx, hx1, hx2, hx3⟩ := HMO.out.1 x hxm
                              obtain ⟨gr, hra, hgr, _, d4, d39⟩ := rowsAt HK.out.rows HMO.out.1 hx
                              obtain ⟨hz_, hy_, gm, gh, gz, cz, gy, cy, hma, hha, m1, h1, HZ, HY⟩ := HK.out.mark hx (by rw [H.out.1]; exact hlt) (by rw [H.out.2.1]; exact hlt)
                              obtain ⟨sa, sc, hsd⟩ := (HK.out.d hxm).form
                              obtain ⟨sha, shc, hsh⟩ := own_form (HK.out.h hxm)
                              clear hz_ hy_
                              subst hra
                              subst hma
                              subst hha
                              have hxh : x.hb.length / 32 ≤ 1024 := by omega
                              rw [hsd] at d4
                              rw [hsh] at d39
                              obtain ⟨q, hq⟩ : ∃ q : Nat, (100 : Int) + (i : Int) = (q : Int) := ⟨100 + i, by omega⟩
                              rw [hq] at HZ HY
                              have hwq : IntKind.i64.wrap (100 + (i : Int)) = (q : Int) := by rw [hq]; exact IntWalk.i64_in _ (by omega)
                              have hqb : (q : Int) ≤ 1048676 := by omega
                              have hqc : (0 : Int) ≤ (q : Int) := by omega
                              have HZ' := Lib.hid HZ
                              have HY' := Lib.hid HY
                              clear HZ HY hx hxm okx hx3 hsd hsh hx2
                              generalize x.D.length = dn at *
                              generalize x.hb.length / 32 = nh at *
                              go_wp2_with fail
                              go_loopw [38] (fun t wr => ∃ (j nq : Nat), j ≤ 35 ∧ t = .int .i64 (2 * (j : Int)) ∧ wr = w15.drewN nq) (fun t _ => 70 - (intOf t).toNat)
                              case atStart => exact ⟨0, 0, by omega, rfl, rfl⟩
                              case round =>
                                obtain ⟨j, n1, hj, rfl, hw1⟩ := hrel
                                by_cases hlj : j < 35
                                · as_aux_lemma =>
                                  obtain ⟨z1, z2⟩ := HZ'.out j hlj
                                  obtain ⟨p, hp⟩ : ∃ p, p = dn + 2 * j := ⟨_, rfl⟩
                                  obtain ⟨p1, hp1⟩ : ∃ p1, p1 = p + 1 := ⟨_, rfl⟩
                                  rw [← hp] at z1 z2
                                  rw [← hp1] at z2
                                  have k1 : wr.cell? ⟨gm, i, none⟩ = some (.slice (some ⟨gz, 0, none⟩) (dn + 70) cz) := by rw [hw1]; exact m1
                                  have k2 : wr.cell? ⟨gr, i * 40 + 4, none⟩ = some (.slice sa dn sc) := by rw [hw1]; exact d4
                                  have k3 : wr.cell? ⟨gz, p, none⟩ = some (.int .u8 ((q : Int) % 256)) := by rw [hw1]; exact z1
                                  have k4 : wr.cell? ⟨gz, p1, none⟩ = some (.int .u8 ((q : Int) / 256 % 256)) := by rw [hw1]; exact z2
                                  have e1 : IntKind.i64.wrap ((dn : Int) + 2 * (j : Int)) = (p : Int) := by rw [show (dn : Int) + 2 * (j : Int) = (p : Int) by omega]; exact IntWalk.i64_in _ (by omega)
                                  have e2 : IntKind.i64.wrap ((p : Int) + 1) = (p1 : Int) := by rw [show (p : Int) + 1 = (p1 : Int) by omega]; exact IntWalk.i64_in _ (by omega)
                                  have e3 : (p : Int) < (dn : Int) + 70 := by omega
                                  have e4 : (p1 : Int) < (dn : Int) + 70 := by omega
                                  have HW1 := Lib.hid hw1
                                  clear z1 z2 hw1 hp hp1 m1 d4 h1 d39 HZ' HY' hq
                                  go_wp2_with fail
                                  go_quiet (fail)
                                  go_wp2
                                  exact ⟨⟨j + 1, _, by omega, by go_num, by rw [HW1.out]; exact Fm.drewN2 _ _ _⟩, by simp [intOf]; omega⟩
                                · have h70 : 2 * (j : Int) = 70 := by omega
                                  rw [h70]
                                  have HW1 := Lib.hid hw1
                                  clear h70 hj hlj hw1
                                  as_aux_lemma =>
                                    go_wp2_with fail
                                    go_loopw [39] (fun t wr => ∃ (j nq : Nat), j ≤ 5 ∧ t = .int .i64 (j : Int) ∧ wr = w15.drewN nq) (fun t _ => 5 - (intOf t).toNat)
                                    case atStart => exact ⟨0, n1, by omega, rfl, HW1.out⟩
                                    case round =>
                                      obtain ⟨j, n2, hj5, rfl, hw2⟩ := hrel
                                      by_cases hlj5 : j < 5
                                      · as_aux_lemma =>
                                        have y1 := HY'.out j hlj5
                                        obtain ⟨p, hp⟩ : ∃ p, p = nh + j := ⟨_, rfl⟩
                                        rw [← hp] at y1
                                        have hS : wr.cell? ⟨gh, i, none⟩ = some (.slice (some ⟨gy, 0, none⟩) (nh + 5) cy) ∧ wr.cell? ⟨gr, i * 40 + 39, none⟩ = some (.slice sha nh shc) ∧ wr.rangeAt gy (p * 32) (hmk ((q : Int) % 256) ((q : Int) / 256 % 256)) := ⟨by rw [hw2]; exact h1, by rw [hw2]; exact d39, by rw [hw2]; exact y1⟩
                                        have e1 : IntKind.i64.wrap ((nh : Int) + (j : Int)) = (p : Int) := by rw [show (nh : Int) + (j : Int) = (p : Int) by omega]; exact IntWalk.i64_in _ (by omega)
                                        have e3 : (p : Int) < (nh : Int) + 5 := by omega
                                        have HB3 := hmk_built ((q : Int) % 256) ((q : Int) / 256 % 256)
                                        have hE3 := hmk_eq (q : Int)
                                        have hlm : (Tryd.prog.info? 24).map (·.size) = some (hmk ((q : Int) % 256) ((q : Int) / 256 % 256)).length := info_hash
                                        generalize hTT : hmk ((q : Int) % 256) ((q : Int) / 256 % 256) = TT at *
                                        have HW2 := Lib.hid hw2
                                        clear y1 hp m1 d4 HZ' HY' hq hTT hw2 h1 d39
                                        go_upto_region 48 with fail
                                        refine wp_region_held_drew (S := fun u => u.cell? ⟨gh, i, none⟩ = some (.slice (some ⟨gy, 0, none⟩) (nh + 5) cy) ∧ u.cell? ⟨gr, i * 40 + 39, none⟩ = some (.slice sha nh shc) ∧ u.rangeAt gy (p * 32) TT) (by kernel_rfl) (hS) (fun hHeld => ?_)
                                        refine wpAnyH_take (i := 0) (v := .slice (some ⟨gh, 0, none⟩) ms.length hkc) rfl (by kernel_rfl) (by kernel_rfl) (by kernel_rfl) (fun _ _ _ h => h) (Or.inl ⟨by rfl, fun w hw => by go_simp⟩) hHeld ?_
                                        simp only [Act.put, List.getElem_toArray, List.getElem_cons_zero, List.setIfInBounds_toArray, List.set_cons_zero, List.set_cons_succ]
                                        refine wpAnyH_take (i := 1) (v := .int .i64 (i : Int)) rfl (by kernel_rfl) (by kernel_rfl) (by kernel_rfl) (fun _ _ _ h => h) (Or.inl ⟨by rfl, fun w hw => by go_simp⟩) hHeld ?_
                                        simp only [Act.put, List.getElem_toArray, List.getElem_cons_zero, List.getElem_cons_succ, List.setIfInBounds_toArray, List.set_cons_zero, List.set_cons_succ]
                                        refine wpAnyH_take (i := 2) (v := .pointer (some ⟨gh, i, none⟩)) rfl (by kernel_rfl) (by kernel_rfl) (by kernel_rfl) (fun _ _ _ h => h) (Or.inl ⟨by rfl, fun w hw => by go_simp⟩) hHeld ?_
                                        simp only [Act.put, List.getElem_toArray, List.getElem_cons_zero, List.getElem_cons_succ, List.setIfInBounds_toArray, List.set_cons_zero, List.set_cons_succ]
                                        refine wpAnyH_take (i := 3) (v := .slice (some ⟨gy, 0, none⟩) (nh + 5) cy) rfl (by kernel_rfl) (by kernel_rfl) (by kernel_rfl) (fun _ _ _ h => h) (Or.inl ⟨by rfl, fun w hw => by have hq := hw.1; go_simp⟩) hHeld ?_
                                        simp only [Act.put, List.getElem_toArray, List.getElem_cons_zero, List.getElem_cons_succ, List.setIfInBounds_toArray, List.set_cons_zero, List.set_cons_succ]
                                        refine wpAnyH_take (i := 4) (v := .slice (some ⟨gr, 0, none⟩) ms.length rc) rfl (by kernel_rfl) (by kernel_rfl) (by kernel_rfl) (fun _ _ _ h => h) (Or.inl ⟨by rfl, fun w hw => by go_simp⟩) hHeld ?_
                                        simp only [Act.put, List.getElem_toArray, List.getElem_cons_zero, List.getElem_cons_succ, List.setIfInBounds_toArray, List.set_cons_zero, List.set_cons_succ]
                                        refine wpAnyH_take (i := 5) (v := .int .i64 (i : Int)) rfl (by kernel_rfl) (by kernel_rfl) (by kernel_rfl) (fun _ _ _ h => h) (Or.inl ⟨by rfl, fun w hw => by go_simp⟩) hHeld ?_
                                        simp only [Act.put, List.getElem_toArray, List.getElem_cons_zero, List.getElem_cons_succ, List.setIfInBounds_toArray, List.set_cons_zero, List.set_cons_succ]
                                        refine wpAnyH_take (i := 6) (v := .pointer (some ⟨gr, i * 40, none⟩)) rfl (by kernel_rfl) (by kernel_rfl) (by kernel_rfl) (fun _ _ _ h => h) (Or.inl ⟨by rfl, fun w hw => by go_simp⟩) hHeld ?_
                                        simp only [Act.put, List.getElem_toArray, List.getElem_cons_zero, List.getElem_cons_succ, List.setIfInBounds_toArray, List.set_cons_zero, List.set_cons_succ]
                                        refine wpAnyH_take (i := 7) (v := .pointer (some ⟨gr, i * 40 + 39, none⟩)) rfl (by kernel_rfl) (by kernel_rfl) (by kernel_rfl) (fun _ _ _ h => h) (Or.inl ⟨by rfl, fun w hw => by go_simp⟩) hHeld ?_
                                        simp only [Act.put, List.getElem_toArray, List.getElem_cons_zero, List.getElem_cons_succ, List.setIfInBounds_toArray, List.set_cons_zero, List.set_cons_succ]
                                        refine wpAnyH_take (i := 8) (v := .slice sha nh shc) rfl (by kernel_rfl) (by kernel_rfl) (by kernel_rfl) (fun _ _ _ h => h) (Or.inl ⟨by rfl, fun w hw => by have hq := hw.2.1; go_simp⟩) hHeld ?_
                                        simp only [Act.put, List.getElem_toArray, List.getElem_cons_zero, List.getElem_cons_succ, List.setIfInBounds_toArray, List.set_cons_zero, List.set_cons_succ]
                                        refine wpAnyH_take (i := 9) (v := .int .i64 (nh : Int)) rfl (by kernel_rfl) (by kernel_rfl) (by kernel_rfl) (fun _ _ _ h => h) (Or.inl ⟨by rfl, fun w hw => by go_simp⟩) hHeld ?_
                                        simp only [Act.put, List.getElem_toArray, List.getElem_cons_zero, List.getElem_cons_succ, List.setIfInBounds_toArray, List.set_cons_zero, List.set_cons_succ]
                                        refine wpAnyH_take (i := 10) (v := .int .i64 (j : Int)) rfl (by kernel_rfl) (by kernel_rfl) (by kernel_rfl) (fun _ _ _ h => h) (Or.inl ⟨by rfl, fun w hw => by go_simp⟩) hHeld ?_
                                        simp only [Act.put, List.getElem_toArray, List.getElem_cons_zero, List.getElem_cons_succ, List.setIfInBounds_toArray, List.set_cons_zero, List.set_cons_succ]
                                        refine wpAnyH_take (i := 11) (v := .int .i64 (p : Int)) rfl (by kernel_rfl) (by kernel_rfl) (by kernel_rfl) (fun _ _ _ h => h) (Or.inl ⟨by rfl, fun w hw => by go_simp⟩) hHeld ?_
                                        simp only [Act.put, List.getElem_toArray, List.getElem_cons_zero, List.getElem_cons_succ, List.setIfInBounds_toArray, List.set_cons_zero, List.set_cons_succ]
                                        refine wpAnyH_take (i := 12) (v := .pointer (some ⟨gy, p * 32, none⟩)) rfl (by kernel_rfl) (by kernel_rfl) (by kernel_rfl) (fun _ _ _ h => h) (Or.inl ⟨by rfl, fun w hw => by go_simp⟩) hHeld ?_
                                        simp only [Act.put, List.getElem_toArray, List.getElem_cons_zero, List.getElem_cons_succ, List.setIfInBounds_toArray, List.set_cons_zero, List.set_cons_succ]
                                        refine wpAnyH_take (i := 13) (v := .agg TT.toArray) rfl (by kernel_rfl) (by kernel_rfl) (by kernel_rfl) (fun _ _ _ h => h) (yieldsIf_load_mid (by rfl) _ _ rfl _ _ rfl _ _ (fun u hw => hw.2.2) Tryd.underlying24 rfl hlm) hHeld ?_
                                        simp only [Act.put, List.getElem_toArray, List.getElem_cons_zero, List.getElem_cons_succ, List.setIfInBounds_toArray, List.set_cons_zero, List.set_cons_succ]
                                        refine wpAnyH_take (i := 14) (v := .int .i64 (i : Int)) rfl (by kernel_rfl) (by kernel_rfl) (by kernel_rfl) (fun _ _ _ h => h) (Or.inl ⟨by rfl, fun w hw => by go_simp⟩) hHeld ?_
                                        simp only [Act.put, List.getElem_toArray, List.getElem_cons_zero, List.getElem_cons_succ, List.setIfInBounds_toArray, List.set_cons_zero, List.set_cons_succ]
                                        refine wpAnyH_take (i := 15) (v := .int .i64 (q : Int)) rfl (by kernel_rfl) (by kernel_rfl) (by kernel_rfl) (fun _ _ _ h => h) (Or.inl ⟨by rfl, fun w hw => by go_simp⟩) hHeld ?_
                                        simp only [Act.put, List.getElem_toArray, List.getElem_cons_zero, List.getElem_cons_succ, List.setIfInBounds_toArray, List.set_cons_zero, List.set_cons_succ]
                                        refine wpAnyH_take (i := 16) (v := .int .u8 ((q : Int) % 256)) rfl (by kernel_rfl) (by kernel_rfl) (by kernel_rfl) (fun _ _ _ h => h) (Or.inl ⟨by rfl, fun w hw => by go_simp; exact IntKind.wrap_u8 _⟩) hHeld ?_
                                        simp only [Act.put, List.getElem_toArray, List.getElem_cons_zero, List.getElem_cons_succ, List.setIfInBounds_toArray, List.set_cons_zero, List.set_cons_succ]
                                        refine wpAnyH_take (i := 17) (v := .int .i64 (i : Int)) rfl (by kernel_rfl) (by kernel_rfl) (by kernel_rfl) (fun _ _ _ h => h) (Or.inl ⟨by rfl, fun w hw => by go_simp⟩) hHeld ?_
                                        simp only [Act.put, List.getElem_toArray, List.getElem_cons_zero, List.getElem_cons_succ, List.setIfInBounds_toArray, List.set_cons_zero, List.set_cons_succ]
                                        refine wpAnyH_take (i := 18) (v := .int .i64 (q : Int)) rfl (by kernel_rfl) (by kernel_rfl) (by kernel_rfl) (fun _ _ _ h => h) (Or.inl ⟨by rfl, fun w hw => by go_simp⟩) hHeld ?_
                                        simp only [Act.put, List.getElem_toArray, List.getElem_cons_zero, List.getElem_cons_succ, List.setIfInBounds_toArray, List.set_cons_zero, List.set_cons_succ]
                                        refine wpAnyH_take (i := 19) (v := .int .i64 ((q : Int) / 256)) rfl (by kernel_rfl) (by kernel_rfl) (by kernel_rfl) (fun _ _ _ h => h) (Or.inl ⟨by rfl, fun w hw => by go_simp⟩) hHeld ?_
                                        simp only [Act.put, List.getElem_toArray, List.getElem_cons_zero, List.getElem_cons_succ, List.setIfInBounds_toArray, List.set_cons_zero, List.set_cons_succ]
                                        refine wpAnyH_take (i := 20) (v := .int .u8 ((q : Int) / 256 % 256)) rfl (by kernel_rfl) (by kernel_rfl) (by kernel_rfl) (fun _ _ _ h => h) (Or.inl ⟨by rfl, fun w hw => by go_simp; exact IntKind.wrap_u8 _⟩) hHeld ?_
                                        simp only [Act.put, List.getElem_toArray, List.getElem_cons_zero, List.getElem_cons_succ, List.setIfInBounds_toArray, List.set_cons_zero, List.set_cons_succ]
                                        refine wpAnyH_take (i := 21) (v := .agg TT.toArray) rfl (by kernel_rfl) (by kernel_rfl) (by kernel_rfl) (fun _ _ _ h => h) (yieldsIf_built3 (by rfl) _ _ _ _ rfl _ _ _ rfl rfl rfl _ HB3) hHeld ?_
                                        simp only [Act.put, List.getElem_toArray, List.getElem_cons_zero, List.getElem_cons_succ, List.setIfInBounds_toArray, List.set_cons_zero, List.set_cons_succ]
                                        refine wpAnyH_take (i := 22) (v := .bool false) rfl (by kernel_rfl) (by kernel_rfl) (by kernel_rfl) (fun _ _ _ h => h) (Or.inl ⟨by rfl, fun w hw => by go_simp⟩) hHeld ?_
                                        simp only [Act.put, List.getElem_toArray, List.getElem_cons_zero, List.getElem_cons_succ, List.setIfInBounds_toArray, List.set_cons_zero, List.set_cons_succ]
                                        refine wpAnyH_done (by kernel_rfl) ?_ _
                                        clear hHeld
                                        go_wp2
                                        exact ⟨⟨j + 1, _, by omega, by go_num, by rw [HW2.out]; exact Fm.drewN2 _ _ 1⟩, by simp [intOf]; omega⟩
                                      · have h55 : (j : Int) = 5 := by omega
                                        rw [h55]
                                        have HW2 := Lib.hid hw2
                                        clear h55 hj5 hlj5 hw2
                                        go_wp2
                                        exact ⟨⟨i + 1, _, by omega, by go_num, by rw [HW2.out, HW.out]; exact Fm.drewN2 _ _ _⟩, by simp [intOf]; omega⟩
                            · obtain rfl : i = ms.length := by omega
                              have HRB : Hid (Bag W w15 ([RI w12.heap.size w13.heap.size (.slice oa ns.length oc) ns, LB W.heap.size (.slice qa DA.length qc) DA, LB W.heap.size (.slice ua EE.length uc) EE, LB W.heap.size (.slice ta EE.length tc) EE, LHn W.heap.size (.slice ha hn hc) hb, LB W.heap.size (.slice (some ⟨Gi, 0, none⟩) D.length capi) D, MI gI mI, MI gB mB, LHn W.heap.size (.slice yha (HA.length / 32) yhc) HA, LB W.heap.size (.slice ya DA.length yc) DA, MI gA mA, LHn W.heap.size (.slice xha (HA.length / 32) xhc) HA, LB W.heap.size (.slice xa DA.length xc) DA, LB W.heap.size (.slice (some ⟨G, 0, none⟩) l.length cap) l] ++ (LIt W.heap.size 27 40 (.slice pa ms2.length pc) ms2.length (ms2.flatMap fun x : Mg => x.m.ls) :: (DIs W.heap.size ms2 ++ HIs W.heap.size ms2)))) := by have := HK.out.rest; rw [HR.out] at this; exact this
                              have RS : Hid (Calls Tryd.prog 15 #[.slice ra ms.length rc, .slice oa ns.length oc] w15 fun e w' => e = .returned (.bool true) ∧ Below w15.heap.size w15 w') := rowSameT w15 _ _ ms ns (OMS.rms (HK.out.oms HMO.out.1)) (OMS.rms (show OMI _ _ _ _ _ from (HRB.out.ok (RI w12.heap.size w13.heap.size (.slice oa ns.length oc) ns) (by simp)).a).o) HEQ.out (by omega)
                              clear HK H HW hi hlt
                              as_aux_lemma =>
                                go_wp2_with fail
                                refine RS.out.mono ?_
                                rintro e w16 ⟨rfl, b16⟩
                                have HC1 : Hid (Bag W w16 ([LB W.heap.size (.slice qa DA.length qc) DA, LB W.heap.size (.slice ua EE.length uc) EE, LB W.heap.size (.slice ta EE.length tc) EE, LHn W.heap.size (.slice ha hn hc) hb, LB W.heap.size (.slice (some ⟨Gi, 0, none⟩) D.length capi) D, MI gI mI, MI gB mB, LHn W.heap.size (.slice yha (HA.length / 32) yhc) HA, LB W.heap.size (.slice ya DA.length yc) DA, MI gA mA, LHn W.heap.size (.slice xha (HA.length / 32) xhc) HA, LB W.heap.size (.slice xa DA.length xc) DA, LB W.heap.size (.slice (some ⟨G, 0, none⟩) l.length cap) l] ++ (LIt W.heap.size 27 40 (.slice pa ms2.length pc) ms2.length (ms2.flatMap fun x : Mg => x.m.ls) :: (DIs W.heap.size ms2 ++ HIs W.heap.size ms2)))) := (HRB.out.below b16).sub (List.sublist_cons_self _ _)
                                have JO : Hid (Calls Tryd.prog 5 #[.slice ta EE.length tc, .slice none 0 0] w16 fun e w' => ∃ v, e = .returned v ∧ OW w16.heap.size w' v (EE ++ []) ∧ Below w16.heap.size w16 w') := joinedT w16 _ _ EE [] (OW.rb (B := W.heap.size) (HC1.out.ok (LB W.heap.size (.slice ta EE.length tc) EE) (by simp)).a) ⟨none, 0, rfl, Nat.le_refl _, .inl rfl⟩ (by simp; omega)
                                clear RS b16 HRB
                                go_wp2_with fail
                                refine JO.out.mono ?_
                                rintro e w17 ⟨old, rfl, o17, b17⟩
                                rw [List.append_nil] at o17
                                obtain ⟨olda, oldc, rfl⟩ := o17.form
                                have HC2 := Lib.hid (HC1.out.addL b17 o17)
                                clear JO o17 b17 HC1
                                as_aux_lemma =>
                                  have HN : Hid (hn = hb.length / 32) := HXY.out.2.2.2.2.2.2
                                  have hhnb : hn ≤ 1048576 := by have := HN.out; omega
                                  have HCI : Hid (∀ u, (MI gI mI).A u → u.cell? ⟨gI, 4, none⟩ = some (.slice (some ⟨Gi, 0, none⟩) D.length capi) ∧ u.cell? ⟨gI, 39, none⟩ = some (.slice ha hn hc)) := fun u hu => ⟨by rw [← HMO.out.2.2.2.2.2.2.2.1]; exact MB.c4 hu, by rw [← HMO.out.2.2.2.2.2.2.2.2.1]; exact MB.c39 hu HMO.out.2.2.2.2.1⟩
                                  have HL41 := Lib.hid (EB.of (ls := [LB W.heap.size (.slice olda EE.length oldc) EE, LB W.heap.size (.slice qa DA.length qc) DA]) (rs := ([LB W.heap.size (.slice ta EE.length tc) EE, LHn W.heap.size (.slice ha hn hc) hb, LB W.heap.size (.slice (some ⟨Gi, 0, none⟩) D.length capi) D, MI gI mI, MI gB mB, LHn W.heap.size (.slice yha (HA.length / 32) yhc) HA, LB W.heap.size (.slice ya DA.length yc) DA, MI gA mA, LHn W.heap.size (.slice xha (HA.length / 32) xhc) HA, LB W.heap.size (.slice xa DA.length xc) DA, LB W.heap.size (.slice (some ⟨G, 0, none⟩) l.length cap) l] ++ (LIt W.heap.size 27 40 (.slice pa ms2.length pc) ms2.length (ms2.flatMap fun x : Mg => x.m.ls) :: (DIs W.heap.size ms2 ++ HIs W.heap.size ms2)))) HC2.out)
                                  clear HC2
                                  go_wp2_with fail
                                  go_loopw [41] (fun t wr => ∃ k : Nat, k ≤ EE.length ∧ t = .int .i64 k ∧ Hid (Bag W wr ([LB W.heap.size (.slice olda EE.length oldc) EE, LB W.heap.size (.slice qa DA.length qc) DA, EB W.heap.size (.slice ua EE.length uc) EE.length, LB W.heap.size (.slice ta EE.length tc) EE, LHn W.heap.size (.slice ha hn hc) hb, LB W.heap.size (.slice (some ⟨Gi, 0, none⟩) D.length capi) D, MI gI mI, MI gB mB, LHn W.heap.size (.slice yha (HA.length / 32) yhc) HA, LB W.heap.size (.slice ya DA.length yc) DA, MI gA mA, LHn W.heap.size (.slice xha (HA.length / 32) xhc) HA, LB W.heap.size (.slice xa DA.length xc) DA, LB W.heap.size (.slice (some ⟨G, 0, none⟩) l.length cap) l] ++ (LIt W.heap.size 27 40 (.slice pa ms2.length pc) ms2.length (ms2.flatMap fun x : Mg => x.m.ls) :: (DIs W.heap.size ms2 ++ HIs W.heap.size ms2))))) (fun t _ => EE.length - (intOf t).toNat)
                                  case atStart => exact ⟨0, Nat.zero_le _, rfl, HL41.out⟩
                                  case round =>
                                    obtain ⟨k, hk, rfl, H⟩ := hrel
                                    clear HL41
                                    by_cases hlt : k < EE.length
                                    · as_aux_lemma =>
                                      obtain ⟨g, x, hga, x0, x1, hc, hf, hz⟩ := EB.set (ls := [LB W.heap.size (.slice olda EE.length oldc) EE, LB W.heap.size (.slice qa DA.length qc) DA]) (rs := ([LB W.heap.size (.slice ta EE.length tc) EE, LHn W.heap.size (.slice ha hn hc) hb, LB W.heap.size (.slice (some ⟨Gi, 0, none⟩) D.length capi) D, MI gI mI, MI gB mB, LHn W.heap.size (.slice yha (HA.length / 32) yhc) HA, LB W.heap.size (.slice ya DA.length yc) DA, MI gA mA, LHn W.heap.size (.slice xha (HA.length / 32) xhc) HA, LB W.heap.size (.slice xa DA.length xc) DA, LB W.heap.size (.slice (some ⟨G, 0, none⟩) l.length cap) l] ++ (LIt W.heap.size 27 40 (.slice pa ms2.length pc) ms2.length (ms2.flatMap fun x : Mg => x.m.ls) :: (DIs W.heap.size ms2 ++ HIs W.heap.size ms2)))) H.out k hlt
                                      have HZ := Lib.hid hz
                                      clear hz H
                                      subst hga
                                      go_wp2_with fail
                                      exact ⟨⟨k + 1, by omega, by go_num, HZ.out _ (by omega) (by omega)⟩, by simp [intOf]; omega⟩
                                    · obtain rfl : EE.length = k := by omega
                                      obtain ⟨w141, hwn⟩ : ∃ x, x = wr := ⟨_, rfl⟩
                                      subst hwn
                                      have HC41 : Hid (Bag W w141 ([LB W.heap.size (.slice olda EE.length oldc) EE, LB W.heap.size (.slice qa DA.length qc) DA, EB W.heap.size (.slice ua EE.length uc) EE.length, LB W.heap.size (.slice ta EE.length tc) EE, LHn W.heap.size (.slice ha hn hc) hb, LB W.heap.size (.slice (some ⟨Gi, 0, none⟩) D.length capi) D, MI gI mI, MI gB mB, LHn W.heap.size (.slice yha (HA.length / 32) yhc) HA, LB W.heap.size (.slice ya DA.length yc) DA, MI gA mA, LHn W.heap.size (.slice xha (HA.length / 32) xhc) HA, LB W.heap.size (.slice xa DA.length xc) DA, LB W.heap.size (.slice (some ⟨G, 0, none⟩) l.length cap) l] ++ (LIt W.heap.size 27 40 (.slice pa ms2.length pc) ms2.length (ms2.flatMap fun x : Mg => x.m.ls) :: (DIs W.heap.size ms2 ++ HIs W.heap.size ms2)))) := H.out
                                      clear H hk hlt
                                      as_aux_lemma =>
                                        go_wp2_with fail
                                        have HL42 := Lib.hid (EB.of (ls := [LB W.heap.size (.slice olda EE.length oldc) EE, LB W.heap.size (.slice qa DA.length qc) DA, EB W.heap.size (.slice ua EE.length uc) EE.length, LB W.heap.size (.slice ta EE.length tc) EE, LHn W.heap.size (.slice ha hn hc) hb, LB W.heap.size (.slice (some ⟨Gi, 0, none⟩) D.length capi) D, MI gI mI, MI gB mB, LHn W.heap.size (.slice yha (HA.length / 32) yhc) HA]) (rs := ([MI gA mA, LHn W.heap.size (.slice xha (HA.length / 32) xhc) HA, LB W.heap.size (.slice xa DA.length xc) DA, LB W.heap.size (.slice (some ⟨G, 0, none⟩) l.length cap) l] ++ (LIt W.heap.size 27 40 (.slice pa ms2.length pc) ms2.length (ms2.flatMap fun x : Mg => x.m.ls) :: (DIs W.heap.size ms2 ++ HIs W.heap.size ms2)))) HC41.out)
                                        clear HC41
                                        go_loopw [42] (fun t wr => ∃ k : Nat, k ≤ DA.length ∧ t = .int .i64 k ∧ Hid (Bag W wr ([LB W.heap.size (.slice olda EE.length oldc) EE, LB W.heap.size (.slice qa DA.length qc) DA, EB W.heap.size (.slice ua EE.length uc) EE.length, LB W.heap.size (.slice ta EE.length tc) EE, LHn W.heap.size (.slice ha hn hc) hb, LB W.heap.size (.slice (some ⟨Gi, 0, none⟩) D.length capi) D, MI gI mI, MI gB mB, LHn W.heap.size (.slice yha (HA.length / 32) yhc) HA, EB W.heap.size (.slice ya DA.length yc) DA.length, MI gA mA, LHn W.heap.size (.slice xha (HA.length / 32) xhc) HA, LB W.heap.size (.slice xa DA.length xc) DA, LB W.heap.size (.slice (some ⟨G, 0, none⟩) l.length cap) l] ++ (LIt W.heap.size 27 40 (.slice pa ms2.length pc) ms2.length (ms2.flatMap fun x : Mg => x.m.ls) :: (DIs W.heap.size ms2 ++ HIs W.heap.size ms2))))) (fun t _ => DA.length - (intOf t).toNat)
                                        case atStart => exact ⟨0, Nat.zero_le _, rfl, HL42.out⟩
                                        case round =>
                                          obtain ⟨k, hk, rfl, H⟩ := hrel
                                          clear HL42
                                          have b4 := (HCB.out wr (H.out.ok (MI gB mB) (by simp)).a).1
                                          by_cases hlt : k < DA.length
                                          · as_aux_lemma =>
                                            obtain ⟨g, x, hga, x0, x1, hc, hf, hz⟩ := EB.set (ls := [LB W.heap.size (.slice olda EE.length oldc) EE, LB W.heap.size (.slice qa DA.length qc) DA, EB W.heap.size (.slice ua EE.length uc) EE.length, LB W.heap.size (.slice ta EE.length tc) EE, LHn W.heap.size (.slice ha hn hc) hb, LB W.heap.size (.slice (some ⟨Gi, 0, none⟩) D.length capi) D, MI gI mI, MI gB mB, LHn W.heap.size (.slice yha (HA.length / 32) yhc) HA]) (rs := ([MI gA mA, LHn W.heap.size (.slice xha (HA.length / 32) xhc) HA, LB W.heap.size (.slice xa DA.length xc) DA, LB W.heap.size (.slice (some ⟨G, 0, none⟩) l.length cap) l] ++ (LIt W.heap.size 27 40 (.slice pa ms2.length pc) ms2.length (ms2.flatMap fun x : Mg => x.m.ls) :: (DIs W.heap.size ms2 ++ HIs W.heap.size ms2)))) H.out k hlt
                                            have HZ := Lib.hid hz
                                            clear hz H
                                            subst hga
                                            go_wp2_with fail
                                            exact ⟨⟨k + 1, by omega, by go_num, HZ.out _ (by omega) (by omega)⟩, by simp [intOf]; omega⟩
                                          · obtain rfl : DA.length = k := by omega
                                            obtain ⟨w142, hwn⟩ : ∃ x, x = wr := ⟨_, rfl⟩
                                            subst hwn
                                            have HC42 : Hid (Bag W w142 ([LB W.heap.size (.slice olda EE.length oldc) EE, LB W.heap.size (.slice qa DA.length qc) DA, EB W.heap.size (.slice ua EE.length uc) EE.length, LB W.heap.size (.slice ta EE.length tc) EE, LHn W.heap.size (.slice ha hn hc) hb, LB W.heap.size (.slice (some ⟨Gi, 0, none⟩) D.length capi) D, MI gI mI, MI gB mB, LHn W.heap.size (.slice yha (HA.length / 32) yhc) HA, EB W.heap.size (.slice ya DA.length yc) DA.length, MI gA mA, LHn W.heap.size (.slice xha (HA.length / 32) xhc) HA, LB W.heap.size (.slice xa DA.length xc) DA, LB W.heap.size (.slice (some ⟨G, 0, none⟩) l.length cap) l] ++ (LIt W.heap.size 27 40 (.slice pa ms2.length pc) ms2.length (ms2.flatMap fun x : Mg => x.m.ls) :: (DIs W.heap.size ms2 ++ HIs W.heap.size ms2)))) := H.out
                                            clear H hk hlt
                                            as_aux_lemma =>
                                              go_wp2_with fail
                                              have HL43 := Lib.hid (EB.of (ls := [LB W.heap.size (.slice olda EE.length oldc) EE, LB W.heap.size (.slice qa DA.length qc) DA, EB W.heap.size (.slice ua EE.length uc) EE.length, LB W.heap.size (.slice ta EE.length tc) EE, LHn W.heap.size (.slice ha hn hc) hb]) (rs := ([MI gI mI, MI gB mB, LHn W.heap.size (.slice yha (HA.length / 32) yhc) HA, EB W.heap.size (.slice ya DA.length yc) DA.length, MI gA mA, LHn W.heap.size (.slice xha (HA.length / 32) xhc) HA, LB W.heap.size (.slice xa DA.length xc) DA, LB W.heap.size (.slice (some ⟨G, 0, none⟩) l.length cap) l] ++ (LIt W.heap.size 27 40 (.slice pa ms2.length pc) ms2.length (ms2.flatMap fun x : Mg => x.m.ls) :: (DIs W.heap.size ms2 ++ HIs W.heap.size ms2)))) HC42.out)
                                              clear HC42
                                              go_loopw [43] (fun t wr => ∃ k : Nat, k ≤ D.length ∧ t = .int .i64 k ∧ Hid (Bag W wr ([LB W.heap.size (.slice olda EE.length oldc) EE, LB W.heap.size (.slice qa DA.length qc) DA, EB W.heap.size (.slice ua EE.length uc) EE.length, LB W.heap.size (.slice ta EE.length tc) EE, LHn W.heap.size (.slice ha hn hc) hb, EB W.heap.size (.slice (some ⟨Gi, 0, none⟩) D.length capi) D.length, MI gI mI, MI gB mB, LHn W.heap.size (.slice yha (HA.length / 32) yhc) HA, EB W.heap.size (.slice ya DA.length yc) DA.length, MI gA mA, LHn W.heap.size (.slice xha (HA.length / 32) xhc) HA, LB W.heap.size (.slice xa DA.length xc) DA, LB W.heap.size (.slice (some ⟨G, 0, none⟩) l.length cap) l] ++ (LIt W.heap.size 27 40 (.slice pa ms2.length pc) ms2.length (ms2.flatMap fun x : Mg => x.m.ls) :: (DIs W.heap.size ms2 ++ HIs W.heap.size ms2))))) (fun t _ => D.length - (intOf t).toNat)
                                              case atStart => exact ⟨0, Nat.zero_le _, rfl, HL43.out⟩
                                              case round =>
                                                obtain ⟨k, hk, rfl, H⟩ := hrel
                                                clear HL43
                                                have b4 := (HCI.out wr (H.out.ok (MI gI mI) (by simp)).a).1
                                                by_cases hlt : k < D.length
                                                · as_aux_lemma =>
                                                  obtain ⟨g, x, hga, x0, x1, hc, hf, hz⟩ := EB.set (ls := [LB W.heap.size (.slice olda EE.length oldc) EE, LB W.heap.size (.slice qa DA.length qc) DA, EB W.heap.size (.slice ua EE.length uc) EE.length, LB W.heap.size (.slice ta EE.length tc) EE, LHn W.heap.size (.slice ha hn hc) hb]) (rs := ([MI gI mI, MI gB mB, LHn W.heap.size (.slice yha (HA.length / 32) yhc) HA, EB W.heap.size (.slice ya DA.length yc) DA.length, MI gA mA, LHn W.heap.size (.slice xha (HA.length / 32) xhc) HA, LB W.heap.size (.slice xa DA.length xc) DA, LB W.heap.size (.slice (some ⟨G, 0, none⟩) l.length cap) l] ++ (LIt W.heap.size 27 40 (.slice pa ms2.length pc) ms2.length (ms2.flatMap fun x : Mg => x.m.ls) :: (DIs W.heap.size ms2 ++ HIs W.heap.size ms2)))) H.out k hlt
                                                  have HZ := Lib.hid hz
                                                  clear hz H
                                                  simp only [Option.some.injEq, Addr.mk.injEq, and_true] at hga
                                                  subst hga
                                                  go_wp2_with fail
                                                  exact ⟨⟨k + 1, by omega, by go_num, HZ.out _ (by omega) (by omega)⟩, by simp [intOf]; omega⟩
                                                · obtain rfl : D.length = k := by omega
                                                  obtain ⟨w143, hwn⟩ : ∃ x, x = wr := ⟨_, rfl⟩
                                                  subst hwn
                                                  have HC43 : Hid (Bag W w143 ([LB W.heap.size (.slice olda EE.length oldc) EE, LB W.heap.size (.slice qa DA.length qc) DA, EB W.heap.size (.slice ua EE.length uc) EE.length, LB W.heap.size (.slice ta EE.length tc) EE, LHn W.heap.size (.slice ha hn hc) hb, EB W.heap.size (.slice (some ⟨Gi, 0, none⟩) D.length capi) D.length, MI gI mI, MI gB mB, LHn W.heap.size (.slice yha (HA.length / 32) yhc) HA, EB W.heap.size (.slice ya DA.length yc) DA.length, MI gA mA, LHn W.heap.size (.slice xha (HA.length / 32) xhc) HA, LB W.heap.size (.slice xa DA.length xc) DA, LB W.heap.size (.slice (some ⟨G, 0, none⟩) l.length cap) l] ++ (LIt W.heap.size 27 40 (.slice pa ms2.length pc) ms2.length (ms2.flatMap fun x : Mg => x.m.ls) :: (DIs W.heap.size ms2 ++ HIs W.heap.size ms2)))) := H.out
                                                  clear H hk hlt
                                                  as_aux_lemma =>
                                                    go_wp2_with fail
                                                    have HL44 : Hid (Bag W w143 ([LB W.heap.size (.slice olda EE.length oldc) EE, LB W.heap.size (.slice qa DA.length qc) DA, EB W.heap.size (.slice ua EE.length uc) EE.length, LB W.heap.size (.slice ta EE.length tc) EE, EH W.heap.size (.slice ha hn hc) hn, EB W.heap.size (.slice (some ⟨Gi, 0, none⟩) D.length capi) D.length, MI gI mI, MI gB mB, LHn W.heap.size (.slice yha (HA.length / 32) yhc) HA, EB W.heap.size (.slice ya DA.length yc) DA.length, MI gA mA, LHn W.heap.size (.slice xha (HA.length / 32) xhc) HA, LB W.heap.size (.slice xa DA.length xc) DA, LB W.heap.size (.slice (some ⟨G, 0, none⟩) l.length cap) l] ++ (LIt W.heap.size 27 40 (.slice pa ms2.length pc) ms2.length (ms2.flatMap fun x : Mg => x.m.ls) :: (DIs W.heap.size ms2 ++ HIs W.heap.size ms2)))) := by
                                                      have h := EH.of (ls := [LB W.heap.size (.slice olda EE.length oldc) EE, LB W.heap.size (.slice qa DA.length qc) DA, EB W.heap.size (.slice ua EE.length uc) EE.length, LB W.heap.size (.slice ta EE.length tc) EE]) (rs := ([EB W.heap.size (.slice (some ⟨Gi, 0, none⟩) D.length capi) D.length, MI gI mI, MI gB mB, LHn W.heap.size (.slice yha (HA.length / 32) yhc) HA, EB W.heap.size (.slice ya DA.length yc) DA.length, MI gA mA, LHn W.heap.size (.slice xha (HA.length / 32) xhc) HA, LB W.heap.size (.slice xa DA.length xc) DA, LB W.heap.size (.slice (some ⟨G, 0, none⟩) l.length cap) l] ++ (LIt W.heap.size 27 40 (.slice pa ms2.length pc) ms2.length (ms2.flatMap fun x : Mg => x.m.ls) :: (DIs W.heap.size ms2 ++ HIs W.heap.size ms2)))) HC43.out H32.out
                                                      rw [← HN.out] at h
                                                      exact h
                                                    clear HC43
                                                    go_loopw [44] (fun t wr => ∃ k : Nat, k ≤ hn ∧ t = .int .i64 k ∧ Hid (Bag W wr ([LB W.heap.size (.slice olda EE.length oldc) EE, LB W.heap.size (.slice qa DA.length qc) DA, EB W.heap.size (.slice ua EE.length uc) EE.length, LB W.heap.size (.slice ta EE.length tc) EE, EH W.heap.size (.slice ha hn hc) hn, EB W.heap.size (.slice (some ⟨Gi, 0, none⟩) D.length capi) D.length, MI gI mI, MI gB mB, LHn W.heap.size (.slice yha (HA.length / 32) yhc) HA, EB W.heap.size (.slice ya DA.length yc) DA.length, MI gA mA, LHn W.heap.size (.slice xha (HA.length / 32) xhc) HA, LB W.heap.size (.slice xa DA.length xc) DA, LB W.heap.size (.slice (some ⟨G, 0, none⟩) l.length cap) l] ++ (LIt W.heap.size 27 40 (.slice pa ms2.length pc) ms2.length (ms2.flatMap fun x : Mg => x.m.ls) :: (DIs W.heap.size ms2 ++ HIs W.heap.size ms2))))) (fun t _ => hn - (intOf t).toNat)
                                                    case atStart => exact ⟨0, Nat.zero_le _, rfl, HL44.out⟩
                                                    case round =>
                                                      obtain ⟨k, hk, rfl, H⟩ := hrel
                                                      clear HL44
                                                      have b4 := (HCI.out wr (H.out.ok (MI gI mI) (by simp)).a).2
                                                      by_cases hlt : k < hn
                                                      · as_aux_lemma =>
                                                        obtain ⟨TT, hTT, g, hga, ht, hle, hszI, hone, hz⟩ := EH.putT (ls := [LB W.heap.size (.slice olda EE.length oldc) EE, LB W.heap.size (.slice qa DA.length qc) DA, EB W.heap.size (.slice ua EE.length uc) EE.length, LB W.heap.size (.slice ta EE.length tc) EE]) (rs := ([EB W.heap.size (.slice (some ⟨Gi, 0, none⟩) D.length capi) D.length, MI gI mI, MI gB mB, LHn W.heap.size (.slice yha (HA.length / 32) yhc) HA, EB W.heap.size (.slice ya DA.length yc) DA.length, MI gA mA, LHn W.heap.size (.slice xha (HA.length / 32) xhc) HA, LB W.heap.size (.slice xa DA.length xc) DA, LB W.heap.size (.slice (some ⟨G, 0, none⟩) l.length cap) l] ++ (LIt W.heap.size 27 40 (.slice pa ms2.length pc) ms2.length (ms2.flatMap fun x : Mg => x.m.ls) :: (DIs W.heap.size ms2 ++ HIs W.heap.size ms2)))) H.out k hlt (7 :: 7 :: List.replicate 30 (0 : UInt8)) rfl
                                                        have HZ := Lib.hid hz
                                                        have HBu := hk2_built
                                                        rw [← hTT] at HBu
                                                        clear hz H hTT
                                                        subst hga
                                                        go_wp2_with (first | (refine built_hash2 rfl _ _ rfl _ _ rfl rfl TT HBu ?_) | (refine wpList_store_mid rfl 24 _ _ rfl g (k * 32) TT rfl rfl ht hszI hone ?_))
                                                        exact ⟨⟨k + 1, by omega, by go_num, HZ⟩, by simp [intOf]; omega⟩
                                                      · obtain rfl : hn = k := by omega
                                                        obtain ⟨w144, hwn⟩ : ∃ x, x = wr := ⟨_, rfl⟩
                                                        subst hwn
                                                        have HC44 : Hid (Bag W w144 ([LB W.heap.size (.slice olda EE.length oldc) EE, LB W.heap.size (.slice qa DA.length qc) DA, EB W.heap.size (.slice ua EE.length uc) EE.length, LB W.heap.size (.slice ta EE.length tc) EE, EH W.heap.size (.slice ha hn hc) hn, EB W.heap.size (.slice (some ⟨Gi, 0, none⟩) D.length capi) D.length, MI gI mI, MI gB mB, LHn W.heap.size (.slice yha (HA.length / 32) yhc) HA, EB W.heap.size (.slice ya DA.length yc) DA.length, MI gA mA, LHn W.heap.size (.slice xha (HA.length / 32) xhc) HA, LB W.heap.size (.slice xa DA.length xc) DA, LB W.heap.size (.slice (some ⟨G, 0, none⟩) l.length cap) l] ++ (LIt W.heap.size 27 40 (.slice pa ms2.length pc) ms2.length (ms2.flatMap fun x : Mg => x.m.ls) :: (DIs W.heap.size ms2 ++ HIs W.heap.size ms2)))) := H.out
                                                        clear H hk hlt
                                                        as_aux_lemma =>
                                                          by_cases h2 : ms2.length = 2
                                                          · as_aux_lemma =>
                                                            obtain ⟨x0, x1, hm2⟩ := two_of h2
                                                            have hE : MsEq ms2 [⟨mI, D, hb⟩, ⟨mI, D, hb⟩] := by
                                                              rcases HPR.out with ⟨_, _, h⟩ | ⟨_, h⟩
                                                              · exact h
                                                              · rw [h] at h2; simp at h2
                                                            have g0 : ms2[0]? = some x0 := by rw [hm2]; rfl
                                                            have g1 : ms2[1]? = some x1 := by rw [hm2]; rfl
                                                            obtain ⟨eD, eH, eM⟩ := hE.2 1 x1 ⟨mI, D, hb⟩ g1 rfl
                                                            obtain ⟨ok0, l0, l0', h320⟩ := HMO.out.2.1 x0 (List.mem_of_getElem? g0)
                                                            obtain ⟨ok1, l1, l1', h321⟩ := HMO.out.2.1 x1 (List.mem_of_getElem? g1)
                                                            have hd0 : Bag W w144 ([LB W.heap.size (.slice olda EE.length oldc) EE, LB W.heap.size (.slice qa DA.length qc) DA, EB W.heap.size (.slice ua EE.length uc) EE.length, LB W.heap.size (.slice ta EE.length tc) EE, EH W.heap.size (.slice ha hn hc) hn, EB W.heap.size (.slice (some ⟨Gi, 0, none⟩) D.length capi) D.length, MI gI mI, MI gB mB, LHn W.heap.size (.slice yha (HA.length / 32) yhc) HA, EB W.heap.size (.slice ya DA.length yc) DA.length, MI gA mA, LHn W.heap.size (.slice xha (HA.length / 32) xhc) HA, LB W.heap.size (.slice xa DA.length xc) DA, LB W.heap.size (.slice (some ⟨G, 0, none⟩) l.length cap) l, LIt W.heap.size 27 40 (.slice pa ms2.length pc) ms2.length (ms2.flatMap fun x : Mg => x.m.ls), LB W.heap.size x0.m.d x0.D, LB W.heap.size x1.m.d x1.D, LHn W.heap.size x0.m.h x0.hb, LHn W.heap.size x1.m.h x1.hb] ++ ([] : List Itm)) := by
                                                              have h := HC44.out
                                                              rw [show DIs W.heap.size ms2 = [LB W.heap.size x0.m.d x0.D, LB W.heap.size x1.m.d x1.D] by rw [hm2]; rfl, show HIs W.heap.size ms2 = [LHn W.heap.size x0.m.h x0.hb, LHn W.heap.size x1.m.h x1.hb] by rw [hm2]; rfl] at h
                                                              exact h
                                                            obtain ⟨gp, hpa, hgp, _, _, _⟩ := rowsAt (hd0.ok (LIt W.heap.size 27 40 (.slice pa ms2.length pc) ms2.length (ms2.flatMap fun x : Mg => x.m.ls)) (by simp)).a HMO.out.2.1 g0
                                                            subst hpa
                                                            obtain ⟨x0a, x0c, hx0d⟩ := LB_form (hd0.ok (LB W.heap.size x0.m.d x0.D) (by simp)).a
                                                            obtain ⟨x0ha, x0hc, hx0h⟩ := own_form (hd0.ok (LHn W.heap.size x0.m.h x0.hb) (by simp)).a
                                                            obtain ⟨nx, hnx⟩ : ∃ n, n = x0.hb.length / 32 := ⟨_, rfl⟩
                                                            have HNX : Hid (nx = x0.hb.length / 32) := hnx
                                                            have hnxb : nx ≤ 1048576 := by omega
                                                            rw [← hnx] at hx0h
                                                            clear hnx
                                                            have HCP : Hid (∀ u, (LIt W.heap.size 27 40 (.slice (some ⟨gp, 0, none⟩) ms2.length pc) ms2.length (ms2.flatMap fun x : Mg => x.m.ls)).A u → u.cell? ⟨gp, 4, none⟩ = some (.slice x0a x0.D.length x0c) ∧ u.cell? ⟨gp, 39, none⟩ = some (.slice x0ha nx x0hc) ∧ u.rangeAt gp 40 x1.m.ls) := fun u hu => by
                                                              obtain ⟨g', eg, _, _, k1, k2⟩ := rowsAt hu HMO.out.2.1 g0
                                                              obtain ⟨g'', eg', _, k3, _, _⟩ := rowsAt hu HMO.out.2.1 g1
                                                              simp only [Option.some.injEq, Addr.mk.injEq, and_true] at eg eg'
                                                              subst eg
                                                              subst eg'
                                                              rw [hx0d] at k1
                                                              rw [hx0h] at k2
                                                              exact ⟨by simpa using k1, by simpa using k2, fun j v hj => by have := k3 j v hj; rwa [Nat.one_mul] at this⟩
                                                            have HP1 : Hid (x1.m.ok ∧ D = x1.D ∧ hb = x1.hb ∧ mI = { x1.m with d := mI.d, h := mI.h } ∧ x1.hb.length = x1.hb.length / 32 * 32) := ⟨ok1, eD, eH, eM, h321⟩
                                                            have HP0 : Hid (x0.hb.length = x0.hb.length / 32 * 32) := h320
                                                            have hb2 : ((ms2.length : Int) == 2) = true := by simp [h2]
                                                            have hi0 : (0 : Int) < (ms2.length : Int) := by omega
                                                            have hi1 : (1 : Int) < (ms2.length : Int) := by omega
                                                            rw [hx0d, hx0h] at hd0
                                                            have HD0 := Lib.hid hd0
                                                            clear hd0 hx0d hx0h hm2 h2 hE g0 g1 eD eH eM ok0 ok1 HC44 h320 h321
                                                            go_wp2_with fail
                                                            have HL45 := Lib.hid (EB.of (ls := [LB W.heap.size (.slice olda EE.length oldc) EE, LB W.heap.size (.slice qa DA.length qc) DA, EB W.heap.size (.slice ua EE.length uc) EE.length, LB W.heap.size (.slice ta EE.length tc) EE, EH W.heap.size (.slice ha hn hc) hn, EB W.heap.size (.slice (some ⟨Gi, 0, none⟩) D.length capi) D.length, MI gI mI, MI gB mB, LHn W.heap.size (.slice yha (HA.length / 32) yhc) HA, EB W.heap.size (.slice ya DA.length yc) DA.length, MI gA mA, LHn W.heap.size (.slice xha (HA.length / 32) xhc) HA, LB W.heap.size (.slice xa DA.length xc) DA, LB W.heap.size (.slice (some ⟨G, 0, none⟩) l.length cap) l, LIt W.heap.size 27 40 (.slice (some ⟨gp, 0, none⟩) ms2.length pc) ms2.length (ms2.flatMap fun x : Mg => x.m.ls)]) (rs := ([LB W.heap.size x1.m.d x1.D, LHn W.heap.size (.slice x0ha nx x0hc) x0.hb, LHn W.heap.size x1.m.h x1.hb] ++ ([] : List Itm))) HD0.out)
                                                            clear HD0
                                                            go_loopw [45] (fun t wr => ∃ k : Nat, k ≤ x0.D.length ∧ t = .int .i64 k ∧ Hid (Bag W wr ([LB W.heap.size (.slice olda EE.length oldc) EE, LB W.heap.size (.slice qa DA.length qc) DA, EB W.heap.size (.slice ua EE.length uc) EE.length, LB W.heap.size (.slice ta EE.length tc) EE, EH W.heap.size (.slice ha hn hc) hn, EB W.heap.size (.slice (some ⟨Gi, 0, none⟩) D.length capi) D.length, MI gI mI, MI gB mB, LHn W.heap.size (.slice yha (HA.length / 32) yhc) HA, EB W.heap.size (.slice ya DA.length yc) DA.length, MI gA mA, LHn W.heap.size (.slice xha (HA.length / 32) xhc) HA, LB W.heap.size (.slice xa DA.length xc) DA, LB W.heap.size (.slice (some ⟨G, 0, none⟩) l.length cap) l, LIt W.heap.size 27 40 (.slice (some ⟨gp, 0, none⟩) ms2.length pc) ms2.length (ms2.flatMap fun x : Mg => x.m.ls), EB W.heap.size (.slice x0a x0.D.length x0c) x0.D.length, LB W.heap.size x1.m.d x1.D, LHn W.heap.size (.slice x0ha nx x0hc) x0.hb, LHn W.heap.size x1.m.h x1.hb] ++ ([] : List Itm)))) (fun t _ => x0.D.length - (intOf t).toNat)
                                                            case atStart => exact ⟨0, Nat.zero_le _, rfl, HL45.out⟩
                                                            case round =>
                                                              obtain ⟨k, hk, rfl, H⟩ := hrel
                                                              clear HL45
                                                              have b4 := (HCP.out wr (H.out.ok (LIt W.heap.size 27 40 (.slice (some ⟨gp, 0, none⟩) ms2.length pc) ms2.length (ms2.flatMap fun x : Mg => x.m.ls)) (by simp)).a).1
                                                              by_cases hlt : k < x0.D.length
                                                              · as_aux_lemma =>
                                                                obtain ⟨g, x, hga, x0, x1, hc, hf, hz⟩ := EB.set (ls := [LB W.heap.size (.slice olda EE.length oldc) EE, LB W.heap.size (.slice qa DA.length qc) DA, EB W.heap.size (.slice ua EE.length uc) EE.length, LB W.heap.size (.slice ta EE.length tc) EE, EH W.heap.size (.slice ha hn hc) hn, EB W.heap.size (.slice (some ⟨Gi, 0, none⟩) D.length capi) D.length, MI gI mI, MI gB mB, LHn W.heap.size (.slice yha (HA.length / 32) yhc) HA, EB W.heap.size (.slice ya DA.length yc) DA.length, MI gA mA, LHn W.heap.size (.slice xha (HA.length / 32) xhc) HA, LB W.heap.size (.slice xa DA.length xc) DA, LB W.heap.size (.slice (some ⟨G, 0, none⟩) l.length cap) l, LIt W.heap.size 27 40 (.slice (some ⟨gp, 0, none⟩) ms2.length pc) ms2.length (ms2.flatMap fun x : Mg => x.m.ls)]) (rs := ([LB W.heap.size x1.m.d x1.D, LHn W.heap.size (.slice x0ha nx x0hc) x0.hb, LHn W.heap.size x1.m.h x1.hb] ++ ([] : List Itm))) H.out k hlt
                                                                have HZ := Lib.hid hz
                                                                clear hz H
                                                                subst hga
                                                                go_wp2_with fail
                                                                exact ⟨⟨k + 1, by omega, by go_num, HZ.out _ (by omega) (by omega)⟩, by simp [intOf]; omega⟩
                                                              · obtain rfl : x0.D.length = k := by omega
                                                                obtain ⟨w145, hwn⟩ : ∃ x, x = wr := ⟨_, rfl⟩
                                                                subst hwn
                                                                have HC45 : Hid (Bag W w145 ([LB W.heap.size (.slice olda EE.length oldc) EE, LB W.heap.size (.slice qa DA.length qc) DA, EB W.heap.size (.slice ua EE.length uc) EE.length, LB W.heap.size (.slice ta EE.length tc) EE, EH W.heap.size (.slice ha hn hc) hn, EB W.heap.size (.slice (some ⟨Gi, 0, none⟩) D.length capi) D.length, MI gI mI, MI gB mB, LHn W.heap.size (.slice yha (HA.length / 32) yhc) HA, EB W.heap.size (.slice ya DA.length yc) DA.length, MI gA mA, LHn W.heap.size (.slice xha (HA.length / 32) xhc) HA, LB W.heap.size (.slice xa DA.length xc) DA, LB W.heap.size (.slice (some ⟨G, 0, none⟩) l.length cap) l, LIt W.heap.size 27 40 (.slice (some ⟨gp, 0, none⟩) ms2.length pc) ms2.length (ms2.flatMap fun x : Mg => x.m.ls), EB W.heap.size (.slice x0a x0.D.length x0c) x0.D.length, LB W.heap.size x1.m.d x1.D, LHn W.heap.size (.slice x0ha nx x0hc) x0.hb, LHn W.heap.size x1.m.h x1.hb] ++ ([] : List Itm))) := H.out
                                                                clear H hk hlt
                                                                as_aux_lemma =>
                                                                  go_wp2_with fail
                                                                  have HL46 : Hid (Bag W w145 ([LB W.heap.size (.slice olda EE.length oldc) EE, LB W.heap.size (.slice qa DA.length qc) DA, EB W.heap.size (.slice ua EE.length uc) EE.length, LB W.heap.size (.slice ta EE.length tc) EE, EH W.heap.size (.slice ha hn hc) hn, EB W.heap.size (.slice (some ⟨Gi, 0, none⟩) D.length capi) D.length, MI gI mI, MI gB mB, LHn W.heap.size (.slice yha (HA.length / 32) yhc) HA, EB W.heap.size (.slice ya DA.length yc) DA.length, MI gA mA, LHn W.heap.size (.slice xha (HA.length / 32) xhc) HA, LB W.heap.size (.slice xa DA.length xc) DA, LB W.heap.size (.slice (some ⟨G, 0, none⟩) l.length cap) l, LIt W.heap.size 27 40 (.slice (some ⟨gp, 0, none⟩) ms2.length pc) ms2.length (ms2.flatMap fun x : Mg => x.m.ls), EB W.heap.size (.slice x0a x0.D.length x0c) x0.D.length, LB W.heap.size x1.m.d x1.D, EH W.heap.size (.slice x0ha nx x0hc) nx, LHn W.heap.size x1.m.h x1.hb] ++ ([] : List Itm))) := by
                                                                    have h := EH.of (ls := [LB W.heap.size (.slice olda EE.length oldc) EE, LB W.heap.size (.slice qa DA.length qc) DA, EB W.heap.size (.slice ua EE.length uc) EE.length, LB W.heap.size (.slice ta EE.length tc) EE, EH W.heap.size (.slice ha hn hc) hn, EB W.heap.size (.slice (some ⟨Gi, 0, none⟩) D.length capi) D.length, MI gI mI, MI gB mB, LHn W.heap.size (.slice yha (HA.length / 32) yhc) HA, EB W.heap.size (.slice ya DA.length yc) DA.length, MI gA mA, LHn W.heap.size (.slice xha (HA.length / 32) xhc) HA, LB W.heap.size (.slice xa DA.length xc) DA, LB W.heap.size (.slice (some ⟨G, 0, none⟩) l.length cap) l, LIt W.heap.size 27 40 (.slice (some ⟨gp, 0, none⟩) ms2.length pc) ms2.length (ms2.flatMap fun x : Mg => x.m.ls), EB W.heap.size (.slice x0a x0.D.length x0c) x0.D.length, LB W.heap.size x1.m.d x1.D]) (rs := ([LHn W.heap.size x1.m.h x1.hb] ++ ([] : List Itm))) HC45.out HP0.out
                                                                    rw [← HNX.out] at h
                                                                    exact h
                                                                  clear HC45
                                                                  go_loopw [46] (fun t wr => ∃ k : Nat, k ≤ nx ∧ t = .int .i64 k ∧ Hid (Bag W wr ([LB W.heap.size (.slice olda EE.length oldc) EE, LB W.heap.size (.slice qa DA.length qc) DA, EB W.heap.size (.slice ua EE.length uc) EE.length, LB W.heap.size (.slice ta EE.length tc) EE, EH W.heap.size (.slice ha hn hc) hn, EB W.heap.size (.slice (some ⟨Gi, 0, none⟩) D.length capi) D.length, MI gI mI, MI gB mB, LHn W.heap.size (.slice yha (HA.length / 32) yhc) HA, EB W.heap.size (.slice ya DA.length yc) DA.length, MI gA mA, LHn W.heap.size (.slice xha (HA.length / 32) xhc) HA, LB W.heap.size (.slice xa DA.length xc) DA, LB W.heap.size (.slice (some ⟨G, 0, none⟩) l.length cap) l, LIt W.heap.size 27 40 (.slice (some ⟨gp, 0, none⟩) ms2.length pc) ms2.length (ms2.flatMap fun x : Mg => x.m.ls), EB W.heap.size (.slice x0a x0.D.length x0c) x0.D.length, LB W.heap.size x1.m.d x1.D, EH W.heap.size (.slice x0ha nx x0hc) nx, LHn W.heap.size x1.m.h x1.hb] ++ ([] : List Itm)))) (fun t _ => nx - (intOf t).toNat)
                                                                  case atStart => exact ⟨0, Nat.zero_le _, rfl, HL46.out⟩
                                                                  case round =>
                                                                    obtain ⟨k, hk, rfl, H⟩ := hrel
                                                                    clear HL46
                                                                    have b4 := (HCP.out wr (H.out.ok (LIt W.heap.size 27 40 (.slice (some ⟨gp, 0, none⟩) ms2.length pc) ms2.length (ms2.flatMap fun x : Mg => x.m.ls)) (by simp)).a).2.1
                                                                    by_cases hlt : k < nx
                                                                    · as_aux_lemma =>
                                                                      obtain ⟨TT, hTT, g, hga, ht, hle, hszI, hone, hz⟩ := EH.putT (ls := [LB W.heap.size (.slice olda EE.length oldc) EE, LB W.heap.size (.slice qa DA.length qc) DA, EB W.heap.size (.slice ua EE.length uc) EE.length, LB W.heap.size (.slice ta EE.length tc) EE, EH W.heap.size (.slice ha hn hc) hn, EB W.heap.size (.slice (some ⟨Gi, 0, none⟩) D.length capi) D.length, MI gI mI, MI gB mB, LHn W.heap.size (.slice yha (HA.length / 32) yhc) HA, EB W.heap.size (.slice ya DA.length yc) DA.length, MI gA mA, LHn W.heap.size (.slice xha (HA.length / 32) xhc) HA, LB W.heap.size (.slice xa DA.length xc) DA, LB W.heap.size (.slice (some ⟨G, 0, none⟩) l.length cap) l, LIt W.heap.size 27 40 (.slice (some ⟨gp, 0, none⟩) ms2.length pc) ms2.length (ms2.flatMap fun x : Mg => x.m.ls), EB W.heap.size (.slice x0a x0.D.length x0c) x0.D.length, LB W.heap.size x1.m.d x1.D]) (rs := ([LHn W.heap.size x1.m.h x1.hb] ++ ([] : List Itm))) H.out k hlt (8 :: List.replicate 31 (0 : UInt8)) rfl
                                                                      have HZ := Lib.hid hz
                                                                      have HBu := hk1_built
                                                                      rw [← hTT] at HBu
                                                                      clear hz H hTT
                                                                      subst hga
                                                                      go_wp2_with (first | (refine built_hash1 rfl _ rfl _ rfl TT HBu ?_) | (refine wpList_store_mid rfl 24 _ _ rfl g (k * 32) TT rfl rfl ht hszI hone ?_))
                                                                      exact ⟨⟨k + 1, by omega, by go_num, HZ⟩, by simp [intOf]; omega⟩
                                                                    · obtain rfl : nx = k := by omega
                                                                      obtain ⟨w146, hwn⟩ : ∃ x, x = wr := ⟨_, rfl⟩
                                                                      subst hwn
                                                                      have HC46 : Hid (Bag W w146 ([LB W.heap.size (.slice olda EE.length oldc) EE, LB W.heap.size (.slice qa DA.length qc) DA, EB W.heap.size (.slice ua EE.length uc) EE.length, LB W.heap.size (.slice ta EE.length tc) EE, EH W.heap.size (.slice ha hn hc) hn, EB W.heap.size (.slice (some ⟨Gi, 0, none⟩) D.length capi) D.length, MI gI mI, MI gB mB, LHn W.heap.size (.slice yha (HA.length / 32) yhc) HA, EB W.heap.size (.slice ya DA.length yc) DA.length, MI gA mA, LHn W.heap.size (.slice xha (HA.length / 32) xhc) HA, LB W.heap.size (.slice xa DA.length xc) DA, LB W.heap.size (.slice (some ⟨G, 0, none⟩) l.length cap) l, LIt W.heap.size 27 40 (.slice (some ⟨gp, 0, none⟩) ms2.length pc) ms2.length (ms2.flatMap fun x : Mg => x.m.ls), EB W.heap.size (.slice x0a x0.D.length x0c) x0.D.length, LB W.heap.size x1.m.d x1.D, EH W.heap.size (.slice x0ha nx x0hc) nx, LHn W.heap.size x1.m.h x1.hb] ++ ([] : List Itm))) := H.out
                                                                      clear H hk hlt
                                                                      as_aux_lemma =>
                                                                        go_wp2_with fail
                                                                        have HQ : Hid (∀ u, Below w146.heap.size w146 u → MM u x1.m D hb ∧ MM u m D hb ∧ u.rangeAt gp 40 x1.m.ls ∧ u.rangeAt w.heap.size 0 m.ls) := fun u hu => by
                                                                          have hbu := HC46.out.below hu
                                                                          refine ⟨?_, H0.out.2.1.keep hbu.bel, (HCP.out u (hbu.ok (LIt W.heap.size 27 40 (.slice (some ⟨gp, 0, none⟩) ms2.length pc) ms2.length (ms2.flatMap fun x : Mg => x.m.ls)) (by simp)).a).2.2, MB.range (H0.out.2.2.2.1.below hbu.bel)⟩
                                                                          have o1 : OW W.heap.size u x1.m.d x1.D := (hbu.ok (LB W.heap.size x1.m.d x1.D) (by simp)).a
                                                                          have o2 := (hbu.ok (LHn W.heap.size x1.m.h x1.hb) (by simp)).a
                                                                          rw [HP1.out.2.1, HP1.out.2.2.1]
                                                                          exact mm_of (B := W.heap.size) HP1.out.1 o1 o2 HP1.out.2.2.2.2 (by omega) (by have := HP1.out.2.2.1; omega)
                                                                        have hi1l : (Tryd.prog.info? 27).map (·.size) = some x1.m.ls.length := by rw [ok_ls HP1.out.1]; exact (info_msg HP1.out.1).trans (by rw [HP1.out.1.size])
                                                                        have himl : (Tryd.prog.info? 27).map (·.size) = some m.ls.length := by rw [ok_ls ok]; exact him.trans (by rw [ok.size])
                                                                        go_upto_region 78 with fail
                                                                        refine wp_region_held_drew (S := fun u => Below w146.heap.size w146 u) (by kernel_rfl) (belowDrew w146 1) (fun hHeld => ?_)
                                                                        refine wpAnyH_take (i := 0) (v := .slice (some ⟨gp, 0, none⟩) ms2.length pc) rfl (by kernel_rfl) (by kernel_rfl) (by kernel_rfl) (fun _ _ _ h => h) (Or.inl ⟨by rfl, fun w hw => by go_simp⟩) hHeld ?_
                                                                        simp only [Act.put, List.getElem_toArray, List.getElem_cons_zero, List.setIfInBounds_toArray, List.set_cons_zero, List.set_cons_succ]
                                                                        refine wpAnyH_take (i := 1) (v := .pointer (some ⟨gp, 40, none⟩)) rfl (by kernel_rfl) (by kernel_rfl) (by kernel_rfl) (fun _ _ _ h => h) (Or.inl ⟨by rfl, fun w hw => by go_simp⟩) hHeld ?_
                                                                        simp only [Act.put, List.getElem_toArray, List.getElem_cons_zero, List.getElem_cons_succ, List.setIfInBounds_toArray, List.set_cons_zero, List.set_cons_succ]
                                                                        refine wpAnyH_take (i := 2) (v := .agg x1.m.cs) rfl (by kernel_rfl) (by kernel_rfl) (by kernel_rfl) (fun _ _ _ h => h) (yieldsIf_load_mid (by rfl) _ _ rfl _ _ rfl _ _ (fun u hw => (HQ.out u hw).2.2.1) Tryd.underlying27 rfl hi1l) hHeld ?_
                                                                        simp only [Act.put, List.getElem_toArray, List.getElem_cons_zero, List.getElem_cons_succ, List.setIfInBounds_toArray, List.set_cons_zero, List.set_cons_succ]
                                                                        refine wpAnyH_take (i := 3) (v := .agg m.cs) rfl (by kernel_rfl) (by kernel_rfl) (by kernel_rfl) (fun _ _ _ h => h) (yieldsIf_load_mid (by rfl) _ _ rfl _ _ rfl _ _ (fun u hw => (HQ.out u hw).2.2.2) Tryd.underlying27 rfl himl) hHeld ?_
                                                                        simp only [Act.put, List.getElem_toArray, List.getElem_cons_zero, List.getElem_cons_succ, List.setIfInBounds_toArray, List.set_cons_zero, List.set_cons_succ]
                                                                        refine wpAnyH_ready (rs := [4]) (by kernel_rfl) (by simp) ?_
                                                                        refine AllReadyH.cons (o := _) rfl (fun K hK => ?_) AllReadyH.nil
                                                                        go_simp
                                                                        refine (msameT _ x1.m m D hb (HQ.out _ (belowDrew w146 1)).1 (HQ.out _ (belowDrew w146 1)).2.1 (mv_eq HMO.out.2.2.2.2.2.2.1 HP1.out.2.2.2.1)).mono ?_
                                                                        rintro e w78 ⟨rfl, b78⟩
                                                                        have Q78 : Hid (Below w146.heap.size w146 w78) := (belowDrew w146 1).trans b78
                                                                        have HC78 := Lib.hid (HC46.out.below Q78.out)
                                                                        clear b78 HC46
                                                                        go_wp2_with fail
                                                                        refine hK.out _ _ Q78.out (fun hHeld => ?_)
                                                                        clear hK K
                                                                        refine wpAnyH_take (i := 5) (v := .bool false) rfl (by kernel_rfl) (by kernel_rfl) (by kernel_rfl) (fun _ _ _ h => h) (Or.inl ⟨by rfl, fun w hw => by go_simp⟩) hHeld ?_
                                                                        simp only [Act.put, List.getElem_toArray, List.getElem_cons_zero, List.getElem_cons_succ, List.setIfInBounds_toArray, List.set_cons_zero, List.set_cons_succ]
                                                                        refine wpAnyH_done (by kernel_rfl) ?_ _
                                                                        clear hHeld HQ Q78 hi1l himl
                                                                        obtain ⟨D2, hD2, hq1⟩ := EB.fix (ls := [LB W.heap.size (.slice olda EE.length oldc) EE, LB W.heap.size (.slice qa DA.length qc) DA, EB W.heap.size (.slice ua EE.length uc) EE.length, LB W.heap.size (.slice ta EE.length tc) EE, EH W.heap.size (.slice ha hn hc) hn]) (rs := ([MI gI mI, MI gB mB, LHn W.heap.size (.slice yha (HA.length / 32) yhc) HA, EB W.heap.size (.slice ya DA.length yc) DA.length, MI gA mA, LHn W.heap.size (.slice xha (HA.length / 32) xhc) HA, LB W.heap.size (.slice xa DA.length xc) DA, LB W.heap.size (.slice (some ⟨G, 0, none⟩) l.length cap) l, LIt W.heap.size 27 40 (.slice (some ⟨gp, 0, none⟩) ms2.length pc) ms2.length (ms2.flatMap fun x : Mg => x.m.ls), EB W.heap.size (.slice x0a x0.D.length x0c) x0.D.length, LB W.heap.size x1.m.d x1.D, EH W.heap.size (.slice x0ha nx x0hc) nx, LHn W.heap.size x1.m.h x1.hb] ++ ([] : List Itm))) HC78.out
                                                                        obtain ⟨hb2, hhb2, hq2⟩ := EH.fix (ls := [LB W.heap.size (.slice olda EE.length oldc) EE, LB W.heap.size (.slice qa DA.length qc) DA, EB W.heap.size (.slice ua EE.length uc) EE.length, LB W.heap.size (.slice ta EE.length tc) EE]) (rs := ([LB W.heap.size (.slice (some ⟨Gi, 0, none⟩) D.length capi) D2, MI gI mI, MI gB mB, LHn W.heap.size (.slice yha (HA.length / 32) yhc) HA, EB W.heap.size (.slice ya DA.length yc) DA.length, MI gA mA, LHn W.heap.size (.slice xha (HA.length / 32) xhc) HA, LB W.heap.size (.slice xa DA.length xc) DA, LB W.heap.size (.slice (some ⟨G, 0, none⟩) l.length cap) l, LIt W.heap.size 27 40 (.slice (some ⟨gp, 0, none⟩) ms2.length pc) ms2.length (ms2.flatMap fun x : Mg => x.m.ls), EB W.heap.size (.slice x0a x0.D.length x0c) x0.D.length, LB W.heap.size x1.m.d x1.D, EH W.heap.size (.slice x0ha nx x0hc) nx, LHn W.heap.size x1.m.h x1.hb] ++ ([] : List Itm))) hq1
                                                                        have HE1 : Hid (Bag W w78.drew ([LB W.heap.size (.slice olda EE.length oldc) EE, LB W.heap.size (.slice qa DA.length qc) DA, EB W.heap.size (.slice ua EE.length uc) EE.length, LB W.heap.size (.slice ta EE.length tc) EE, LHn W.heap.size (.slice ha hn hc) hb2, LB W.heap.size (.slice (some ⟨Gi, 0, none⟩) D.length capi) D2, MI gI mI, MI gB mB, LHn W.heap.size (.slice yha (HA.length / 32) yhc) HA, EB W.heap.size (.slice ya DA.length yc) DA.length, MI gA mA, LHn W.heap.size (.slice xha (HA.length / 32) xhc) HA, LB W.heap.size (.slice xa DA.length xc) DA, LB W.heap.size (.slice (some ⟨G, 0, none⟩) l.length cap) l, LIt W.heap.size 27 40 (.slice (some ⟨gp, 0, none⟩) ms2.length pc) ms2.length (ms2.flatMap fun x : Mg => x.m.ls), EB W.heap.size (.slice x0a x0.D.length x0c) x0.D.length, LB W.heap.size x1.m.d x1.D, EH W.heap.size (.slice x0ha nx x0hc) nx, LHn W.heap.size x1.m.h x1.hb] ++ ([] : List Itm))) := hq2.below (belowDrew w78 1)
                                                                        clear hq1 hq2 HC78
                                                                        have HMM : Hid (∀ w', Bag W w' ([LB W.heap.size (.slice olda EE.length oldc) EE, LB W.heap.size (.slice qa DA.length qc) DA, EB W.heap.size (.slice ua EE.length uc) EE.length, LB W.heap.size (.slice ta EE.length tc) EE, LHn W.heap.size (.slice ha hn hc) hb2, LB W.heap.size (.slice (some ⟨Gi, 0, none⟩) D.length capi) D2, MI gI mI, MI gB mB, LHn W.heap.size (.slice yha (HA.length / 32) yhc) HA, EB W.heap.size (.slice ya DA.length yc) DA.length, MI gA mA, LHn W.heap.size (.slice xha (HA.length / 32) xhc) HA, LB W.heap.size (.slice xa DA.length xc) DA, NI, LIt W.heap.size 27 40 (.slice (some ⟨gp, 0, none⟩) ms2.length pc) ms2.length (ms2.flatMap fun x : Mg => x.m.ls), EB W.heap.size (.slice x0a x0.D.length x0c) x0.D.length, LB W.heap.size x1.m.d x1.D, EH W.heap.size (.slice x0ha nx x0hc) nx, LHn W.heap.size x1.m.h x1.hb] ++ ([] : List Itm)) → MM w' mI D2 hb2 ∧ MB w' gI mI ∧ MB w' gA mA ∧ OW W.heap.size w' (.slice xa DA.length xc) DA ∧ w'.ownsRow W.heap.size 24 32 (.slice xha (HA.length / 32) xhc) (HA.length / 32) (Lib.byteCells HA) ∧ OW W.heap.size w' (.slice ta EE.length tc) EE ∧ OW W.heap.size w' (.slice olda EE.length oldc) EE ∧ OW W.heap.size w' (.slice qa DA.length qc) DA) := fun w' hb' => by
                                                                          refine ⟨mm_of (B := W.heap.size) HMO.out.2.2.2.2.1 ?_ ?_ (by omega) (by omega) (by omega), (hb'.ok (MI gI mI) (by simp)).a, (hb'.ok (MI gA mA) (by simp)).a, (hb'.ok (LB W.heap.size (.slice xa DA.length xc) DA) (by simp)).a, (hb'.ok (LHn W.heap.size (.slice xha (HA.length / 32) xhc) HA) (by simp)).a, (hb'.ok (LB W.heap.size (.slice ta EE.length tc) EE) (by simp)).a, (hb'.ok (LB W.heap.size (.slice olda EE.length oldc) EE) (by simp)).a, (hb'.ok (LB W.heap.size (.slice qa DA.length qc) DA) (by simp)).a⟩
                                                                          · rw [HMO.out.2.2.2.2.2.2.2.1]
                                                                            exact (hb'.ok (LB W.heap.size (.slice (some ⟨Gi, 0, none⟩) D.length capi) D2) (by simp)).a
                                                                          · rw [HMO.out.2.2.2.2.2.2.2.2.1]
                                                                            exact (hb'.ok (LHn W.heap.size (.slice ha hn hc) hb2) (by simp)).a
                                                                        have HLO : Hid (∀ w', Fm.Fr (fun k => (Value.slice (some ⟨G, 0, none⟩) l.length cap).ownBlock ≠ some k) w78.drew w' → Bag W w' ([LB W.heap.size (.slice olda EE.length oldc) EE, LB W.heap.size (.slice qa DA.length qc) DA, EB W.heap.size (.slice ua EE.length uc) EE.length, LB W.heap.size (.slice ta EE.length tc) EE, LHn W.heap.size (.slice ha hn hc) hb2, LB W.heap.size (.slice (some ⟨Gi, 0, none⟩) D.length capi) D2, MI gI mI, MI gB mB, LHn W.heap.size (.slice yha (HA.length / 32) yhc) HA, EB W.heap.size (.slice ya DA.length yc) DA.length, MI gA mA, LHn W.heap.size (.slice xha (HA.length / 32) xhc) HA, LB W.heap.size (.slice xa DA.length xc) DA, NI, LIt W.heap.size 27 40 (.slice (some ⟨gp, 0, none⟩) ms2.length pc) ms2.length (ms2.flatMap fun x : Mg => x.m.ls), EB W.heap.size (.slice x0a x0.D.length x0c) x0.D.length, LB W.heap.size x1.m.d x1.D, EH W.heap.size (.slice x0ha nx x0hc) nx, LHn W.heap.size x1.m.h x1.hb] ++ ([] : List Itm))) := fun w' hf => Bag.lose (ls := [LB W.heap.size (.slice olda EE.length oldc) EE, LB W.heap.size (.slice qa DA.length qc) DA, EB W.heap.size (.slice ua EE.length uc) EE.length, LB W.heap.size (.slice ta EE.length tc) EE, LHn W.heap.size (.slice ha hn hc) hb2, LB W.heap.size (.slice (some ⟨Gi, 0, none⟩) D.length capi) D2, MI gI mI, MI gB mB, LHn W.heap.size (.slice yha (HA.length / 32) yhc) HA, EB W.heap.size (.slice ya DA.length yc) DA.length, MI gA mA, LHn W.heap.size (.slice xha (HA.length / 32) xhc) HA, LB W.heap.size (.slice xa DA.length xc) DA]) (rs := ([LIt W.heap.size 27 40 (.slice (some ⟨gp, 0, none⟩) ms2.length pc) ms2.length (ms2.flatMap fun x : Mg => x.m.ls), EB W.heap.size (.slice x0a x0.D.length x0c) x0.D.length, LB W.heap.size x1.m.d x1.D, EH W.heap.size (.slice x0ha nx x0hc) nx, LHn W.heap.size x1.m.h x1.hb] ++ ([] : List Itm))) HE1.out hf
                                                                        have AN : Hid (Calls Tryd.prog 16 #[.slice (some ⟨G, 0, none⟩) l.length cap, .agg mI.cs] w78.drew fun e w' => e = .returned (.bool true) ∧ Fm.Fr (fun k => (Value.slice (some ⟨G, 0, none⟩) l.length cap).ownBlock ≠ some k) w78.drew w') := anewT w78.drew _ l W.heap.size mI D2 hb2 (HE1.out.ok (LB W.heap.size (.slice (some ⟨G, 0, none⟩) l.length cap) l) (by simp)).a H0.out.2.2.1.pos HE1.out.bel.size (fun w' hf => (HMM.out w' (HLO.out w' hf)).1) (H0.out.2.2.1.below HE1.out.bel H0.out.2.2.1.pos) (by omega)
                                                                        have hgI := MB.range (HE1.out.ok (MI gI mI) (by simp)).a
                                                                        have hiIl : (Tryd.prog.info? 27).map (·.size) = some mI.ls.length := by rw [ok_ls HMO.out.2.2.2.2.1]; exact (info_msg HMO.out.2.2.2.2.1).trans (by rw [HMO.out.2.2.2.2.1.size])
                                                                        clear HE1 hD2 hhb2
                                                                        as_aux_lemma =>
                                                                          go_upto_region 80 with fail
                                                                          refine wp_region_held_drew (S := fun u => u.rangeAt gI 0 mI.ls) (by kernel_rfl) (hgI) (fun hHeld => ?_)
                                                                          refine wpAnyH_take (i := 0) (v := .slice (some ⟨G, 0, none⟩) (l.length + 5) cap) rfl (by kernel_rfl) (by kernel_rfl) (by kernel_rfl) (fun _ _ _ h => h) (Or.inl ⟨by rfl, fun w hw => by go_simp⟩) hHeld ?_
                                                                          simp only [Act.put, List.getElem_toArray, List.getElem_cons_zero, List.setIfInBounds_toArray, List.set_cons_zero, List.set_cons_succ]
                                                                          refine wpAnyH_take (i := 1) (v := .slice ba l.length bc') rfl (by kernel_rfl) (by kernel_rfl) (by kernel_rfl) (fun _ _ _ h => h) (Or.inl ⟨by rfl, fun w hw => by go_simp⟩) hHeld ?_
                                                                          simp only [Act.put, List.getElem_toArray, List.getElem_cons_zero, List.getElem_cons_succ, List.setIfInBounds_toArray, List.set_cons_zero, List.set_cons_succ]
                                                                          refine wpAnyH_take (i := 2) (v := .int .i64 l.length) rfl (by kernel_rfl) (by kernel_rfl) (by kernel_rfl) (fun _ _ _ h => h) (Or.inl ⟨by rfl, fun w hw => by go_simp⟩) hHeld ?_
                                                                          simp only [Act.put, List.getElem_toArray, List.getElem_cons_zero, List.getElem_cons_succ, List.setIfInBounds_toArray, List.set_cons_zero, List.set_cons_succ]
                                                                          refine wpAnyH_take (i := 3) (v := .slice (some ⟨G, 0, none⟩) l.length cap) rfl (by kernel_rfl) (by kernel_rfl) (by kernel_rfl) (fun _ _ _ h => h) (Or.inl ⟨by rfl, fun w hw => by go_simp; try (intro h; omega)⟩) hHeld ?_
                                                                          simp only [Act.put, List.getElem_toArray, List.getElem_cons_zero, List.getElem_cons_succ, List.setIfInBounds_toArray, List.set_cons_zero, List.set_cons_succ]
                                                                          refine wpAnyH_take (i := 4) (v := .agg mI.cs) rfl (by kernel_rfl) (by kernel_rfl) (by kernel_rfl) (fun _ _ _ h => h) (yieldsIf_load_mid (by rfl) _ _ rfl _ _ rfl _ _ (fun u hw => hw) Tryd.underlying27 rfl hiIl) hHeld ?_
                                                                          simp only [Act.put, List.getElem_toArray, List.getElem_cons_zero, List.getElem_cons_succ, List.setIfInBounds_toArray, List.set_cons_zero, List.set_cons_succ]
                                                                          refine wpAnyH_ready (rs := [5]) (by kernel_rfl) (by simp) ?_
                                                                          refine AllReadyH.cons (o := _) rfl (fun K hK => ?_) AllReadyH.nil
                                                                          go_simp
                                                                          refine (AN.out).mono ?_
                                                                          rintro e w80 ⟨rfl, f80⟩
                                                                          have HE2 := Lib.hid (HLO.out w80 f80)
                                                                          clear AN f80 hgI
                                                                          go_wp2_with fail
                                                                          refine hK.out _ _ (MB.range (HMM.out w80 HE2.out).2.1) (fun hHeld => ?_)
                                                                          clear hK K
                                                                          refine wpAnyH_take (i := 6) (v := .bool true) rfl (by kernel_rfl) (by kernel_rfl) (by kernel_rfl) (fun _ _ _ h => h) (Or.inl ⟨by rfl, fun w hw => by go_simp⟩) hHeld ?_
                                                                          simp only [Act.put, List.getElem_toArray, List.getElem_cons_zero, List.getElem_cons_succ, List.setIfInBounds_toArray, List.set_cons_zero, List.set_cons_succ]
                                                                          refine wpAnyH_done (by kernel_rfl) ?_ _
                                                                          clear hHeld
                                                                          as_aux_lemma =>
                                                                            have DC : Hid (Calls Tryd.prog 6 #[.slice ba l.length bc'] w80 fun e w' => DCR w80 w' e l) := decodeT w80 _ l (by omega) (H0.out.1.keep HE2.out.bel) (H0.out.2.2.1.below HE2.out.bel H0.out.2.2.1.pos)
                                                                            go_wp2_with fail
                                                                            refine DC.out.mono ?_
                                                                            rintro e w81 ⟨d3, h3, rfl, q1, q2, q3⟩
                                                                            have M3 := MM.of_dec q1 q2
                                                                            obtain ⟨mC, hmC, e3⟩ : ∃ x : Mv, ({ (decS l).m with d := d3, h := h3 } : Mv) = x ∧ x = { (decS l).m with d := x.d, h := x.h } := ⟨_, rfl, rfl⟩
                                                                            rw [hmC] at M3 ⊢
                                                                            clear hmC
                                                                            have hz3 := heapNew w81 (.cells z40 27)
                                                                            have hi3 := info_msg M3.ok
                                                                            have ho3 := M3.ok.one
                                                                            have hs3 : z40.size = mC.cs.size := M3.ok.size.symm
                                                                            have hcC := heapSetRow _ _ _ mC.cs _ hz3
                                                                            have bX : Below w81.heap.size w81 ((w81.alloc (.cells z40 27)).setRow w81.heap.size mC.cs) := belowSetRow ((Below.refl _ _).alloc (Nat.le_refl _) _) (Nat.le_refl _) _
                                                                            obtain ⟨X8, hX8⟩ : ∃ X, X = (w81.alloc (.cells z40 27)).setRow w81.heap.size mC.cs := ⟨_, rfl⟩
                                                                            have HX8 : Hid (X8 = (w81.alloc (.cells z40 27)).setRow w81.heap.size mC.cs) := hX8
                                                                            rw [← hX8] at hcC bX
                                                                            have HE3 := Lib.hid ((HE2.out.below q3).below bX)
                                                                            have HF := Lib.hid (HMM.out X8 HE3.out)
                                                                            have HM3 : Hid (MM X8 mC DA HA ∧ MB X8 w81.heap.size mC ∧ mC = { mA with d := mC.d, h := mC.h } ∧ MM X8 mA DA HA) := by
                                                                              refine ⟨?_, hcC, ?_, ?_⟩
                                                                              · rw [HXY.out.2.2.2.2.1, HXY.out.2.2.2.2.2.1]; exact M3.keep bX
                                                                              · rw [HMO.out.2.2.2.2.2.1]; exact e3
                                                                              · refine mm_of (B := W.heap.size) HMO.out.2.2.1 ?_ ?_ ?_ (by omega) (by omega)
                                                                                · rw [HXY.out.1]; exact HF.out.2.2.2.1
                                                                                · rw [HXY.out.2.1]; exact HF.out.2.2.2.2.1
                                                                                · obtain ⟨_, n5, _, _, e5, _⟩ := (M3.keep bX).h
                                                                                  rw [HXY.out.2.2.2.2.2.1]
                                                                                  omega
                                                                            clear q1 q2 q3 M3 hcC bX e3 DC hX8 HE2
                                                                            have a4 := (HCA.out X8 HF.out.2.2.1).1
                                                                            go_wp2_with (first | (refine wpList_store_row rfl 27 _ _ rfl w81.heap.size mC.cs rfl rfl 27 z40 hz3 hi3 hs3 ho3 ?_; rw [← HX8.out]))
                                                                            refine (same _ _ DA X8 (by omega) HF.out.2.2.2.1.rb HF.out.2.2.2.2.2.2.2.rb).mono ?_
                                                                            rintro e w82 ⟨rfl, n82, hw82⟩
                                                                            have b82 : Below X8.heap.size X8 w82 := by rw [hw82]; exact belowDrew _ _
                                                                            have HG : Hid (MM w82 mC DA HA ∧ MM w82 mA DA HA ∧ OW W.heap.size w82 (.slice ta EE.length tc) EE ∧ OW W.heap.size w82 (.slice olda EE.length oldc) EE ∧ mC = { mA with d := mC.d, h := mC.h } ∧ Below W.heap.size W w82) := ⟨HM3.out.1.keep b82, HM3.out.2.2.2.keep b82, HF.out.2.2.2.2.2.1.grow b82, HF.out.2.2.2.2.2.2.1.grow b82, HM3.out.2.2.1, HE3.out.bel.trans (b82.mono HE3.out.bel.size)⟩
                                                                            have gA8 := (HF.out.2.2.1.below b82).cells
                                                                            have gC8 := (HM3.out.2.1.below b82).cells
                                                                            have hiA := info_msg HMO.out.2.2.1
                                                                            clear HM3 HF HE3 b82 hw82 hz3 ho3 hs3 a4 HX8
                                                                            as_aux_lemma =>
                                                                              go_wp2_with (first | (refine load_msg_if rfl _ rfl gA rfl mA.cs gA8 hiA ?_) | (refine load_msg_if rfl _ rfl w81.heap.size rfl mC.cs gC8 hi3 ?_))
                                                                              refine (msameT w82 mA mC DA HA HG.out.2.1 HG.out.1 HG.out.2.2.2.2.1).mono ?_
                                                                              rintro e w83 ⟨rfl, b83⟩
                                                                              have HH8 : Hid (OW W.heap.size w83 (.slice ta EE.length tc) EE ∧ OW W.heap.size w83 (.slice olda EE.length oldc) EE ∧ Below W.heap.size W w83) := ⟨HG.out.2.2.1.grow b83, HG.out.2.2.2.1.grow b83, HG.out.2.2.2.2.2.trans (b83.mono HG.out.2.2.2.2.2.size)⟩
                                                                              clear HG b83 gA8 gC8
                                                                              go_wp2_with fail
                                                                              refine (same _ _ EE w83 (by omega) HH8.out.1.rb HH8.out.2.1.rb).mono ?_
                                                                              rintro e w84 ⟨rfl, n84, hw84⟩
                                                                              have HEnd : Hid (Below w.heap.size w w84) := by
                                                                                rw [hw84]
                                                                                exact belowN (H0.out.2.2.2.2.1.trans (HH8.out.2.2.mono H0.out.2.2.2.2.1.size)) _
                                                                              clear HH8 hw84
                                                                              go_wp2
                                                                              go_ret
                                                                              exact ⟨rfl, HEnd.out⟩
                                                          · as_aux_lemma =>
                                                            have hb2 : ((ms2.length : Int) == 2) = false := by simp; omega
                                                            clear h2
                                                            obtain ⟨D2, hD2, hq1⟩ := EB.fix (ls := [LB W.heap.size (.slice olda EE.length oldc) EE, LB W.heap.size (.slice qa DA.length qc) DA, EB W.heap.size (.slice ua EE.length uc) EE.length, LB W.heap.size (.slice ta EE.length tc) EE, EH W.heap.size (.slice ha hn hc) hn]) (rs := ([MI gI mI, MI gB mB, LHn W.heap.size (.slice yha (HA.length / 32) yhc) HA, EB W.heap.size (.slice ya DA.length yc) DA.length, MI gA mA, LHn W.heap.size (.slice xha (HA.length / 32) xhc) HA, LB W.heap.size (.slice xa DA.length xc) DA, LB W.heap.size (.slice (some ⟨G, 0, none⟩) l.length cap) l] ++ (LIt W.heap.size 27 40 (.slice pa ms2.length pc) ms2.length (ms2.flatMap fun x : Mg => x.m.ls) :: (DIs W.heap.size ms2 ++ HIs W.heap.size ms2)))) HC44.out
                                                            obtain ⟨hb2, hhb2, hq2⟩ := EH.fix (ls := [LB W.heap.size (.slice olda EE.length oldc) EE, LB W.heap.size (.slice qa DA.length qc) DA, EB W.heap.size (.slice ua EE.length uc) EE.length, LB W.heap.size (.slice ta EE.length tc) EE]) (rs := ([LB W.heap.size (.slice (some ⟨Gi, 0, none⟩) D.length capi) D2, MI gI mI, MI gB mB, LHn W.heap.size (.slice yha (HA.length / 32) yhc) HA, EB W.heap.size (.slice ya DA.length yc) DA.length, MI gA mA, LHn W.heap.size (.slice xha (HA.length / 32) xhc) HA, LB W.heap.size (.slice xa DA.length xc) DA, LB W.heap.size (.slice (some ⟨G, 0, none⟩) l.length cap) l] ++ (LIt W.heap.size 27 40 (.slice pa ms2.length pc) ms2.length (ms2.flatMap fun x : Mg => x.m.ls) :: (DIs W.heap.size ms2 ++ HIs W.heap.size ms2)))) hq1
                                                            have HE1 : Hid (Bag W w144.drew ([LB W.heap.size (.slice olda EE.length oldc) EE, LB W.heap.size (.slice qa DA.length qc) DA, EB W.heap.size (.slice ua EE.length uc) EE.length, LB W.heap.size (.slice ta EE.length tc) EE, LHn W.heap.size (.slice ha hn hc) hb2, LB W.heap.size (.slice (some ⟨Gi, 0, none⟩) D.length capi) D2, MI gI mI, MI gB mB, LHn W.heap.size (.slice yha (HA.length / 32) yhc) HA, EB W.heap.size (.slice ya DA.length yc) DA.length, MI gA mA, LHn W.heap.size (.slice xha (HA.length / 32) xhc) HA, LB W.heap.size (.slice xa DA.length xc) DA, LB W.heap.size (.slice (some ⟨G, 0, none⟩) l.length cap) l] ++ (LIt W.heap.size 27 40 (.slice pa ms2.length pc) ms2.length (ms2.flatMap fun x : Mg => x.m.ls) :: (DIs W.heap.size ms2 ++ HIs W.heap.size ms2)))) := hq2.below (belowDrew w144 1)
                                                            clear hq1 hq2 HC44
                                                            have HMM : Hid (∀ w', Bag W w' ([LB W.heap.size (.slice olda EE.length oldc) EE, LB W.heap.size (.slice qa DA.length qc) DA, EB W.heap.size (.slice ua EE.length uc) EE.length, LB W.heap.size (.slice ta EE.length tc) EE, LHn W.heap.size (.slice ha hn hc) hb2, LB W.heap.size (.slice (some ⟨Gi, 0, none⟩) D.length capi) D2, MI gI mI, MI gB mB, LHn W.heap.size (.slice yha (HA.length / 32) yhc) HA, EB W.heap.size (.slice ya DA.length yc) DA.length, MI gA mA, LHn W.heap.size (.slice xha (HA.length / 32) xhc) HA, LB W.heap.size (.slice xa DA.length xc) DA, NI] ++ (LIt W.heap.size 27 40 (.slice pa ms2.length pc) ms2.length (ms2.flatMap fun x : Mg => x.m.ls) :: (DIs W.heap.size ms2 ++ HIs W.heap.size ms2))) → MM w' mI D2 hb2 ∧ MB w' gI mI ∧ MB w' gA mA ∧ OW W.heap.size w' (.slice xa DA.length xc) DA ∧ w'.ownsRow W.heap.size 24 32 (.slice xha (HA.length / 32) xhc) (HA.length / 32) (Lib.byteCells HA) ∧ OW W.heap.size w' (.slice ta EE.length tc) EE ∧ OW W.heap.size w' (.slice olda EE.length oldc) EE ∧ OW W.heap.size w' (.slice qa DA.length qc) DA) := fun w' hb' => by
                                                              refine ⟨mm_of (B := W.heap.size) HMO.out.2.2.2.2.1 ?_ ?_ (by omega) (by omega) (by omega), (hb'.ok (MI gI mI) (by simp)).a, (hb'.ok (MI gA mA) (by simp)).a, (hb'.ok (LB W.heap.size (.slice xa DA.length xc) DA) (by simp)).a, (hb'.ok (LHn W.heap.size (.slice xha (HA.length / 32) xhc) HA) (by simp)).a, (hb'.ok (LB W.heap.size (.slice ta EE.length tc) EE) (by simp)).a, (hb'.ok (LB W.heap.size (.slice olda EE.length oldc) EE) (by simp)).a, (hb'.ok (LB W.heap.size (.slice qa DA.length qc) DA) (by simp)).a⟩
                                                              · rw [HMO.out.2.2.2.2.2.2.2.1]
                                                                exact (hb'.ok (LB W.heap.size (.slice (some ⟨Gi, 0, none⟩) D.length capi) D2) (by simp)).a
                                                              · rw [HMO.out.2.2.2.2.2.2.2.2.1]
                                                                exact (hb'.ok (LHn W.heap.size (.slice ha hn hc) hb2) (by simp)).a
                                                            have HLO : Hid (∀ w', Fm.Fr (fun k => (Value.slice (some ⟨G, 0, none⟩) l.length cap).ownBlock ≠ some k) w144.drew w' → Bag W w' ([LB W.heap.size (.slice olda EE.length oldc) EE, LB W.heap.size (.slice qa DA.length qc) DA, EB W.heap.size (.slice ua EE.length uc) EE.length, LB W.heap.size (.slice ta EE.length tc) EE, LHn W.heap.size (.slice ha hn hc) hb2, LB W.heap.size (.slice (some ⟨Gi, 0, none⟩) D.length capi) D2, MI gI mI, MI gB mB, LHn W.heap.size (.slice yha (HA.length / 32) yhc) HA, EB W.heap.size (.slice ya DA.length yc) DA.length, MI gA mA, LHn W.heap.size (.slice xha (HA.length / 32) xhc) HA, LB W.heap.size (.slice xa DA.length xc) DA, NI] ++ (LIt W.heap.size 27 40 (.slice pa ms2.length pc) ms2.length (ms2.flatMap fun x : Mg => x.m.ls) :: (DIs W.heap.size ms2 ++ HIs W.heap.size ms2)))) := fun w' hf => Bag.lose (ls := [LB W.heap.size (.slice olda EE.length oldc) EE, LB W.heap.size (.slice qa DA.length qc) DA, EB W.heap.size (.slice ua EE.length uc) EE.length, LB W.heap.size (.slice ta EE.length tc) EE, LHn W.heap.size (.slice ha hn hc) hb2, LB W.heap.size (.slice (some ⟨Gi, 0, none⟩) D.length capi) D2, MI gI mI, MI gB mB, LHn W.heap.size (.slice yha (HA.length / 32) yhc) HA, EB W.heap.size (.slice ya DA.length yc) DA.length, MI gA mA, LHn W.heap.size (.slice xha (HA.length / 32) xhc) HA, LB W.heap.size (.slice xa DA.length xc) DA]) (rs := ([] ++ (LIt W.heap.size 27 40 (.slice pa ms2.length pc) ms2.length (ms2.flatMap fun x : Mg => x.m.ls) :: (DIs W.heap.size ms2 ++ HIs W.heap.size ms2)))) HE1.out hf
                                                            have AN : Hid (Calls Tryd.prog 16 #[.slice (some ⟨G, 0, none⟩) l.length cap, .agg mI.cs] w144.drew fun e w' => e = .returned (.bool true) ∧ Fm.Fr (fun k => (Value.slice (some ⟨G, 0, none⟩) l.length cap).ownBlock ≠ some k) w144.drew w') := anewT w144.drew _ l W.heap.size mI D2 hb2 (HE1.out.ok (LB W.heap.size (.slice (some ⟨G, 0, none⟩) l.length cap) l) (by simp)).a H0.out.2.2.1.pos HE1.out.bel.size (fun w' hf => (HMM.out w' (HLO.out w' hf)).1) (H0.out.2.2.1.below HE1.out.bel H0.out.2.2.1.pos) (by omega)
                                                            have hgI := MB.range (HE1.out.ok (MI gI mI) (by simp)).a
                                                            have hiIl : (Tryd.prog.info? 27).map (·.size) = some mI.ls.length := by rw [ok_ls HMO.out.2.2.2.2.1]; exact (info_msg HMO.out.2.2.2.2.1).trans (by rw [HMO.out.2.2.2.2.1.size])
                                                            clear HE1 hD2 hhb2
                                                            as_aux_lemma =>
                                                              go_upto_region 80 with fail
                                                              refine wp_region_held_drew (S := fun u => u.rangeAt gI 0 mI.ls) (by kernel_rfl) (hgI) (fun hHeld => ?_)
                                                              refine wpAnyH_take (i := 0) (v := .slice (some ⟨G, 0, none⟩) (l.length + 5) cap) rfl (by kernel_rfl) (by kernel_rfl) (by kernel_rfl) (fun _ _ _ h => h) (Or.inl ⟨by rfl, fun w hw => by go_simp⟩) hHeld ?_
                                                              simp only [Act.put, List.getElem_toArray, List.getElem_cons_zero, List.setIfInBounds_toArray, List.set_cons_zero, List.set_cons_succ]
                                                              refine wpAnyH_take (i := 1) (v := .slice ba l.length bc') rfl (by kernel_rfl) (by kernel_rfl) (by kernel_rfl) (fun _ _ _ h => h) (Or.inl ⟨by rfl, fun w hw => by go_simp⟩) hHeld ?_
                                                              simp only [Act.put, List.getElem_toArray, List.getElem_cons_zero, List.getElem_cons_succ, List.setIfInBounds_toArray, List.set_cons_zero, List.set_cons_succ]
                                                              refine wpAnyH_take (i := 2) (v := .int .i64 l.length) rfl (by kernel_rfl) (by kernel_rfl) (by kernel_rfl) (fun _ _ _ h => h) (Or.inl ⟨by rfl, fun w hw => by go_simp⟩) hHeld ?_
                                                              simp only [Act.put, List.getElem_toArray, List.getElem_cons_zero, List.getElem_cons_succ, List.setIfInBounds_toArray, List.set_cons_zero, List.set_cons_succ]
                                                              refine wpAnyH_take (i := 3) (v := .slice (some ⟨G, 0, none⟩) l.length cap) rfl (by kernel_rfl) (by kernel_rfl) (by kernel_rfl) (fun _ _ _ h => h) (Or.inl ⟨by rfl, fun w hw => by go_simp; try (intro h; omega)⟩) hHeld ?_
                                                              simp only [Act.put, List.getElem_toArray, List.getElem_cons_zero, List.getElem_cons_succ, List.setIfInBounds_toArray, List.set_cons_zero, List.set_cons_succ]
                                                              refine wpAnyH_take (i := 4) (v := .agg mI.cs) rfl (by kernel_rfl) (by kernel_rfl) (by kernel_rfl) (fun _ _ _ h => h) (yieldsIf_load_mid (by rfl) _ _ rfl _ _ rfl _ _ (fun u hw => hw) Tryd.underlying27 rfl hiIl) hHeld ?_
                                                              simp only [Act.put, List.getElem_toArray, List.getElem_cons_zero, List.getElem_cons_succ, List.setIfInBounds_toArray, List.set_cons_zero, List.set_cons_succ]
                                                              refine wpAnyH_ready (rs := [5]) (by kernel_rfl) (by simp) ?_
                                                              refine AllReadyH.cons (o := _) rfl (fun K hK => ?_) AllReadyH.nil
                                                              go_simp
                                                              refine (AN.out).mono ?_
                                                              rintro e w80 ⟨rfl, f80⟩
                                                              have HE2 := Lib.hid (HLO.out w80 f80)
                                                              clear AN f80 hgI
                                                              go_wp2_with fail
                                                              refine hK.out _ _ (MB.range (HMM.out w80 HE2.out).2.1) (fun hHeld => ?_)
                                                              clear hK K
                                                              refine wpAnyH_take (i := 6) (v := .bool true) rfl (by kernel_rfl) (by kernel_rfl) (by kernel_rfl) (fun _ _ _ h => h) (Or.inl ⟨by rfl, fun w hw => by go_simp⟩) hHeld ?_
                                                              simp only [Act.put, List.getElem_toArray, List.getElem_cons_zero, List.getElem_cons_succ, List.setIfInBounds_toArray, List.set_cons_zero, List.set_cons_succ]
                                                              refine wpAnyH_done (by kernel_rfl) ?_ _
                                                              clear hHeld
                                                              as_aux_lemma =>
                                                                have DC : Hid (Calls Tryd.prog 6 #[.slice ba l.length bc'] w80 fun e w' => DCR w80 w' e l) := decodeT w80 _ l (by omega) (H0.out.1.keep HE2.out.bel) (H0.out.2.2.1.below HE2.out.bel H0.out.2.2.1.pos)
                                                                go_wp2_with fail
                                                                refine DC.out.mono ?_
                                                                rintro e w81 ⟨d3, h3, rfl, q1, q2, q3⟩
                                                                have M3 := MM.of_dec q1 q2
                                                                obtain ⟨mC, hmC, e3⟩ : ∃ x : Mv, ({ (decS l).m with d := d3, h := h3 } : Mv) = x ∧ x = { (decS l).m with d := x.d, h := x.h } := ⟨_, rfl, rfl⟩
                                                                rw [hmC] at M3 ⊢
                                                                clear hmC
                                                                have hz3 := heapNew w81 (.cells z40 27)
                                                                have hi3 := info_msg M3.ok
                                                                have ho3 := M3.ok.one
                                                                have hs3 : z40.size = mC.cs.size := M3.ok.size.symm
                                                                have hcC := heapSetRow _ _ _ mC.cs _ hz3
                                                                have bX : Below w81.heap.size w81 ((w81.alloc (.cells z40 27)).setRow w81.heap.size mC.cs) := belowSetRow ((Below.refl _ _).alloc (Nat.le_refl _) _) (Nat.le_refl _) _
                                                                obtain ⟨X8, hX8⟩ : ∃ X, X = (w81.alloc (.cells z40 27)).setRow w81.heap.size mC.cs := ⟨_, rfl⟩
                                                                have HX8 : Hid (X8 = (w81.alloc (.cells z40 27)).setRow w81.heap.size mC.cs) := hX8
                                                                rw [← hX8] at hcC bX
                                                                have HE3 := Lib.hid ((HE2.out.below q3).below bX)
                                                                have HF := Lib.hid (HMM.out X8 HE3.out)
                                                                have HM3 : Hid (MM X8 mC DA HA ∧ MB X8 w81.heap.size mC ∧ mC = { mA with d := mC.d, h := mC.h } ∧ MM X8 mA DA HA) := by
                                                                  refine ⟨?_, hcC, ?_, ?_⟩
                                                                  · rw [HXY.out.2.2.2.2.1, HXY.out.2.2.2.2.2.1]; exact M3.keep bX
                                                                  · rw [HMO.out.2.2.2.2.2.1]; exact e3
                                                                  · refine mm_of (B := W.heap.size) HMO.out.2.2.1 ?_ ?_ ?_ (by omega) (by omega)
                                                                    · rw [HXY.out.1]; exact HF.out.2.2.2.1
                                                                    · rw [HXY.out.2.1]; exact HF.out.2.2.2.2.1
                                                                    · obtain ⟨_, n5, _, _, e5, _⟩ := (M3.keep bX).h
                                                                      rw [HXY.out.2.2.2.2.2.1]
                                                                      omega
                                                                clear q1 q2 q3 M3 hcC bX e3 DC hX8 HE2
                                                                have a4 := (HCA.out X8 HF.out.2.2.1).1
                                                                go_wp2_with (first | (refine wpList_store_row rfl 27 _ _ rfl w81.heap.size mC.cs rfl rfl 27 z40 hz3 hi3 hs3 ho3 ?_; rw [← HX8.out]))
                                                                refine (same _ _ DA X8 (by omega) HF.out.2.2.2.1.rb HF.out.2.2.2.2.2.2.2.rb).mono ?_
                                                                rintro e w82 ⟨rfl, n82, hw82⟩
                                                                have b82 : Below X8.heap.size X8 w82 := by rw [hw82]; exact belowDrew _ _
                                                                have HG : Hid (MM w82 mC DA HA ∧ MM w82 mA DA HA ∧ OW W.heap.size w82 (.slice ta EE.length tc) EE ∧ OW W.heap.size w82 (.slice olda EE.length oldc) EE ∧ mC = { mA with d := mC.d, h := mC.h } ∧ Below W.heap.size W w82) := ⟨HM3.out.1.keep b82, HM3.out.2.2.2.keep b82, HF.out.2.2.2.2.2.1.grow b82, HF.out.2.2.2.2.2.2.1.grow b82, HM3.out.2.2.1, HE3.out.bel.trans (b82.mono HE3.out.bel.size)⟩
                                                                have gA8 := (HF.out.2.2.1.below b82).cells
                                                                have gC8 := (HM3.out.2.1.below b82).cells
                                                                have hiA := info_msg HMO.out.2.2.1
                                                                clear HM3 HF HE3 b82 hw82 hz3 ho3 hs3 a4 HX8
                                                                as_aux_lemma =>
                                                                  go_wp2_with (first | (refine load_msg_if rfl _ rfl gA rfl mA.cs gA8 hiA ?_) | (refine load_msg_if rfl _ rfl w81.heap.size rfl mC.cs gC8 hi3 ?_))
                                                                  refine (msameT w82 mA mC DA HA HG.out.2.1 HG.out.1 HG.out.2.2.2.2.1).mono ?_
                                                                  rintro e w83 ⟨rfl, b83⟩
                                                                  have HH8 : Hid (OW W.heap.size w83 (.slice ta EE.length tc) EE ∧ OW W.heap.size w83 (.slice olda EE.length oldc) EE ∧ Below W.heap.size W w83) := ⟨HG.out.2.2.1.grow b83, HG.out.2.2.2.1.grow b83, HG.out.2.2.2.2.2.trans (b83.mono HG.out.2.2.2.2.2.size)⟩
                                                                  clear HG b83 gA8 gC8
                                                                  go_wp2_with fail
                                                                  refine (same _ _ EE w83 (by omega) HH8.out.1.rb HH8.out.2.1.rb).mono ?_
                                                                  rintro e w84 ⟨rfl, n84, hw84⟩
                                                                  have HEnd : Hid (Below w.heap.size w w84) := by
                                                                    rw [hw84]
                                                                    exact belowN (H0.out.2.2.2.2.1.trans (HH8.out.2.2.mono H0.out.2.2.2.2.1.size)) _
                                                                  clear HH8 hw84
                                                                  go_wp2
                                                                  go_ret
                                                                  exact ⟨rfl, HEnd.out⟩
end Go.Proofs.YtpembmfpgolniaaDoor
