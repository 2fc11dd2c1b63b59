import Derived.Test.YtjfgpplomldeiaaGreatDoorSk
namespace Go.Proofs.YtjfgpplomldeiaaGreatDoor
open Go.Shelf Go.RowKit Go.Deep
theorem kd_le (key : ByteArray) : kdR key ≤ 5 := by
  unfold kdR
  repeat' split
  all_goals omega
set_option maxHeartbeats 8000000 in
set_option maxRecDepth 100000 in
theorem rcheck (k : Lk) (tr pe on mo : Value) (w : World) (hk : k.ok) (hs : k.small) (hf : k.few) (hi : ∀ x ∈ k.rs, I64 x.1 ∧ I64 x.2) (hT : IT w) (hr : RL4 (fun _ => True) w k tr pe on mo) (hc1 : ∀ a n c, tr = .slice a n c → n ≤ c) (hc2 : ∀ a n c, pe = .slice a n c → n ≤ c) :
    Calls Tryz.prog 8 #[.agg (lkC k.l k.nm tr pe on mo)] w fun e w' => e = .returned (.int .i64 (ckN k)) ∧ Below w.heap.size w w' := by
  obtain ⟨ma, mc, rfl⟩ : ∃ a c, mo = .slice a k.dn c := by obtain ⟨p, q, e, _⟩ := hr.2.2.2; exact ⟨p, q, e⟩
  have hl := hk.l
  have B0 : Hid (Below w.heap.size w (w.alloc (Obj.cells (lkC k.l k.nm tr pe on (.slice ma k.dn mc)) 28))) := (Below.refl _ _).alloc (Nat.le_refl _) _
  have LA : Hid (LB (w.alloc (Obj.cells (lkC k.l k.nm tr pe on (.slice ma k.dn mc)) 28)) w.heap.size k.l k.nm tr pe on (.slice ma k.dn mc)) := heap_new _ _
  have HA : Hid (k.ok ∧ k.small ∧ (∀ x ∈ k.rs, I64 x.1 ∧ I64 x.2) ∧ ∀ u, Below w.heap.size w u → RL4 (fun _ => True) u k tr pe on (.slice ma k.dn mc) ∧ IT u) := ⟨hk, hs, hi, fun u hu => ⟨hr.move (fun _ h _ => h) hu.size (fun b _ hl => hu.block b hl), hT.below hu⟩⟩
  have HCC : Hid (k.few ∧ (∀ a n c, tr = .slice a n c → n ≤ c) ∧ (∀ a n c, pe = .slice a n c → n ≤ c)) := ⟨hf, hc1, hc2⟩
  have HRD : Hid (RD (fun _ => True) w k.dn k.ky k.dv (.slice ma k.dn mc)) := hr.2.2.2
  have hsd := hs.dn.1
  clear hk hs hi hT hr hf hc1 hc2
  go_enter Tryz.func8, Tryz.ntmps8
  go_upto_region 1 with fail
  generalize (w.alloc (Obj.cells (lkC k.l k.nm tr pe on (.slice ma k.dn mc)) 28)) = w0 at *
  generalize hvb : w.heap.size = H at *
  have HS : Hid (w.heap.size = H) := hvb
  clear hvb
  have HW0 := Lib.hid (And.intro B0.out LA.out)
  clear B0 LA
  go_wp2_with (first | (refine load_link_if rfl _ rfl H rfl HW0.out.2 hl ?_))
  refine (rform k tr pe on (.slice ma k.dn mc) w0 HA.out.1 HA.out.2.2.1 (HA.out.2.2.2 w0 HW0.out.1).1).mono ?_
  rintro e w1 ⟨rfl, b1⟩
  have HW1 : Hid (Below H w w1 ∧ LB w1 H k.l k.nm tr pe on (.slice ma k.dn mc)) := ⟨HW0.out.1.trans (b1.mono (by have := HW0.out.2.lt; omega)), HW0.out.2.keep (b1.block H HW0.out.2.lt)⟩
  clear b1 HW0
  cases hq1 : fmB k with
  | false =>
    have HE := Lib.hid (ck_form hq1)
    clear hq1
    go_wp2
    go_ret
    exact ⟨ret_i HE.out.symm, HS.out ▸ HW1.out.1⟩
  | true =>
  have HQ1 := Lib.hid hq1
  have HRS := Lib.hid (fm_rs hq1)
  clear hq1
  obtain ⟨c32, c33, c34, c35, c36⟩ := HW1.out.2.cells hl
  go_wp2_with fail
  refine (rapart on k.rs w1 (HA.out.2.2.2 w1 HW1.out.1).1.2.2.1 HA.out.2.1.rs (fun x hx => (HRS.out x hx).1)).mono ?_
  rintro e w2 ⟨rfl, nq0, hw2⟩
  have HW2 : Hid (Below H w w2 ∧ LB w2 H k.l k.nm tr pe on (.slice ma k.dn mc)) := by
    rw [hw2]
    exact ⟨HW1.out.1.trans ((below_drewN w1 nq0).mono (by have := HW1.out.2.lt; omega)), HW1.out.2⟩
  clear hw2 HW1 c32 c33 c34 c35 c36
  cases hq2 : apB k.rs with
  | false =>
    have HE := Lib.hid (ck_order HQ1.out (show odB k = false by unfold odB; rw [hq2]; rfl))
    clear hq2
    go_wp2
    go_ret
    exact ⟨ret_i HE.out.symm, HS.out ▸ HW2.out.1⟩
  | true =>
  have HQ2 := Lib.hid hq2
  have HAL := Lib.hid (ap_len HRS.out hq2)
  clear hq2
  have a36 := (HW2.out.2.cells hl).2.2.2.2
  go_wp2
  clear a36
  go_loopw [4] (fun t wr => ∃ i : Nat, 1 ≤ i ∧ (i ≤ k.dn ∨ i = 1) ∧ t = .int .i64 i ∧ Hid (Below H w wr ∧ LB wr H k.l k.nm tr pe on (.slice ma k.dn mc) ∧ ∀ (j : Nat), j + 1 < i → Op.bytesLess (k.ky (j + 1)).toList (k.ky j).toList = false)) (fun t _ => k.dn - (intOf t).toNat)
  case atStart => exact ⟨1, Nat.le_refl _, .inr rfl, rfl, HW2.out.1, HW2.out.2, fun j hj => by omega⟩
  case round =>
    clear HW2
    obtain ⟨i, hi1, hi2, rfl, HI⟩ := hrel
    have c36 := (HI.out.2.1.cells hl).2.2.2.2
    by_cases hlt : i < k.dn
    · obtain ⟨j, hij⟩ : ∃ j, i = j + 1 := ⟨i - 1, by omega⟩
      obtain ⟨a9, c9, e9, hc⟩ := HRD.out
      simp only [Value.slice.injEq, true_and] at e9
      obtain ⟨rfl, rfl⟩ := e9
      obtain ⟨g, o, rfl, _, _, hc⟩ := hc.resolve_left (fun e => by omega)
      obtain ⟨x1, y1, _, e0, _⟩ := hc i hlt
      obtain ⟨x2, y2, _, f0, _⟩ := hc j (by omega)
      have g0 := Below.cellS HI.out.1 (Nat.le_of_eq HS.out) e0
      have g1 := Below.cellS HI.out.1 (Nat.le_of_eq HS.out) f0
      have HIJ : Hid (i = j + 1) := hij
      have hk1 : ((i : Int) - 1) = (j : Int) := by omega
      have hjd : j < k.dn := by omega
      have hwj : IntKind.i64.wrap (j : Int) = (j : Int) := by simp [IntKind.wrap, IntKind.bits, IntKind.signed]; omega
      have HT : Hid (Op.bytesLess (k.ky i).toList (k.ky j).toList = true → odB k = false) := fun h => by
        unfold odB
        have h8 : soB k.dn k.ky = false := by
          rw [Bool.eq_false_iff]
          intro ht
          have h7 := soB_iff.1 ht j (by have := HIJ.out; omega)
          rw [← HIJ.out, h] at h7
          cases h7
        rw [h8, Bool.and_false]
      have HJ : Hid (Op.bytesLess (k.ky i).toList (k.ky j).toList = false → ∀ (j' : Nat), j' + 1 < i + 1 → Op.bytesLess (k.ky (j' + 1)).toList (k.ky j').toList = false) := fun h j' hj' => by
        by_cases he : j' = j
        · subst he
          rw [← HIJ.out]
          exact h
        · exact HI.out.2.2 j' (by have := HIJ.out; omega)
      clear hc e0 f0 hij hi2
      go_wp2
      refine wp_region_held_drew (S := (fun u => u.cell? ⟨H, 36, none⟩ = some (.slice (some ⟨g, o, none⟩) k.dn mc) ∧ u.cell? ⟨g, o + i * 6, none⟩ = some (.string (k.ky i)) ∧ u.cell? ⟨g, o + j * 6, none⟩ = some (.string (k.ky j)))) (by kernel_rfl) (⟨c36, g0, g1⟩) (fun hHeld => ?_)
      refine wpAnyH_take (i := 0) (v := .pointer (some ⟨H, 36, none⟩)) rfl (by kernel_rfl) (by kernel_rfl) (by kernel_rfl) (fun _ _ _ h => h) (Or.inl ⟨by rfl, fun w hw => by go_simp⟩) hHeld ?_
      simp only [Act.put, List.getElem_toArray, List.getElem_cons_zero, List.setIfInBounds_toArray, List.set_cons_zero, List.set_cons_succ]
      refine wpAnyH_take (i := 1) (v := .slice (some ⟨g, o, none⟩) k.dn mc) rfl (by kernel_rfl) (by kernel_rfl) (by kernel_rfl) (fun _ _ _ h => h) (Or.inl ⟨by rfl, fun w hw => by obtain ⟨f0, f1, f2⟩ := hw; go_simp⟩) hHeld ?_
      simp only [Act.put, List.getElem_toArray, List.getElem_cons_zero, List.getElem_cons_succ, List.setIfInBounds_toArray, List.set_cons_zero, List.set_cons_succ]
      refine wpAnyH_take (i := 2) (v := .int .i64 (i : Int)) rfl (by kernel_rfl) (by kernel_rfl) (by kernel_rfl) (fun _ _ _ h => h) (Or.inl ⟨by rfl, fun w hw => by go_simp⟩) hHeld ?_
      simp only [Act.put, List.getElem_toArray, List.getElem_cons_zero, List.getElem_cons_succ, List.setIfInBounds_toArray, List.set_cons_zero, List.set_cons_succ]
      refine wpAnyH_take (i := 3) (v := .pointer (some ⟨g, o + i * 6, none⟩)) rfl (by kernel_rfl) (by kernel_rfl) (by kernel_rfl) (fun _ _ _ h => h) (Or.inl ⟨by rfl, fun w hw => by go_simp⟩) hHeld ?_
      simp only [Act.put, List.getElem_toArray, List.getElem_cons_zero, List.getElem_cons_succ, List.setIfInBounds_toArray, List.set_cons_zero, List.set_cons_succ]
      refine wpAnyH_take (i := 4) (v := .pointer (some ⟨g, o + i * 6, none⟩)) rfl (by kernel_rfl) (by kernel_rfl) (by kernel_rfl) (fun _ _ _ h => h) (Or.inl ⟨by rfl, fun w hw => by go_simp⟩) hHeld ?_
      simp only [Act.put, List.getElem_toArray, List.getElem_cons_zero, List.getElem_cons_succ, List.setIfInBounds_toArray, List.set_cons_zero, List.set_cons_succ]
      refine wpAnyH_take (i := 5) (v := .string (k.ky i)) rfl (by kernel_rfl) (by kernel_rfl) (by kernel_rfl) (fun _ _ _ h => h) (Or.inl ⟨by rfl, fun w hw => by obtain ⟨f0, f1, f2⟩ := hw; go_simp⟩) hHeld ?_
      simp only [Act.put, List.getElem_toArray, List.getElem_cons_zero, List.getElem_cons_succ, List.setIfInBounds_toArray, List.set_cons_zero, List.set_cons_succ]
      refine wpAnyH_take (i := 6) (v := .pointer (some ⟨H, 36, none⟩)) rfl (by kernel_rfl) (by kernel_rfl) (by kernel_rfl) (fun _ _ _ h => h) (Or.inl ⟨by rfl, fun w hw => by go_simp⟩) hHeld ?_
      simp only [Act.put, List.getElem_toArray, List.getElem_cons_zero, List.getElem_cons_succ, List.setIfInBounds_toArray, List.set_cons_zero, List.set_cons_succ]
      refine wpAnyH_take (i := 7) (v := .slice (some ⟨g, o, none⟩) k.dn mc) rfl (by kernel_rfl) (by kernel_rfl) (by kernel_rfl) (fun _ _ _ h => h) (Or.inl ⟨by rfl, fun w hw => by obtain ⟨f0, f1, f2⟩ := hw; go_simp⟩) hHeld ?_
      simp only [Act.put, List.getElem_toArray, List.getElem_cons_zero, List.getElem_cons_succ, List.setIfInBounds_toArray, List.set_cons_zero, List.set_cons_succ]
      refine wpAnyH_take (i := 8) (v := .int .i64 (i : Int)) rfl (by kernel_rfl) (by kernel_rfl) (by kernel_rfl) (fun _ _ _ h => h) (Or.inl ⟨by rfl, fun w hw => by go_simp⟩) hHeld ?_
      simp only [Act.put, List.getElem_toArray, List.getElem_cons_zero, List.getElem_cons_succ, List.setIfInBounds_toArray, List.set_cons_zero, List.set_cons_succ]
      refine wpAnyH_take (i := 9) (v := .int .i64 (j : Int)) rfl (by kernel_rfl) (by kernel_rfl) (by kernel_rfl) (fun _ _ _ h => h) (Or.inl ⟨by rfl, fun w hw => by go_simp⟩) hHeld ?_
      simp only [Act.put, List.getElem_toArray, List.getElem_cons_zero, List.getElem_cons_succ, List.setIfInBounds_toArray, List.set_cons_zero, List.set_cons_succ]
      refine wpAnyH_take (i := 10) (v := .pointer (some ⟨g, o + j * 6, none⟩)) rfl (by kernel_rfl) (by kernel_rfl) (by kernel_rfl) (fun _ _ _ h => h) (Or.inl ⟨by rfl, fun w hw => by go_simp⟩) hHeld ?_
      simp only [Act.put, List.getElem_toArray, List.getElem_cons_zero, List.getElem_cons_succ, List.setIfInBounds_toArray, List.set_cons_zero, List.set_cons_succ]
      refine wpAnyH_take (i := 11) (v := .pointer (some ⟨g, o + j * 6, none⟩)) rfl (by kernel_rfl) (by kernel_rfl) (by kernel_rfl) (fun _ _ _ h => h) (Or.inl ⟨by rfl, fun w hw => by go_simp⟩) hHeld ?_
      simp only [Act.put, List.getElem_toArray, List.getElem_cons_zero, List.getElem_cons_succ, List.setIfInBounds_toArray, List.set_cons_zero, List.set_cons_succ]
      refine wpAnyH_take (i := 12) (v := .string (k.ky j)) rfl (by kernel_rfl) (by kernel_rfl) (by kernel_rfl) (fun _ _ _ h => h) (Or.inl ⟨by rfl, fun w hw => by obtain ⟨f0, f1, f2⟩ := hw; go_simp⟩) hHeld ?_
      simp only [Act.put, List.getElem_toArray, List.getElem_cons_zero, List.getElem_cons_succ, List.setIfInBounds_toArray, List.set_cons_zero, List.set_cons_succ]
      refine wpAnyH_take (i := 13) (v := .bool (Op.bytesLess (k.ky i).toList (k.ky j).toList)) rfl (by kernel_rfl) (by kernel_rfl) (by kernel_rfl) (fun _ _ _ h => h) (Or.inl ⟨by rfl, fun w hw => by go_simp⟩) hHeld ?_
      simp only [Act.put, List.getElem_toArray, List.getElem_cons_zero, List.getElem_cons_succ, List.setIfInBounds_toArray, List.set_cons_zero, List.set_cons_succ]
      refine wpAnyH_done (by kernel_rfl) ?_ _
      clear hHeld
      have HD : Hid (Below H w wr.drew ∧ LB wr.drew H k.l k.nm tr pe on (.slice (some ⟨g, o, none⟩) k.dn mc)) := ⟨HI.out.1.trans ⟨rfl, rfl, rfl, Nat.le_refl _, fun _ _ => rfl⟩, HI.out.2.1⟩
      generalize Op.bytesLess (k.ky i).toList (k.ky j).toList = q at *
      clear HI c36 g0 g1
      generalize wr.drew = wd at *
      cases q with
      | true =>
        have HE := Lib.hid (ck_order HQ1.out (HT.out rfl))
        clear HT HJ
        go_wp2
        go_ret
        exact ⟨ret_i HE.out.symm, HS.out ▸ HD.out.1⟩
      | false =>
        have HK := Lib.hid (HJ.out rfl)
        clear HT HJ
        go_wp2
        exact ⟨⟨i + 1, by omega, .inl (by omega), by go_num, HD.out.1, HD.out.2, HK.out⟩, by simp [intOf]; omega⟩
    · have HOD : Hid (odB k = true) := by
        have h9 : odB k = true := by
          unfold odB
          rw [HQ2.out, Bool.true_and]
          exact soB_iff.2 fun j hj => HI.out.2.2 j (by omega)
        exact h9
      have HW3 := Lib.hid (And.intro HI.out.1 HI.out.2.1)
      obtain ⟨c32, c33, c34, c35, _⟩ := HI.out.2.1.cells hl
      clear HI HQ2
      go_wp2_with fail
      refine (rtwice tr k.ts _ (HA.out.2.2.2 _ HW3.out.1).1.1 HA.out.1.ts.1 HCC.out.2.1).mono ?_
      rintro e w4 ⟨rfl, nq1, hw4⟩
      have HW4 : Hid (Below H w w4 ∧ LB w4 H k.l k.nm tr pe on (.slice ma k.dn mc)) := by
        rw [hw4]
        exact ⟨HW3.out.1.trans ((below_drewN wr nq1).mono (by have := HW3.out.2.lt; omega)), HW3.out.2⟩
      clear hw4 HW3 c32 c33 c34 c35 c36
      obtain ⟨c32, c33, c34, c35, c36⟩ := HW4.out.2.cells hl
      go_wp2_with fail
      refine (rtwice pe k.ps _ (HA.out.2.2.2 _ HW4.out.1).1.2.1 HA.out.1.ps.1 HCC.out.2.2).mono ?_
      rintro e w5 ⟨rfl, nq2, hw5⟩
      have HW5 : Hid (Below H w w5 ∧ LB w5 H k.l k.nm tr pe on (.slice ma k.dn mc)) := by
        rw [hw5]
        exact ⟨HW4.out.1.trans ((below_drewN w4 nq2).mono (by have := HW4.out.2.lt; omega)), HW4.out.2⟩
      clear hw5 HW4 c32 c33 c34 c35 c36
      have HDB : Hid (dbB k = (mdB k.dn k.ky || (twB k.ts || twB k.ps))) := by
        have h9 : dbB k = (mdB k.dn k.ky || (twB k.ts || twB k.ps)) := by unfold dbB; rw [ht_tw, ht_tw]
        exact h9
      generalize twB k.ts = q1 at *
      generalize twB k.ps = q2 at *
      cases hqq : (q1 || q2) with
      | true =>
        have HE := Lib.hid (ck_twice HQ1.out HOD.out (show dbB k = true by rw [HDB.out, hqq, Bool.or_true]))
        cases q1 with
        | true =>
          go_wp2
          go_ret
          exact ⟨ret_i HE.out.symm, HS.out ▸ HW5.out.1⟩
        | false =>
          cases q2 with
          | true =>
            go_wp2
            go_ret
            exact ⟨ret_i HE.out.symm, HS.out ▸ HW5.out.1⟩
          | false => cases hqq
      | false =>
      have HDB2 : Hid (dbB k = mdB k.dn k.ky) := by
        have h9 : dbB k = mdB k.dn k.ky := by rw [HDB.out, hqq, Bool.or_false]
        exact h9
      obtain rfl : q1 = false := by cases q1 with | true => cases hqq | false => rfl
      obtain rfl : q2 = false := by cases q2 with | true => cases hqq | false => rfl
      clear hqq HDB
      have a36 := (HW5.out.2.cells hl).2.2.2.2
      go_wp2
      clear a36
      go_loopw [7] (fun t wr => ∃ i : Nat, i ≤ k.dn ∧ t = .int .i64 i ∧ Hid (Below H w wr ∧ LB wr H k.l k.nm tr pe on (.slice ma k.dn mc) ∧ ∀ (j : Nat), j < i → (!(kdR (k.ky j) == 5) || (decide (0 < j) && (k.ky j).toList == (k.ky (j - 1)).toList)) = false)) (fun t _ => k.dn - (intOf t).toNat)
      case atStart => exact ⟨0, Nat.zero_le _, rfl, HW5.out.1, HW5.out.2, fun j hj => absurd hj (Nat.not_lt_zero _)⟩
      case round =>
        clear HW5
        obtain ⟨i, hi, rfl, HI⟩ := hrel
        have c36 := (HI.out.2.1.cells hl).2.2.2.2
        by_cases hlt : i < k.dn
        · obtain ⟨a9, c9, e9, hc⟩ := HRD.out
          simp only [Value.slice.injEq, true_and] at e9
          obtain ⟨rfl, rfl⟩ := e9
          obtain ⟨g, o, rfl, _, _, hc⟩ := hc.resolve_left (fun e => by omega)
          obtain ⟨x1, y1, _, e0, _⟩ := hc i hlt
          have g0 := Below.cellS HI.out.1 (Nat.le_of_eq HS.out) e0
          have HPV : Hid (∀ j, i = j + 1 → wr.cell? ⟨g, o + j * 6, none⟩ = some (.string (k.ky j))) := fun j hj => by
            obtain ⟨x2, y2, _, f0, _⟩ := hc j (by omega)
            exact Below.cellS HI.out.1 (Nat.le_of_eq HS.out) f0
          have HT : Hid ((!(kdR (k.ky i) == 5) || (decide (0 < i) && (k.ky i).toList == (k.ky (i - 1)).toList)) = true → dbB k = true) := fun hid => by
            rw [HDB2.out]
            exact List.any_eq_true.2 ⟨i, List.mem_range.2 hlt, hid⟩
          have HJ : Hid ((!(kdR (k.ky i) == 5) || (decide (0 < i) && (k.ky i).toList == (k.ky (i - 1)).toList)) = false → ∀ (j : Nat), j < i + 1 → (!(kdR (k.ky j) == 5) || (decide (0 < j) && (k.ky j).toList == (k.ky (j - 1)).toList)) = false) := fun hid j hj => by
            rcases Nat.lt_succ_iff_lt_or_eq.1 hj with h | rfl
            · exact HI.out.2.2 j h
            · exact hid
          have HWI := Lib.hid (And.intro HI.out.1 HI.out.2.1)
          have HKR : Hid (kdR (k.ky i) ≤ 5) := kd_le (k.ky i)
          obtain ⟨z, hz⟩ : ∃ z : Int, z = ((kdR (k.ky i) : Nat) : Int) := ⟨_, rfl⟩
          have HKO : Hid (∀ u : World, Calls Tryz.prog 19 #[.string (k.ky i)] u fun e w' => e = .returned (.int .i64 z) ∧ w' = u) := fun u => by
            have h9 := rkind (k.ky i) u
            rw [Nat.add_zero, ← hz] at h9
            exact h9
          have HZ : Hid (z = ((kdR (k.ky i) : Nat) : Int)) := hz
          clear hz hc e0 HI
          go_upto_region 19 with fail
          by_cases hz5 : z = 5
          · have HK5 : Hid (kdR (k.ky i) = 5) := (show kdR (k.ky i) = 5 by have h9 := HZ.out; omega)
            subst hz5
            by_cases hi0 : i = 0
            · have HK := Lib.hid (HJ.out (by rw [HK5.out, hi0]; rfl))
              have HII : Hid ((i : Int) = 0) := (show (i : Int) = 0 by omega)
              have HI0 : Hid (i = 0) := hi0
              clear HJ HT hi0
              refine wp_region_held_drew (S := (fun u => u.cell? ⟨H, 36, none⟩ = some (.slice (some ⟨g, o, none⟩) k.dn mc) ∧ u.cell? ⟨g, o + i * 6, none⟩ = some (.string (k.ky i)))) (by kernel_rfl) (⟨c36, g0⟩) (fun hHeld => ?_)
              refine wpAnyH_take (i := 0) (v := .pointer (some ⟨H, 36, none⟩)) rfl (by kernel_rfl) (by kernel_rfl) (by kernel_rfl) (fun _ _ _ h => h) (Or.inl ⟨by rfl, fun w hw => by go_simp⟩) hHeld ?_
              simp only [Act.put, List.getElem_toArray, List.getElem_cons_zero, List.setIfInBounds_toArray, List.set_cons_zero, List.set_cons_succ]
              refine wpAnyH_take (i := 1) (v := .slice (some ⟨g, o, none⟩) k.dn mc) rfl (by kernel_rfl) (by kernel_rfl) (by kernel_rfl) (fun _ _ _ h => h) (Or.inl ⟨by rfl, fun w hw => by obtain ⟨f0, f1⟩ := hw; go_simp⟩) hHeld ?_
              simp only [Act.put, List.getElem_toArray, List.getElem_cons_zero, List.getElem_cons_succ, List.setIfInBounds_toArray, List.set_cons_zero, List.set_cons_succ]
              refine wpAnyH_take (i := 2) (v := .int .i64 (i : Int)) rfl (by kernel_rfl) (by kernel_rfl) (by kernel_rfl) (fun _ _ _ h => h) (Or.inl ⟨by rfl, fun w hw => by go_simp⟩) hHeld ?_
              simp only [Act.put, List.getElem_toArray, List.getElem_cons_zero, List.getElem_cons_succ, List.setIfInBounds_toArray, List.set_cons_zero, List.set_cons_succ]
              refine wpAnyH_take (i := 3) (v := .pointer (some ⟨g, o + i * 6, none⟩)) rfl (by kernel_rfl) (by kernel_rfl) (by kernel_rfl) (fun _ _ _ h => h) (Or.inl ⟨by rfl, fun w hw => by go_simp⟩) hHeld ?_
              simp only [Act.put, List.getElem_toArray, List.getElem_cons_zero, List.getElem_cons_succ, List.setIfInBounds_toArray, List.set_cons_zero, List.set_cons_succ]
              refine wpAnyH_take (i := 4) (v := .pointer (some ⟨g, o + i * 6, none⟩)) rfl (by kernel_rfl) (by kernel_rfl) (by kernel_rfl) (fun _ _ _ h => h) (Or.inl ⟨by rfl, fun w hw => by go_simp⟩) hHeld ?_
              simp only [Act.put, List.getElem_toArray, List.getElem_cons_zero, List.getElem_cons_succ, List.setIfInBounds_toArray, List.set_cons_zero, List.set_cons_succ]
              refine wpAnyH_take (i := 5) (v := .string (k.ky i)) rfl (by kernel_rfl) (by kernel_rfl) (by kernel_rfl) (fun _ _ _ h => h) (Or.inl ⟨by rfl, fun w hw => by obtain ⟨f0, f1⟩ := hw; go_simp⟩) hHeld ?_
              simp only [Act.put, List.getElem_toArray, List.getElem_cons_zero, List.getElem_cons_succ, List.setIfInBounds_toArray, List.set_cons_zero, List.set_cons_succ]
              refine wpAnyH_ready (rs := [6]) (by kernel_rfl) (by simp) ?_
              refine AllReadyH.cons (o := _) rfl (fun K hK => ?_) AllReadyH.nil
              go_simp
              refine (HKO.out _).mono ?_
              rintro en w1 ⟨rfl, rfl⟩
              go_wp2_with fail
              refine hK.out _ _ ⟨c36, g0⟩ (fun hHeld => ?_)
              clear hK K
              refine wpAnyH_take (i := 7) (v := .bool false) rfl (by kernel_rfl) (by kernel_rfl) (by kernel_rfl) (fun _ _ _ h => h) (Or.inl ⟨by rfl, fun w hw => by go_simp⟩) hHeld ?_
              simp only [Act.put, List.getElem_toArray, List.getElem_cons_zero, List.getElem_cons_succ, List.setIfInBounds_toArray, List.set_cons_zero, List.set_cons_succ]
              refine wpAnyH_take (i := 8) (v := .bool false) rfl (by kernel_rfl) (by kernel_rfl) (by kernel_rfl) (fun _ _ _ h => h) (Or.inl ⟨by rfl, fun w hw => by go_simp⟩) hHeld ?_
              simp only [Act.put, List.getElem_toArray, List.getElem_cons_zero, List.getElem_cons_succ, List.setIfInBounds_toArray, List.set_cons_zero, List.set_cons_succ]
              refine wpAnyH_take (i := 9) (v := .int .i64 (i : Int)) rfl (by kernel_rfl) (by kernel_rfl) (by kernel_rfl) (fun _ _ _ h => h) (Or.inl ⟨by rfl, fun w hw => by go_simp⟩) hHeld ?_
              simp only [Act.put, List.getElem_toArray, List.getElem_cons_zero, List.getElem_cons_succ, List.setIfInBounds_toArray, List.set_cons_zero, List.set_cons_succ]
              refine wpAnyH_take (i := 10) (v := .bool false) rfl (by kernel_rfl) (by kernel_rfl) (by kernel_rfl) (fun _ _ _ h => h) (Or.inl ⟨by rfl, fun w hw => by (have hii := HII.out; go_simp)⟩) hHeld ?_
              simp only [Act.put, List.getElem_toArray, List.getElem_cons_zero, List.getElem_cons_succ, List.setIfInBounds_toArray, List.set_cons_zero, List.set_cons_succ]
              refine wpAnyH_take (i := 11) (v := .bool false) rfl (by kernel_rfl) (by kernel_rfl) (by kernel_rfl) (fun _ _ _ h => h) (Or.inl ⟨by rfl, fun w hw => by go_simp⟩) hHeld ?_
              simp only [Act.put, List.getElem_toArray, List.getElem_cons_zero, List.getElem_cons_succ, List.setIfInBounds_toArray, List.set_cons_zero, List.set_cons_succ]
              refine wpAnyH_take (i := 12) (v := undef) rfl (by kernel_rfl) (by kernel_rfl) (by kernel_rfl) (fun _ _ _ h => h) (Or.inr ⟨by rfl, rfl⟩) hHeld ?_
              simp only [Act.put, List.getElem_toArray, List.getElem_cons_zero, List.getElem_cons_succ, List.setIfInBounds_toArray, List.set_cons_zero, List.set_cons_succ]
              refine wpAnyH_take (i := 13) (v := undef) rfl (by kernel_rfl) (by kernel_rfl) (by kernel_rfl) (fun _ _ _ h => h) (Or.inr ⟨by rfl, rfl⟩) hHeld ?_
              simp only [Act.put, List.getElem_toArray, List.getElem_cons_zero, List.getElem_cons_succ, List.setIfInBounds_toArray, List.set_cons_zero, List.set_cons_succ]
              refine wpAnyH_take (i := 14) (v := undef) rfl (by kernel_rfl) (by kernel_rfl) (by kernel_rfl) (fun _ _ _ h => h) (Or.inr ⟨by rfl, rfl⟩) hHeld ?_
              simp only [Act.put, List.getElem_toArray, List.getElem_cons_zero, List.getElem_cons_succ, List.setIfInBounds_toArray, List.set_cons_zero, List.set_cons_succ]
              refine wpAnyH_take (i := 15) (v := undef) rfl (by kernel_rfl) (by kernel_rfl) (by kernel_rfl) (fun _ _ _ h => h) (Or.inr ⟨by rfl, rfl⟩) hHeld ?_
              simp only [Act.put, List.getElem_toArray, List.getElem_cons_zero, List.getElem_cons_succ, List.setIfInBounds_toArray, List.set_cons_zero, List.set_cons_succ]
              refine wpAnyH_take (i := 16) (v := undef) rfl (by kernel_rfl) (by kernel_rfl) (by kernel_rfl) (fun _ _ _ h => h) (Or.inr ⟨by rfl, rfl⟩) hHeld ?_
              simp only [Act.put, List.getElem_toArray, List.getElem_cons_zero, List.getElem_cons_succ, List.setIfInBounds_toArray, List.set_cons_zero, List.set_cons_succ]
              refine wpAnyH_take (i := 17) (v := undef) rfl (by kernel_rfl) (by kernel_rfl) (by kernel_rfl) (fun _ _ _ h => h) (Or.inr ⟨by rfl, rfl⟩) hHeld ?_
              simp only [Act.put, List.getElem_toArray, List.getElem_cons_zero, List.getElem_cons_succ, List.setIfInBounds_toArray, List.set_cons_zero, List.set_cons_succ]
              refine wpAnyH_take (i := 18) (v := undef) rfl (by kernel_rfl) (by kernel_rfl) (by kernel_rfl) (fun _ _ _ h => h) (Or.inr ⟨by rfl, rfl⟩) hHeld ?_
              simp only [Act.put, List.getElem_toArray, List.getElem_cons_zero, List.getElem_cons_succ, List.setIfInBounds_toArray, List.set_cons_zero, List.set_cons_succ]
              refine wpAnyH_take (i := 19) (v := undef) rfl (by kernel_rfl) (by kernel_rfl) (by kernel_rfl) (fun _ _ _ h => h) (Or.inr ⟨by rfl, rfl⟩) hHeld ?_
              simp only [Act.put, List.getElem_toArray, List.getElem_cons_zero, List.getElem_cons_succ, List.setIfInBounds_toArray, List.set_cons_zero, List.set_cons_succ]
              refine wpAnyH_take (i := 20) (v := undef) rfl (by kernel_rfl) (by kernel_rfl) (by kernel_rfl) (fun _ _ _ h => h) (Or.inr ⟨by rfl, rfl⟩) hHeld ?_
              simp only [Act.put, List.getElem_toArray, List.getElem_cons_zero, List.getElem_cons_succ, List.setIfInBounds_toArray, List.set_cons_zero, List.set_cons_succ]
              refine wpAnyH_take (i := 21) (v := undef) rfl (by kernel_rfl) (by kernel_rfl) (by kernel_rfl) (fun _ _ _ h => h) (Or.inr ⟨by rfl, rfl⟩) hHeld ?_
              simp only [Act.put, List.getElem_toArray, List.getElem_cons_zero, List.getElem_cons_succ, List.setIfInBounds_toArray, List.set_cons_zero, List.set_cons_succ]
              refine wpAnyH_take (i := 22) (v := undef) rfl (by kernel_rfl) (by kernel_rfl) (by kernel_rfl) (fun _ _ _ h => h) (Or.inr ⟨by rfl, rfl⟩) hHeld ?_
              simp only [Act.put, List.getElem_toArray, List.getElem_cons_zero, List.getElem_cons_succ, List.setIfInBounds_toArray, List.set_cons_zero, List.set_cons_succ]
              refine wpAnyH_take (i := 23) (v := undef) rfl (by kernel_rfl) (by kernel_rfl) (by kernel_rfl) (fun _ _ _ h => h) (Or.inr ⟨by rfl, rfl⟩) hHeld ?_
              simp only [Act.put, List.getElem_toArray, List.getElem_cons_zero, List.getElem_cons_succ, List.setIfInBounds_toArray, List.set_cons_zero, List.set_cons_succ]
              refine wpAnyH_take (i := 24) (v := undef) rfl (by kernel_rfl) (by kernel_rfl) (by kernel_rfl) (fun _ _ _ h => h) (Or.inr ⟨by rfl, rfl⟩) hHeld ?_
              simp only [Act.put, List.getElem_toArray, List.getElem_cons_zero, List.getElem_cons_succ, List.setIfInBounds_toArray, List.set_cons_zero, List.set_cons_succ]
              refine wpAnyH_take (i := 25) (v := undef) rfl (by kernel_rfl) (by kernel_rfl) (by kernel_rfl) (fun _ _ _ h => h) (Or.inr ⟨by rfl, rfl⟩) hHeld ?_
              simp only [Act.put, List.getElem_toArray, List.getElem_cons_zero, List.getElem_cons_succ, List.setIfInBounds_toArray, List.set_cons_zero, List.set_cons_succ]
              refine wpAnyH_take (i := 26) (v := .bool false) rfl (by kernel_rfl) (by kernel_rfl) (by kernel_rfl) (fun _ _ _ h => h) (Or.inl ⟨by rfl, fun w hw => by go_simp⟩) hHeld ?_
              simp only [Act.put, List.getElem_toArray, List.getElem_cons_zero, List.getElem_cons_succ, List.setIfInBounds_toArray, List.set_cons_zero, List.set_cons_succ]
              refine wpAnyH_take (i := 27) (v := .bool false) rfl (by kernel_rfl) (by kernel_rfl) (by kernel_rfl) (fun _ _ _ h => h) (Or.inl ⟨by rfl, fun w hw => by go_simp⟩) hHeld ?_
              simp only [Act.put, List.getElem_toArray, List.getElem_cons_zero, List.getElem_cons_succ, List.setIfInBounds_toArray, List.set_cons_zero, List.set_cons_succ]
              refine wpAnyH_done (by kernel_rfl) ?_ _
              clear hHeld
              have HD : Hid (Below H w wr.drew ∧ LB wr.drew H k.l k.nm tr pe on (.slice (some ⟨g, o, none⟩) k.dn mc)) := ⟨HWI.out.1.trans ⟨rfl, rfl, rfl, Nat.le_refl _, fun _ _ => rfl⟩, HWI.out.2⟩
              clear HWI c36 g0 HPV HKO
              generalize wr.drew = wd at *
              go_wp2
              exact ⟨⟨i + 1, by omega, by go_num, HD.out.1, HD.out.2, HK.out⟩, by simp [intOf]; omega⟩
            · obtain ⟨j, hij⟩ : ∃ j, i = j + 1 := ⟨i - 1, by omega⟩
              have g1 := HPV.out j hij
              have hpos : 0 < i := by omega
              have hk1 : ((i : Int) - 1) = (j : Int) := by omega
              have hjd : j < k.dn := by omega
              have hwj : IntKind.i64.wrap (j : Int) = (j : Int) := by simp [IntKind.wrap, IntKind.bits, IntKind.signed]; omega
              have hij2 : i - 1 = j := by omega
              rw [hij2] at HJ HT
              have HP : Hid (0 < i) := hpos
              clear hij hij2 hi0
              refine wp_region_held_drew (S := (fun u => u.cell? ⟨H, 36, none⟩ = some (.slice (some ⟨g, o, none⟩) k.dn mc) ∧ u.cell? ⟨g, o + i * 6, none⟩ = some (.string (k.ky i)) ∧ u.cell? ⟨g, o + j * 6, none⟩ = some (.string (k.ky j)))) (by kernel_rfl) (⟨c36, g0, g1⟩) (fun hHeld => ?_)
              refine wpAnyH_take (i := 0) (v := .pointer (some ⟨H, 36, none⟩)) rfl (by kernel_rfl) (by kernel_rfl) (by kernel_rfl) (fun _ _ _ h => h) (Or.inl ⟨by rfl, fun w hw => by go_simp⟩) hHeld ?_
              simp only [Act.put, List.getElem_toArray, List.getElem_cons_zero, List.setIfInBounds_toArray, List.set_cons_zero, List.set_cons_succ]
              refine wpAnyH_take (i := 1) (v := .slice (some ⟨g, o, none⟩) k.dn mc) rfl (by kernel_rfl) (by kernel_rfl) (by kernel_rfl) (fun _ _ _ h => h) (Or.inl ⟨by rfl, fun w hw => by obtain ⟨f0, f1, f2⟩ := hw; go_simp⟩) hHeld ?_
              simp only [Act.put, List.getElem_toArray, List.getElem_cons_zero, List.getElem_cons_succ, List.setIfInBounds_toArray, List.set_cons_zero, List.set_cons_succ]
              refine wpAnyH_take (i := 2) (v := .int .i64 (i : Int)) rfl (by kernel_rfl) (by kernel_rfl) (by kernel_rfl) (fun _ _ _ h => h) (Or.inl ⟨by rfl, fun w hw => by go_simp⟩) hHeld ?_
              simp only [Act.put, List.getElem_toArray, List.getElem_cons_zero, List.getElem_cons_succ, List.setIfInBounds_toArray, List.set_cons_zero, List.set_cons_succ]
              refine wpAnyH_take (i := 3) (v := .pointer (some ⟨g, o + i * 6, none⟩)) rfl (by kernel_rfl) (by kernel_rfl) (by kernel_rfl) (fun _ _ _ h => h) (Or.inl ⟨by rfl, fun w hw => by go_simp⟩) hHeld ?_
              simp only [Act.put, List.getElem_toArray, List.getElem_cons_zero, List.getElem_cons_succ, List.setIfInBounds_toArray, List.set_cons_zero, List.set_cons_succ]
              refine wpAnyH_take (i := 4) (v := .pointer (some ⟨g, o + i * 6, none⟩)) rfl (by kernel_rfl) (by kernel_rfl) (by kernel_rfl) (fun _ _ _ h => h) (Or.inl ⟨by rfl, fun w hw => by go_simp⟩) hHeld ?_
              simp only [Act.put, List.getElem_toArray, List.getElem_cons_zero, List.getElem_cons_succ, List.setIfInBounds_toArray, List.set_cons_zero, List.set_cons_succ]
              refine wpAnyH_take (i := 5) (v := .string (k.ky i)) rfl (by kernel_rfl) (by kernel_rfl) (by kernel_rfl) (fun _ _ _ h => h) (Or.inl ⟨by rfl, fun w hw => by obtain ⟨f0, f1, f2⟩ := hw; go_simp⟩) hHeld ?_
              simp only [Act.put, List.getElem_toArray, List.getElem_cons_zero, List.getElem_cons_succ, List.setIfInBounds_toArray, List.set_cons_zero, List.set_cons_succ]
              refine wpAnyH_ready (rs := [6]) (by kernel_rfl) (by simp) ?_
              refine AllReadyH.cons (o := _) rfl (fun K hK => ?_) AllReadyH.nil
              go_simp
              refine (HKO.out _).mono ?_
              rintro en w1 ⟨rfl, rfl⟩
              go_wp2_with fail
              refine hK.out _ _ ⟨c36, g0, g1⟩ (fun hHeld => ?_)
              clear hK K
              refine wpAnyH_take (i := 7) (v := .bool false) rfl (by kernel_rfl) (by kernel_rfl) (by kernel_rfl) (fun _ _ _ h => h) (Or.inl ⟨by rfl, fun w hw => by go_simp⟩) hHeld ?_
              simp only [Act.put, List.getElem_toArray, List.getElem_cons_zero, List.getElem_cons_succ, List.setIfInBounds_toArray, List.set_cons_zero, List.set_cons_succ]
              refine wpAnyH_take (i := 8) (v := .bool false) rfl (by kernel_rfl) (by kernel_rfl) (by kernel_rfl) (fun _ _ _ h => h) (Or.inl ⟨by rfl, fun w hw => by go_simp⟩) hHeld ?_
              simp only [Act.put, List.getElem_toArray, List.getElem_cons_zero, List.getElem_cons_succ, List.setIfInBounds_toArray, List.set_cons_zero, List.set_cons_succ]
              refine wpAnyH_take (i := 9) (v := .int .i64 (i : Int)) rfl (by kernel_rfl) (by kernel_rfl) (by kernel_rfl) (fun _ _ _ h => h) (Or.inl ⟨by rfl, fun w hw => by go_simp⟩) hHeld ?_
              simp only [Act.put, List.getElem_toArray, List.getElem_cons_zero, List.getElem_cons_succ, List.setIfInBounds_toArray, List.set_cons_zero, List.set_cons_succ]
              refine wpAnyH_take (i := 10) (v := .bool true) rfl (by kernel_rfl) (by kernel_rfl) (by kernel_rfl) (fun _ _ _ h => h) (Or.inl ⟨by rfl, fun w hw => by go_simp⟩) hHeld ?_
              simp only [Act.put, List.getElem_toArray, List.getElem_cons_zero, List.getElem_cons_succ, List.setIfInBounds_toArray, List.set_cons_zero, List.set_cons_succ]
              refine wpAnyH_take (i := 11) (v := .bool true) rfl (by kernel_rfl) (by kernel_rfl) (by kernel_rfl) (fun _ _ _ h => h) (Or.inl ⟨by rfl, fun w hw => by go_simp⟩) hHeld ?_
              simp only [Act.put, List.getElem_toArray, List.getElem_cons_zero, List.getElem_cons_succ, List.setIfInBounds_toArray, List.set_cons_zero, List.set_cons_succ]
              refine wpAnyH_take (i := 12) (v := .pointer (some ⟨H, 36, none⟩)) rfl (by kernel_rfl) (by kernel_rfl) (by kernel_rfl) (fun _ _ _ h => h) (Or.inl ⟨by rfl, fun w hw => by go_simp⟩) hHeld ?_
              simp only [Act.put, List.getElem_toArray, List.getElem_cons_zero, List.getElem_cons_succ, List.setIfInBounds_toArray, List.set_cons_zero, List.set_cons_succ]
              refine wpAnyH_take (i := 13) (v := .slice (some ⟨g, o, none⟩) k.dn mc) rfl (by kernel_rfl) (by kernel_rfl) (by kernel_rfl) (fun _ _ _ h => h) (Or.inl ⟨by rfl, fun w hw => by obtain ⟨f0, f1, f2⟩ := hw; go_simp⟩) hHeld ?_
              simp only [Act.put, List.getElem_toArray, List.getElem_cons_zero, List.getElem_cons_succ, List.setIfInBounds_toArray, List.set_cons_zero, List.set_cons_succ]
              refine wpAnyH_take (i := 14) (v := .int .i64 (i : Int)) rfl (by kernel_rfl) (by kernel_rfl) (by kernel_rfl) (fun _ _ _ h => h) (Or.inl ⟨by rfl, fun w hw => by go_simp⟩) hHeld ?_
              simp only [Act.put, List.getElem_toArray, List.getElem_cons_zero, List.getElem_cons_succ, List.setIfInBounds_toArray, List.set_cons_zero, List.set_cons_succ]
              refine wpAnyH_take (i := 15) (v := .pointer (some ⟨g, o + i * 6, none⟩)) rfl (by kernel_rfl) (by kernel_rfl) (by kernel_rfl) (fun _ _ _ h => h) (Or.inl ⟨by rfl, fun w hw => by go_simp⟩) hHeld ?_
              simp only [Act.put, List.getElem_toArray, List.getElem_cons_zero, List.getElem_cons_succ, List.setIfInBounds_toArray, List.set_cons_zero, List.set_cons_succ]
              refine wpAnyH_take (i := 16) (v := .pointer (some ⟨g, o + i * 6, none⟩)) rfl (by kernel_rfl) (by kernel_rfl) (by kernel_rfl) (fun _ _ _ h => h) (Or.inl ⟨by rfl, fun w hw => by go_simp⟩) hHeld ?_
              simp only [Act.put, List.getElem_toArray, List.getElem_cons_zero, List.getElem_cons_succ, List.setIfInBounds_toArray, List.set_cons_zero, List.set_cons_succ]
              refine wpAnyH_take (i := 17) (v := .string (k.ky i)) rfl (by kernel_rfl) (by kernel_rfl) (by kernel_rfl) (fun _ _ _ h => h) (Or.inl ⟨by rfl, fun w hw => by obtain ⟨f0, f1, f2⟩ := hw; go_simp⟩) hHeld ?_
              simp only [Act.put, List.getElem_toArray, List.getElem_cons_zero, List.getElem_cons_succ, List.setIfInBounds_toArray, List.set_cons_zero, List.set_cons_succ]
              refine wpAnyH_take (i := 18) (v := .pointer (some ⟨H, 36, none⟩)) rfl (by kernel_rfl) (by kernel_rfl) (by kernel_rfl) (fun _ _ _ h => h) (Or.inl ⟨by rfl, fun w hw => by go_simp⟩) hHeld ?_
              simp only [Act.put, List.getElem_toArray, List.getElem_cons_zero, List.getElem_cons_succ, List.setIfInBounds_toArray, List.set_cons_zero, List.set_cons_succ]
              refine wpAnyH_take (i := 19) (v := .slice (some ⟨g, o, none⟩) k.dn mc) rfl (by kernel_rfl) (by kernel_rfl) (by kernel_rfl) (fun _ _ _ h => h) (Or.inl ⟨by rfl, fun w hw => by obtain ⟨f0, f1, f2⟩ := hw; go_simp⟩) hHeld ?_
              simp only [Act.put, List.getElem_toArray, List.getElem_cons_zero, List.getElem_cons_succ, List.setIfInBounds_toArray, List.set_cons_zero, List.set_cons_succ]
              refine wpAnyH_take (i := 20) (v := .int .i64 (i : Int)) rfl (by kernel_rfl) (by kernel_rfl) (by kernel_rfl) (fun _ _ _ h => h) (Or.inl ⟨by rfl, fun w hw => by go_simp⟩) hHeld ?_
              simp only [Act.put, List.getElem_toArray, List.getElem_cons_zero, List.getElem_cons_succ, List.setIfInBounds_toArray, List.set_cons_zero, List.set_cons_succ]
              refine wpAnyH_take (i := 21) (v := .int .i64 (j : Int)) rfl (by kernel_rfl) (by kernel_rfl) (by kernel_rfl) (fun _ _ _ h => h) (Or.inl ⟨by rfl, fun w hw => by go_simp⟩) hHeld ?_
              simp only [Act.put, List.getElem_toArray, List.getElem_cons_zero, List.getElem_cons_succ, List.setIfInBounds_toArray, List.set_cons_zero, List.set_cons_succ]
              refine wpAnyH_take (i := 22) (v := .pointer (some ⟨g, o + j * 6, none⟩)) rfl (by kernel_rfl) (by kernel_rfl) (by kernel_rfl) (fun _ _ _ h => h) (Or.inl ⟨by rfl, fun w hw => by go_simp⟩) hHeld ?_
              simp only [Act.put, List.getElem_toArray, List.getElem_cons_zero, List.getElem_cons_succ, List.setIfInBounds_toArray, List.set_cons_zero, List.set_cons_succ]
              refine wpAnyH_take (i := 23) (v := .pointer (some ⟨g, o + j * 6, none⟩)) rfl (by kernel_rfl) (by kernel_rfl) (by kernel_rfl) (fun _ _ _ h => h) (Or.inl ⟨by rfl, fun w hw => by go_simp⟩) hHeld ?_
              simp only [Act.put, List.getElem_toArray, List.getElem_cons_zero, List.getElem_cons_succ, List.setIfInBounds_toArray, List.set_cons_zero, List.set_cons_succ]
              refine wpAnyH_take (i := 24) (v := .string (k.ky j)) rfl (by kernel_rfl) (by kernel_rfl) (by kernel_rfl) (fun _ _ _ h => h) (Or.inl ⟨by rfl, fun w hw => by obtain ⟨f0, f1, f2⟩ := hw; go_simp⟩) hHeld ?_
              simp only [Act.put, List.getElem_toArray, List.getElem_cons_zero, List.getElem_cons_succ, List.setIfInBounds_toArray, List.set_cons_zero, List.set_cons_succ]
              refine wpAnyH_take (i := 25) (v := .bool ((k.ky i).toList == (k.ky j).toList)) rfl (by kernel_rfl) (by kernel_rfl) (by kernel_rfl) (fun _ _ _ h => h) (Or.inl ⟨by rfl, fun w hw => by go_simp⟩) hHeld ?_
              simp only [Act.put, List.getElem_toArray, List.getElem_cons_zero, List.getElem_cons_succ, List.setIfInBounds_toArray, List.set_cons_zero, List.set_cons_succ]
              refine wpAnyH_take (i := 26) (v := .bool ((k.ky i).toList == (k.ky j).toList)) rfl (by kernel_rfl) (by kernel_rfl) (by kernel_rfl) (fun _ _ _ h => h) (Or.inl ⟨by rfl, fun w hw => by go_simp⟩) hHeld ?_
              simp only [Act.put, List.getElem_toArray, List.getElem_cons_zero, List.getElem_cons_succ, List.setIfInBounds_toArray, List.set_cons_zero, List.set_cons_succ]
              refine wpAnyH_take (i := 27) (v := .bool ((k.ky i).toList == (k.ky j).toList)) rfl (by kernel_rfl) (by kernel_rfl) (by kernel_rfl) (fun _ _ _ h => h) (Or.inl ⟨by rfl, fun w hw => by go_simp⟩) hHeld ?_
              simp only [Act.put, List.getElem_toArray, List.getElem_cons_zero, List.getElem_cons_succ, List.setIfInBounds_toArray, List.set_cons_zero, List.set_cons_succ]
              refine wpAnyH_done (by kernel_rfl) ?_ _
              clear hHeld
              have HD : Hid (Below H w wr.drew ∧ LB wr.drew H k.l k.nm tr pe on (.slice (some ⟨g, o, none⟩) k.dn mc)) := ⟨HWI.out.1.trans ⟨rfl, rfl, rfl, Nat.le_refl _, fun _ _ => rfl⟩, HWI.out.2⟩
              clear HWI c36 g0 g1 HPV HKO
              generalize wr.drew = wd at *
              generalize hqq : ((k.ky i).toList == (k.ky j).toList) = q at *
              clear hqq
              cases q with
              | true =>
                have HE := Lib.hid (ck_twice HQ1.out HOD.out (HT.out (by rw [HK5.out, decide_eq_true HP.out]; rfl)))
                clear HT HJ
                go_wp2
                go_ret
                exact ⟨ret_i HE.out.symm, HS.out ▸ HD.out.1⟩
              | false =>
                have HK := Lib.hid (HJ.out (by rw [HK5.out]; simp))
                clear HT HJ
                go_wp2
                exact ⟨⟨i + 1, by omega, by go_num, HD.out.1, HD.out.2, HK.out⟩, by simp [intOf]; omega⟩
          · have HE := Lib.hid (ck_twice HQ1.out HOD.out (HT.out (by
              have h8 : kdR (k.ky i) ≠ 5 := fun h => hz5 (by rw [HZ.out, h]; rfl)
              simp [h8])))
            have hz4 : z < 5 := by have h9 := HZ.out; have h8 := HKR.out; omega
            clear HT HJ hz5
            refine wp_region_held_drew (S := (fun u => u.cell? ⟨H, 36, none⟩ = some (.slice (some ⟨g, o, none⟩) k.dn mc) ∧ u.cell? ⟨g, o + i * 6, none⟩ = some (.string (k.ky i)))) (by kernel_rfl) (⟨c36, g0⟩) (fun hHeld => ?_)
            refine wpAnyH_take (i := 0) (v := .pointer (some ⟨H, 36, none⟩)) rfl (by kernel_rfl) (by kernel_rfl) (by kernel_rfl) (fun _ _ _ h => h) (Or.inl ⟨by rfl, fun w hw => by go_simp⟩) hHeld ?_
            simp only [Act.put, List.getElem_toArray, List.getElem_cons_zero, List.setIfInBounds_toArray, List.set_cons_zero, List.set_cons_succ]
            refine wpAnyH_take (i := 1) (v := .slice (some ⟨g, o, none⟩) k.dn mc) rfl (by kernel_rfl) (by kernel_rfl) (by kernel_rfl) (fun _ _ _ h => h) (Or.inl ⟨by rfl, fun w hw => by obtain ⟨f0, f1⟩ := hw; go_simp⟩) hHeld ?_
            simp only [Act.put, List.getElem_toArray, List.getElem_cons_zero, List.getElem_cons_succ, List.setIfInBounds_toArray, List.set_cons_zero, List.set_cons_succ]
            refine wpAnyH_take (i := 2) (v := .int .i64 (i : Int)) rfl (by kernel_rfl) (by kernel_rfl) (by kernel_rfl) (fun _ _ _ h => h) (Or.inl ⟨by rfl, fun w hw => by go_simp⟩) hHeld ?_
            simp only [Act.put, List.getElem_toArray, List.getElem_cons_zero, List.getElem_cons_succ, List.setIfInBounds_toArray, List.set_cons_zero, List.set_cons_succ]
            refine wpAnyH_take (i := 3) (v := .pointer (some ⟨g, o + i * 6, none⟩)) rfl (by kernel_rfl) (by kernel_rfl) (by kernel_rfl) (fun _ _ _ h => h) (Or.inl ⟨by rfl, fun w hw => by go_simp⟩) hHeld ?_
            simp only [Act.put, List.getElem_toArray, List.getElem_cons_zero, List.getElem_cons_succ, List.setIfInBounds_toArray, List.set_cons_zero, List.set_cons_succ]
            refine wpAnyH_take (i := 4) (v := .pointer (some ⟨g, o + i * 6, none⟩)) rfl (by kernel_rfl) (by kernel_rfl) (by kernel_rfl) (fun _ _ _ h => h) (Or.inl ⟨by rfl, fun w hw => by go_simp⟩) hHeld ?_
            simp only [Act.put, List.getElem_toArray, List.getElem_cons_zero, List.getElem_cons_succ, List.setIfInBounds_toArray, List.set_cons_zero, List.set_cons_succ]
            refine wpAnyH_take (i := 5) (v := .string (k.ky i)) rfl (by kernel_rfl) (by kernel_rfl) (by kernel_rfl) (fun _ _ _ h => h) (Or.inl ⟨by rfl, fun w hw => by obtain ⟨f0, f1⟩ := hw; go_simp⟩) hHeld ?_
            simp only [Act.put, List.getElem_toArray, List.getElem_cons_zero, List.getElem_cons_succ, List.setIfInBounds_toArray, List.set_cons_zero, List.set_cons_succ]
            refine wpAnyH_ready (rs := [6]) (by kernel_rfl) (by simp) ?_
            refine AllReadyH.cons (o := _) rfl (fun K hK => ?_) AllReadyH.nil
            go_simp
            refine (HKO.out _).mono ?_
            rintro en w1 ⟨rfl, rfl⟩
            go_wp2_with fail
            refine hK.out _ _ ⟨c36, g0⟩ (fun hHeld => ?_)
            clear hK K
            refine wpAnyH_take (i := 7) (v := .bool true) rfl (by kernel_rfl) (by kernel_rfl) (by kernel_rfl) (fun _ _ _ h => h) (Or.inl ⟨by rfl, fun w hw => by go_simp⟩) hHeld ?_
            simp only [Act.put, List.getElem_toArray, List.getElem_cons_zero, List.getElem_cons_succ, List.setIfInBounds_toArray, List.set_cons_zero, List.set_cons_succ]
            refine wpAnyH_take (i := 8) (v := .bool true) rfl (by kernel_rfl) (by kernel_rfl) (by kernel_rfl) (fun _ _ _ h => h) (Or.inl ⟨by rfl, fun w hw => by go_simp⟩) hHeld ?_
            simp only [Act.put, List.getElem_toArray, List.getElem_cons_zero, List.getElem_cons_succ, List.setIfInBounds_toArray, List.set_cons_zero, List.set_cons_succ]
            refine wpAnyH_take (i := 9) (v := undef) rfl (by kernel_rfl) (by kernel_rfl) (by kernel_rfl) (fun _ _ _ h => h) (Or.inr ⟨by rfl, rfl⟩) hHeld ?_
            simp only [Act.put, List.getElem_toArray, List.getElem_cons_zero, List.getElem_cons_succ, List.setIfInBounds_toArray, List.set_cons_zero, List.set_cons_succ]
            refine wpAnyH_take (i := 10) (v := undef) rfl (by kernel_rfl) (by kernel_rfl) (by kernel_rfl) (fun _ _ _ h => h) (Or.inr ⟨by rfl, rfl⟩) hHeld ?_
            simp only [Act.put, List.getElem_toArray, List.getElem_cons_zero, List.getElem_cons_succ, List.setIfInBounds_toArray, List.set_cons_zero, List.set_cons_succ]
            refine wpAnyH_take (i := 11) (v := undef) rfl (by kernel_rfl) (by kernel_rfl) (by kernel_rfl) (fun _ _ _ h => h) (Or.inr ⟨by rfl, rfl⟩) hHeld ?_
            simp only [Act.put, List.getElem_toArray, List.getElem_cons_zero, List.getElem_cons_succ, List.setIfInBounds_toArray, List.set_cons_zero, List.set_cons_succ]
            refine wpAnyH_take (i := 12) (v := undef) rfl (by kernel_rfl) (by kernel_rfl) (by kernel_rfl) (fun _ _ _ h => h) (Or.inr ⟨by rfl, rfl⟩) hHeld ?_
            simp only [Act.put, List.getElem_toArray, List.getElem_cons_zero, List.getElem_cons_succ, List.setIfInBounds_toArray, List.set_cons_zero, List.set_cons_succ]
            refine wpAnyH_take (i := 13) (v := undef) rfl (by kernel_rfl) (by kernel_rfl) (by kernel_rfl) (fun _ _ _ h => h) (Or.inr ⟨by rfl, rfl⟩) hHeld ?_
            simp only [Act.put, List.getElem_toArray, List.getElem_cons_zero, List.getElem_cons_succ, List.setIfInBounds_toArray, List.set_cons_zero, List.set_cons_succ]
            refine wpAnyH_take (i := 14) (v := undef) rfl (by kernel_rfl) (by kernel_rfl) (by kernel_rfl) (fun _ _ _ h => h) (Or.inr ⟨by rfl, rfl⟩) hHeld ?_
            simp only [Act.put, List.getElem_toArray, List.getElem_cons_zero, List.getElem_cons_succ, List.setIfInBounds_toArray, List.set_cons_zero, List.set_cons_succ]
            refine wpAnyH_take (i := 15) (v := undef) rfl (by kernel_rfl) (by kernel_rfl) (by kernel_rfl) (fun _ _ _ h => h) (Or.inr ⟨by rfl, rfl⟩) hHeld ?_
            simp only [Act.put, List.getElem_toArray, List.getElem_cons_zero, List.getElem_cons_succ, List.setIfInBounds_toArray, List.set_cons_zero, List.set_cons_succ]
            refine wpAnyH_take (i := 16) (v := undef) rfl (by kernel_rfl) (by kernel_rfl) (by kernel_rfl) (fun _ _ _ h => h) (Or.inr ⟨by rfl, rfl⟩) hHeld ?_
            simp only [Act.put, List.getElem_toArray, List.getElem_cons_zero, List.getElem_cons_succ, List.setIfInBounds_toArray, List.set_cons_zero, List.set_cons_succ]
            refine wpAnyH_take (i := 17) (v := undef) rfl (by kernel_rfl) (by kernel_rfl) (by kernel_rfl) (fun _ _ _ h => h) (Or.inr ⟨by rfl, rfl⟩) hHeld ?_
            simp only [Act.put, List.getElem_toArray, List.getElem_cons_zero, List.getElem_cons_succ, List.setIfInBounds_toArray, List.set_cons_zero, List.set_cons_succ]
            refine wpAnyH_take (i := 18) (v := undef) rfl (by kernel_rfl) (by kernel_rfl) (by kernel_rfl) (fun _ _ _ h => h) (Or.inr ⟨by rfl, rfl⟩) hHeld ?_
            simp only [Act.put, List.getElem_toArray, List.getElem_cons_zero, List.getElem_cons_succ, List.setIfInBounds_toArray, List.set_cons_zero, List.set_cons_succ]
            refine wpAnyH_take (i := 19) (v := undef) rfl (by kernel_rfl) (by kernel_rfl) (by kernel_rfl) (fun _ _ _ h => h) (Or.inr ⟨by rfl, rfl⟩) hHeld ?_
            simp only [Act.put, List.getElem_toArray, List.getElem_cons_zero, List.getElem_cons_succ, List.setIfInBounds_toArray, List.set_cons_zero, List.set_cons_succ]
            refine wpAnyH_take (i := 20) (v := undef) rfl (by kernel_rfl) (by kernel_rfl) (by kernel_rfl) (fun _ _ _ h => h) (Or.inr ⟨by rfl, rfl⟩) hHeld ?_
            simp only [Act.put, List.getElem_toArray, List.getElem_cons_zero, List.getElem_cons_succ, List.setIfInBounds_toArray, List.set_cons_zero, List.set_cons_succ]
            refine wpAnyH_take (i := 21) (v := undef) rfl (by kernel_rfl) (by kernel_rfl) (by kernel_rfl) (fun _ _ _ h => h) (Or.inr ⟨by rfl, rfl⟩) hHeld ?_
            simp only [Act.put, List.getElem_toArray, List.getElem_cons_zero, List.getElem_cons_succ, List.setIfInBounds_toArray, List.set_cons_zero, List.set_cons_succ]
            refine wpAnyH_take (i := 22) (v := undef) rfl (by kernel_rfl) (by kernel_rfl) (by kernel_rfl) (fun _ _ _ h => h) (Or.inr ⟨by rfl, rfl⟩) hHeld ?_
            simp only [Act.put, List.getElem_toArray, List.getElem_cons_zero, List.getElem_cons_succ, List.setIfInBounds_toArray, List.set_cons_zero, List.set_cons_succ]
            refine wpAnyH_take (i := 23) (v := undef) rfl (by kernel_rfl) (by kernel_rfl) (by kernel_rfl) (fun _ _ _ h => h) (Or.inr ⟨by rfl, rfl⟩) hHeld ?_
            simp only [Act.put, List.getElem_toArray, List.getElem_cons_zero, List.getElem_cons_succ, List.setIfInBounds_toArray, List.set_cons_zero, List.set_cons_succ]
            refine wpAnyH_take (i := 24) (v := undef) rfl (by kernel_rfl) (by kernel_rfl) (by kernel_rfl) (fun _ _ _ h => h) (Or.inr ⟨by rfl, rfl⟩) hHeld ?_
            simp only [Act.put, List.getElem_toArray, List.getElem_cons_zero, List.getElem_cons_succ, List.setIfInBounds_toArray, List.set_cons_zero, List.set_cons_succ]
            refine wpAnyH_take (i := 25) (v := undef) rfl (by kernel_rfl) (by kernel_rfl) (by kernel_rfl) (fun _ _ _ h => h) (Or.inr ⟨by rfl, rfl⟩) hHeld ?_
            simp only [Act.put, List.getElem_toArray, List.getElem_cons_zero, List.getElem_cons_succ, List.setIfInBounds_toArray, List.set_cons_zero, List.set_cons_succ]
            refine wpAnyH_take (i := 26) (v := undef) rfl (by kernel_rfl) (by kernel_rfl) (by kernel_rfl) (fun _ _ _ h => h) (Or.inr ⟨by rfl, rfl⟩) hHeld ?_
            simp only [Act.put, List.getElem_toArray, List.getElem_cons_zero, List.getElem_cons_succ, List.setIfInBounds_toArray, List.set_cons_zero, List.set_cons_succ]
            refine wpAnyH_take (i := 27) (v := .bool true) rfl (by kernel_rfl) (by kernel_rfl) (by kernel_rfl) (fun _ _ _ h => h) (Or.inl ⟨by rfl, fun w hw => by go_simp⟩) hHeld ?_
            simp only [Act.put, List.getElem_toArray, List.getElem_cons_zero, List.getElem_cons_succ, List.setIfInBounds_toArray, List.set_cons_zero, List.set_cons_succ]
            refine wpAnyH_done (by kernel_rfl) ?_ _
            clear hHeld
            have HD : Hid (Below H w wr.drew ∧ LB wr.drew H k.l k.nm tr pe on (.slice (some ⟨g, o, none⟩) k.dn mc)) := ⟨HWI.out.1.trans ⟨rfl, rfl, rfl, Nat.le_refl _, fun _ _ => rfl⟩, HWI.out.2⟩
            clear HWI c36 g0 HPV HKO
            generalize wr.drew = wd at *
            go_wp2
            go_ret
            exact ⟨ret_i HE.out.symm, HS.out ▸ HD.out.1⟩
        · obtain rfl : i = k.dn := by omega
          have HDF : Hid (dbB k = false) := by
            have h9 : dbB k = false := by
              rw [HDB2.out, mdB, List.any_eq_false]
              intro j hj
              simp only [HI.out.2.2 j (List.mem_range.1 hj), Bool.false_eq_true, not_false_eq_true]
            exact h9
          have HW6 := Lib.hid (And.intro HI.out.1 HI.out.2.1)
          have HTX := Lib.hid (rtext k tr pe on (.slice ma k.dn mc) wr HA.out.1 HA.out.2.1 HCC.out.1 HAL.out HRS.out (HA.out.2.2.2 wr HI.out.1).2 (HA.out.2.2.2 wr HI.out.1).1)
          clear HI HDB2
          go_wp2_with (first | (refine load_link_if rfl _ rfl H rfl HW6.out.2 hl ?_))
          refine HTX.out.mono ?_
          rintro e w7 ⟨rfl, b1⟩
          have HW7 : Hid (Below H w w7) := HW6.out.1.trans (b1.mono (by have := HW6.out.2.lt; omega))
          clear b1 HW6 HTX
          have hzs := bs_size (wS (prm k))
          by_cases hz : 4096 < (wS (prm k)).length
          · have HE := Lib.hid (ck_long HQ1.out HOD.out HDF.out hz)
            have hz1 : 4096 < (bs (wS (prm k))).size := by rw [hzs]; exact hz
            generalize bs (wS (prm k)) = tx at *
            clear hz hzs
            go_wp2
            go_ret
            exact ⟨ret_i HE.out.symm, HS.out ▸ HW7.out⟩
          · have HE := Lib.hid (ck_ok HQ1.out HOD.out HDF.out hz)
            have hz1 : ¬ 4096 < (bs (wS (prm k))).size := by rw [hzs]; exact hz
            generalize bs (wS (prm k)) = tx at *
            clear hz hzs
            go_wp2
            go_ret
            exact ⟨ret_i HE.out.symm, HS.out ▸ HW7.out⟩
end Go.Proofs.YtjfgpplomldeiaaGreatDoor
