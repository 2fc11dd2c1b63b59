import Derived.Test.YtldkecjfjcnkfaaCopyA
namespace Go.Proofs.Ytldkecjfjcnkfaa
open Go.RowKit Go.Deep
set_option maxHeartbeats 2000000 in
theorem copy8 (t : T) : CC t := by
  induction t with
  | no => intro x y w _ _ h; exact h.elim
  | mk k n s ln l dn ky dv il id =>
    intro x y w hok hsm hr
    obtain ⟨ok1, ok2, ok3, ok4, ok5⟩ := hok
    obtain ⟨sm1, sm2, sm3, sm4⟩ := hsm
    obtain ⟨⟨a, ca, rfl, hL⟩, ⟨a', ca', rfl, hD⟩⟩ := hr
    obtain ⟨i0, hi, hz0, hz1, hz2⟩ := info_parts info25
    show Calls Try.prog 28 #[.agg #[.int .i64 k, .int .i64 n, .string s, .slice a ln ca, .slice a' dn ca']] w _
    go_enter Try.func28, Try.ntmps28
    go_wp2
    have HI : Hid ((∀ i, CC (l i)) ∧ (∀ i, CC (dv i)) ∧ (∀ i, i < ln → (l i).ok ∧ (l i).small) ∧ (∀ i, i < dn → (dv i).ok ∧ (dv i).small) ∧
        (ln = 0 ∨ ∃ b o, a = some ⟨b, o, none⟩ ∧ True ∧ b < w.heap.size ∧ ∀ i, i < ln → ∃ x' y', RV (fun _ => True) w (l i) x' y' ∧ five w b (o + i * 5) (l i) x' y') ∧
        (dn = 0 ∨ ∃ b o, a' = some ⟨b, o, none⟩ ∧ True ∧ b < w.heap.size ∧ ∀ i, i < dn → ∃ x' y', RV (fun _ => True) w (dv i) x' y' ∧ w.cell? ⟨b, o + i * 6, none⟩ = some (.string (ky i)) ∧ five w b (o + i * 6 + 1) (dv i) x' y')) :=
      ⟨il, id, fun i hi => ⟨ok4 i hi, sm3 i hi⟩, fun i hi => ⟨(ok5 i hi).2, sm4 i hi⟩, hL, hD⟩
    clear il id ok4 ok5 sm3 sm4 hL hD
    have HC : Hid (CInv w.heap.size w (((w.alloc (Obj.cells #[.int .i64 k, .int .i64 n, .string s, .slice a ln ca, .slice a' dn ca'] 56)).alloc (Obj.cells #[.int .i64 0, .int .i64 0, .string { data := #[] }, .slice .none 0 0, .slice .none 0 0] 56)).alloc (Obj.cells #[.int .i64 k, .int .i64 n, .string s, .slice .none 0 0, .slice .none 0 0] 56)) k n s (.slice a ln ca) (.slice a' dn ca') (.slice .none 0 0) (.slice .none 0 0)) := by
      refine ⟨(((Below.refl _ _).alloc (Nat.le_refl _) _).alloc (by simp) _).alloc (by simp; omega) _, ?_, ?_, ?_⟩
      · exact (Below.heap_alloc _ _ _ (by simp; omega)).trans ((Below.heap_alloc _ _ _ (by simp)).trans (heap_new _ _))
      · exact (Below.heap_alloc _ _ _ (by simp)).trans (by have := heap_new (w.alloc (Obj.cells #[.int .i64 k, .int .i64 n, .string s, .slice a ln ca, .slice a' dn ca'] 56)) (Obj.cells #[.int .i64 0, .int .i64 0, .string { data := #[] }, .slice .none 0 0, .slice .none 0 0] 56); simpa using this)
      · have := heap_new ((w.alloc (Obj.cells #[.int .i64 k, .int .i64 n, .string s, .slice a ln ca, .slice a' dn ca'] 56)).alloc (Obj.cells #[.int .i64 0, .int .i64 0, .string { data := #[] }, .slice .none 0 0, .slice .none 0 0] 56)) (Obj.cells #[.int .i64 k, .int .i64 n, .string s, .slice .none 0 0, .slice .none 0 0] 56)
        simpa [obj] using this
    generalize (((w.alloc (Obj.cells #[.int .i64 k, .int .i64 n, .string s, .slice a ln ca, .slice a' dn ca'] 56)).alloc (Obj.cells #[.int .i64 0, .int .i64 0, .string { data := #[] }, .slice .none 0 0, .slice .none 0 0] 56)).alloc (Obj.cells #[.int .i64 k, .int .i64 n, .string s, .slice .none 0 0, .slice .none 0 0] 56)) = w0 at *
    generalize hvb : w.heap.size = H at *
    have HS : Hid (w.heap.size = H) := hvb
    clear hvb
    go_loopw [4] (fun i wr => ∃ (j : Nat) (lv : Value), j ≤ ln ∧ i = .int .i64 j ∧ Hid (CInv H w wr k n s (.slice a ln ca) (.slice a' dn ca') lv (.slice .none 0 0) ∧ LInv (H + 3) wr l j lv)) (fun i _ => ln - (intOf i).toNat)
    case atStart => exact ⟨0, _, Nat.zero_le _, rfl, HC, fun _ => .slice .none 0 0, fun _ => .slice .none 0 0, World.ownsRow_nil _ _ _ _, fun i hi => absurd hi (Nat.not_lt_zero _)⟩
    case round =>
      clear HC
      obtain ⟨j, lv, hj, rfl, hinv⟩ := hrel
      have hc := hinv.out.1
      obtain ⟨_, _, _, c3, c4⟩ := hc.2.1.cells
      by_cases hlt : j < ln
      · obtain ⟨il, _, ok4, _, hL, _⟩ := HI.out
        rcases hL with h | ⟨b, o, rfl, _, hbl, hL⟩
        · omega
        obtain ⟨x1, y1, hv, g1, g2, g3, g4, g5⟩ := hL j hlt
        have hle : w.heap.size ≤ H := Nat.le_of_eq HS.out
        replace g1 := Below.cellS hc.1 hle g1
        replace g2 := Below.cellS hc.1 hle g2
        replace g3 := Below.cellS hc.1 hle g3
        replace g4 := Below.cellS hc.1 hle g4
        replace g5 := Below.cellS hc.1 hle g5
        have HV : Hid (CC (l j) ∧ ((l j).ok ∧ (l j).small) ∧ RV (fun _ => True) wr (l j) x1 y1) := ⟨il j, ok4 j hlt, Below.rv hc.1 hle hv⟩
        clear il ok4 hL hv hbl hle hc
        go_wp2_with fail
        refine (HV.out.1 x1 y1 wr HV.out.2.1.1 HV.out.2.1.2 HV.out.2.2).mono ?_
        rintro e w2 ⟨x2, y2, rfl, hrv, hb2⟩
        obtain ⟨hc, X, Y, hown, hel⟩ := hinv.out
        obtain ⟨la, lc, rfl⟩ := ownForm hown
        have hc2 := hc.keep HS.out hb2
        obtain ⟨d0, d1, d2, d3, d4⟩ := hc2.2.2.2.cells
        have df := hc2.2.2.2.frozen 3
        clear g1 g2 g3 g4 g5 HV
        obtain ⟨⟨xa, xn, xc, rfl⟩, ⟨ya, yn, yc, rfl⟩⟩ := hrv.slices
        have hlt3 : H + 3 ≤ wr.heap.size := by have := hc.2.2.2.lt; omega
        have hown2 := hown.kept (grown_of_below hb2) (by cases hv : (Value.slice la j lc).ownBlock with | none => exact .inl rfl | some k => exact .inr (by simp))
        have HQ : Hid (CInv H w wr k n s (.slice (some ⟨b, o, none⟩) ln ca) (.slice a' dn ca') (.slice la j lc) (.slice .none 0 0) ∧ CInv H w w2 k n s (.slice (some ⟨b, o, none⟩) ln ca) (.slice a' dn ca') (.slice la j lc) (.slice .none 0 0) ∧ RV (fun b => wr.heap.size ≤ b) w2 (l j) (.slice xa xn xc) (.slice ya yn yc) ∧ Below wr.heap.size wr w2 ∧ ∀ i, i < j → RV (fun b => H + 3 ≤ b ∧ (Value.slice la j lc).ownBlock ≠ some b) wr (l i) (X i) (Y i)) := ⟨hc, hc2, hrv, hb2, hel⟩
        clear hc hc2 hrv hel hinv
        have hsz2 := hb2.size
        clear hb2
        have d3' : ∀ ob, (w2.alloc ob).cell? ⟨H + 1 + 1, 3, none⟩ = some (.slice la j lc) := fun ob => cell_alloc_old d3
        clear c3 c4 d0 d1 d2 d4
        unfold vv
        go_wp2_with (at_builtin; refine wpList_append_lies _ rfl _ _ 54 rfl (H + 3) 56 i0 _ 5 80 Try.underlying54 hi hz0 hz1 hz2 rfl (by omega) (.slice la j lc) j (rowL l X Y j) rfl ((hown2.alloc _).alloc _) ⟨w2.heap.size + 1, 0, none⟩ 1 1 (cv (l j) (.slice xa xn xc) (.slice ya yn yc)) rfl rfl ?_ ?_ (by omega) (by unfold maxLen; omega) (by omega) (by simp; omega) (w2.heap.size + 1 + 1) (by simp) ?_)
        · exact World.news_of_block (B := w2.heap.size + 1) (by have := heap_new (w2.alloc (Obj.cells #[.int .i64 (l j).k, .int .i64 (l j).n, .string (l j).s, .slice xa xn xc, .slice ya yn yc] 56)) (Obj.cells #[.int .i64 (l j).k, .int .i64 (l j).n, .string (l j).s, .slice xa xn xc, .slice ya yn yc] 56); simpa using this)
        · intro u hu; simp [cv] at hu; rcases hu with rfl | rfl | rfl | rfl | rfl <;> rfl
        intro g cap w3 hown3 hgrow hat hlt3'
        have hWb : Below w2.heap.size w2 ((w2.alloc (Obj.cells #[.int .i64 (l j).k, .int .i64 (l j).n, .string (l j).s, .slice xa xn xc, .slice ya yn yc] 56)).alloc (Obj.cells #[.int .i64 (l j).k, .int .i64 (l j).n, .string (l j).s, .slice xa xn xc, .slice ya yn yc] 56)) := ((Below.refl _ _).alloc (Nat.le_refl _) _).alloc (by simp) _
        have hWs : ((w2.alloc (Obj.cells #[.int .i64 (l j).k, .int .i64 (l j).n, .string (l j).s, .slice xa xn xc, .slice ya yn yc] 56)).alloc (Obj.cells #[.int .i64 (l j).k, .int .i64 (l j).n, .string (l j).s, .slice xa xn xc, .slice ya yn yc] 56)).heap.size = w2.heap.size + 1 + 1 := by simp
        generalize ((w2.alloc (Obj.cells #[.int .i64 (l j).k, .int .i64 (l j).n, .string (l j).s, .slice xa xn xc, .slice ya yn yc] 56)).alloc (Obj.cells #[.int .i64 (l j).k, .int .i64 (l j).n, .string (l j).s, .slice xa xn xc, .slice ya yn yc] 56)) = W at *
        have HN : Hid (CInv H w (w3.setCell ⟨H + 1 + 1, 3, none⟩ (.slice (some ⟨g, 0, none⟩) (j + 1) cap)) k n s (.slice (some ⟨b, o, none⟩) ln ca) (.slice a' dn ca') (.slice (some ⟨g, 0, none⟩) (j + 1) cap) (.slice .none 0 0) ∧ LInv (H + 3) (w3.setCell ⟨H + 1 + 1, 3, none⟩ (.slice (some ⟨g, 0, none⟩) (j + 1) cap)) l (j + 1) (.slice (some ⟨g, 0, none⟩) (j + 1) cap)) ∧ w3.cell? ⟨H + 1 + 1, 3, none⟩ = some (.slice la j lc) ∧ w3.frozen? ⟨H + 1 + 1, 3, none⟩ = false := by
          obtain ⟨hc, hc2, hrv, hb2, hel⟩ := HQ.out
          have hlo := fun q (hq : (Value.slice la j lc).ownBlock = some q) => (hown.lt q hq)
          have blk : ∀ q, q < H + 3 → w3.heap[q]? = w2.heap[q]? := fun q hq =>
            (hgrow.block q (by omega) (fun e => by have := (hlo q e.symm).1; omega)).trans (hWb.block q (by omega))
          have st := rows_step (p := ⟨H + 1 + 1, 3, none⟩) (u := .slice (some ⟨g, 0, none⟩) (j + 1) cap) (n := j + 1) (cap := cap) hlt3 (fun q hq => (hlo q hq).2) hb2 hWb hgrow (by rw [hWs]; exact hat) (show H + 1 + 1 < H + 3 by omega)
          have o4 := hc2.2.2.2.keep (blk _ (by omega))
          refine ⟨⟨⟨?_, ?_, ?_, o4.set3 _⟩, upd X j (.slice xa xn xc), upd Y j (.slice ya yn yc), ?_, ?_⟩, o4.cells.2.2.2.1, o4.frozen 3⟩
          · exact ((hc2.1.trans (hWb.mono (by omega))).grown hgrow (by omega) (fun q hq => by have := (hlo q hq).1; omega)).setCell (by show H ≤ H + 1 + 1; omega) _
          · exact (hc2.2.1.keep (blk _ (by omega))).keep (Below.heap_setCell _ _ _ _ (by show H ≠ H + 1 + 1; omega))
          · exact (hc2.2.2.1.keep (blk _ (by omega))).keep (Below.heap_setCell _ _ _ _ (by show H + 1 ≠ H + 1 + 1; omega))
          · rw [rowL_succ]
            exact hown3.kept (grown_setCell _ _ _) (owns_ne hown3 (show H + 1 + 1 < H + 3 by omega))
          · intro i hi
            rcases Nat.lt_succ_iff_lt_or_eq.1 hi with h | rfl
            · rw [upd_lt h, upd_lt h]; exact st.1 _ _ _ (hel i h)
            · rw [upd_eq, upd_eq]; exact st.2 _ _ _ hrv
        obtain ⟨HN, m3, mf⟩ := HN
        clear HQ hown hown2 hown3 hgrow hat hlt3' hWb hWs d3 d3' df
        go_wp2
        go_roundw
        case rel => exact ⟨j + 1, _, by omega, by go_num, HN⟩
        case measure => simp [intOf]; omega
      · obtain rfl : j = ln := by omega
        have HL : Hid (LInv (H + 3) wr l j lv) := hinv.out.2
        have HC : Hid (CInv H w wr k n s (.slice a j ca) (.slice a' dn ca') lv (.slice .none 0 0)) := hinv.out.1
        have hlt3 : H + 3 ≤ wr.heap.size := by have := hc.2.2.2.lt; omega
        clear hinv hc hi hz0 hz1 hz2
        obtain ⟨i0, hi, hz0, hz1, hz2⟩ := info_parts info42
        go_wp2
        clear c3 c4
        rename World => w1
        go_loopw [6] (fun i w9 => ∃ (j2 : Nat) (dl : Value), j2 ≤ dn ∧ i = .int .i64 j2 ∧ Hid (CInv H w w9 k n s (.slice a j ca) (.slice a' dn ca') lv dl ∧ Besides (H + 1 + 1) w1 w9 ∧ DInv w1.heap.size w9 ky dv j2 dl)) (fun i _ => dn - (intOf i).toNat)
        case atStart => exact ⟨0, _, Nat.zero_le _, rfl, HC.out, Besides.refl _ _, fun _ => .slice .none 0 0, fun _ => .slice .none 0 0, World.ownsRow_nil _ _ _ _, fun i hi => absurd hi (Nat.not_lt_zero _)⟩
        case round =>
          clear HC
          obtain ⟨j2, dl, hj2, rfl, hinv⟩ := hrel
          have hc := hinv.out.1
          obtain ⟨_, _, _, _, c4⟩ := hc.2.1.cells
          by_cases hlt2 : j2 < dn
          · obtain ⟨_, id, _, ok5, _, hD⟩ := HI.out
            rcases hD with h | ⟨b, o, rfl, _, hbl, hD⟩
            · omega
            obtain ⟨x1, y1, hv, g0, g1, g2, g3, g4, g5⟩ := hD j2 hlt2
            have hle : w.heap.size ≤ H := Nat.le_of_eq HS.out
            replace g0 := Below.cellS hc.1 hle g0
            replace g1 := Below.cellS hc.1 hle g1
            replace g2 := Below.cellS hc.1 hle g2
            replace g3 := Below.cellS hc.1 hle g3
            replace g4 := Below.cellS hc.1 hle g4
            replace g5 := Below.cellS hc.1 hle g5
            have HV : Hid (CC (dv j2) ∧ ((dv j2).ok ∧ (dv j2).small) ∧ RV (fun _ => True) wr (dv j2) x1 y1) := ⟨id j2, ok5 j2 hlt2, Below.rv hc.1 hle hv⟩
            clear id ok5 hD hv hle hc
            go_wp2_with fail
            refine (HV.out.1 x1 y1 wr HV.out.2.1.1 HV.out.2.1.2 HV.out.2.2).mono ?_
            rintro e w2 ⟨x2, y2, rfl, hrv, hb2⟩
            obtain ⟨hc, hbs, X, Y, hown, hel⟩ := hinv.out
            obtain ⟨la, lc, rfl⟩ := ownForm hown
            have hc2 := hc.keep HS.out hb2
            obtain ⟨_, _, _, _, d4⟩ := hc2.2.2.2.cells
            obtain ⟨_, _, _, _, k4⟩ := hc2.2.1.cells
            have df := hc2.2.2.2.frozen 4
            have g0' := Below.cellS hb2 (Nat.le_refl _) g0
            obtain ⟨⟨xa, xn, xc, rfl⟩, ⟨ya, yn, yc, rfl⟩⟩ := hrv.slices
            have hlt4 : w1.heap.size ≤ wr.heap.size := hbs.size
            have hown2 := hown.kept (grown_of_below hb2) (by cases hv : (Value.slice la j2 lc).ownBlock with | none => exact .inl rfl | some q => exact .inr (by simp))
            have HQ : Hid (CInv H w wr k n s (.slice a j ca) (.slice (some ⟨b, o, none⟩) dn ca') lv (.slice la j2 lc) ∧ CInv H w w2 k n s (.slice a j ca) (.slice (some ⟨b, o, none⟩) dn ca') lv (.slice la j2 lc) ∧ RV (fun b => wr.heap.size ≤ b) w2 (dv j2) (.slice xa xn xc) (.slice ya yn yc) ∧ Below wr.heap.size wr w2 ∧ Besides (H + 1 + 1) w1 wr ∧ ∀ i, i < j2 → RV (fun b => w1.heap.size ≤ b ∧ (Value.slice la j2 lc).ownBlock ≠ some b) wr (dv i) (X i) (Y i)) := ⟨hc, hc2, hrv, hb2, hbs, hel⟩
            clear hc hc2 hrv hel hinv hbs g0 g1 g2 g3 g4 g5 c4 HV
            have hsz2 := hb2.size
            clear hb2
            unfold vv
            go_wp2_with fail
            have hx : obj (w2.alloc (Obj.cells #[.int .i64 (dv j2).k, .int .i64 (dv j2).n, .string (dv j2).s, .slice xa xn xc, .slice ya yn yc] 56)) w2.heap.size (.int .i64 (dv j2).k) (.int .i64 (dv j2).n) (.string (dv j2).s) (.slice xa xn xc) (.slice ya yn yc) := heap_new _ _
            have d4_ := d4
            replace d4 := cell_alloc_old (o := (Obj.cells #[.int .i64 (dv j2).k, .int .i64 (dv j2).n, .string (dv j2).s, .slice xa xn xc, .slice ya yn yc] 56)) d4
            replace df := (frozen_alloc_old (o := (Obj.cells #[.int .i64 (dv j2).k, .int .i64 (dv j2).n, .string (dv j2).s, .slice xa xn xc, .slice ya yn yc] 56)) d4_).trans df
            replace k4 := cell_alloc_old (o := (Obj.cells #[.int .i64 (dv j2).k, .int .i64 (dv j2).n, .string (dv j2).s, .slice xa xn xc, .slice ya yn yc] 56)) k4
            replace g0' := cell_alloc_old (o := (Obj.cells #[.int .i64 (dv j2).k, .int .i64 (dv j2).n, .string (dv j2).s, .slice xa xn xc, .slice ya yn yc] 56)) g0'
            have hown3 := hown2.alloc (Obj.cells #[.int .i64 (dv j2).k, .int .i64 (dv j2).n, .string (dv j2).s, .slice xa xn xc, .slice ya yn yc] 56)
            have hB3 : Below w2.heap.size w2 (w2.alloc (Obj.cells #[.int .i64 (dv j2).k, .int .i64 (dv j2).n, .string (dv j2).s, .slice xa xn xc, .slice ya yn yc] 56)) := (Below.refl _ _).alloc (Nat.le_refl _) _
            obtain ⟨hx0, hx1, hx2, hx3, hx4⟩ := hx.cells
            generalize w2.alloc (Obj.cells #[.int .i64 (dv j2).k, .int .i64 (dv j2).n, .string (dv j2).s, .slice xa xn xc, .slice ya yn yc] 56) = w3 at *
            clear hx hown2 d4_
            have hne0 : some (H + 1 + 1) ≠ (Value.slice la j2 lc).ownBlock := fun e => by have := (hown3.lt _ e.symm).1; omega
            have Hne : Hid (some (H + 1 + 1) ≠ (Value.slice la j2 lc).ownBlock) := hne0
            clear hne0
            have hj0 : (0 : Int) ≤ (j2 : Int) := by omega
            have hj1 : (j2 : Int) < (dn : Int) := by omega
            have d4' : ∀ ob, (w3.alloc ob).cell? ⟨H + 1 + 1, 4, none⟩ = some (.slice la j2 lc) := fun ob => cell_alloc_old d4
            go_region_law (refine step_append_lies _ (by rfl) (.tmp 49) (.tmp 58) 33 (by rfl) w1.heap.size 59 i0 _ 6 96 Try.underlying33 hi hz0 hz1 hz2 rfl (by omega) (.slice la j2 lc) j2 (rowD ky dv X Y j2) (by simp [Act.eval]) (by exact (hown3.alloc _)) ⟨w3.heap.size, 0, none⟩ 1 1 (.string (ky j2) :: cv (dv j2) (.slice xa xn xc) (.slice ya yn yc)) (by simp [Act.eval]) rfl (by exact World.news_of_block (B := w3.heap.size) (heap_new w3 _)) (by intro u hu; simp [cv] at hu; rcases hu with rfl | rfl | rfl | rfl | rfl | rfl <;> rfl) (by omega) (by unfold maxLen; omega) (by omega) (by have := hB3.size; simp; omega) (w3.heap.size + 1) (by simp) ?_; intro g cap w4 hown4 hgrow hat hlt4'; have m4 := grown_cell hgrow (p := ⟨H + 1 + 1, 4, none⟩) (cell_alloc_old d4) Hne.out; have mf := grown_frozen hgrow (p := ⟨H + 1 + 1, 4, none⟩) (cell_alloc_old d4) ((frozen_alloc_old d4).trans df) Hne.out)
            all_goals
              have hWb : Below w2.heap.size w2 (w3.alloc (Obj.cells #[.string (ky j2), .int .i64 (dv j2).k, .int .i64 (dv j2).n, .string (dv j2).s, .slice xa xn xc, .slice ya yn yc] 59)) := hB3.alloc hB3.size _
              have hgr : (w3.alloc (Obj.cells #[.string (ky j2), .int .i64 (dv j2).k, .int .i64 (dv j2).n, .string (dv j2).s, .slice xa xn xc, .slice ya yn yc] 59)).grownBy w4 (Value.slice la j2 lc).ownBlock := ⟨hgrow.os, hgrow.tape, hgrow.output, hgrow.size, hgrow.block⟩
              have HN : Hid (CInv H w (w4.setCell ⟨H + 1 + 1, 4, none⟩ (.slice (some ⟨g, 0, none⟩) (j2 + 1) cap)) k n s (.slice a j ca) (.slice (some ⟨b, o, none⟩) dn ca') lv (.slice (some ⟨g, 0, none⟩) (j2 + 1) cap) ∧ Besides (H + 1 + 1) w1 (w4.setCell ⟨H + 1 + 1, 4, none⟩ (.slice (some ⟨g, 0, none⟩) (j2 + 1) cap)) ∧ DInv w1.heap.size (w4.setCell ⟨H + 1 + 1, 4, none⟩ (.slice (some ⟨g, 0, none⟩) (j2 + 1) cap)) ky dv (j2 + 1) (.slice (some ⟨g, 0, none⟩) (j2 + 1) cap)) := by
                obtain ⟨_, hc2, hrv, hb2, hbs, hel⟩ := HQ.out
                exact dict_step hlt3 hc2 hrv hb2 hbs hel hown hWb hgr (by rcases hat with h | h; exact .inl h; exact .inr (by simpa using h)) hown4
              clear HQ hown hown3 hown4 hgrow hgr hat hlt4' hWb d4 d4' df hx0 hx1 hx2 hx3 hx4 g0' k4 hB3
              go_wp2
              go_roundw
              case rel => exact ⟨j2 + 1, _, by omega, by go_num, HN⟩
              case measure => simp [intOf]; omega
          · obtain rfl : j2 = dn := by omega
            obtain ⟨_, hbs, hD⟩ := hinv.out
            obtain ⟨laA, lcA, rfl⟩ := ownForm HL.out.choose_spec.choose_spec.1
            obtain ⟨laB, lcB, rfl⟩ := ownForm hD.choose_spec.choose_spec.1
            obtain ⟨q0, q1, q2, q3, q4⟩ := hc.2.2.2.cells
            obtain ⟨r0, r1, r2, r3, r4⟩ := hc.2.2.1.cells
            have z0 := hc.2.2.1.frozen 0
            have z1 := hc.2.2.1.frozen 1
            have z2 := hc.2.2.1.frozen 2
            have z3 := hc.2.2.1.frozen 3
            have z4 := hc.2.2.1.frozen 4
            have HE : Hid (∀ wE, Besides (H + 1) wr wE → RV (fun b => w.heap.size ≤ b) wE (.mk k n s j l j2 ky dv) (.slice laA j lcA) (.slice laB j2 lcB) ∧ Below w.heap.size w wE) := fun wE hE => copy_end HS.out hlt3 hc HL.out hbs hD hE
            have HR : Hid (obj wr (H + 1) (.int .i64 0) (.int .i64 0) (.string { data := #[] }) (.slice .none 0 0) (.slice .none 0 0)) := hc.2.2.1
            clear hc hbs hD HL hinv
            go_wp2
            exact bodyPost_ret (v := .agg #[.int .i64 k, .int .i64 n, .string s, .slice laA j lcA, .slice laB j2 lcB]) (results_cell_row Try.results28 _ _ (H + 1) 56 _ (0, 0) _ rfl (((((HR.out.set0 _).set1 _).set2 _).set3 _).set4 _) Try.underlying56 rfl info25s) rfl ⟨_, _, rfl, HE.out _ (besides5 _ _ _ _ _ _ _)⟩
end Go.Proofs.Ytldkecjfjcnkfaa
