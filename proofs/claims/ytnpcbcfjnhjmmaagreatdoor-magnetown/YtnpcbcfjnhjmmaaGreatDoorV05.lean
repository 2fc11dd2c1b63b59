import Derived.Test.YtnpcbcfjnhjmmaaGreatDoorV04
import Derived.Deep.Cut
import Derived.Lib.Hide
namespace Go.Proofs.YtnpcbcfjnhjmmaaGreatDoor
open Go.RowKit Go.Deep
/-- what stands at a round's head in valueTwin -/
def CJ (H da : Nat) (w wr : World) (k n : Int) (s : ByteArray) (x y lv dl : Value) : Prop :=
  Below H w wr ∧ obj wr H (.int .i64 k) (.int .i64 n) (.string s) x y ∧ obj wr (H + 1) (.int .i64 0) (.int .i64 0) (.string { data := #[] }) (.slice .none 0 0) (.slice .none 0 0) ∧ obj wr da (.int .i64 k) (.int .i64 n) (.string s) lv dl ∧ H + 2 ≤ da
theorem CJ.keep {H da : Nat} {w wr w' : World} {k n : Int} {s : ByteArray} {x y lv dl : Value} (h : CJ H da w wr k n s x y lv dl) (hH : w.heap.size = H) (hb : Below wr.heap.size wr w') : CJ H da w w' k n s x y lv dl := by
  obtain ⟨h1, h2, h3, h4, h5⟩ := h
  exact ⟨h1.trans (hb.mono (hH ▸ h1.size)), h2.keep (hb.block _ h2.lt), h3.keep (hb.block _ h3.lt), h4.keep (hb.block _ h4.lt), h5⟩
theorem RD.move {S S' : Nat → Prop} {w w' : World} (hS : ∀ b, S b → b < w.heap.size → S' b) (hs : w.heap.size ≤ w'.heap.size) (hb : ∀ b, S b → b < w.heap.size → w'.heap[b]? = w.heap[b]?) {dn : Nat} {ky : Nat → ByteArray} {dv : Nat → T} {y : Value} (h : RD S w dn ky dv y) : RD S' w' dn ky dv y := by
  have h0 : RV S w (.mk 0 0 ByteArray.empty 0 (fun _ => .no) dn ky dv) (.slice none 0 0) y := ⟨⟨none, 0, rfl, .inl rfl⟩, h⟩
  exact (RV.move hS hs hb _ _ _ h0).2
def set5 (w : World) (b : Nat) (c0 c1 c2 c3 c4 : Value) : World := ((((w.setCell ⟨b, 0, none⟩ c0).setCell ⟨b, 1, none⟩ c1).setCell ⟨b, 2, none⟩ c2).setCell ⟨b, 3, none⟩ c3).setCell ⟨b, 4, none⟩ c4
theorem tw_facts {H da : Nat} {w w0 wa : World} {k n : Int} {s : ByteArray} {x y dl : Value} {dn : Nat} {ky : Nat → ByteArray} {dv : Nat → T} 
    (hB : Below H w w0) (ho : obj w0 H (.int .i64 k) (.int .i64 n) (.string s) x y) (hz : obj w0 (H + 1) (.int .i64 0) (.int .i64 0) (.string { data := #[] }) (.slice .none 0 0) (.slice .none 0 0))
    (hb : Below w0.heap.size w0 wa) (hd : obj wa da (.int .i64 0) (.int .i64 0) (.string { data := #[] }) (.slice .none 0 0) (.slice .none 0 0)) (hda : w0.heap.size ≤ da) (hr : RD (fun b => w0.heap.size ≤ b ∧ b ≠ da) wa dn ky dv dl) :
    CJ H da w (set5 wa da (.int .i64 k) (.int .i64 n) (.string s) (.slice none 0 0) dl) k n s x y (.slice none 0 0) dl ∧ RD (fun b => H + 2 ≤ b ∧ b ≠ da) (set5 wa da (.int .i64 k) (.int .i64 n) (.string s) (.slice none 0 0) dl) dn ky dv dl ∧ da < (set5 wa da (.int .i64 k) (.int .i64 n) (.string s) (.slice none 0 0) dl).heap.size := by
  have h1 := hz.lt
  have hB5 := besides5 wa da (.int .i64 k) (.int .i64 n) (.string s) (.slice none 0 0) dl
  have e : set5 wa da (.int .i64 k) (.int .i64 n) (.string s) (.slice none 0 0) dl = _ := rfl
  have hw : Below H w wa := hB.trans (hb.mono (by omega))
  have hs := hb.size
  refine ⟨⟨?_, ?_, ?_, ?_, by omega⟩, ?_, ?_⟩
  · refine ⟨hB5.os.trans hw.os, hB5.tape.trans hw.tape, hB5.output.trans hw.output, Nat.le_trans hw.size hB5.size, fun q hq => ?_⟩
    exact (hB5.block q (by have := hw.size; omega) (by omega)).trans (hw.block q hq)
  · exact (ho.keep (hb.block _ (by omega))).keep (hB5.block H (by omega) (by omega))
  · exact (hz.keep (hb.block _ (by omega))).keep (hB5.block (H + 1) (by omega) (by omega))
  · exact ((((hd.set0 _).set1 _).set2 _).set3 _).set4 _
  · exact RD.move (fun b h _ => ⟨by omega, h.2⟩) hB5.size (fun b h hl => hB5.block b hl h.2) hr
  · exact Nat.lt_of_lt_of_le hd.lt hB5.size
theorem list_step {H da : Nat} {w w1 wr w2 W w4 : World} {k n : Int} {s : ByteArray} {xx yy dl : Value} {l : Nat → T} {X Y : Nat → Value} {j2 lc g cap : Nat} {la : Option Addr} {x2 y2 : Value}
    (hlt3 : da < w1.heap.size) (hc2 : CJ H da w w2 k n s xx yy (.slice la j2 lc) dl) (hrv : RV (fun b => wr.heap.size ≤ b) w2 (l j2) x2 y2) (hb2 : Below wr.heap.size wr w2) (hbs : Besides da w1 wr)
    (hel : ∀ i, i < j2 → RV (fun b => w1.heap.size ≤ b ∧ (Value.slice la j2 lc).ownBlock ≠ some b) wr (l i) (X i) (Y i)) (hown : wr.ownsRow w1.heap.size 39 5 (.slice la j2 lc) j2 (rowL l X Y j2))
    (hWb : Below w2.heap.size w2 W) (hgrow : W.grownBy w4 (Value.slice la j2 lc).ownBlock) (hat : (Value.slice la j2 lc).ownBlock = some g ∨ g = W.heap.size)
    (hown4 : w4.ownsRow w1.heap.size 39 5 (.slice (some ⟨g, 0, none⟩) (j2 + 1) cap) (j2 + 1) (rowL l X Y j2 ++ cv (l j2) x2 y2)) :
    (CJ H da w (w4.setCell ⟨da, 3, none⟩ (.slice (some ⟨g, 0, none⟩) (j2 + 1) cap)) k n s xx yy (.slice (some ⟨g, 0, none⟩) (j2 + 1) cap) dl ∧ Besides da w1 (w4.setCell ⟨da, 3, none⟩ (.slice (some ⟨g, 0, none⟩) (j2 + 1) cap)) ∧ LInv w1.heap.size (w4.setCell ⟨da, 3, none⟩ (.slice (some ⟨g, 0, none⟩) (j2 + 1) cap)) l (j2 + 1) (.slice (some ⟨g, 0, none⟩) (j2 + 1) cap)) ∧ w4.cell? ⟨da, 3, none⟩ = some (.slice la j2 lc) ∧ w4.frozen? ⟨da, 3, none⟩ = false := by
  have hlo := fun q (hq : (Value.slice la j2 lc).ownBlock = some q) => (hown.lt q hq)
  have s1 := hbs.size
  have s2 := hb2.size
  have s3 := hWb.size
  have hda := hc2.2.2.2.2
  have blk : ∀ q, q < w1.heap.size → w4.heap[q]? = w2.heap[q]? := fun q hq =>
    (hgrow.block q (by omega) (fun e => by have := (hlo q e.symm).1; omega)).trans (hWb.block q (by omega))
  have st := rows_step (p := ⟨da, 3, none⟩) (u := .slice (some ⟨g, 0, none⟩) (j2 + 1) cap) (n := j2 + 1) (cap := cap) s1 (fun q hq => (hlo q hq).2) hb2 hWb hgrow hat (show da < w1.heap.size by omega)
  have o4 := hc2.2.2.2.1.keep (blk _ (by omega))
  refine ⟨⟨⟨?_, ?_, ?_, o4.set3 _, hda⟩, ?_, upd X j2 x2, upd Y j2 y2, ?_, ?_⟩, o4.cells.2.2.2.1, o4.frozen 3⟩
  · exact ((hc2.1.trans (hWb.mono (by omega))).grown hgrow (by omega) (fun q hq => by have := (hlo q hq).1; omega)).setCell (by show H ≤ da; omega) _
  · exact (hc2.2.1.keep (blk _ (by omega))).keep (Below.heap_setCell _ _ _ _ (by show H ≠ da; omega))
  · exact (hc2.2.2.1.keep (blk _ (by omega))).keep (Below.heap_setCell _ _ _ _ (by show H + 1 ≠ da; omega))
  · refine ⟨((hgrow.os.trans hWb.os).trans hb2.os).trans hbs.os, ((hgrow.tape.trans hWb.tape).trans hb2.tape).trans hbs.tape, ((hgrow.output.trans hWb.output).trans hb2.output).trans hbs.output, ?_, fun q hq hn => ?_⟩
    · have := hgrow.size
      simp [World.setCell]; omega
    · rw [Below.heap_setCell _ _ _ _ hn, blk q hq, hb2.block q (by omega), hbs.block q hq hn]
  · rw [rowL_succ]
    exact hown4.kept (grown_setCell _ _ _) (owns_ne hown4 (show da < w1.heap.size by omega))
  · intro i hi
    rcases Nat.lt_succ_iff_lt_or_eq.1 hi with h | rfl
    · rw [upd_lt h, upd_lt h]; exact st.1 _ _ _ (hel i h)
    · rw [upd_eq, upd_eq]; exact st.2 _ _ _ hrv
theorem twin_end {H da : Nat} {w w1 w9 wE : World} {k n : Int} {s : ByteArray} {xx yy lv dl : Value} {ln dn : Nat} {l : Nat → T} {ky : Nat → ByteArray} {dv : Nat → T} (hS : w.heap.size = H) (hlt3 : da < w1.heap.size)
    (hc : CJ H da w w9 k n s xx yy lv dl) (hL : LInv w1.heap.size w9 l ln lv) (hbs : Besides da w1 w9) (hD : RD (fun b => H + 2 ≤ b ∧ b ≠ da) w1 dn ky dv dl) (hE : Besides (H + 1) w9 wE) :
    RV (fun b => w.heap.size ≤ b) wE (.mk k n s ln l dn ky dv) lv dl ∧ Below w.heap.size w wE := by
  have s1 := hbs.size
  have s2 := hE.size
  have hda := hc.2.2.2.2
  refine ⟨⟨hL.rl s2 (fun b h1 h2 => ?_) (fun b h => by omega), RD.move (fun b h _ => by omega) (Nat.le_trans s1 s2) (fun b h hl => ?_) hD⟩, ?_⟩
  · rw [hE.block b (by omega) (by omega)]
  · rw [hE.block b (by omega) (by omega), hbs.block b hl h.2]
  · have h0 := hc.1
    exact ⟨hE.os.trans h0.os, hE.tape.trans h0.tape, hE.output.trans h0.output, Nat.le_trans h0.size s2, fun q hq => (hE.block q (by have := h0.size; omega) (by omega)).trans (h0.block q (by omega))⟩
theorem belowDrew1 (w : World) : Below w.heap.size w w.drew := ⟨rfl, rfl, rfl, Nat.le_refl _, fun _ _ => rfl⟩
set_option maxHeartbeats 4000000 in
theorem valueTwin (t : T) : CC t := by
  induction t with
  | no => intro x y w _ _ h; exact h.elim
  | mk k n s ln l dn ky dv il id =>
    intro x y w hok hsm hr
    obtain ⟨ok1, ok2, ok3, ok4, ok5⟩ := hok
    obtain ⟨sm1, sm2, sm3, sm4⟩ := hsm
    obtain ⟨⟨a, ca, rfl, hL⟩, hDD⟩ := hr
    obtain ⟨a', ca', rfl⟩ : ∃ a' ca', y = .slice a' dn ca' := by obtain ⟨p, q, e, _⟩ := hDD; exact ⟨p, q, e⟩
    obtain ⟨i0, hi, hz0, hz1, hz2⟩ := info_parts info25
    have HPT : Hid (∀ w', Below w.heap.size w w' → Calls Tryz.prog 24 #[.slice a' dn ca'] w' fun e w'' => ∃ y', e = .returned y' ∧ RD (fun b => w'.heap.size ≤ b) w'' dn ky dv y' ∧ Below w'.heap.size w' w'') := fun w' hb => pairsTwin dn ky dv (fun i _ => id i) _ w' sm2 (fun i hi => ⟨(ok5 i hi).2, sm4 i hi⟩) (RD.move (fun _ _ _ => trivial) hb.size (fun b _ hl => hb.block b hl) hDD)
    have HI : Hid ((∀ i, CC (l i)) ∧ (∀ i, i < ln → (l i).ok ∧ (l i).small) ∧
        (ln = 0 ∨ ∃ b o, a = some ⟨b, o, none⟩ ∧ True ∧ b < w.heap.size ∧ ∀ i, i < ln → ∃ x' y', RV (fun _ => True) w (l i) x' y' ∧ five w b (o + i * 5) (l i) x' y')) := ⟨il, fun i hi => ⟨ok4 i hi, sm3 i hi⟩, hL⟩
    clear il id ok4 ok5 sm3 sm4 hL hDD
    have B0 : Hid (Below w.heap.size w ((w.alloc (Obj.cells #[.int .i64 k, .int .i64 n, .string s, .slice a ln ca, .slice a' dn ca'] 39)).alloc (Obj.cells #[.int .i64 0, .int .i64 0, .string { data := #[] }, .slice .none 0 0, .slice .none 0 0] 39))) := ((Below.refl _ _).alloc (Nat.le_refl _) _).alloc (by simp) _
    have O0 : Hid (obj ((w.alloc (Obj.cells #[.int .i64 k, .int .i64 n, .string s, .slice a ln ca, .slice a' dn ca'] 39)).alloc (Obj.cells #[.int .i64 0, .int .i64 0, .string { data := #[] }, .slice .none 0 0, .slice .none 0 0] 39)) w.heap.size (.int .i64 k) (.int .i64 n) (.string s) (.slice a ln ca) (.slice a' dn ca')) := (Below.heap_alloc _ _ _ (by simp)).trans (heap_new _ _)
    have Z0 : Hid (obj ((w.alloc (Obj.cells #[.int .i64 k, .int .i64 n, .string s, .slice a ln ca, .slice a' dn ca'] 39)).alloc (Obj.cells #[.int .i64 0, .int .i64 0, .string { data := #[] }, .slice .none 0 0, .slice .none 0 0] 39)) (w.heap.size + 1) (.int .i64 0) (.int .i64 0) (.string { data := #[] }) (.slice .none 0 0) (.slice .none 0 0)) := by
      have h9 := heap_new (w.alloc (Obj.cells #[.int .i64 k, .int .i64 n, .string s, .slice a ln ca, .slice a' dn ca'] 39)) (Obj.cells #[.int .i64 0, .int .i64 0, .string { data := #[] }, .slice .none 0 0, .slice .none 0 0] 39)
      have h8 : obj ((w.alloc (Obj.cells #[.int .i64 k, .int .i64 n, .string s, .slice a ln ca, .slice a' dn ca'] 39)).alloc (Obj.cells #[.int .i64 0, .int .i64 0, .string { data := #[] }, .slice .none 0 0, .slice .none 0 0] 39)) (w.heap.size + 1) (.int .i64 0) (.int .i64 0) (.string { data := #[] }) (.slice .none 0 0) (.slice .none 0 0) := by simpa [obj] using h9
      exact h8
    show Calls Tryz.prog 42 #[.agg #[.int .i64 k, .int .i64 n, .string s, .slice a ln ca, .slice a' dn ca']] w _
    go_enter Tryz.func42, Tryz.ntmps42
    go_upto_region 1 with fail
    generalize ((w.alloc (Obj.cells #[.int .i64 k, .int .i64 n, .string s, .slice a ln ca, .slice a' dn ca'] 39)).alloc (Obj.cells #[.int .i64 0, .int .i64 0, .string { data := #[] }, .slice .none 0 0, .slice .none 0 0] 39)) = w0 at *
    generalize hvb : w.heap.size = H at *
    have HS : Hid (w.heap.size = H) := hvb
    clear hvb
    have HK : Hid (∀ x, Below w0.heap.size w0 x → x.cell? ⟨H, 0, none⟩ = some (.int .i64 k) ∧ x.cell? ⟨H, 1, none⟩ = some (.int .i64 n) ∧ x.cell? ⟨H, 2, none⟩ = some (.string s) ∧ x.cell? ⟨H, 4, none⟩ = some (.slice a' dn ca')) := fun x hx => by
      obtain ⟨h0, h1, h2, _, h4⟩ := (O0.out.keep (hx.block H O0.out.lt)).cells
      exact ⟨h0, h1, h2, h4⟩
    refine wp_region_held_drew (S := fun x => x.cell? ⟨H, 0, none⟩ = some (.int .i64 k) ∧ x.cell? ⟨H, 1, none⟩ = some (.int .i64 n) ∧ x.cell? ⟨H, 2, none⟩ = some (.string s) ∧ x.cell? ⟨H, 4, none⟩ = some (.slice a' dn ca')) (by kernel_rfl) (HK.out _ (belowDrew1 w0)) (fun hHeld => ?_)
    refine wpAnyH_take (i := 0) (v := .pointer (some ⟨H, 0, none⟩)) rfl (by kernel_rfl) (by kernel_rfl) (by kernel_rfl) (fun _ _ _ h => h) (Or.inl ⟨by rfl, fun w hw => by go_simp⟩) hHeld ?_
    simp only [Act.put, List.getElem_toArray, List.getElem_cons_zero, List.setIfInBounds_toArray, List.set_cons_zero, List.set_cons_succ]
    refine wpAnyH_take (i := 1) (v := .int .i64 k) rfl (by kernel_rfl) (by kernel_rfl) (by kernel_rfl) (fun _ _ _ h => h) (Or.inl ⟨by rfl, fun w hw => by obtain ⟨s0, s1, s2, s4⟩ := hw; go_simp⟩) hHeld ?_
    simp only [Act.put, List.getElem_toArray, List.getElem_cons_zero, List.getElem_cons_succ, List.setIfInBounds_toArray, List.set_cons_zero, List.set_cons_succ]
    refine wpAnyH_take (i := 2) (v := .pointer (some ⟨H, 1, none⟩)) rfl (by kernel_rfl) (by kernel_rfl) (by kernel_rfl) (fun _ _ _ h => h) (Or.inl ⟨by rfl, fun w hw => by go_simp⟩) hHeld ?_
    simp only [Act.put, List.getElem_toArray, List.getElem_cons_zero, List.getElem_cons_succ, List.setIfInBounds_toArray, List.set_cons_zero, List.set_cons_succ]
    refine wpAnyH_take (i := 3) (v := .int .i64 n) rfl (by kernel_rfl) (by kernel_rfl) (by kernel_rfl) (fun _ _ _ h => h) (Or.inl ⟨by rfl, fun w hw => by obtain ⟨s0, s1, s2, s4⟩ := hw; go_simp⟩) hHeld ?_
    simp only [Act.put, List.getElem_toArray, List.getElem_cons_zero, List.getElem_cons_succ, List.setIfInBounds_toArray, List.set_cons_zero, List.set_cons_succ]
    refine wpAnyH_take (i := 4) (v := .pointer (some ⟨H, 2, none⟩)) rfl (by kernel_rfl) (by kernel_rfl) (by kernel_rfl) (fun _ _ _ h => h) (Or.inl ⟨by rfl, fun w hw => by go_simp⟩) hHeld ?_
    simp only [Act.put, List.getElem_toArray, List.getElem_cons_zero, List.getElem_cons_succ, List.setIfInBounds_toArray, List.set_cons_zero, List.set_cons_succ]
    refine wpAnyH_take (i := 5) (v := .string s) rfl (by kernel_rfl) (by kernel_rfl) (by kernel_rfl) (fun _ _ _ h => h) (Or.inl ⟨by rfl, fun w hw => by obtain ⟨s0, s1, s2, s4⟩ := hw; go_simp⟩) hHeld ?_
    simp only [Act.put, List.getElem_toArray, List.getElem_cons_zero, List.getElem_cons_succ, List.setIfInBounds_toArray, List.set_cons_zero, List.set_cons_succ]
    refine wpAnyH_take (i := 6) (v := .pointer (some ⟨H, 4, none⟩)) rfl (by kernel_rfl) (by kernel_rfl) (by kernel_rfl) (fun _ _ _ h => h) (Or.inl ⟨by rfl, fun w hw => by go_simp⟩) hHeld ?_
    simp only [Act.put, List.getElem_toArray, List.getElem_cons_zero, List.getElem_cons_succ, List.setIfInBounds_toArray, List.set_cons_zero, List.set_cons_succ]
    refine wpAnyH_take (i := 7) (v := .slice a' dn ca') rfl (by kernel_rfl) (by kernel_rfl) (by kernel_rfl) (fun _ _ _ h => h) (Or.inl ⟨by rfl, fun w hw => by obtain ⟨s0, s1, s2, s4⟩ := hw; go_simp⟩) hHeld ?_
    simp only [Act.put, List.getElem_toArray, List.getElem_cons_zero, List.getElem_cons_succ, List.setIfInBounds_toArray, List.set_cons_zero, List.set_cons_succ]
    refine wpAnyH_ready (rs := [8, 10]) (by kernel_rfl) (by simp) ?_
    refine AllReadyH.cons (o := _) rfl (fun K hK => ?_) (AllReadyH.cons (o := _) rfl (fun K hK => ?_) AllReadyH.nil)
    · go_simp
      refine (HPT.out w0.drew (B0.out.trans ((belowDrew1 w0).mono (by have := O0.out.lt; omega)))).mono ?_
      rintro e u ⟨y', rfl, hrd, b⟩
      obtain ⟨ya, yc, rfl⟩ : ∃ ya yc, y' = .slice ya dn yc := by obtain ⟨p, q, e, _⟩ := hrd; exact ⟨p, q, e⟩
      have BU : Hid (Below w0.heap.size w0 u) := (belowDrew1 w0).trans b
      have RDY0 : Hid (RD (fun b => w0.heap.size ≤ b) u dn ky dv (.slice ya dn yc)) := hrd
      clear hrd b
      have hS := HK.out u BU.out
      go_wp2_with fail
      refine hK.out _ _ hS (fun hHeld => ?_)
      clear hK K hS
      refine wpAnyH_take (i := 9) (v := .agg #[.int .i64 k, .int .i64 n, .string s, .slice none 0 0, .slice ya dn yc]) rfl (by kernel_rfl) (by kernel_rfl) (by kernel_rfl) (fun _ _ _ h => h) (Or.inl ⟨by rfl, fun w hw => by go_simp⟩) hHeld ?_
      simp only [Act.put, List.getElem_toArray, List.getElem_cons_zero, List.getElem_cons_succ, List.setIfInBounds_toArray, List.set_cons_zero, List.set_cons_succ]
      refine wpAnyH_ready (rs := [10]) (by kernel_rfl) (by simp) ?_
      refine AllReadyH.cons (o := _) rfl (fun K hK => ?_) AllReadyH.nil
      go_simp
      have BA : Hid (Below w0.heap.size w0 (u.alloc (Obj.cells #[.int .i64 0, .int .i64 0, .string { data := #[] }, .slice .none 0 0, .slice .none 0 0] 39))) := BU.out.alloc BU.out.size _
      have AD : Hid (obj (u.alloc (Obj.cells #[.int .i64 0, .int .i64 0, .string { data := #[] }, .slice .none 0 0, .slice .none 0 0] 39)) u.heap.size (.int .i64 0) (.int .i64 0) (.string { data := #[] }) (.slice .none 0 0) (.slice .none 0 0)) := heap_new _ _
      have HDA : Hid (w0.heap.size ≤ u.heap.size) := BU.out.size
      have RDY : Hid (RD (fun b => w0.heap.size ≤ b ∧ b ≠ u.heap.size) (u.alloc (Obj.cells #[.int .i64 0, .int .i64 0, .string { data := #[] }, .slice .none 0 0, .slice .none 0 0] 39)) dn ky dv (.slice ya dn yc)) := RD.move (fun b h hl => ⟨h, by omega⟩) (by simp) (fun b _ hl => Below.heap_alloc _ _ _ hl) RDY0.out
      have hS := HK.out _ BA.out
      refine hK.out _ _ hS (fun hHeld => ?_)
      clear hK K hS RDY0 BU
      generalize u.alloc (Obj.cells #[.int .i64 0, .int .i64 0, .string { data := #[] }, .slice .none 0 0, .slice .none 0 0] 39) = wa at *
      generalize u.heap.size = da at *
      have r0 := AD.out.cells.1
      have r1 := AD.out.cells.2.1
      have r2 := AD.out.cells.2.2.1
      have r3 := AD.out.cells.2.2.2.1
      have r4 := AD.out.cells.2.2.2.2
      have z0 := AD.out.frozen 0
      have z1 := AD.out.frozen 1
      have z2 := AD.out.frozen 2
      have z3 := AD.out.frozen 3
      have z4 := AD.out.frozen 4
      have TF := tw_facts B0.out O0.out Z0.out BA.out AD.out HDA.out RDY.out
      have hS : (set5 wa da (.int .i64 k) (.int .i64 n) (.string s) (.slice none 0 0) (.slice ya dn yc)).cell? ⟨H, 0, none⟩ = some (.int .i64 k) ∧ (set5 wa da (.int .i64 k) (.int .i64 n) (.string s) (.slice none 0 0) (.slice ya dn yc)).cell? ⟨H, 1, none⟩ = some (.int .i64 n) ∧ (set5 wa da (.int .i64 k) (.int .i64 n) (.string s) (.slice none 0 0) (.slice ya dn yc)).cell? ⟨H, 2, none⟩ = some (.string s) ∧ (set5 wa da (.int .i64 k) (.int .i64 n) (.string s) (.slice none 0 0) (.slice ya dn yc)).cell? ⟨H, 4, none⟩ = some (.slice a' dn ca') := by
        obtain ⟨h0, h1, h2, _, h4⟩ := TF.1.2.1.cells
        exact ⟨h0, h1, h2, h4⟩
      have HTF : Hid (CJ H da w (set5 wa da (.int .i64 k) (.int .i64 n) (.string s) (.slice none 0 0) (.slice ya dn yc)) k n s (.slice a ln ca) (.slice a' dn ca') (.slice none 0 0) (.slice ya dn yc) ∧ RD (fun b => H + 2 ≤ b ∧ b ≠ da) (set5 wa da (.int .i64 k) (.int .i64 n) (.string s) (.slice none 0 0) (.slice ya dn yc)) dn ky dv (.slice ya dn yc) ∧ da < (set5 wa da (.int .i64 k) (.int .i64 n) (.string s) (.slice none 0 0) (.slice ya dn yc)).heap.size) := TF
      clear TF
      refine wpAnyH_ready (rs := [11]) (by kernel_rfl) (by simp) ?_
      refine AllReadyH.cons (o := _) rfl (fun K hK => ?_) AllReadyH.nil
      go_simp
      refine hK.out _ _ hS (fun hHeld => ?_)
      clear hK K hS
      refine wpAnyH_done (by kernel_rfl) ?_ _
      clear hHeld
      clear r0 r1 r2 r3 r4 z0 z1 z2 z3 z4 AD BA HDA RDY HK
      have eSET : (((((wa.setCell ⟨da, 0, none⟩ (.int .i64 k)).setCell ⟨da, 1, none⟩ (.int .i64 n)).setCell ⟨da, 2, none⟩ (.string s)).setCell ⟨da, 3, none⟩ (.slice none 0 0)).setCell ⟨da, 4, none⟩ (.slice ya dn yc)) = (set5 wa da (.int .i64 k) (.int .i64 n) (.string s) (.slice none 0 0) (.slice ya dn yc)) := rfl
      rw [eSET]
      clear eSET
      generalize (set5 wa da (.int .i64 k) (.int .i64 n) (.string s) (.slice none 0 0) (.slice ya dn yc)) = w1 at *
      go_wp2
      go_loopw [4] (fun i wr => ∃ (j : Nat) (lv : Value), j ≤ ln ∧ i = .int .i64 j ∧ Hid (CJ H da w wr k n s (.slice a ln ca) (.slice a' dn ca') lv (.slice ya dn yc) ∧ Besides da w1 wr ∧ LInv w1.heap.size wr l j lv)) (fun i _ => ln - (intOf i).toNat)
      case atStart => exact ⟨0, _, Nat.zero_le _, rfl, HTF.out.1, Besides.refl _ _, fun _ => .slice .none 0 0, fun _ => .slice .none 0 0, World.ownsRow_nil _ _ _ _, fun i hi => absurd hi (Nat.not_lt_zero _)⟩
      case round =>
        obtain ⟨j, lv, hj, rfl, hinv⟩ := hrel
        have hc := hinv.out.1
        have c3 := hc.2.1.cells.2.2.2.1
        by_cases hlt : j < ln
        · obtain ⟨il, ok4, hL⟩ := HI.out
          rcases hL with h | ⟨b, o, rfl, _, hbl, hL⟩
          · omega
          obtain ⟨x1, y1, hv, g1, g2, g3, g4, g5⟩ := hL j hlt
          have hle : w.heap.size ≤ H := Nat.le_of_eq HS.out
          replace g1 := Below.cellS hc.1 hle g1
          replace g2 := Below.cellS hc.1 hle g2
          replace g3 := Below.cellS hc.1 hle g3
          replace g4 := Below.cellS hc.1 hle g4
          replace g5 := Below.cellS hc.1 hle g5
          have HV : Hid (CC (l j) ∧ ((l j).ok ∧ (l j).small) ∧ RV (fun _ => True) wr (l j) x1 y1) := ⟨il j, ok4 j hlt, Below.rv hc.1 hle hv⟩
          clear il ok4 hL hv hbl hle hc
          go_wp2_with fail
          refine (HV.out.1 x1 y1 wr HV.out.2.1.1 HV.out.2.1.2 HV.out.2.2).mono ?_
          rintro e w2 ⟨x2, y2, rfl, hrv, hb2⟩
          obtain ⟨hc, hbs, X, Y, hown, hel⟩ := hinv.out
          obtain ⟨la, lc, rfl⟩ := ownForm hown
          have hc2 := hc.keep HS.out hb2
          have d3 := hc2.2.2.2.1.cells.2.2.2.1
          have df := hc2.2.2.2.1.frozen 3
          clear g1 g2 g3 g4 g5 HV
          obtain ⟨⟨xa, xn, xc, rfl⟩, ⟨ya2, yn2, yc2, rfl⟩⟩ := hrv.slices
          have hlt3 : w1.heap.size ≤ wr.heap.size := hbs.size
          have hda1 : da < w1.heap.size := HTF.out.2.2
          have hown2 := hown.kept (grown_of_below hb2) (by cases hv : (Value.slice la j lc).ownBlock with | none => exact .inl rfl | some k => exact .inr (by simp))
          have HQ : Hid (CJ H da w w2 k n s (.slice (some ⟨b, o, none⟩) ln ca) (.slice a' dn ca') (.slice la j lc) (.slice ya dn yc) ∧ RV (fun b => wr.heap.size ≤ b) w2 (l j) (.slice xa xn xc) (.slice ya2 yn2 yc2) ∧ Below wr.heap.size wr w2 ∧ Besides da w1 wr ∧ ∀ i, i < j → RV (fun b => w1.heap.size ≤ b ∧ (Value.slice la j lc).ownBlock ≠ some b) wr (l i) (X i) (Y i)) := ⟨hc2, hrv, hb2, hbs, hel⟩
          clear hc hc2 hrv hel hinv hbs
          have hsz2 := hb2.size
          clear hb2
          have d3' : ∀ ob, (w2.alloc ob).cell? ⟨da, 3, none⟩ = some (.slice la j lc) := fun ob => cell_alloc_old d3
          clear c3
          unfold vv
          go_wp2_with (at_builtin; refine wpList_append_lies _ rfl _ _ 37 rfl w1.heap.size 39 i0 _ 5 80 Tryz.underlying37 hi hz0 hz1 hz2 rfl (by omega) (.slice la j lc) j (rowL l X Y j) rfl ((hown2.alloc _).alloc _) ⟨w2.heap.size + 1, 0, none⟩ 1 1 (cv (l j) (.slice xa xn xc) (.slice ya2 yn2 yc2)) rfl rfl ?_ ?_ (by omega) (by unfold maxLen; omega) (by omega) (by simp; omega) (w2.heap.size + 1 + 1) (by simp) ?_)
          · exact World.news_of_block (B := w2.heap.size + 1) (by have := heap_new (w2.alloc (Obj.cells #[.int .i64 (l j).k, .int .i64 (l j).n, .string (l j).s, .slice xa xn xc, .slice ya2 yn2 yc2] 39)) (Obj.cells #[.int .i64 (l j).k, .int .i64 (l j).n, .string (l j).s, .slice xa xn xc, .slice ya2 yn2 yc2] 39); simpa using this)
          · intro u hu; simp [cv] at hu; rcases hu with rfl | rfl | rfl | rfl | rfl <;> rfl
          intro g cap w3 hown3 hgrow hat hlt3'
          have hWb : Below w2.heap.size w2 ((w2.alloc (Obj.cells #[.int .i64 (l j).k, .int .i64 (l j).n, .string (l j).s, .slice xa xn xc, .slice ya2 yn2 yc2] 39)).alloc (Obj.cells #[.int .i64 (l j).k, .int .i64 (l j).n, .string (l j).s, .slice xa xn xc, .slice ya2 yn2 yc2] 39)) := ((Below.refl _ _).alloc (Nat.le_refl _) _).alloc (by simp) _
          have hWs : ((w2.alloc (Obj.cells #[.int .i64 (l j).k, .int .i64 (l j).n, .string (l j).s, .slice xa xn xc, .slice ya2 yn2 yc2] 39)).alloc (Obj.cells #[.int .i64 (l j).k, .int .i64 (l j).n, .string (l j).s, .slice xa xn xc, .slice ya2 yn2 yc2] 39)).heap.size = w2.heap.size + 1 + 1 := by simp
          generalize ((w2.alloc (Obj.cells #[.int .i64 (l j).k, .int .i64 (l j).n, .string (l j).s, .slice xa xn xc, .slice ya2 yn2 yc2] 39)).alloc (Obj.cells #[.int .i64 (l j).k, .int .i64 (l j).n, .string (l j).s, .slice xa xn xc, .slice ya2 yn2 yc2] 39)) = W at *
          have HN0 := list_step hda1 HQ.out.1 HQ.out.2.1 HQ.out.2.2.1 HQ.out.2.2.2.1 HQ.out.2.2.2.2 hown hWb hgrow (by rw [hWs]; exact hat) hown3
          have HN : Hid (CJ H da w (w3.setCell ⟨da, 3, none⟩ (.slice (some ⟨g, 0, none⟩) (j + 1) cap)) k n s (.slice (some ⟨b, o, none⟩) ln ca) (.slice a' dn ca') (.slice (some ⟨g, 0, none⟩) (j + 1) cap) (.slice ya dn yc) ∧ Besides da w1 (w3.setCell ⟨da, 3, none⟩ (.slice (some ⟨g, 0, none⟩) (j + 1) cap)) ∧ LInv w1.heap.size (w3.setCell ⟨da, 3, none⟩ (.slice (some ⟨g, 0, none⟩) (j + 1) cap)) l (j + 1) (.slice (some ⟨g, 0, none⟩) (j + 1) cap)) := HN0.1
          obtain ⟨_, m3, mf⟩ := HN0
          clear HQ hown hown2 hown3 hgrow hat hlt3' hWb hWs d3 d3' df
          go_wp2
          go_roundw
          case rel => exact ⟨j + 1, _, by omega, by go_num, HN⟩
          case measure => simp [intOf]; omega
        · obtain rfl : j = ln := by omega
          obtain ⟨_, hbs, hLI⟩ := hinv.out
          obtain ⟨laA, lcA, rfl⟩ := ownForm hLI.choose_spec.choose_spec.1
          obtain ⟨q0, q1, q2, q3, q4⟩ := hc.2.2.2.1.cells
          obtain ⟨r0, r1, r2, r3, r4⟩ := hc.2.2.1.cells
          have z0 := hc.2.2.1.frozen 0
          have z1 := hc.2.2.1.frozen 1
          have z2 := hc.2.2.1.frozen 2
          have z3 := hc.2.2.1.frozen 3
          have z4 := hc.2.2.1.frozen 4
          have HE : Hid (∀ wE, Besides (H + 1) wr wE → RV (fun b => w.heap.size ≤ b) wE (.mk k n s j l dn ky dv) (.slice laA j lcA) (.slice ya dn yc) ∧ Below w.heap.size w wE) := fun wE hE => twin_end HS.out HTF.out.2.2 hc hLI hbs HTF.out.2.1 hE
          have HR : Hid (obj wr (H + 1) (.int .i64 0) (.int .i64 0) (.string { data := #[] }) (.slice .none 0 0) (.slice .none 0 0)) := hc.2.2.1
          clear hc hbs hLI hinv
          go_wp2
          exact bodyPost_ret (v := .agg #[.int .i64 k, .int .i64 n, .string s, .slice laA j lcA, .slice ya dn yc]) (results_cell_row Tryz.results42 _ _ (H + 1) 39 _ (0, 0) _ rfl (((((HR.out.set0 _).set1 _).set2 _).set3 _).set4 _) Tryz.underlying39 rfl info25s) rfl ⟨_, _, rfl, HE.out _ (besides5 _ _ _ _ _ _ _)⟩
    · go_simp
      have BZ : Below w0.heap.size w0 (w0.alloc (Obj.cells #[.int .i64 0, .int .i64 0, .string { data := #[] }, .slice .none 0 0, .slice .none 0 0] 39)).drew := ((Below.refl _ _).alloc (Nat.le_refl _) _).trans ((belowDrew1 _).mono (by simp))
      have BZ2 : Hid (Below w0.heap.size w0 (w0.alloc (Obj.cells #[.int .i64 0, .int .i64 0, .string { data := #[] }, .slice .none 0 0, .slice .none 0 0] 39)).drew) := BZ
      have AD0 : Hid (obj (w0.alloc (Obj.cells #[.int .i64 0, .int .i64 0, .string { data := #[] }, .slice .none 0 0, .slice .none 0 0] 39)).drew w0.heap.size (.int .i64 0) (.int .i64 0) (.string { data := #[] }) (.slice .none 0 0) (.slice .none 0 0)) := heap_new w0 _
      have hsz : (w0.alloc (Obj.cells #[.int .i64 0, .int .i64 0, .string { data := #[] }, .slice .none 0 0, .slice .none 0 0] 39)).drew.heap.size = w0.heap.size + 1 := by simp
      have hS := HK.out _ BZ
      refine hK.out _ _ hS (fun hHeld => ?_)
      clear hK K hS BZ
      generalize (w0.alloc (Obj.cells #[.int .i64 0, .int .i64 0, .string { data := #[] }, .slice .none 0 0, .slice .none 0 0] 39)).drew = wz at *
      refine wpAnyH_ready (rs := [8]) (by kernel_rfl) (by simp) ?_
      refine AllReadyH.cons (o := _) rfl (fun K hK => ?_) AllReadyH.nil
      go_simp
      refine (HPT.out wz (B0.out.trans (BZ2.out.mono (by have := O0.out.lt; omega)))).mono ?_
      rintro e u ⟨y', rfl, hrd, b⟩
      obtain ⟨ya, yc, rfl⟩ : ∃ ya yc, y' = .slice ya dn yc := by obtain ⟨p, q, e, _⟩ := hrd; exact ⟨p, q, e⟩
      have BA : Hid (Below w0.heap.size w0 u) := BZ2.out.trans (b.mono BZ2.out.size)
      have AD : Hid (obj u w0.heap.size (.int .i64 0) (.int .i64 0) (.string { data := #[] }) (.slice .none 0 0) (.slice .none 0 0)) := AD0.out.keep (b.block _ AD0.out.lt)
      have RDY : Hid (RD (fun b => w0.heap.size ≤ b ∧ b ≠ w0.heap.size) u dn ky dv (.slice ya dn yc)) := RD.move (fun b h _ => ⟨by omega, by omega⟩) (Nat.le_refl _) (fun _ _ _ => rfl) hrd
      have HDA : Hid (w0.heap.size ≤ w0.heap.size) := Nat.le_refl _
      clear hrd b AD0 BZ2 hsz
      have hS := HK.out u BA.out
      go_wp2_with fail
      refine hK.out _ _ hS (fun hHeld => ?_)
      clear hK K hS
      refine wpAnyH_take (i := 9) (v := .agg #[.int .i64 k, .int .i64 n, .string s, .slice none 0 0, .slice ya dn yc]) rfl (by kernel_rfl) (by kernel_rfl) (by kernel_rfl) (fun _ _ _ h => h) (Or.inl ⟨by rfl, fun w hw => by go_simp⟩) hHeld ?_
      simp only [Act.put, List.getElem_toArray, List.getElem_cons_zero, List.getElem_cons_succ, List.setIfInBounds_toArray, List.set_cons_zero, List.set_cons_succ]
      obtain ⟨da, hda0⟩ : ∃ d, d = w0.heap.size := ⟨_, rfl⟩
      have AD1 : Hid (obj u da (.int .i64 0) (.int .i64 0) (.string { data := #[] }) (.slice .none 0 0) (.slice .none 0 0)) := by rw [hda0]; exact AD
      have RDY1 : Hid (RD (fun b => w0.heap.size ≤ b ∧ b ≠ da) u dn ky dv (.slice ya dn yc)) := by rw [hda0]; exact RDY
      have HDA1 : Hid (w0.heap.size ≤ da) := Nat.le_of_eq hda0.symm
      rw [← hda0]
      clear AD RDY HDA hda0
      have AD := AD1
      have RDY := RDY1
      have HDA := HDA1
      clear AD1 RDY1 HDA1
      have r0 := AD.out.cells.1
      have r1 := AD.out.cells.2.1
      have r2 := AD.out.cells.2.2.1
      have r3 := AD.out.cells.2.2.2.1
      have r4 := AD.out.cells.2.2.2.2
      have z0 := AD.out.frozen 0
      have z1 := AD.out.frozen 1
      have z2 := AD.out.frozen 2
      have z3 := AD.out.frozen 3
      have z4 := AD.out.frozen 4
      have TF := tw_facts B0.out O0.out Z0.out BA.out AD.out HDA.out RDY.out
      have hS : (set5 u da (.int .i64 k) (.int .i64 n) (.string s) (.slice none 0 0) (.slice ya dn yc)).cell? ⟨H, 0, none⟩ = some (.int .i64 k) ∧ (set5 u da (.int .i64 k) (.int .i64 n) (.string s) (.slice none 0 0) (.slice ya dn yc)).cell? ⟨H, 1, none⟩ = some (.int .i64 n) ∧ (set5 u da (.int .i64 k) (.int .i64 n) (.string s) (.slice none 0 0) (.slice ya dn yc)).cell? ⟨H, 2, none⟩ = some (.string s) ∧ (set5 u da (.int .i64 k) (.int .i64 n) (.string s) (.slice none 0 0) (.slice ya dn yc)).cell? ⟨H, 4, none⟩ = some (.slice a' dn ca') := by
        obtain ⟨h0, h1, h2, _, h4⟩ := TF.1.2.1.cells
        exact ⟨h0, h1, h2, h4⟩
      have HTF : Hid (CJ H da w (set5 u da (.int .i64 k) (.int .i64 n) (.string s) (.slice none 0 0) (.slice ya dn yc)) k n s (.slice a ln ca) (.slice a' dn ca') (.slice none 0 0) (.slice ya dn yc) ∧ RD (fun b => H + 2 ≤ b ∧ b ≠ da) (set5 u da (.int .i64 k) (.int .i64 n) (.string s) (.slice none 0 0) (.slice ya dn yc)) dn ky dv (.slice ya dn yc) ∧ da < (set5 u da (.int .i64 k) (.int .i64 n) (.string s) (.slice none 0 0) (.slice ya dn yc)).heap.size) := TF
      clear TF
      refine wpAnyH_ready (rs := [11]) (by kernel_rfl) (by simp) ?_
      refine AllReadyH.cons (o := _) rfl (fun K hK => ?_) AllReadyH.nil
      go_simp
      refine hK.out _ _ hS (fun hHeld => ?_)
      clear hK K hS
      refine wpAnyH_done (by kernel_rfl) ?_ _
      clear hHeld
      clear r0 r1 r2 r3 r4 z0 z1 z2 z3 z4 AD BA HDA RDY HK
      have eSET : (((((u.setCell ⟨da, 0, none⟩ (.int .i64 k)).setCell ⟨da, 1, none⟩ (.int .i64 n)).setCell ⟨da, 2, none⟩ (.string s)).setCell ⟨da, 3, none⟩ (.slice none 0 0)).setCell ⟨da, 4, none⟩ (.slice ya dn yc)) = (set5 u da (.int .i64 k) (.int .i64 n) (.string s) (.slice none 0 0) (.slice ya dn yc)) := rfl
      rw [eSET]
      clear eSET
      generalize (set5 u da (.int .i64 k) (.int .i64 n) (.string s) (.slice none 0 0) (.slice ya dn yc)) = w1 at *
      go_wp2
      go_loopw [4] (fun i wr => ∃ (j : Nat) (lv : Value), j ≤ ln ∧ i = .int .i64 j ∧ Hid (CJ H da w wr k n s (.slice a ln ca) (.slice a' dn ca') lv (.slice ya dn yc) ∧ Besides da w1 wr ∧ LInv w1.heap.size wr l j lv)) (fun i _ => ln - (intOf i).toNat)
      case atStart => exact ⟨0, _, Nat.zero_le _, rfl, HTF.out.1, Besides.refl _ _, fun _ => .slice .none 0 0, fun _ => .slice .none 0 0, World.ownsRow_nil _ _ _ _, fun i hi => absurd hi (Nat.not_lt_zero _)⟩
      case round =>
        obtain ⟨j, lv, hj, rfl, hinv⟩ := hrel
        have hc := hinv.out.1
        have c3 := hc.2.1.cells.2.2.2.1
        by_cases hlt : j < ln
        · obtain ⟨il, ok4, hL⟩ := HI.out
          rcases hL with h | ⟨b, o, rfl, _, hbl, hL⟩
          · omega
          obtain ⟨x1, y1, hv, g1, g2, g3, g4, g5⟩ := hL j hlt
          have hle : w.heap.size ≤ H := Nat.le_of_eq HS.out
          replace g1 := Below.cellS hc.1 hle g1
          replace g2 := Below.cellS hc.1 hle g2
          replace g3 := Below.cellS hc.1 hle g3
          replace g4 := Below.cellS hc.1 hle g4
          replace g5 := Below.cellS hc.1 hle g5
          have HV : Hid (CC (l j) ∧ ((l j).ok ∧ (l j).small) ∧ RV (fun _ => True) wr (l j) x1 y1) := ⟨il j, ok4 j hlt, Below.rv hc.1 hle hv⟩
          clear il ok4 hL hv hbl hle hc
          go_wp2_with fail
          refine (HV.out.1 x1 y1 wr HV.out.2.1.1 HV.out.2.1.2 HV.out.2.2).mono ?_
          rintro e w2 ⟨x2, y2, rfl, hrv, hb2⟩
          obtain ⟨hc, hbs, X, Y, hown, hel⟩ := hinv.out
          obtain ⟨la, lc, rfl⟩ := ownForm hown
          have hc2 := hc.keep HS.out hb2
          have d3 := hc2.2.2.2.1.cells.2.2.2.1
          have df := hc2.2.2.2.1.frozen 3
          clear g1 g2 g3 g4 g5 HV
          obtain ⟨⟨xa, xn, xc, rfl⟩, ⟨ya2, yn2, yc2, rfl⟩⟩ := hrv.slices
          have hlt3 : w1.heap.size ≤ wr.heap.size := hbs.size
          have hda1 : da < w1.heap.size := HTF.out.2.2
          have hown2 := hown.kept (grown_of_below hb2) (by cases hv : (Value.slice la j lc).ownBlock with | none => exact .inl rfl | some k => exact .inr (by simp))
          have HQ : Hid (CJ H da w w2 k n s (.slice (some ⟨b, o, none⟩) ln ca) (.slice a' dn ca') (.slice la j lc) (.slice ya dn yc) ∧ RV (fun b => wr.heap.size ≤ b) w2 (l j) (.slice xa xn xc) (.slice ya2 yn2 yc2) ∧ Below wr.heap.size wr w2 ∧ Besides da w1 wr ∧ ∀ i, i < j → RV (fun b => w1.heap.size ≤ b ∧ (Value.slice la j lc).ownBlock ≠ some b) wr (l i) (X i) (Y i)) := ⟨hc2, hrv, hb2, hbs, hel⟩
          clear hc hc2 hrv hel hinv hbs
          have hsz2 := hb2.size
          clear hb2
          have d3' : ∀ ob, (w2.alloc ob).cell? ⟨da, 3, none⟩ = some (.slice la j lc) := fun ob => cell_alloc_old d3
          clear c3
          unfold vv
          go_wp2_with (at_builtin; refine wpList_append_lies _ rfl _ _ 37 rfl w1.heap.size 39 i0 _ 5 80 Tryz.underlying37 hi hz0 hz1 hz2 rfl (by omega) (.slice la j lc) j (rowL l X Y j) rfl ((hown2.alloc _).alloc _) ⟨w2.heap.size + 1, 0, none⟩ 1 1 (cv (l j) (.slice xa xn xc) (.slice ya2 yn2 yc2)) rfl rfl ?_ ?_ (by omega) (by unfold maxLen; omega) (by omega) (by simp; omega) (w2.heap.size + 1 + 1) (by simp) ?_)
          · exact World.news_of_block (B := w2.heap.size + 1) (by have := heap_new (w2.alloc (Obj.cells #[.int .i64 (l j).k, .int .i64 (l j).n, .string (l j).s, .slice xa xn xc, .slice ya2 yn2 yc2] 39)) (Obj.cells #[.int .i64 (l j).k, .int .i64 (l j).n, .string (l j).s, .slice xa xn xc, .slice ya2 yn2 yc2] 39); simpa using this)
          · intro u hu; simp [cv] at hu; rcases hu with rfl | rfl | rfl | rfl | rfl <;> rfl
          intro g cap w3 hown3 hgrow hat hlt3'
          have hWb : Below w2.heap.size w2 ((w2.alloc (Obj.cells #[.int .i64 (l j).k, .int .i64 (l j).n, .string (l j).s, .slice xa xn xc, .slice ya2 yn2 yc2] 39)).alloc (Obj.cells #[.int .i64 (l j).k, .int .i64 (l j).n, .string (l j).s, .slice xa xn xc, .slice ya2 yn2 yc2] 39)) := ((Below.refl _ _).alloc (Nat.le_refl _) _).alloc (by simp) _
          have hWs : ((w2.alloc (Obj.cells #[.int .i64 (l j).k, .int .i64 (l j).n, .string (l j).s, .slice xa xn xc, .slice ya2 yn2 yc2] 39)).alloc (Obj.cells #[.int .i64 (l j).k, .int .i64 (l j).n, .string (l j).s, .slice xa xn xc, .slice ya2 yn2 yc2] 39)).heap.size = w2.heap.size + 1 + 1 := by simp
          generalize ((w2.alloc (Obj.cells #[.int .i64 (l j).k, .int .i64 (l j).n, .string (l j).s, .slice xa xn xc, .slice ya2 yn2 yc2] 39)).alloc (Obj.cells #[.int .i64 (l j).k, .int .i64 (l j).n, .string (l j).s, .slice xa xn xc, .slice ya2 yn2 yc2] 39)) = W at *
          have HN0 := list_step hda1 HQ.out.1 HQ.out.2.1 HQ.out.2.2.1 HQ.out.2.2.2.1 HQ.out.2.2.2.2 hown hWb hgrow (by rw [hWs]; exact hat) hown3
          have HN : Hid (CJ H da w (w3.setCell ⟨da, 3, none⟩ (.slice (some ⟨g, 0, none⟩) (j + 1) cap)) k n s (.slice (some ⟨b, o, none⟩) ln ca) (.slice a' dn ca') (.slice (some ⟨g, 0, none⟩) (j + 1) cap) (.slice ya dn yc) ∧ Besides da w1 (w3.setCell ⟨da, 3, none⟩ (.slice (some ⟨g, 0, none⟩) (j + 1) cap)) ∧ LInv w1.heap.size (w3.setCell ⟨da, 3, none⟩ (.slice (some ⟨g, 0, none⟩) (j + 1) cap)) l (j + 1) (.slice (some ⟨g, 0, none⟩) (j + 1) cap)) := HN0.1
          obtain ⟨_, m3, mf⟩ := HN0
          clear HQ hown hown2 hown3 hgrow hat hlt3' hWb hWs d3 d3' df
          go_wp2
          go_roundw
          case rel => exact ⟨j + 1, _, by omega, by go_num, HN⟩
          case measure => simp [intOf]; omega
        · obtain rfl : j = ln := by omega
          obtain ⟨_, hbs, hLI⟩ := hinv.out
          obtain ⟨laA, lcA, rfl⟩ := ownForm hLI.choose_spec.choose_spec.1
          obtain ⟨q0, q1, q2, q3, q4⟩ := hc.2.2.2.1.cells
          obtain ⟨r0, r1, r2, r3, r4⟩ := hc.2.2.1.cells
          have z0 := hc.2.2.1.frozen 0
          have z1 := hc.2.2.1.frozen 1
          have z2 := hc.2.2.1.frozen 2
          have z3 := hc.2.2.1.frozen 3
          have z4 := hc.2.2.1.frozen 4
          have HE : Hid (∀ wE, Besides (H + 1) wr wE → RV (fun b => w.heap.size ≤ b) wE (.mk k n s j l dn ky dv) (.slice laA j lcA) (.slice ya dn yc) ∧ Below w.heap.size w wE) := fun wE hE => twin_end HS.out HTF.out.2.2 hc hLI hbs HTF.out.2.1 hE
          have HR : Hid (obj wr (H + 1) (.int .i64 0) (.int .i64 0) (.string { data := #[] }) (.slice .none 0 0) (.slice .none 0 0)) := hc.2.2.1
          clear hc hbs hLI hinv
          go_wp2
          exact bodyPost_ret (v := .agg #[.int .i64 k, .int .i64 n, .string s, .slice laA j lcA, .slice ya dn yc]) (results_cell_row Tryz.results42 _ _ (H + 1) 39 _ (0, 0) _ rfl (((((HR.out.set0 _).set1 _).set2 _).set3 _).set4 _) Tryz.underlying39 rfl info25s) rfl ⟨_, _, rfl, HE.out _ (besides5 _ _ _ _ _ _ _)⟩
end Go.Proofs.YtnpcbcfjnhjmmaaGreatDoor
namespace Go.Proofs.YtnpcbcfjnhjmmaaGreatDoor
open Go.RowKit Go.Deep
/-- 'same' of two values that read as one tree -/
def SC (f : Nat) (t : T) : Prop := ∀ (x y x2 y2 : Value) (w : World), t.ok → RV (fun _ => True) w t x y → RV (fun _ => True) w t x2 y2 →
  Calls Tryz.prog f #[vv t x y, vv t x2 y2] w fun e w' => e = .returned (.bool true) ∧ Below w.heap.size w w'
set_option maxHeartbeats 2000000 in
theorem pairsSame (dn : Nat) (ky : Nat → ByteArray) (dv : Nat → T) (ih : ∀ i, i < dn → SC 57 (dv i)) (y y2 : Value) (w : World) (hdn : dn ≤ 140737488351232) (hok : ∀ i, i < dn → (dv i).ok) (hr : RD (fun _ => True) w dn ky dv y) (hr2 : RD (fun _ => True) w dn ky dv y2) :
    Calls Tryz.prog 32 #[y, y2] w fun e w' => e = .returned (.bool true) ∧ Below w.heap.size w w' := by
  obtain ⟨a, ca, rfl, hD⟩ := hr
  obtain ⟨a2, ca2, rfl, hD2⟩ := hr2
  have HI : Hid ((∀ i, i < dn → SC 57 (dv i)) ∧ (∀ i, i < dn → (dv i).ok) ∧ (dn = 0 ∨ ∃ b o, a = some ⟨b, o, none⟩ ∧ True ∧ b < w.heap.size ∧ ∀ i, i < dn → ∃ x' y', RV (fun _ => True) w (dv i) x' y' ∧ w.cell? ⟨b, o + i * 6, none⟩ = some (.string (ky i)) ∧ five w b (o + i * 6 + 1) (dv i) x' y') ∧ (dn = 0 ∨ ∃ b o, a2 = some ⟨b, o, none⟩ ∧ True ∧ b < w.heap.size ∧ ∀ i, i < dn → ∃ x' y', RV (fun _ => True) w (dv i) x' y' ∧ w.cell? ⟨b, o + i * 6, none⟩ = some (.string (ky i)) ∧ five w b (o + i * 6 + 1) (dv i) x' y')) := ⟨ih, hok, hD, hD2⟩
  clear ih hok hD hD2
  go_enter Tryz.func32, Tryz.ntmps32
  go_wp2
  go_loopw [5] (fun i wr => ∃ j : Nat, j ≤ dn ∧ i = .int .i64 j ∧ Hid (Below w.heap.size w wr)) (fun i _ => dn - (intOf i).toNat)
  case atStart => exact ⟨0, Nat.zero_le _, rfl, Below.refl _ _⟩
  case round =>
    obtain ⟨j, hj, rfl, hw⟩ := hrel
    by_cases hlt : j < dn
    · obtain ⟨id, ok5, hD, hD2⟩ := HI.out
      rcases hD with h | ⟨b, o, rfl, _, hbl, hD⟩
      · omega
      rcases hD2 with h | ⟨b2, o2, rfl, _, hbl2, hD2⟩
      · omega
      obtain ⟨x1, y1, hv, g0, g1, g2, g3, g4, g5⟩ := hD j hlt
      obtain ⟨x2, y2, hv2, p0, p1, p2, p3, p4, p5⟩ := hD2 j hlt
      have hle : w.heap.size ≤ w.heap.size := Nat.le_refl _
      replace g0 := Below.cellS hw.out hle g0
      replace g1 := Below.cellS hw.out hle g1
      replace g2 := Below.cellS hw.out hle g2
      replace g3 := Below.cellS hw.out hle g3
      replace g4 := Below.cellS hw.out hle g4
      replace g5 := Below.cellS hw.out hle g5
      replace p0 := Below.cellS hw.out hle p0
      replace p1 := Below.cellS hw.out hle p1
      replace p2 := Below.cellS hw.out hle p2
      replace p3 := Below.cellS hw.out hle p3
      replace p4 := Below.cellS hw.out hle p4
      replace p5 := Below.cellS hw.out hle p5
      have hv' := Below.rv hw.out hle hv
      have hv2' := Below.rv hw.out hle hv2
      have HC : Hid (∀ w', w'.heap = wr.heap → Calls Tryz.prog 57 #[vv (dv j) x1 y1, vv (dv j) x2 y2] w' fun e w'' => e = .returned (.bool true) ∧ Below w'.heap.size w' w'') := by
        intro w' hh
        refine id j hlt _ _ _ _ _ (ok5 j hlt) (RV.lift (w := wr) (by rw [hh]; exact Nat.le_refl _) (fun b _ => by rw [hh]) (fun _ _ => trivial) _ _ _ hv') (RV.lift (w := wr) (by rw [hh]; exact Nat.le_refl _) (fun b _ => by rw [hh]) (fun _ _ => trivial) _ _ _ hv2')
      clear id ok5 hD hD2 hv hv2 hv' hv2' hbl hbl2 hle
      go_wp2
      go_quiet (fail)
      go_wp2
      go_region_held3 (fun w' => 
          w'.cell? ⟨b, o + j * 6 + 1, none⟩ = some (.int .i64 (dv j).k) ∧ w'.cell? ⟨b, o + j * 6 + 1 + 1, none⟩ = some (.int .i64 (dv j).n) ∧ w'.cell? ⟨b, o + j * 6 + 1 + 2, none⟩ = some (.string (dv j).s) ∧ w'.cell? ⟨b, o + j * 6 + 1 + 3, none⟩ = some x1 ∧ w'.cell? ⟨b, o + j * 6 + 1 + 4, none⟩ = some y1 ∧
          w'.cell? ⟨b2, o2 + j * 6 + 1, none⟩ = some (.int .i64 (dv j).k) ∧ w'.cell? ⟨b2, o2 + j * 6 + 1 + 1, none⟩ = some (.int .i64 (dv j).n) ∧ w'.cell? ⟨b2, o2 + j * 6 + 1 + 2, none⟩ = some (.string (dv j).s) ∧ w'.cell? ⟨b2, o2 + j * 6 + 1 + 3, none⟩ = some x2 ∧ w'.cell? ⟨b2, o2 + j * 6 + 1 + 4, none⟩ = some y2)
        (first | (exact ⟨g1, g2, g3, g4, g5, p1, p2, p3, p4, p5⟩) | (exact ⟨Below.cellS hq.out (Nat.le_refl _) g1, Below.cellS hq.out (Nat.le_refl _) g2, Below.cellS hq.out (Nat.le_refl _) g3, Below.cellS hq.out (Nat.le_refl _) g4, Below.cellS hq.out (Nat.le_refl _) g5, Below.cellS hq.out (Nat.le_refl _) p1, Below.cellS hq.out (Nat.le_refl _) p2, Below.cellS hq.out (Nat.le_refl _) p3, Below.cellS hq.out (Nat.le_refl _) p4, Below.cellS hq.out (Nat.le_refl _) p5⟩))
        (first | (go_at_call 57; refine (HC.out (wr.drewN nq).drew rfl).mono ?_; rintro e wq ⟨rfl, hq0⟩; have hq : Hid (Below wr.heap.size wr wq) := ⟨hq0.os, hq0.tape, hq0.output, hq0.size, hq0.block⟩; clear hq0))
      clear g0 g1 g2 g3 g4 g5 p0 p1 p2 p3 p4 p5 HC
      go_wp2
      go_roundw
      case rel => exact ⟨j + 1, by omega, by go_num, hw.out.trans (hq.out.mono hw.out.size)⟩
      case measure => simp [intOf]; omega
    · obtain rfl : j = dn := by omega
      go_wp2
      go_ret
      exact ⟨rfl, hw.out⟩
set_option maxHeartbeats 2000000 in
theorem valueSame (t : T) : SC 57 t := by
  induction t with
  | no => intro x y x2 y2 w _ h; exact h.elim
  | mk k n s ln l dn ky dv il id =>
    intro x y x2 y2 w hok hr hr2
    obtain ⟨ok1, ok2, ok3, ok4, ok5⟩ := hok
    obtain ⟨⟨a, ca, rfl, hL⟩, ⟨a', ca', rfl, hD⟩⟩ := hr
    obtain ⟨⟨a2, ca2, rfl, hL2⟩, ⟨a2', ca2', rfl, hD2⟩⟩ := hr2
    show Calls Tryz.prog 57 #[.agg #[.int .i64 k, .int .i64 n, .string s, .slice a ln ca, .slice a' dn ca'], .agg #[.int .i64 k, .int .i64 n, .string s, .slice a2 ln ca2, .slice a2' dn ca2']] w _
    have HI : Hid ((∀ i, SC 57 (l i)) ∧ (∀ i, i < ln → (l i).ok) ∧ (ln = 0 ∨ ∃ b o, a = some ⟨b, o, none⟩ ∧ True ∧ b < w.heap.size ∧ ∀ i, i < ln → ∃ x' y', RV (fun _ => True) w (l i) x' y' ∧ five w b (o + i * 5) (l i) x' y') ∧ (ln = 0 ∨ ∃ b o, a2 = some ⟨b, o, none⟩ ∧ True ∧ b < w.heap.size ∧ ∀ i, i < ln → ∃ x' y', RV (fun _ => True) w (l i) x' y' ∧ five w b (o + i * 5) (l i) x' y')) := ⟨il, ok4, hL, hL2⟩
    have HP : Hid (∀ w', Below w.heap.size w w' → Calls Tryz.prog 32 #[.slice a' dn ca', .slice a2' dn ca2'] w' fun e w'' => e = .returned (.bool true) ∧ Below w'.heap.size w' w'') := fun w' hb => pairsSame dn ky dv (fun i _ => id i) _ _ w' ok3 (fun i hi => (ok5 i hi).2) (RD.move (fun _ _ _ => trivial) hb.size (fun b _ hl => hb.block b hl) ⟨_, _, rfl, hD⟩) (RD.move (fun _ _ _ => trivial) hb.size (fun b _ hl => hb.block b hl) ⟨_, _, rfl, hD2⟩)
    clear il id ok4 ok5 hL hL2 hD hD2
    have HB : Hid (Below w.heap.size w ((w.alloc (Obj.cells #[.int .i64 k, .int .i64 n, .string s, .slice a ln ca, .slice a' dn ca'] 39)).alloc (Obj.cells #[.int .i64 k, .int .i64 n, .string s, .slice a2 ln ca2, .slice a2' dn ca2'] 39))) := ((Below.refl _ _).alloc (Nat.le_refl _) _).alloc (by simp) _
    have e3 : ((w.alloc (Obj.cells #[.int .i64 k, .int .i64 n, .string s, .slice a ln ca, .slice a' dn ca'] 39)).alloc (Obj.cells #[.int .i64 k, .int .i64 n, .string s, .slice a2 ln ca2, .slice a2' dn ca2'] 39)).cell? ⟨w.heap.size, 3, none⟩ = some (.slice a ln ca) := by go_simp
    have e4 : ((w.alloc (Obj.cells #[.int .i64 k, .int .i64 n, .string s, .slice a ln ca, .slice a' dn ca'] 39)).alloc (Obj.cells #[.int .i64 k, .int .i64 n, .string s, .slice a2 ln ca2, .slice a2' dn ca2'] 39)).cell? ⟨w.heap.size, 4, none⟩ = some (.slice a' dn ca') := by go_simp
    have f3 : ((w.alloc (Obj.cells #[.int .i64 k, .int .i64 n, .string s, .slice a ln ca, .slice a' dn ca'] 39)).alloc (Obj.cells #[.int .i64 k, .int .i64 n, .string s, .slice a2 ln ca2, .slice a2' dn ca2'] 39)).cell? ⟨w.heap.size + 1, 3, none⟩ = some (.slice a2 ln ca2) := by go_simp
    have f4 : ((w.alloc (Obj.cells #[.int .i64 k, .int .i64 n, .string s, .slice a ln ca, .slice a' dn ca'] 39)).alloc (Obj.cells #[.int .i64 k, .int .i64 n, .string s, .slice a2 ln ca2, .slice a2' dn ca2'] 39)).cell? ⟨w.heap.size + 1, 4, none⟩ = some (.slice a2' dn ca2') := by go_simp
    go_enter Tryz.func57, Tryz.ntmps57
    go_wp2_with fail
    generalize ((w.alloc (Obj.cells #[.int .i64 k, .int .i64 n, .string s, .slice a ln ca, .slice a' dn ca'] 39)).alloc (Obj.cells #[.int .i64 k, .int .i64 n, .string s, .slice a2 ln ca2, .slice a2' dn ca2'] 39)) = w0 at *
    generalize hvb : w.heap.size = vb at *
    have HS : Hid (w.heap.size = vb) := hvb
    clear hvb
    refine (HP.out w0 HB.out).mono ?_
    rintro e w9 ⟨rfl, b9⟩
    have HB9 : Hid (Below vb w w9) := HB.out.trans (b9.mono (HS.out ▸ HB.out.size))
    replace e3 := Below.cellS b9 (Nat.le_refl _) e3
    replace f3 := Below.cellS b9 (Nat.le_refl _) f3
    clear b9 HB e4 f4 HP
    have HB : Hid (Below vb w w9) := HB9.out
    clear HB9
    generalize w9 = w0 at *
    go_wp2
    go_loopw [5] (fun i wr => ∃ j : Nat, j ≤ ln ∧ i = .int .i64 j ∧ Hid (Below w0.heap.size w0 wr)) (fun i _ => ln - (intOf i).toNat)
    case atStart => exact ⟨0, Nat.zero_le _, rfl, Below.refl _ _⟩
    case round =>
      obtain ⟨j, hj, rfl, hb⟩ := hrel
      replace e3 := Below.cellS hb.out (Nat.le_refl _) e3
      replace f3 := Below.cellS hb.out (Nat.le_refl _) f3
      have hw : Hid (Below vb w _) := HB.out.trans (hb.out.mono (HS.out ▸ HB.out.size))
      by_cases hlt : j < ln
      · obtain ⟨il, ok4, hL, hL2⟩ := HI.out
        rcases hL with h | ⟨b, o, rfl, _, hbl, hL⟩
        · omega
        rcases hL2 with h | ⟨b2, o2, rfl, _, hbl2, hL2⟩
        · omega
        obtain ⟨x1, y1, hv, g1, g2, g3, g4, g5⟩ := hL j hlt
        obtain ⟨x2, y2, hv2, p1, p2, p3, p4, p5⟩ := hL2 j hlt
        have hle : w.heap.size ≤ vb := Nat.le_of_eq HS.out
        replace g1 := Below.cellS hw.out hle g1
        replace g2 := Below.cellS hw.out hle g2
        replace g3 := Below.cellS hw.out hle g3
        replace g4 := Below.cellS hw.out hle g4
        replace g5 := Below.cellS hw.out hle g5
        replace p1 := Below.cellS hw.out hle p1
        replace p2 := Below.cellS hw.out hle p2
        replace p3 := Below.cellS hw.out hle p3
        replace p4 := Below.cellS hw.out hle p4
        replace p5 := Below.cellS hw.out hle p5
        have hv' := Below.rv hw.out hle hv
        have hv2' := Below.rv hw.out hle hv2
        have HC : Hid (∀ w', w'.heap = wr.heap → Calls Tryz.prog 57 #[vv (l j) x1 y1, vv (l j) x2 y2] w' fun e w'' => e = .returned (.bool true) ∧ Below w'.heap.size w' w'') := by
          intro w' hh
          refine il j _ _ _ _ _ (ok4 j hlt) (RV.lift (w := wr) (by rw [hh]; exact Nat.le_refl _) (fun b _ => by rw [hh]) (fun _ _ => trivial) _ _ _ hv') (RV.lift (w := wr) (by rw [hh]; exact Nat.le_refl _) (fun b _ => by rw [hh]) (fun _ _ => trivial) _ _ _ hv2')
        clear il ok4 hL hL2 hv hv2 hv' hv2' hbl hbl2 hle
        go_wp2
        go_region_held3 (fun w' => w'.cell? ⟨vb, 3, none⟩ = some (.slice (some ⟨b, o, none⟩) ln ca) ∧ w'.cell? ⟨vb + 1, 3, none⟩ = some (.slice (some ⟨b2, o2, none⟩) ln ca2) ∧
            w'.cell? ⟨b, o + j * 5, none⟩ = some (.int .i64 (l j).k) ∧ w'.cell? ⟨b, o + j * 5 + 1, none⟩ = some (.int .i64 (l j).n) ∧ w'.cell? ⟨b, o + j * 5 + 2, none⟩ = some (.string (l j).s) ∧ w'.cell? ⟨b, o + j * 5 + 3, none⟩ = some x1 ∧ w'.cell? ⟨b, o + j * 5 + 4, none⟩ = some y1 ∧
            w'.cell? ⟨b2, o2 + j * 5, none⟩ = some (.int .i64 (l j).k) ∧ w'.cell? ⟨b2, o2 + j * 5 + 1, none⟩ = some (.int .i64 (l j).n) ∧ w'.cell? ⟨b2, o2 + j * 5 + 2, none⟩ = some (.string (l j).s) ∧ w'.cell? ⟨b2, o2 + j * 5 + 3, none⟩ = some x2 ∧ w'.cell? ⟨b2, o2 + j * 5 + 4, none⟩ = some y2)
          (first | (exact ⟨e3, f3, g1, g2, g3, g4, g5, p1, p2, p3, p4, p5⟩) | (exact ⟨Below.cellS hq.out (Nat.le_refl _) e3, Below.cellS hq.out (Nat.le_refl _) f3, Below.cellS hq.out (Nat.le_refl _) g1, Below.cellS hq.out (Nat.le_refl _) g2, Below.cellS hq.out (Nat.le_refl _) g3, Below.cellS hq.out (Nat.le_refl _) g4, Below.cellS hq.out (Nat.le_refl _) g5, Below.cellS hq.out (Nat.le_refl _) p1, Below.cellS hq.out (Nat.le_refl _) p2, Below.cellS hq.out (Nat.le_refl _) p3, Below.cellS hq.out (Nat.le_refl _) p4, Below.cellS hq.out (Nat.le_refl _) p5⟩))
          (first | (go_at_call 57; refine (HC.out wr.drew rfl).mono ?_; rintro e wq ⟨rfl, hq0⟩; have hq : Hid (Below wr.heap.size wr wq) := ⟨hq0.os, hq0.tape, hq0.output, hq0.size, hq0.block⟩; clear hq0))
        clear g1 g2 g3 g4 g5 p1 p2 p3 p4 p5 HC e3 f3
        go_wp2
        go_roundw
        case rel => exact ⟨j + 1, by omega, by go_num, hb.out.trans (hq.out.mono hb.out.size)⟩
        case measure => simp [intOf]; omega
      · obtain rfl : j = ln := by omega
        go_wp2
        go_ret
        exact ⟨rfl, HS.out ▸ hw.out⟩
end Go.Proofs.YtnpcbcfjnhjmmaaGreatDoor
