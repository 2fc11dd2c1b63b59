import Derived.Test.YtmfbhihjiebagaaDoorWb
import Derived.Deep.Cut
import Derived.Lib.Hide
namespace Go.Proofs.YtmfbhihjiebagaaDoor
open Go.RowKit Go.Deep
/-- what stands at a round's head in valueTwin -/
def CJ (H da : Nat) (w wr : World) (k n : Int) (s : ByteArray) (x y lv dl : Value) : Prop :=
  Below H w wr ∧ obj wr H (.int .i64 k) (.int .i64 n) (.string s) x y ∧ obj wr (H + 1) (.int .i64 0) (.int .i64 0) (.string { data := #[] }) (.slice .none 0 0) (.slice .none 0 0) ∧ obj wr da (.int .i64 k) (.int .i64 n) (.string s) lv dl ∧ H + 2 ≤ da
theorem CJ.keep {H da : Nat} {w wr w' : World} {k n : Int} {s : ByteArray} {x y lv dl : Value} (h : CJ H da w wr k n s x y lv dl) (hH : w.heap.size = H) (hb : Below wr.heap.size wr w') : CJ H da w w' k n s x y lv dl := by
  obtain ⟨h1, h2, h3, h4, h5⟩ := h
  exact ⟨h1.trans (hb.mono (hH ▸ h1.size)), h2.keep (hb.block _ h2.lt), h3.keep (hb.block _ h3.lt), h4.keep (hb.block _ h4.lt), h5⟩
theorem RD.move {S S' : Nat → Prop} {w w' : World} (hS : ∀ b, S b → b < w.heap.size → S' b) (hs : w.heap.size ≤ w'.heap.size) (hb : ∀ b, S b → b < w.heap.size → w'.heap[b]? = w.heap[b]?) {dn : Nat} {ky : Nat → ByteArray} {dv : Nat → T} {y : Value} (h : RD S w dn ky dv y) : RD S' w' dn ky dv y := by
  have h0 : RV S w (.mk 0 0 ByteArray.empty 0 (fun _ => .no) dn ky dv) (.slice none 0 0) y := ⟨⟨none, 0, rfl, .inl rfl⟩, h⟩
  exact (RV.move hS hs hb _ _ _ h0).2
def set5 (w : World) (b : Nat) (c0 c1 c2 c3 c4 : Value) : World := ((((w.setCell ⟨b, 0, none⟩ c0).setCell ⟨b, 1, none⟩ c1).setCell ⟨b, 2, none⟩ c2).setCell ⟨b, 3, none⟩ c3).setCell ⟨b, 4, none⟩ c4
theorem tw_facts {H da : Nat} {w w0 wa : World} {k n : Int} {s : ByteArray} {x y dl : Value} {dn : Nat} {ky : Nat → ByteArray} {dv : Nat → T} 
    (hB : Below H w w0) (ho : obj w0 H (.int .i64 k) (.int .i64 n) (.string s) x y) (hz : obj w0 (H + 1) (.int .i64 0) (.int .i64 0) (.string { data := #[] }) (.slice .none 0 0) (.slice .none 0 0))
    (hb : Below w0.heap.size w0 wa) (hd : obj wa da (.int .i64 0) (.int .i64 0) (.string { data := #[] }) (.slice .none 0 0) (.slice .none 0 0)) (hda : w0.heap.size ≤ da) (hr : RD (fun b => w0.heap.size ≤ b ∧ b ≠ da) wa dn ky dv dl) :
    CJ H da w (set5 wa da (.int .i64 k) (.int .i64 n) (.string s) (.slice none 0 0) dl) k n s x y (.slice none 0 0) dl ∧ RD (fun b => H + 2 ≤ b ∧ b ≠ da) (set5 wa da (.int .i64 k) (.int .i64 n) (.string s) (.slice none 0 0) dl) dn ky dv dl ∧ da < (set5 wa da (.int .i64 k) (.int .i64 n) (.string s) (.slice none 0 0) dl).heap.size := by
  have h1 := hz.lt
  have hB5 := besides5 wa da (.int .i64 k) (.int .i64 n) (.string s) (.slice none 0 0) dl
  have e : set5 wa da (.int .i64 k) (.int .i64 n) (.string s) (.slice none 0 0) dl = _ := rfl
  have hw : Below H w wa := hB.trans (hb.mono (by omega))
  have hs := hb.size
  refine ⟨⟨?_, ?_, ?_, ?_, by omega⟩, ?_, ?_⟩
  · refine ⟨hB5.os.trans hw.os, hB5.tape.trans hw.tape, hB5.output.trans hw.output, Nat.le_trans hw.size hB5.size, fun q hq => ?_⟩
    exact (hB5.block q (by have := hw.size; omega) (by omega)).trans (hw.block q hq)
  · exact (ho.keep (hb.block _ (by omega))).keep (hB5.block H (by omega) (by omega))
  · exact (hz.keep (hb.block _ (by omega))).keep (hB5.block (H + 1) (by omega) (by omega))
  · exact ((((hd.set0 _).set1 _).set2 _).set3 _).set4 _
  · exact RD.move (fun b h _ => ⟨by omega, h.2⟩) hB5.size (fun b h hl => hB5.block b hl h.2) hr
  · exact Nat.lt_of_lt_of_le hd.lt hB5.size
theorem list_step {H da : Nat} {w w1 wr w2 W w4 : World} {k n : Int} {s : ByteArray} {xx yy dl : Value} {l : Nat → T} {X Y : Nat → Value} {j2 lc g cap : Nat} {la : Option Addr} {x2 y2 : Value}
    (hlt3 : da < w1.heap.size) (hc2 : CJ H da w w2 k n s xx yy (.slice la j2 lc) dl) (hrv : RV (fun b => wr.heap.size ≤ b) w2 (l j2) x2 y2) (hb2 : Below wr.heap.size wr w2) (hbs : Besides da w1 wr)
    (hel : ∀ i, i < j2 → RV (fun b => w1.heap.size ≤ b ∧ (Value.slice la j2 lc).ownBlock ≠ some b) wr (l i) (X i) (Y i)) (hown : wr.ownsRow w1.heap.size 66 5 (.slice la j2 lc) j2 (rowL l X Y j2))
    (hWb : Below w2.heap.size w2 W) (hgrow : W.grownBy w4 (Value.slice la j2 lc).ownBlock) (hat : (Value.slice la j2 lc).ownBlock = some g ∨ g = W.heap.size)
    (hown4 : w4.ownsRow w1.heap.size 66 5 (.slice (some ⟨g, 0, none⟩) (j2 + 1) cap) (j2 + 1) (rowL l X Y j2 ++ cv (l j2) x2 y2)) :
    (CJ H da w (w4.setCell ⟨da, 3, none⟩ (.slice (some ⟨g, 0, none⟩) (j2 + 1) cap)) k n s xx yy (.slice (some ⟨g, 0, none⟩) (j2 + 1) cap) dl ∧ Besides da w1 (w4.setCell ⟨da, 3, none⟩ (.slice (some ⟨g, 0, none⟩) (j2 + 1) cap)) ∧ LInv w1.heap.size (w4.setCell ⟨da, 3, none⟩ (.slice (some ⟨g, 0, none⟩) (j2 + 1) cap)) l (j2 + 1) (.slice (some ⟨g, 0, none⟩) (j2 + 1) cap)) ∧ w4.cell? ⟨da, 3, none⟩ = some (.slice la j2 lc) ∧ w4.frozen? ⟨da, 3, none⟩ = false := by
  have hlo := fun q (hq : (Value.slice la j2 lc).ownBlock = some q) => (hown.lt q hq)
  have s1 := hbs.size
  have s2 := hb2.size
  have s3 := hWb.size
  have hda := hc2.2.2.2.2
  have blk : ∀ q, q < w1.heap.size → w4.heap[q]? = w2.heap[q]? := fun q hq =>
    (hgrow.block q (by omega) (fun e => by have := (hlo q e.symm).1; omega)).trans (hWb.block q (by omega))
  have st := rows_step (p := ⟨da, 3, none⟩) (u := .slice (some ⟨g, 0, none⟩) (j2 + 1) cap) (n := j2 + 1) (cap := cap) s1 (fun q hq => (hlo q hq).2) hb2 hWb hgrow hat (show da < w1.heap.size by omega)
  have o4 := hc2.2.2.2.1.keep (blk _ (by omega))
  refine ⟨⟨⟨?_, ?_, ?_, o4.set3 _, hda⟩, ?_, upd X j2 x2, upd Y j2 y2, ?_, ?_⟩, o4.cells.2.2.2.1, o4.frozen 3⟩
  · exact ((hc2.1.trans (hWb.mono (by omega))).grown hgrow (by omega) (fun q hq => by have := (hlo q hq).1; omega)).setCell (by show H ≤ da; omega) _
  · exact (hc2.2.1.keep (blk _ (by omega))).keep (Below.heap_setCell _ _ _ _ (by show H ≠ da; omega))
  · exact (hc2.2.2.1.keep (blk _ (by omega))).keep (Below.heap_setCell _ _ _ _ (by show H + 1 ≠ da; omega))
  · refine ⟨((hgrow.os.trans hWb.os).trans hb2.os).trans hbs.os, ((hgrow.tape.trans hWb.tape).trans hb2.tape).trans hbs.tape, ((hgrow.output.trans hWb.output).trans hb2.output).trans hbs.output, ?_, fun q hq hn => ?_⟩
    · have := hgrow.size
      simp [World.setCell]; omega
    · rw [Below.heap_setCell _ _ _ _ hn, blk q hq, hb2.block q (by omega), hbs.block q hq hn]
  · rw [rowL_succ]
    exact hown4.kept (grown_setCell _ _ _) (owns_ne hown4 (show da < w1.heap.size by omega))
  · intro i hi
    rcases Nat.lt_succ_iff_lt_or_eq.1 hi with h | rfl
    · rw [upd_lt h, upd_lt h]; exact st.1 _ _ _ (hel i h)
    · rw [upd_eq, upd_eq]; exact st.2 _ _ _ hrv
theorem twin_end {H da : Nat} {w w1 w9 wE : World} {k n : Int} {s : ByteArray} {xx yy lv dl : Value} {ln dn : Nat} {l : Nat → T} {ky : Nat → ByteArray} {dv : Nat → T} (hS : w.heap.size = H) (hlt3 : da < w1.heap.size)
    (hc : CJ H da w w9 k n s xx yy lv dl) (hL : LInv w1.heap.size w9 l ln lv) (hbs : Besides da w1 w9) (hD : RD (fun b => H + 2 ≤ b ∧ b ≠ da) w1 dn ky dv dl) (hE : Besides (H + 1) w9 wE) :
    RV (fun b => w.heap.size ≤ b) wE (.mk k n s ln l dn ky dv) lv dl ∧ Below w.heap.size w wE := by
  have s1 := hbs.size
  have s2 := hE.size
  have hda := hc.2.2.2.2
  refine ⟨⟨hL.rl s2 (fun b h1 h2 => ?_) (fun b h => by omega), RD.move (fun b h _ => by omega) (Nat.le_trans s1 s2) (fun b h hl => ?_) hD⟩, ?_⟩
  · rw [hE.block b (by omega) (by omega)]
  · rw [hE.block b (by omega) (by omega), hbs.block b hl h.2]
  · have h0 := hc.1
    exact ⟨hE.os.trans h0.os, hE.tape.trans h0.tape, hE.output.trans h0.output, Nat.le_trans h0.size s2, fun q hq => (hE.block q (by have := h0.size; omega) (by omega)).trans (h0.block q (by omega))⟩
theorem belowDrew1 (w : World) : Below w.heap.size w w.drew := ⟨rfl, rfl, rfl, Nat.le_refl _, fun _ _ => rfl⟩
end Go.Proofs.YtmfbhihjiebagaaDoor
