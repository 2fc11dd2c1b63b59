import Derived.Test.YtldkecjfjcnkfaaWt
namespace Go.Proofs.Ytldkecjfjcnkfaa
open Go.RowKit Go.Deep
/-- a wish's block -/
def ow (w : World) (b : Nat) (c0 c1 c2 c3 c4 : Value) : Prop := w.heap[b]? = some (.cells #[c0, c1, c2, c3, c4] 35 (0, 0))
theorem ow.cells {w : World} {b : Nat} {c0 c1 c2 c3 c4 : Value} (h : ow w b c0 c1 c2 c3 c4) :
    w.cell? ⟨b, 0, none⟩ = some c0 ∧ w.cell? ⟨b, 1, none⟩ = some c1 ∧ w.cell? ⟨b, 2, none⟩ = some c2 ∧ w.cell? ⟨b, 3, none⟩ = some c3 ∧ w.cell? ⟨b, 4, none⟩ = some c4 := by
  unfold ow at h
  refine ⟨?_, ?_, ?_, ?_, ?_⟩ <;> simp [World.cell?, h]
theorem ow.frozen {w : World} {b : Nat} {c0 c1 c2 c3 c4 : Value} (h : ow w b c0 c1 c2 c3 c4) (i : Nat) : w.frozen? ⟨b, i, none⟩ = false := by
  unfold ow at h
  simp [World.frozen?, h]
theorem ow.set {w : World} {b : Nat} {cs : Array Value} {ty : TypeId} (h : w.heap[b]? = some (.cells cs ty (0, 0))) (i : Nat) (u : Value) : (w.setCell ⟨b, i, none⟩ u).heap[b]? = some (.cells (cs.setIfInBounds i u) ty (0, 0)) := by
  rw [setCell_eq_setRow w b i _ _ _ _ h, setRow_heap w b _ _ _ _ h]
theorem ow.keep {w w' : World} {b : Nat} {c0 c1 c2 c3 c4 : Value} (h : ow w b c0 c1 c2 c3 c4) (hb : w'.heap[b]? = w.heap[b]?) : ow w' b c0 c1 c2 c3 c4 := hb.trans h
theorem ow.lt {w : World} {b : Nat} {c0 c1 c2 c3 c4 : Value} (h : ow w b c0 c1 c2 c3 c4) : b < w.heap.size := (Array.getElem?_eq_some_iff.1 h).1
def TInv (H : Nat) (w wr : World) (nv : Value) (sz qu : Int) (ag : ByteArray) (yv nl dl : Value) : Prop :=
  Below H w wr ∧ ow wr H nv (.int .i64 sz) (.int .i64 qu) (.string ag) yv ∧ ow wr (H + 1) (.slice .none 0 0) (.int .i64 0) (.int .i64 0) (.string { data := #[] }) (.slice .none 0 0) ∧ ow wr (H + 1 + 1) nl (.int .i64 sz) (.int .i64 qu) (.string ag) dl
theorem TInv.keep {H : Nat} {w wr w' : World} {nv : Value} {sz qu : Int} {ag : ByteArray} {yv nl dl : Value} (h : TInv H w wr nv sz qu ag yv nl dl) (hH : w.heap.size = H) (hb : Below wr.heap.size wr w') : TInv H w w' nv sz qu ag yv nl dl := by
  obtain ⟨h1, h2, h3, h4⟩ := h
  exact ⟨h1.trans (hb.mono (hH ▸ h1.size)), h2.keep (hb.block _ h2.lt), h3.keep (hb.block _ h3.lt), h4.keep (hb.block _ h4.lt)⟩
theorem twin_step {H : Nat} {w w1 wr w2 W w4 : World} {nv : Value} {sz qu : Int} {ag : ByteArray} {yy lv : Value} {ky : Nat → ByteArray} {dv : Nat → T} {X Y : Nat → Value} {j2 lc g cap : Nat} {la : Option Addr} {x2 y2 : Value}
    (hlt3 : H + 3 ≤ w1.heap.size) (hc2 : TInv H w w2 nv sz qu ag yy lv (.slice la j2 lc)) (hrv : RV (fun b => wr.heap.size ≤ b) w2 (dv j2) x2 y2) (hb2 : Below wr.heap.size wr w2) (hbs : Besides (H + 1 + 1) w1 wr)
    (hel : ∀ i, i < j2 → RV (fun b => w1.heap.size ≤ b ∧ (Value.slice la j2 lc).ownBlock ≠ some b) wr (dv i) (X i) (Y i)) (hown : wr.ownsRow w1.heap.size 59 6 (.slice la j2 lc) j2 (rowD ky dv X Y j2))
    (hWb : Below w2.heap.size w2 W) (hgrow : W.grownBy w4 (Value.slice la j2 lc).ownBlock) (hat : (Value.slice la j2 lc).ownBlock = some g ∨ g = W.heap.size)
    (hown4 : w4.ownsRow w1.heap.size 59 6 (.slice (some ⟨g, 0, none⟩) (j2 + 1) cap) (j2 + 1) (rowD ky dv X Y j2 ++ (.string (ky j2) :: cv (dv j2) x2 y2))) :
    TInv H w (w4.setCell ⟨H + 1 + 1, 4, none⟩ (.slice (some ⟨g, 0, none⟩) (j2 + 1) cap)) nv sz qu ag yy lv (.slice (some ⟨g, 0, none⟩) (j2 + 1) cap) ∧ Besides (H + 1 + 1) w1 (w4.setCell ⟨H + 1 + 1, 4, none⟩ (.slice (some ⟨g, 0, none⟩) (j2 + 1) cap)) ∧ DInv w1.heap.size (w4.setCell ⟨H + 1 + 1, 4, none⟩ (.slice (some ⟨g, 0, none⟩) (j2 + 1) cap)) ky dv (j2 + 1) (.slice (some ⟨g, 0, none⟩) (j2 + 1) cap) := by
  have hlo := fun q (hq : (Value.slice la j2 lc).ownBlock = some q) => (hown.lt q hq)
  have s1 := hbs.size
  have s2 := hb2.size
  have s3 := hWb.size
  have blk : ∀ q, q < w1.heap.size → w4.heap[q]? = w2.heap[q]? := fun q hq =>
    (hgrow.block q (by omega) (fun e => by have := (hlo q e.symm).1; omega)).trans (hWb.block q (by omega))
  have st := rows_step (p := ⟨H + 1 + 1, 4, none⟩) (u := .slice (some ⟨g, 0, none⟩) (j2 + 1) cap) (n := j2 + 1) (cap := cap) s1 (fun q hq => (hlo q hq).2) hb2 hWb hgrow hat (show H + 1 + 1 < w1.heap.size by omega)
  have o4 := hc2.2.2.2.keep (blk _ (by omega))
  refine ⟨⟨?_, ?_, ?_, ow.set o4 4 _⟩, ?_, upd X j2 x2, upd Y j2 y2, ?_, ?_⟩
  · exact ((hc2.1.trans (hWb.mono (by omega))).grown hgrow (by omega) (fun q hq => by have := (hlo q hq).1; omega)).setCell (by show H ≤ H + 1 + 1; omega) _
  · exact (hc2.2.1.keep (blk _ (by omega))).keep (Below.heap_setCell _ _ _ _ (by show H ≠ H + 1 + 1; omega))
  · exact (hc2.2.2.1.keep (blk _ (by omega))).keep (Below.heap_setCell _ _ _ _ (by show H + 1 ≠ H + 1 + 1; omega))
  · refine ⟨((hgrow.os.trans hWb.os).trans hb2.os).trans hbs.os, ((hgrow.tape.trans hWb.tape).trans hb2.tape).trans hbs.tape, ((hgrow.output.trans hWb.output).trans hb2.output).trans hbs.output, ?_, fun q hq hn => ?_⟩
    · have := hgrow.size
      simp [World.setCell]; omega
    · rw [Below.heap_setCell _ _ _ _ hn, blk q hq, hb2.block q (by omega), hbs.block q hq hn]
  · rw [rowD_succ]
    exact hown4.kept (grown_setCell _ _ _) (owns_ne hown4 (show H + 1 + 1 < w1.heap.size by omega))
  · intro i hi
    rcases Nat.lt_succ_iff_lt_or_eq.1 hi with h | rfl
    · rw [upd_lt h, upd_lt h]; exact st.1 _ _ _ (hel i h)
    · rw [upd_eq, upd_eq]; exact st.2 _ _ _ hrv
theorem twin_end {H : Nat} {w w1 w9 wE : World} {nv : Value} {sz qu : Int} {ag : ByteArray} {yy nl dl : Value} {ns : List (ByteArray × Int)} {dn : Nat} {ky : Nat → ByteArray} {dv : Nat → T} (hS : w.heap.size = H) (hlt3 : H + 3 ≤ w1.heap.size)
    (hc : TInv H w w9 nv sz qu ag yy nl dl) (hN : RNs w1 nl ns) (hng : ∀ g, nl.ownBlock = some g → ns ≠ [] → H + 3 ≤ g) (hbs : Besides (H + 1 + 1) w1 w9) (hD : DInv w1.heap.size w9 ky dv dn dl) (hE : Besides (H + 1) w9 wE) :
    RNs wE nl ns ∧ RD (fun b => w.heap.size ≤ b) wE dn ky dv dl ∧ Below w.heap.size w wE := by
  have s1 := hbs.size
  have s2 := hE.size
  refine ⟨?_, hD.rd s2 (fun b h1 h2 => by rw [hE.block b h2 (by omega)]) (fun b h => by omega), ?_⟩
  · obtain ⟨a, c, rfl, h⟩ := hN
    refine ⟨a, c, rfl, ?_⟩
    by_cases hne : ns = []
    · exact .inl hne
    rcases h with h | ⟨g, o, rfl, hlt, h⟩
    · exact .inl h
    · have hg := hng g rfl hne
      have e : wE.heap[g]? = w1.heap[g]? := by rw [hE.block g (by omega) (by omega), hbs.block g hlt (by omega)]
      exact .inr ⟨g, o, rfl, by omega, fun i x hx => ⟨(World.cell?_of_block (w := w1) (a := ⟨g, _, none⟩) e).trans (h i x hx).1, (World.cell?_of_block (w := w1) (a := ⟨g, _, none⟩) e).trans (h i x hx).2⟩⟩
  · have h0 := hc.1
    exact ⟨hE.os.trans h0.os, hE.tape.trans h0.tape, hE.output.trans h0.output, Nat.le_trans h0.size s2, fun q hq => (hE.block q (by have := h0.size; omega) (by omega)).trans (h0.block q (by omega))⟩
theorem info35s : (Try.prog.info? 35).map (·.size) = some 5 := by kernel_rfl
set_option maxHeartbeats 4000000 in
theorem twin15 (w : World) (nv : Value) (sz qu : Int) (ag : ByteArray) (yv : Value) (ns : List (ByteArray × Int)) (dn : Nat) (ky : Nat → ByteArray) (dv : Nat → T) (hns : RNs w nv ns) (hnl : ns.length * 24 ≤ 140737488351232)
    (hok : ∀ i, i < dn → (dv i).ok ∧ (dv i).small) (hdn : dn ≤ 2147483647) (hr : RD (fun _ => True) w dn ky dv yv) :
    Calls Try.prog 15 #[.agg #[nv, .int .i64 sz, .int .i64 qu, .string ag, yv]] w fun e w' => ∃ nv' yv', e = .returned (.agg #[nv', .int .i64 sz, .int .i64 qu, .string ag, yv']) ∧ RNs w' nv' ns ∧ RD (fun b => w.heap.size ≤ b) w' dn ky dv yv' ∧ Below w.heap.size w w' ∧ capped nv' ∧ capped yv' := by
  have hns0 := hns
  obtain ⟨na, nc, rfl, -⟩ := hns
  obtain ⟨a', ca', rfl, hD⟩ := hr
  have HI : Hid ((∀ i, CC (dv i)) ∧ (∀ i, i < dn → (dv i).ok ∧ (dv i).small) ∧
        (dn = 0 ∨ ∃ b o, a' = some ⟨b, o, none⟩ ∧ True ∧ b < w.heap.size ∧ ∀ i, i < dn → ∃ x' y', RV (fun _ => True) w (dv i) x' y' ∧ w.cell? ⟨b, o + i * 6, none⟩ = some (.string (ky i)) ∧ five w b (o + i * 6 + 1) (dv i) x' y')) := ⟨fun i => copy8 (dv i), hok, hD⟩
  generalize hnn : ns.length = nn at *
  have HNN := Lib.hid hnn
  have HB0 : Hid (Below w.heap.size w (((w.alloc (Obj.cells #[.slice na nn nc, .int .i64 sz, .int .i64 qu, .string ag, .slice a' dn ca'] 35)).alloc (Obj.cells #[.slice .none 0 0, .int .i64 0, .int .i64 0, .string { data := #[] }, .slice .none 0 0] 35)).alloc (Obj.cells #[.slice .none 0 0, .int .i64 sz, .int .i64 qu, .string ag, .slice .none 0 0] 35))) := (((Below.refl _ _).alloc (Nat.le_refl _) _).alloc (by simp) _).alloc (by simp; omega) _
  have HC0 : Hid (ow (((w.alloc (Obj.cells #[.slice na nn nc, .int .i64 sz, .int .i64 qu, .string ag, .slice a' dn ca'] 35)).alloc (Obj.cells #[.slice .none 0 0, .int .i64 0, .int .i64 0, .string { data := #[] }, .slice .none 0 0] 35)).alloc (Obj.cells #[.slice .none 0 0, .int .i64 sz, .int .i64 qu, .string ag, .slice .none 0 0] 35)) w.heap.size (.slice na nn nc) (.int .i64 sz) (.int .i64 qu) (.string ag) (.slice a' dn ca') ∧ ow (((w.alloc (Obj.cells #[.slice na nn nc, .int .i64 sz, .int .i64 qu, .string ag, .slice a' dn ca'] 35)).alloc (Obj.cells #[.slice .none 0 0, .int .i64 0, .int .i64 0, .string { data := #[] }, .slice .none 0 0] 35)).alloc (Obj.cells #[.slice .none 0 0, .int .i64 sz, .int .i64 qu, .string ag, .slice .none 0 0] 35)) (w.heap.size + 1) (.slice .none 0 0) (.int .i64 0) (.int .i64 0) (.string { data := #[] }) (.slice .none 0 0) ∧ ow (((w.alloc (Obj.cells #[.slice na nn nc, .int .i64 sz, .int .i64 qu, .string ag, .slice a' dn ca'] 35)).alloc (Obj.cells #[.slice .none 0 0, .int .i64 0, .int .i64 0, .string { data := #[] }, .slice .none 0 0] 35)).alloc (Obj.cells #[.slice .none 0 0, .int .i64 sz, .int .i64 qu, .string ag, .slice .none 0 0] 35)) (w.heap.size + 1 + 1) (.slice .none 0 0) (.int .i64 sz) (.int .i64 qu) (.string ag) (.slice .none 0 0) ∧ (((w.alloc (Obj.cells #[.slice na nn nc, .int .i64 sz, .int .i64 qu, .string ag, .slice a' dn ca'] 35)).alloc (Obj.cells #[.slice .none 0 0, .int .i64 0, .int .i64 0, .string { data := #[] }, .slice .none 0 0] 35)).alloc (Obj.cells #[.slice .none 0 0, .int .i64 sz, .int .i64 qu, .string ag, .slice .none 0 0] 35)).heap.size = w.heap.size + 3) := by
    refine ⟨?_, ?_, ?_, by simp⟩
    · exact (Below.heap_alloc _ _ _ (by simp; omega)).trans ((Below.heap_alloc _ _ _ (by simp)).trans (heap_new _ _))
    · exact (Below.heap_alloc _ _ _ (by simp)).trans (by have := heap_new (w.alloc (Obj.cells #[.slice na nn nc, .int .i64 sz, .int .i64 qu, .string ag, .slice a' dn ca'] 35)) (Obj.cells #[.slice .none 0 0, .int .i64 0, .int .i64 0, .string { data := #[] }, .slice .none 0 0] 35); simpa using this)
    · have := heap_new ((w.alloc (Obj.cells #[.slice na nn nc, .int .i64 sz, .int .i64 qu, .string ag, .slice a' dn ca'] 35)).alloc (Obj.cells #[.slice .none 0 0, .int .i64 0, .int .i64 0, .string { data := #[] }, .slice .none 0 0] 35)) (Obj.cells #[.slice .none 0 0, .int .i64 sz, .int .i64 qu, .string ag, .slice .none 0 0] 35)
      simpa [ow] using this
  have HR0 : Hid (RNs (((w.alloc (Obj.cells #[.slice na nn nc, .int .i64 sz, .int .i64 qu, .string ag, .slice a' dn ca'] 35)).alloc (Obj.cells #[.slice .none 0 0, .int .i64 0, .int .i64 0, .string { data := #[] }, .slice .none 0 0] 35)).alloc (Obj.cells #[.slice .none 0 0, .int .i64 sz, .int .i64 qu, .string ag, .slice .none 0 0] 35)) (.slice na nn nc) ns ∧ nn * 24 ≤ 140737488351232) := ⟨hns0.keep HB0.out, hnl⟩
  clear hns0 hD hok hnn
  obtain ⟨i0, hi, hz0, hz1, hz2⟩ := info_parts info42
  go_enter Try.func15, Try.ntmps15
  go_upto_region 2 with fail
  generalize (((w.alloc (Obj.cells #[.slice na nn nc, .int .i64 sz, .int .i64 qu, .string ag, .slice a' dn ca'] 35)).alloc (Obj.cells #[.slice .none 0 0, .int .i64 0, .int .i64 0, .string { data := #[] }, .slice .none 0 0] 35)).alloc (Obj.cells #[.slice .none 0 0, .int .i64 sz, .int .i64 qu, .string ag, .slice .none 0 0] 35)) = w0 at *
  generalize hvb : w.heap.size = H at *
  have HS : Hid (w.heap.size = H) := hvb
  clear hvb
  obtain ⟨q0, -, -, -, q4⟩ := HC0.out.1.cells
  obtain ⟨x0, -, -, -, x4⟩ := HC0.out.2.2.1.cells
  have xf := HC0.out.2.2.1.frozen 0
  go_wp2_with (at_builtin; refine append_names rfl _ _ rfl rfl rfl (by exact HR0.out.1) (by rw [HNN.out]; exact HR0.out.2) ?_; intro a9 c9 w9 hN9 hc9 hg9 hb9; rw [HNN.out] at hN9 hc9 hg9 ⊢; have x0' := (hb9.cell (p := ⟨H + 1 + 1, 0, none⟩) (by have := HC0.out.2.2.2; show H + 1 + 1 < _; omega)).trans x0; have xf' := (hb9.frozen (p := ⟨H + 1 + 1, 0, none⟩) (by have := HC0.out.2.2.2; show H + 1 + 1 < _; omega)).trans xf)
  have HC9 : Hid (nn ≤ c9 ∧ (a9 = none → c9 = 0)) := hc9
  clear hc9
  have HC : Hid (TInv H w (w9.setCell ⟨H + 1 + 1, 0, none⟩ (.slice a9 nn c9)) (.slice na nn nc) sz qu ag (.slice a' dn ca') (.slice a9 nn c9) (.slice .none 0 0) ∧ RNs (w9.setCell ⟨H + 1 + 1, 0, none⟩ (.slice a9 nn c9)) (.slice a9 nn c9) ns ∧ (∀ g, (Value.slice a9 nn c9).ownBlock = some g → H + 3 ≤ g) ∧ H + 3 ≤ (w9.setCell ⟨H + 1 + 1, 0, none⟩ (.slice a9 nn c9)).heap.size) := by
    have z0 := HC0.out.2.2.2
    have z9 := hb9.size
    have hg9' : ∀ g, (Value.slice a9 nn c9).ownBlock = some g → H + 3 ≤ g := fun g hg => by have := hg9 g hg; omega
    refine ⟨⟨?_, ?_, ?_, ?_⟩, ?_, hg9', by simp; omega⟩
    · exact (HB0.out.trans (hb9.mono (by have := HB0.out.size; have := HS.out; omega))).setCell (by show H ≤ H + 1 + 1; omega) _
    · exact (HC0.out.1.keep (hb9.block _ (by omega))).keep (Below.heap_setCell _ _ _ _ (by show H ≠ H + 1 + 1; omega))
    · exact (HC0.out.2.1.keep (hb9.block _ (by omega))).keep (Below.heap_setCell _ _ _ _ (by show H + 1 ≠ H + 1 + 1; omega))
    · exact ow.set (HC0.out.2.2.1.keep (hb9.block _ (by omega))) 0 _
    · obtain ⟨a, c, e, h⟩ := hN9
      refine ⟨a, c, e, ?_⟩
      rcases h with h | ⟨g, o, rfl, hlt, h⟩
      · exact .inl h
      · have hgg : H + 3 ≤ g := hg9' g (by rw [e]; rfl)
        have e2 : (w9.setCell ⟨H + 1 + 1, 0, none⟩ (.slice a9 nn c9)).heap[g]? = w9.heap[g]? := Below.heap_setCell _ _ _ _ (by show g ≠ H + 1 + 1; omega)
        exact .inr ⟨g, o, rfl, by simpa using hlt, fun i x hx => ⟨(World.cell?_of_block (w := w9) (a := ⟨g, _, none⟩) e2).trans (h i x hx).1, (World.cell?_of_block (w := w9) (a := ⟨g, _, none⟩) e2).trans (h i x hx).2⟩⟩
  clear hN9 hg9 hb9 q0 q4 x0 x4 xf x0' xf' HC0 HB0 HR0
  generalize w9.setCell ⟨H + 1 + 1, 0, none⟩ (.slice a9 nn c9) = w1 at *
  generalize hnl9 : Value.slice a9 nn c9 = nl at *
  have HNL : Hid (Value.slice a9 nn c9 = nl) := hnl9
  clear hnl9
  have hlt3 : H + 3 ≤ w1.heap.size := HC.out.2.2.2
  go_loopw [4] (fun i w9 => ∃ (j2 : Nat) (dl : Value), j2 ≤ dn ∧ i = .int .i64 j2 ∧ Hid (TInv H w w9 (.slice na nn nc) sz qu ag (.slice a' dn ca') nl dl ∧ Besides (H + 1 + 1) w1 w9 ∧ DInv w1.heap.size w9 ky dv j2 dl)) (fun i _ => dn - (intOf i).toNat)
  case atStart => exact ⟨0, _, Nat.zero_le _, rfl, HC.out.1, Besides.refl _ _, fun _ => .slice .none 0 0, fun _ => .slice .none 0 0, World.ownsRow_nil _ _ _ _, fun i hi => absurd hi (Nat.not_lt_zero _)⟩
  case round =>
    obtain ⟨j2, dl, hj2, rfl, hinv⟩ := hrel
    have hc := hinv.out.1
    obtain ⟨_, _, _, _, c4⟩ := hc.2.1.cells
    by_cases hlt2 : j2 < dn
    · obtain ⟨id, ok5, hD⟩ := HI.out
      rcases hD with h | ⟨b, o, rfl, _, hbl, hD⟩
      · omega
      obtain ⟨x1, y1, hv, g0, g1, g2, g3, g4, g5⟩ := hD j2 hlt2
      have hle : w.heap.size ≤ H := Nat.le_of_eq HS.out
      replace g0 := Below.cellS hc.1 hle g0
      replace g1 := Below.cellS hc.1 hle g1
      replace g2 := Below.cellS hc.1 hle g2
      replace g3 := Below.cellS hc.1 hle g3
      replace g4 := Below.cellS hc.1 hle g4
      replace g5 := Below.cellS hc.1 hle g5
      have HV : Hid (CC (dv j2) ∧ ((dv j2).ok ∧ (dv j2).small) ∧ RV (fun _ => True) wr (dv j2) x1 y1) := ⟨id j2, ok5 j2 hlt2, Below.rv hc.1 hle hv⟩
      clear id ok5 hD hv hle hc
      go_wp2_with fail
      refine (HV.out.1 x1 y1 wr HV.out.2.1.1 HV.out.2.1.2 HV.out.2.2).mono ?_
      rintro e w2 ⟨x2, y2, rfl, hrv, hb2⟩
      obtain ⟨hc, hbs, X, Y, hown, hel⟩ := hinv.out
      obtain ⟨la, lc, rfl⟩ := ownForm hown
      have hc2 := hc.keep HS.out hb2
      obtain ⟨_, _, _, _, d4⟩ := hc2.2.2.2.cells
      obtain ⟨_, _, _, _, k4⟩ := hc2.2.1.cells
      have df := hc2.2.2.2.frozen 4
      have g0' := Below.cellS hb2 (Nat.le_refl _) g0
      obtain ⟨⟨xa, xn, xc, rfl⟩, ⟨ya, yn, yc, rfl⟩⟩ := hrv.slices
      have hlt4 : w1.heap.size ≤ wr.heap.size := hbs.size
      have hown2 := hown.kept (grown_of_below hb2) (by cases hv : (Value.slice la j2 lc).ownBlock with | none => exact .inl rfl | some q => exact .inr (by simp))
      have HQ : Hid (TInv H w wr (.slice na nn nc) sz qu ag (.slice (some ⟨b, o, none⟩) dn ca') nl (.slice la j2 lc) ∧ TInv H w w2 (.slice na nn nc) sz qu ag (.slice (some ⟨b, o, none⟩) dn ca') nl (.slice la j2 lc) ∧ RV (fun b => wr.heap.size ≤ b) w2 (dv j2) (.slice xa xn xc) (.slice ya yn yc) ∧ Below wr.heap.size wr w2 ∧ Besides (H + 1 + 1) w1 wr ∧ ∀ i, i < j2 → RV (fun b => w1.heap.size ≤ b ∧ (Value.slice la j2 lc).ownBlock ≠ some b) wr (dv i) (X i) (Y i)) := ⟨hc, hc2, hrv, hb2, hbs, hel⟩
      clear hc hc2 hrv hel hinv hbs g0 g1 g2 g3 g4 g5 c4 HV
      have hsz2 := hb2.size
      clear hb2
      unfold vv
      go_wp2_with fail
      have hx : obj (w2.alloc (Obj.cells #[.int .i64 (dv j2).k, .int .i64 (dv j2).n, .string (dv j2).s, .slice xa xn xc, .slice ya yn yc] 56)) w2.heap.size (.int .i64 (dv j2).k) (.int .i64 (dv j2).n) (.string (dv j2).s) (.slice xa xn xc) (.slice ya yn yc) := heap_new _ _
      have d4_ := d4
      replace d4 := cell_alloc_old (o := (Obj.cells #[.int .i64 (dv j2).k, .int .i64 (dv j2).n, .string (dv j2).s, .slice xa xn xc, .slice ya yn yc] 56)) d4
      replace df := (frozen_alloc_old (o := (Obj.cells #[.int .i64 (dv j2).k, .int .i64 (dv j2).n, .string (dv j2).s, .slice xa xn xc, .slice ya yn yc] 56)) d4_).trans df
      replace k4 := cell_alloc_old (o := (Obj.cells #[.int .i64 (dv j2).k, .int .i64 (dv j2).n, .string (dv j2).s, .slice xa xn xc, .slice ya yn yc] 56)) k4
      replace g0' := cell_alloc_old (o := (Obj.cells #[.int .i64 (dv j2).k, .int .i64 (dv j2).n, .string (dv j2).s, .slice xa xn xc, .slice ya yn yc] 56)) g0'
      have hown3 := hown2.alloc (Obj.cells #[.int .i64 (dv j2).k, .int .i64 (dv j2).n, .string (dv j2).s, .slice xa xn xc, .slice ya yn yc] 56)
      have hB3 : Below w2.heap.size w2 (w2.alloc (Obj.cells #[.int .i64 (dv j2).k, .int .i64 (dv j2).n, .string (dv j2).s, .slice xa xn xc, .slice ya yn yc] 56)) := (Below.refl _ _).alloc (Nat.le_refl _) _
      obtain ⟨hx0, hx1, hx2, hx3, hx4⟩ := hx.cells
      generalize w2.alloc (Obj.cells #[.int .i64 (dv j2).k, .int .i64 (dv j2).n, .string (dv j2).s, .slice xa xn xc, .slice ya yn yc] 56) = w3 at *
      clear hx hown2 d4_
      have hne0 : some (H + 1 + 1) ≠ (Value.slice la j2 lc).ownBlock := fun e => by have := (hown3.lt _ e.symm).1; omega
      have Hne : Hid (some (H + 1 + 1) ≠ (Value.slice la j2 lc).ownBlock) := hne0
      clear hne0
      have hj0 : (0 : Int) ≤ (j2 : Int) := by omega
      have hj1 : (j2 : Int) < (dn : Int) := by omega
      have d4' : ∀ ob, (w3.alloc ob).cell? ⟨H + 1 + 1, 4, none⟩ = some (.slice la j2 lc) := fun ob => cell_alloc_old d4
      go_region_law (refine step_append_lies _ (by rfl) (.tmp 34) (.tmp 43) 33 (by rfl) w1.heap.size 59 i0 _ 6 96 Try.underlying33 hi hz0 hz1 hz2 rfl (by omega) (.slice la j2 lc) j2 (rowD ky dv X Y j2) (by simp [Act.eval]) (by exact (hown3.alloc _)) ⟨w3.heap.size, 0, none⟩ 1 1 (.string (ky j2) :: cv (dv j2) (.slice xa xn xc) (.slice ya yn yc)) (by simp [Act.eval]) rfl (by exact World.news_of_block (B := w3.heap.size) (heap_new w3 _)) (by intro u hu; simp [cv] at hu; rcases hu with rfl | rfl | rfl | rfl | rfl | rfl <;> rfl) (by omega) (by unfold maxLen; omega) (by omega) (by have := hB3.size; simp; omega) (w3.heap.size + 1) (by simp) ?_; intro g cap w4 hown4 hgrow hat hlt4'; have m4 := grown_cell hgrow (p := ⟨H + 1 + 1, 4, none⟩) (cell_alloc_old d4) Hne.out; have mf := grown_frozen hgrow (p := ⟨H + 1 + 1, 4, none⟩) (cell_alloc_old d4) ((frozen_alloc_old d4).trans df) Hne.out)
      all_goals
        have hWb : Below w2.heap.size w2 (w3.alloc (Obj.cells #[.string (ky j2), .int .i64 (dv j2).k, .int .i64 (dv j2).n, .string (dv j2).s, .slice xa xn xc, .slice ya yn yc] 59)) := hB3.alloc hB3.size _
        have hgr : (w3.alloc (Obj.cells #[.string (ky j2), .int .i64 (dv j2).k, .int .i64 (dv j2).n, .string (dv j2).s, .slice xa xn xc, .slice ya yn yc] 59)).grownBy w4 (Value.slice la j2 lc).ownBlock := ⟨hgrow.os, hgrow.tape, hgrow.output, hgrow.size, hgrow.block⟩
        have HN : Hid (TInv H w (w4.setCell ⟨H + 1 + 1, 4, none⟩ (.slice (some ⟨g, 0, none⟩) (j2 + 1) cap)) (.slice na nn nc) sz qu ag (.slice (some ⟨b, o, none⟩) dn ca') nl (.slice (some ⟨g, 0, none⟩) (j2 + 1) cap) ∧ Besides (H + 1 + 1) w1 (w4.setCell ⟨H + 1 + 1, 4, none⟩ (.slice (some ⟨g, 0, none⟩) (j2 + 1) cap)) ∧ DInv w1.heap.size (w4.setCell ⟨H + 1 + 1, 4, none⟩ (.slice (some ⟨g, 0, none⟩) (j2 + 1) cap)) ky dv (j2 + 1) (.slice (some ⟨g, 0, none⟩) (j2 + 1) cap)) := by
          obtain ⟨_, hc2, hrv, hb2, hbs, hel⟩ := HQ.out
          exact twin_step hlt3 hc2 hrv hb2 hbs hel hown hWb hgr (by rcases hat with h | h; exact .inl h; exact .inr (by simpa using h)) hown4
        clear HQ hown hown3 hown4 hgrow hgr hat hlt4' hWb d4 d4' df hx0 hx1 hx2 hx3 hx4 g0' k4 hB3
        go_wp2
        exact ⟨⟨j2 + 1, _, by omega, by go_num, HN⟩, by simp [intOf]; omega⟩
    · obtain rfl : j2 = dn := by omega
      obtain ⟨_, hbs, hD⟩ := hinv.out
      obtain ⟨laB, lcB, rfl⟩ := ownForm hD.choose_spec.choose_spec.1
      obtain ⟨q0, q1, q2, q3, q4⟩ := hc.2.2.2.cells
      obtain ⟨r0, r1, r2, r3, r4⟩ := hc.2.2.1.cells
      have z0 := hc.2.2.1.frozen 0
      have z1 := hc.2.2.1.frozen 1
      have z2 := hc.2.2.1.frozen 2
      have z3 := hc.2.2.1.frozen 3
      have z4 := hc.2.2.1.frozen 4
      have HE : Hid (∀ wE, Besides (H + 1) wr wE → RNs wE nl ns ∧ RD (fun b => w.heap.size ≤ b) wE j2 ky dv (.slice laB j2 lcB) ∧ Below w.heap.size w wE) := fun wE hE => twin_end HS.out hlt3 hc HC.out.2.1 (fun g hg _ => HC.out.2.2.1 g hg) hbs hD hE
      have HCB : Hid (j2 ≤ lcB ∧ (laB = none → lcB = 0)) := own_cap hD.choose_spec.choose_spec.1 _ _ rfl
      have HR : Hid (ow wr (H + 1) (.slice .none 0 0) (.int .i64 0) (.int .i64 0) (.string { data := #[] }) (.slice .none 0 0)) := hc.2.2.1
      clear hc hbs hD hinv HC
      have hnl9 := HNL.out
      clear HNL
      subst hnl9
      go_wp2
      exact bodyPost_ret (v := .agg #[.slice a9 nn c9, .int .i64 sz, .int .i64 qu, .string ag, .slice laB j2 lcB]) (results_cell_row Try.results15 _ _ (H + 1) 35 _ (0, 0) _ rfl (ow.set (ow.set (ow.set (ow.set (ow.set HR.out 0 _) 1 _) 2 _) 3 _) 4 _) Try.underlying35 rfl info35s) rfl ⟨_, _, rfl, and_more (HE.out _ (besides5 _ _ _ _ _ _ _)) (fun a n c e => by cases e; exact HC9.out) (fun a n c e => by cases e; exact HCB.out)⟩
end Go.Proofs.Ytldkecjfjcnkfaa
