import Derived.Test.YtnjdopdlafcbgaaHd
namespace Go.Proofs.Ytnjdopdlafcbgaa
open Go.RowKit Go.Deep
theorem rows_step0 {B : Nat} {wr w2 W w3 : World} {lv : Value} {g n cap : Nat} (hB : B ≤ wr.heap.size) (hlv : ∀ k, lv.ownBlock = some k → k < wr.heap.size) (hb2 : Below wr.heap.size wr w2) (hW : Below w2.heap.size w2 W) (hgrow : W.grownBy w3 lv.ownBlock)
    (hat : lv.ownBlock = some g ∨ g = W.heap.size) :
    (∀ t x y, RV (fun b => B ≤ b ∧ lv.ownBlock ≠ some b) wr t x y → RV (fun b => B ≤ b ∧ (Value.slice (some ⟨g, 0, none⟩) n cap).ownBlock ≠ some b) w3 t x y) ∧
    (∀ t x y, RV (fun b => wr.heap.size ≤ b) w2 t x y → RV (fun b => B ≤ b ∧ (Value.slice (some ⟨g, 0, none⟩) n cap).ownBlock ≠ some b) w3 t x y) := by
  have hsz : w2.heap.size ≤ w3.heap.size := Nat.le_trans hW.size hgrow.size
  have e0 : (Value.slice (some ⟨g, 0, none⟩) n cap).ownBlock = some g := rfl
  have blk : ∀ b, B ≤ b → b < w2.heap.size → lv.ownBlock ≠ some b → w3.heap[b]? = w2.heap[b]? := by
    intro b h1 h2 h3
    rw [hgrow.block b (Nat.lt_of_lt_of_le h2 hW.size) (fun e => h3 e.symm), hW.block b h2]
  have gne : ∀ b, b < w2.heap.size → lv.ownBlock ≠ some b → (some g : Option Nat) ≠ some b := by
    intro b h1 h2 e
    cases e
    rcases hat with h | h
    · exact h2 h
    · have := hW.size; omega
  constructor
  · intro t x y h
    refine RV.move (fun b hb hl => ⟨hb.1, e0 ▸ gne b (Nat.lt_of_lt_of_le hl hb2.size) hb.2⟩) (Nat.le_trans hb2.size hsz) (fun b hb hl => ?_) t x y h
    rw [blk b hb.1 (Nat.lt_of_lt_of_le hl hb2.size) hb.2, hb2.block b hl]
  · intro t x y h
    have hne : ∀ b, wr.heap.size ≤ b → lv.ownBlock ≠ some b := fun b h1 e => by have := hlv b e; omega
    exact RV.move (fun b hb hl => ⟨Nat.le_trans hB hb, e0 ▸ gne b hl (hne b hb)⟩) hsz (fun b hb hl => blk b (Nat.le_trans hB hb) hl (hne b hb)) t x y h
theorem copy_step {B : Nat} {w wr w2 W w4 : World} {ky : Nat → ByteArray} {dv : Nat → T} {X Y : Nat → Value} {j lc g cap : Nat} {la : Option Addr} {x2 y2 : Value} (hB : B ≤ wr.heap.size) (hbw : Below B w wr)
    (hrv : RV (fun b => wr.heap.size ≤ b) w2 (dv j) x2 y2) (hb2 : Below wr.heap.size wr w2)
    (hel : ∀ i, i < j → RV (fun b => B ≤ b ∧ (Value.slice la j lc).ownBlock ≠ some b) wr (dv i) (X i) (Y i)) (hown : wr.ownsRow B 59 6 (.slice la j lc) j (rowD ky dv X Y j))
    (hWb : Below w2.heap.size w2 W) (hgrow : W.grownBy w4 (Value.slice la j lc).ownBlock) (hat : (Value.slice la j lc).ownBlock = some g ∨ g = W.heap.size)
    (hown4 : w4.ownsRow B 59 6 (.slice (some ⟨g, 0, none⟩) (j + 1) cap) (j + 1) (rowD ky dv X Y j ++ (.string (ky j) :: cv (dv j) x2 y2))) :
    Below B w w4 ∧ DInv B w4 ky dv (j + 1) (.slice (some ⟨g, 0, none⟩) (j + 1) cap) := by
  have hlo := fun q (hq : (Value.slice la j lc).ownBlock = some q) => (hown.lt q hq)
  have st := rows_step0 (n := j + 1) (cap := cap) hB (fun q hq => (hlo q hq).2) hb2 hWb hgrow hat
  have s2 := hb2.size
  have s3 := hWb.size
  refine ⟨((hbw.trans (hb2.mono hB)).trans (hWb.mono (by omega))).grown hgrow (by omega) (fun q hq => (hlo q hq).1), upd X j x2, upd Y j y2, ?_, ?_⟩
  · rw [rowD_succ]
    exact hown4
  · intro i hi
    rcases Nat.lt_succ_iff_lt_or_eq.1 hi with h | rfl
    · rw [upd_lt h, upd_lt h]; exact st.1 _ _ _ (hel i h)
    · rw [upd_eq, upd_eq]; exact st.2 _ _ _ hrv
set_option maxHeartbeats 4000000 in
set_option maxRecDepth 100000 in
theorem copied42 (dn : Nat) (ky : Nat → ByteArray) (dv : Nat → T) (y : Value) (w : World) (hok : ∀ i, i < dn → (dv i).ok ∧ (dv i).small) (hdn : dn ≤ 2147483647) (hr : RD (fun _ => True) w dn ky dv y) :
    Calls Try.prog 42 #[y] w fun e w' => ∃ y', e = .returned y' ∧ RD (fun b => w.heap.size ≤ b) w' dn ky dv y' ∧ Below w.heap.size w w' := by
  obtain ⟨a, ca, rfl, hD⟩ := hr
  have HI : Hid ((∀ i, CC (dv i)) ∧ (∀ i, i < dn → (dv i).ok ∧ (dv i).small) ∧
        (dn = 0 ∨ ∃ b o, a = some ⟨b, o, none⟩ ∧ True ∧ b < w.heap.size ∧ ∀ i, i < dn → ∃ x' y', RV (fun _ => True) w (dv i) x' y' ∧ w.cell? ⟨b, o + i * 6, none⟩ = some (.string (ky i)) ∧ five w b (o + i * 6 + 1) (dv i) x' y')) := ⟨fun i => copy8 (dv i), hok, hD⟩
  clear hD hok
  obtain ⟨i0, hi, hz0, hz1, hz2⟩ := info_parts info42
  go_enter Try.func42, Try.ntmps42
  go_wp2_with fail
  go_loopw [3, 4] (fun dl t wr => ∃ j : Nat, j ≤ dn ∧ t = .int .i64 j ∧ Hid (Below w.heap.size w wr ∧ DInv w.heap.size wr ky dv j dl)) (fun _ t _ => dn - (intOf t).toNat)
  case atStart => exact ⟨0, Nat.zero_le _, rfl, Below.refl _ _, fun _ => .slice .none 0 0, fun _ => .slice .none 0 0, World.ownsRow_nil _ _ _ _, fun i hi => absurd hi (Nat.not_lt_zero _)⟩
  case round =>
    obtain ⟨j, hj, rfl, hinv⟩ := hrel
    by_cases hlt : j < dn
    · obtain ⟨id, ok5, hD⟩ := HI.out
      rcases hD with h | ⟨b, o, rfl, _, hbl, hD⟩
      · omega
      obtain ⟨x1, y1, hv, g0, g1, g2, g3, g4, g5⟩ := hD j hlt
      have hc := hinv.out.1
      have hle : w.heap.size ≤ w.heap.size := Nat.le_refl _
      replace g0 := Below.cellS hc hle g0
      replace g1 := Below.cellS hc hle g1
      replace g2 := Below.cellS hc hle g2
      replace g3 := Below.cellS hc hle g3
      replace g4 := Below.cellS hc hle g4
      replace g5 := Below.cellS hc hle g5
      have HV : Hid (CC (dv j) ∧ ((dv j).ok ∧ (dv j).small) ∧ RV (fun _ => True) wr (dv j) x1 y1) := ⟨id j, ok5 j hlt, Below.rv hc hle hv⟩
      obtain ⟨⟨xa1, xn1, xc1, rfl⟩, ⟨ya1, yn1, yc1, rfl⟩⟩ := hv.slices
      clear id ok5 hD hv hle hc
      go_wp2_with fail
      refine (HV.out.1 _ _ wr HV.out.2.1.1 HV.out.2.1.2 HV.out.2.2).mono ?_
      rintro e w2 ⟨x2, y2, rfl, hrv, hb2⟩
      obtain ⟨hbw, X, Y, hown, hel⟩ := hinv.out
      obtain ⟨la, lc, rfl⟩ := ownForm hown
      have g0' := Below.cellS hb2 (Nat.le_refl _) g0
      obtain ⟨⟨xa, xn, xc, rfl⟩, ⟨ya, yn, yc, rfl⟩⟩ := hrv.slices
      have hBs : w.heap.size ≤ wr.heap.size := hbw.size
      have hown2 := hown.kept (grown_of_below hb2) (by cases hv : (Value.slice la j lc).ownBlock with | none => exact .inl rfl | some q => exact .inr (by simp))
      have HQ : Hid (RV (fun b => wr.heap.size ≤ b) w2 (dv j) (.slice xa xn xc) (.slice ya yn yc) ∧ Below wr.heap.size wr w2 ∧ Below w.heap.size w wr ∧ (∀ i, i < j → RV (fun b => w.heap.size ≤ b ∧ (Value.slice la j lc).ownBlock ≠ some b) wr (dv i) (X i) (Y i)) ∧ wr.ownsRow w.heap.size 59 6 (.slice la j lc) j (rowD ky dv X Y j)) := ⟨hrv, hb2, hbw, hel, hown⟩
      have hsz2 := hb2.size
      clear hrv hel hinv hbw hown g0 g1 g2 g3 g4 g5 HV hb2
      unfold vv
      go_wp2_with fail
      have hx : obj (w2.alloc (Obj.cells #[.int .i64 (dv j).k, .int .i64 (dv j).n, .string (dv j).s, .slice xa xn xc, .slice ya yn yc] 56)) w2.heap.size (.int .i64 (dv j).k) (.int .i64 (dv j).n) (.string (dv j).s) (.slice xa xn xc) (.slice ya yn yc) := heap_new _ _
      replace g0' := cell_alloc_old (o := (Obj.cells #[.int .i64 (dv j).k, .int .i64 (dv j).n, .string (dv j).s, .slice xa xn xc, .slice ya yn yc] 56)) g0'
      have hown3 := hown2.alloc (Obj.cells #[.int .i64 (dv j).k, .int .i64 (dv j).n, .string (dv j).s, .slice xa xn xc, .slice ya yn yc] 56)
      have hB3 : Below w2.heap.size w2 (w2.alloc (Obj.cells #[.int .i64 (dv j).k, .int .i64 (dv j).n, .string (dv j).s, .slice xa xn xc, .slice ya yn yc] 56)) := (Below.refl _ _).alloc (Nat.le_refl _) _
      obtain ⟨hx0, hx1, hx2, hx3, hx4⟩ := hx.cells
      generalize w2.alloc (Obj.cells #[.int .i64 (dv j).k, .int .i64 (dv j).n, .string (dv j).s, .slice xa xn xc, .slice ya yn yc] 56) = w3 at *
      clear hx hown2
      have hj0 : (0 : Int) ≤ (j : Int) := by omega
      have hj1 : (j : Int) < (dn : Int) := by omega
      go_region_law (refine step_append_lies _ (by rfl) (.tmp 18) (.tmp 26) 33 (by rfl) w.heap.size 59 i0 _ 6 96 Try.underlying33 hi hz0 hz1 hz2 rfl (by omega) (.slice la j lc) j (rowD ky dv X Y j) (by simp [Act.eval]) (by exact (hown3.alloc _)) ⟨w3.heap.size, 0, none⟩ 1 1 (.string (ky j) :: cv (dv j) (.slice xa xn xc) (.slice ya yn yc)) (by simp [Act.eval]) rfl (by exact World.news_of_block (B := w3.heap.size) (heap_new w3 _)) (by intro u hu; simp [cv] at hu; rcases hu with rfl | rfl | rfl | rfl | rfl | rfl <;> rfl) (by omega) (by unfold maxLen; omega) (by omega) (by have := hB3.size; simp; omega) (w3.heap.size + 1) (by simp) ?_; intro g cap w4 hown4 hgrow hat hlt4')
      all_goals
        have hWb : Below w2.heap.size w2 (w3.alloc (Obj.cells #[.string (ky j), .int .i64 (dv j).k, .int .i64 (dv j).n, .string (dv j).s, .slice xa xn xc, .slice ya yn yc] 59)) := hB3.alloc hB3.size _
        have hgr : (w3.alloc (Obj.cells #[.string (ky j), .int .i64 (dv j).k, .int .i64 (dv j).n, .string (dv j).s, .slice xa xn xc, .slice ya yn yc] 59)).grownBy w4 (Value.slice la j lc).ownBlock := ⟨hgrow.os, hgrow.tape, hgrow.output, hgrow.size, hgrow.block⟩
        have HN : Hid (Below w.heap.size w w4 ∧ DInv w.heap.size w4 ky dv (j + 1) (.slice (some ⟨g, 0, none⟩) (j + 1) cap)) := by
          obtain ⟨hrv, hb2, hbw, hel, hown⟩ := HQ.out
          exact copy_step hBs hbw hrv hb2 hel hown hWb hgr (by rcases hat with h | h; exact .inl h; exact .inr (by simpa using h)) hown4
        clear HQ hown3 hown4 hgrow hgr hat hlt4' hWb hx0 hx1 hx2 hx3 hx4 g0' hB3
        go_wp2
        exact ⟨⟨j + 1, by omega, by go_num, HN⟩, by simp [intOf]; omega⟩
    · obtain rfl : j = dn := by omega
      obtain ⟨hbw, hD⟩ := hinv.out
      obtain ⟨laB, lcB, rfl⟩ := ownForm hD.choose_spec.choose_spec.1
      have HE : Hid (RD (fun b => w.heap.size ≤ b) wr j ky dv (.slice laB j lcB) ∧ Below w.heap.size w wr) := ⟨hD.rd (Nat.le_refl _) (fun _ _ _ => rfl) (fun b h => h), hbw⟩
      clear hbw hD hinv
      go_wp2
      go_ret
      exact ⟨_, rfl, HE.out.1, HE.out.2⟩
end Go.Proofs.Ytnjdopdlafcbgaa
