import Derived.Test.YtjfgpplomldeiaaGreatDoorWa
namespace Go.Proofs.YtjfgpplomldeiaaGreatDoor
open Go.RowKit Go.Deep
/-- the elements so far, behind one more -/
theorem rows_step0 {B : Nat} {wr w2 W w3 : World} {lv : Value} {g n cap : Nat} (hB : B ≤ wr.heap.size) (hlv : ∀ k, lv.ownBlock = some k → k < wr.heap.size) (hb2 : Below wr.heap.size wr w2) (hW : Below w2.heap.size w2 W) (hgrow : W.grownBy w3 lv.ownBlock)
    (hat : lv.ownBlock = some g ∨ g = W.heap.size) :
    (∀ t x y, RV (fun b => B ≤ b ∧ lv.ownBlock ≠ some b) wr t x y → RV (fun b => B ≤ b ∧ (Value.slice (some ⟨g, 0, none⟩) n cap).ownBlock ≠ some b) w3 t x y) ∧
    (∀ t x y, RV (fun b => wr.heap.size ≤ b) w2 t x y → RV (fun b => B ≤ b ∧ (Value.slice (some ⟨g, 0, none⟩) n cap).ownBlock ≠ some b) w3 t x y) := by
  have hsz : w2.heap.size ≤ w3.heap.size := Nat.le_trans hW.size hgrow.size
  have e0 : (Value.slice (some ⟨g, 0, none⟩) n cap).ownBlock = some g := rfl
  have blk : ∀ b, B ≤ b → b < w2.heap.size → lv.ownBlock ≠ some b → w3.heap[b]? = w2.heap[b]? := by
    intro b h1 h2 h3
    rw [hgrow.block b (Nat.lt_of_lt_of_le h2 hW.size) (fun e => h3 e.symm), hW.block b h2]
  have gne : ∀ b, b < w2.heap.size → lv.ownBlock ≠ some b → (some g : Option Nat) ≠ some b := by
    intro b h1 h2 e
    cases e
    rcases hat with h | h
    · exact h2 h
    · have := hW.size; omega
  constructor
  · intro t x y h
    refine RV.move (fun b hb hl => ⟨hb.1, e0 ▸ gne b (Nat.lt_of_lt_of_le hl hb2.size) hb.2⟩) (Nat.le_trans hb2.size hsz) (fun b hb hl => ?_) t x y h
    rw [blk b hb.1 (Nat.lt_of_lt_of_le hl hb2.size) hb.2, hb2.block b hl]
  · intro t x y h
    have hne : ∀ b, wr.heap.size ≤ b → lv.ownBlock ≠ some b := fun b h1 e => by have := hlv b e; omega
    exact RV.move (fun b hb hl => ⟨Nat.le_trans hB hb, e0 ▸ gne b hl (hne b hb)⟩) hsz (fun b hb hl => blk b (Nat.le_trans hB hb) hl (hne b hb)) t x y h
set_option maxHeartbeats 2000000 in
theorem pairsTwin (dn : Nat) (ky : Nat → ByteArray) (dv : Nat → T) (ih : ∀ i, i < dn → CC (dv i)) (y : Value) (w : World) (hdn : dn ≤ 2147483647) (hos : ∀ i, i < dn → (dv i).ok ∧ (dv i).small) (hr : RD (fun _ => True) w dn ky dv y) :
    Calls Tryz.prog 15 #[y] w fun e w' => ∃ y', e = .returned y' ∧ RD (fun b => w.heap.size ≤ b) w' dn ky dv y' ∧ Below w.heap.size w w' := by
  obtain ⟨a, ca, rfl, hD⟩ := hr
  obtain ⟨i0, hi, hz0, hz1, hz2⟩ := info_parts info42
  have HI : Hid ((∀ i, i < dn → CC (dv i)) ∧ (∀ i, i < dn → (dv i).ok ∧ (dv i).small) ∧ (dn = 0 ∨ ∃ b o, a = some ⟨b, o, none⟩ ∧ True ∧ b < w.heap.size ∧ ∀ i, i < dn → ∃ x' y', RV (fun _ => True) w (dv i) x' y' ∧ w.cell? ⟨b, o + i * 6, none⟩ = some (.string (ky i)) ∧ five w b (o + i * 6 + 1) (dv i) x' y')) := ⟨ih, hos, hD⟩
  clear ih hos hD
  go_enter Tryz.func15, Tryz.ntmps15
  go_wp2
  go_loopw [3, 4] (fun v i wr => ∃ (j : Nat) (la : Option Addr) (lc : Nat), j ≤ dn ∧ i = .int .i64 j ∧ v = .slice la j lc ∧ Hid (Below w.heap.size w wr ∧ DInv w.heap.size wr ky dv j v)) (fun _ i _ => dn - (intOf i).toNat)
  case atStart => exact ⟨0, none, 0, Nat.zero_le _, rfl, rfl, (⟨Below.refl _ _, fun _ => .slice .none 0 0, fun _ => .slice .none 0 0, World.ownsRow_nil _ _ _ _, fun i hi => absurd hi (Nat.not_lt_zero _)⟩ : Below w.heap.size w _ ∧ DInv w.heap.size _ ky dv 0 _)⟩
  case round =>
    obtain ⟨j2, la, lc, hj2, rfl, rfl, hinv⟩ := hrel
    by_cases hlt2 : j2 < dn
    · obtain ⟨id, ok5, hD⟩ := HI.out
      rcases hD with h | ⟨b, o, rfl, _, hbl, hD⟩
      · omega
      obtain ⟨x1, y1, hv, g0, g1, g2, g3, g4, g5⟩ := hD j2 hlt2
      have hle : w.heap.size ≤ w.heap.size := Nat.le_refl _
      have hc := hinv.out.1
      replace g0 := Below.cellS hc hle g0
      replace g1 := Below.cellS hc hle g1
      replace g2 := Below.cellS hc hle g2
      replace g3 := Below.cellS hc hle g3
      replace g4 := Below.cellS hc hle g4
      replace g5 := Below.cellS hc hle g5
      have HV : Hid (CC (dv j2) ∧ ((dv j2).ok ∧ (dv j2).small) ∧ RV (fun _ => True) wr (dv j2) x1 y1) := ⟨id j2 hlt2, ok5 j2 hlt2, Below.rv hc hle hv⟩
      clear id ok5 hD hv hle hc
      go_wp2_with fail
      refine (HV.out.1 x1 y1 wr HV.out.2.1.1 HV.out.2.1.2 HV.out.2.2).mono ?_
      rintro e w2 ⟨x2, y2, rfl, hrv, hb2⟩
      obtain ⟨hbs, X, Y, hown, hel⟩ := hinv.out
      have g0' := Below.cellS hb2 (Nat.le_refl _) g0
      obtain ⟨⟨xa, xn, xc, rfl⟩, ⟨ya, yn, yc, rfl⟩⟩ := hrv.slices
      have hlt4 : w.heap.size ≤ wr.heap.size := hbs.size
      have hown2 := hown.kept (grown_of_below hb2) (by cases hv : (Value.slice la j2 lc).ownBlock with | none => exact .inl rfl | some q => exact .inr (by simp))
      have HQ : Hid (RV (fun b => wr.heap.size ≤ b) w2 (dv j2) (.slice xa xn xc) (.slice ya yn yc) ∧ Below wr.heap.size wr w2 ∧ Below w.heap.size w wr ∧ ∀ i, i < j2 → RV (fun b => w.heap.size ≤ b ∧ (Value.slice la j2 lc).ownBlock ≠ some b) wr (dv i) (X i) (Y i)) := ⟨hrv, hb2, hbs, hel⟩
      clear hrv hel hinv hbs g0 g1 g2 g3 g4 g5 HV
      have hsz2 := hb2.size
      clear hb2
      unfold vv
      go_wp2_with fail
      have hx : obj (w2.alloc (Obj.cells #[.int .i64 (dv j2).k, .int .i64 (dv j2).n, .string (dv j2).s, .slice xa xn xc, .slice ya yn yc] 46)) w2.heap.size (.int .i64 (dv j2).k) (.int .i64 (dv j2).n) (.string (dv j2).s) (.slice xa xn xc) (.slice ya yn yc) := heap_new _ _
      replace g0' := cell_alloc_old (o := (Obj.cells #[.int .i64 (dv j2).k, .int .i64 (dv j2).n, .string (dv j2).s, .slice xa xn xc, .slice ya yn yc] 46)) g0'
      have hown3 := hown2.alloc (Obj.cells #[.int .i64 (dv j2).k, .int .i64 (dv j2).n, .string (dv j2).s, .slice xa xn xc, .slice ya yn yc] 46)
      have hB3 : Below w2.heap.size w2 (w2.alloc (Obj.cells #[.int .i64 (dv j2).k, .int .i64 (dv j2).n, .string (dv j2).s, .slice xa xn xc, .slice ya yn yc] 46)) := (Below.refl _ _).alloc (Nat.le_refl _) _
      obtain ⟨hx0, hx1, hx2, hx3, hx4⟩ := hx.cells
      generalize w2.alloc (Obj.cells #[.int .i64 (dv j2).k, .int .i64 (dv j2).n, .string (dv j2).s, .slice xa xn xc, .slice ya yn yc] 46) = w3 at *
      clear hx hown2
      have hj0 : (0 : Int) ≤ (j2 : Int) := by omega
      have hj1 : (j2 : Int) < (dn : Int) := by omega
      go_region_law (refine step_append_lies _ (by rfl) (.tmp 18) (.tmp 26) 26 (by rfl) w.heap.size 48 i0 _ 6 96 Tryz.underlying26 hi hz0 hz1 hz2 rfl (by omega) (.slice la j2 lc) j2 (rowD ky dv X Y j2) (by simp [Act.eval]) (by exact (hown3.alloc _)) ⟨w3.heap.size, 0, none⟩ 1 1 (.string (ky j2) :: cv (dv j2) (.slice xa xn xc) (.slice ya yn yc)) (by simp [Act.eval]) rfl (by exact World.news_of_block (B := w3.heap.size) (heap_new w3 _)) (by intro u hu; simp [cv] at hu; rcases hu with rfl | rfl | rfl | rfl | rfl | rfl <;> rfl) (by omega) (by unfold maxLen; omega) (by omega) (by have := hB3.size; simp; omega) (w3.heap.size + 1) (by simp) ?_; intro g cap w4 hown4 hgrow hat hlt4')
      all_goals
        have hWb : Below w2.heap.size w2 (w3.alloc (Obj.cells #[.string (ky j2), .int .i64 (dv j2).k, .int .i64 (dv j2).n, .string (dv j2).s, .slice xa xn xc, .slice ya yn yc] 48)) := hB3.alloc hB3.size _
        have hgr : (w3.alloc (Obj.cells #[.string (ky j2), .int .i64 (dv j2).k, .int .i64 (dv j2).n, .string (dv j2).s, .slice xa xn xc, .slice ya yn yc] 48)).grownBy w4 (Value.slice la j2 lc).ownBlock := ⟨hgrow.os, hgrow.tape, hgrow.output, hgrow.size, hgrow.block⟩
        have HN : Hid (Below w.heap.size w w4 ∧ DInv w.heap.size w4 ky dv (j2 + 1) (.slice (some ⟨g, 0, none⟩) (j2 + 1) cap)) := by
          obtain ⟨hrv, hb2, hbs, hel⟩ := HQ.out
          have hlo := fun q (hq : (Value.slice la j2 lc).ownBlock = some q) => (hown.lt q hq)
          have st := rows_step0 (n := j2 + 1) (cap := cap) hlt4 (fun q hq => (hlo q hq).2) hb2 hWb hgr (by rcases hat with h | h; exact .inl h; exact .inr (by simpa using h))
          have s3 := hWb.size
          have h9 : Below w.heap.size w w4 := (((hbs.trans (hb2.mono hlt4)).trans (hWb.mono (by omega))).grown hgr (by omega) (fun q hq => (hlo q hq).1))
          have h8 : DInv w.heap.size w4 ky dv (j2 + 1) (.slice (some ⟨g, 0, none⟩) (j2 + 1) cap) := by
            refine ⟨upd X j2 (.slice xa xn xc), upd Y j2 (.slice ya yn yc), by rw [rowD_succ]; exact hown4, fun i hi => ?_⟩
            rcases Nat.lt_succ_iff_lt_or_eq.1 hi with h | rfl
            · rw [upd_lt h, upd_lt h]; exact st.1 _ _ _ (hel i h)
            · rw [upd_eq, upd_eq]; exact st.2 _ _ _ hrv
          exact (⟨h9, h8⟩ : Below w.heap.size w w4 ∧ DInv w.heap.size w4 ky dv (j2 + 1) (.slice (some ⟨g, 0, none⟩) (j2 + 1) cap))
        clear HQ hown hown3 hown4 hgrow hgr hat hlt4' hWb hx0 hx1 hx2 hx3 hx4 g0' hB3
        go_wp2
        go_roundw
        case rel => exact ⟨j2 + 1, _, _, by omega, by go_num, rfl, HN⟩
        case measure => simp [intOf]; omega
    · obtain rfl : j2 = dn := by omega
      obtain ⟨hbs, hD⟩ := hinv.out
      have HR : Hid (RD (fun b => w.heap.size ≤ b) wr j2 ky dv (.slice la j2 lc)) := hD.rd (Nat.le_refl _) (fun _ _ _ => rfl) (fun _ h => h)
      have HB : Hid (Below w.heap.size w wr) := hbs
      clear hinv hbs hD
      go_wp2
      go_ret
      exact ⟨_, rfl, HR.out, HB.out⟩
end Go.Proofs.YtjfgpplomldeiaaGreatDoor
