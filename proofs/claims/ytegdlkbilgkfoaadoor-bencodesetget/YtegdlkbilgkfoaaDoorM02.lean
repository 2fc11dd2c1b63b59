import Derived.Test.YtegdlkbilgkfoaaDoorM00
import Derived.Deep.AppendLies
import Derived.OwnWalk
import Derived.Deep.RegionLaw
import Derived.Test.YtegdlkbilgkfoaaDoorM01
namespace Go.Proofs.YtegdlkbilgkfoaaDoor
open Go.RowKit Go.Deep
/-- the cells of one value -/
def cv (t : T) (x y : Value) : List Value := [.int .i64 t.k, .int .i64 t.n, .string t.s, x, y]
/-- the cells of a row of values -/
def rowL (l : Nat → T) (X Y : Nat → Value) (j : Nat) : List Value := (List.range j).flatMap fun i => cv (l i) (X i) (Y i)
def rowD (ky : Nat → ByteArray) (l : Nat → T) (X Y : Nat → Value) (j : Nat) : List Value := (List.range j).flatMap fun i => .string (ky i) :: cv (l i) (X i) (Y i)
/-- a function turned at one place -/
def upd (X : Nat → Value) (j : Nat) (x : Value) : Nat → Value := fun i => if i = j then x else X i
theorem upd_lt {X : Nat → Value} {j i : Nat} {x : Value} (h : i < j) : upd X j x i = X i := by unfold upd; rw [if_neg (by omega)]
theorem upd_eq {X : Nat → Value} {j : Nat} {x : Value} : upd X j x j = x := by unfold upd; rw [if_pos rfl]
theorem rowL_succ (l : Nat → T) (X Y : Nat → Value) (j : Nat) (x y : Value) : rowL l (upd X j x) (upd Y j y) (j + 1) = rowL l X Y j ++ cv (l j) x y := by
  unfold rowL
  rw [List.range_succ, List.flatMap_append, flatMap_congr_range (g := fun i => cv (l i) (X i) (Y i)) (fun i hi => by rw [upd_lt hi, upd_lt hi])]
  simp [upd_eq]
theorem rowD_succ (ky : Nat → ByteArray) (l : Nat → T) (X Y : Nat → Value) (j : Nat) (x y : Value) : rowD ky l (upd X j x) (upd Y j y) (j + 1) = rowD ky l X Y j ++ (.string (ky j) :: cv (l j) x y) := by
  unfold rowD
  rw [List.range_succ, List.flatMap_append, flatMap_congr_range (g := fun i => .string (ky i) :: cv (l i) (X i) (Y i)) (fun i hi => by rw [upd_lt hi, upd_lt hi])]
  simp [upd_eq]
/-- what a loop of Copy has laid so far -/
def LInv (B : Nat) (wr : World) (l : Nat → T) (j : Nat) (lv : Value) : Prop :=
  ∃ X Y, wr.ownsRow B 27 5 lv j (rowL l X Y j) ∧ ∀ i, i < j → RV (fun b => B ≤ b ∧ lv.ownBlock ≠ some b) wr (l i) (X i) (Y i)
def DInv (B : Nat) (wr : World) (ky : Nat → ByteArray) (l : Nat → T) (j : Nat) (lv : Value) : Prop :=
  ∃ X Y, wr.ownsRow B 48 6 lv j (rowD ky l X Y j) ∧ ∀ i, i < j → RV (fun b => B ≤ b ∧ lv.ownBlock ≠ some b) wr (l i) (X i) (Y i)
/-- a block of five cells -/
def obj (w : World) (b : Nat) (c0 c1 c2 c3 c4 : Value) : Prop := w.heap[b]? = some (.cells #[c0, c1, c2, c3, c4] 27 (0, 0))
theorem obj.cells {w : World} {b : Nat} {c0 c1 c2 c3 c4 : Value} (h : obj w b c0 c1 c2 c3 c4) :
    w.cell? ⟨b, 0, none⟩ = some c0 ∧ w.cell? ⟨b, 1, none⟩ = some c1 ∧ w.cell? ⟨b, 2, none⟩ = some c2 ∧ w.cell? ⟨b, 3, none⟩ = some c3 ∧ w.cell? ⟨b, 4, none⟩ = some c4 := by
  unfold obj at h
  refine ⟨?_, ?_, ?_, ?_, ?_⟩ <;> simp [World.cell?, h]
theorem obj.frozen {w : World} {b : Nat} {c0 c1 c2 c3 c4 : Value} (h : obj w b c0 c1 c2 c3 c4) (i : Nat) : w.frozen? ⟨b, i, none⟩ = false := by
  unfold obj at h
  simp [World.frozen?, h]
theorem obj.set0 {w : World} {b : Nat} {c0 c1 c2 c3 c4 : Value} (h : obj w b c0 c1 c2 c3 c4) (u : Value) : obj (w.setCell ⟨b, 0, none⟩ u) b u c1 c2 c3 c4 := by
  unfold obj at h ⊢
  simp [World.setCell, Array.getElem?_modify, h]
theorem obj.set1 {w : World} {b : Nat} {c0 c1 c2 c3 c4 : Value} (h : obj w b c0 c1 c2 c3 c4) (u : Value) : obj (w.setCell ⟨b, 1, none⟩ u) b c0 u c2 c3 c4 := by
  unfold obj at h ⊢
  simp [World.setCell, Array.getElem?_modify, h]
theorem obj.set2 {w : World} {b : Nat} {c0 c1 c2 c3 c4 : Value} (h : obj w b c0 c1 c2 c3 c4) (u : Value) : obj (w.setCell ⟨b, 2, none⟩ u) b c0 c1 u c3 c4 := by
  unfold obj at h ⊢
  simp [World.setCell, Array.getElem?_modify, h]
theorem obj.set3 {w : World} {b : Nat} {c0 c1 c2 c3 c4 : Value} (h : obj w b c0 c1 c2 c3 c4) (u : Value) : obj (w.setCell ⟨b, 3, none⟩ u) b c0 c1 c2 u c4 := by
  unfold obj at h ⊢
  simp [World.setCell, Array.getElem?_modify, h]
theorem obj.set4 {w : World} {b : Nat} {c0 c1 c2 c3 c4 : Value} (h : obj w b c0 c1 c2 c3 c4) (u : Value) : obj (w.setCell ⟨b, 4, none⟩ u) b c0 c1 c2 c3 u := by
  unfold obj at h ⊢
  simp [World.setCell, Array.getElem?_modify, h]
theorem obj.keep {w w' : World} {b : Nat} {c0 c1 c2 c3 c4 : Value} (h : obj w b c0 c1 c2 c3 c4) (hb : w'.heap[b]? = w.heap[b]?) : obj w' b c0 c1 c2 c3 c4 := hb.trans h
theorem obj.lt {w : World} {b : Nat} {c0 c1 c2 c3 c4 : Value} (h : obj w b c0 c1 c2 c3 c4) : b < w.heap.size := (Array.getElem?_eq_some_iff.1 h).1
theorem info25 : (Tryd.prog.info? 27).map (fun i => (i.zero, i.size, i.bytes)) = some (some (.agg #[.int .i64 0, .int .i64 0, .string ByteArray.empty, .slice none 0 0, .slice none 0 0]), 5, 80) := by kernel_rfl
theorem grown_of_below {w w' : World} (h : Below w.heap.size w w') : w.grownBy w' .none := ⟨h.os, h.tape, h.output, h.size, fun k hk _ => h.block k hk⟩
theorem grown_setCell (w : World) (p : Addr) (u : Value) : w.grownBy (w.setCell p u) (some p.block) := ⟨rfl, rfl, rfl, by simp [World.setCell], fun k _ hn => Below.heap_setCell _ _ _ _ (fun e => hn (by rw [e]))⟩
theorem owns_ne {w : World} {B : Nat} {e : TypeId} {sz : Nat} {v : Value} {n : Nat} {xs : List Value} (h : w.ownsRow B e sz v n xs) {b : Nat} (hb : b < B) : v.ownBlock = Option.none ∨ v.ownBlock ≠ some b := by
  cases hv : v.ownBlock with
  | none => exact .inl rfl
  | some q =>
    refine .inr fun e => ?_
    have e' : q = b := by simpa using e
    have := (h.lt q hv).1
    omega
/-- the elements so far, behind one more -/
theorem rows_step {B : Nat} {wr w2 W w3 : World} {p : Addr} {u lv : Value} {g n cap : Nat} (hB : B ≤ wr.heap.size) (hlv : ∀ k, lv.ownBlock = some k → k < wr.heap.size) (hb2 : Below wr.heap.size wr w2) (hW : Below w2.heap.size w2 W) (hgrow : W.grownBy w3 lv.ownBlock)
    (hat : lv.ownBlock = some g ∨ g = W.heap.size) (hp : p.block < B) :
    (∀ t x y, RV (fun b => B ≤ b ∧ lv.ownBlock ≠ some b) wr t x y → RV (fun b => B ≤ b ∧ (Value.slice (some ⟨g, 0, none⟩) n cap).ownBlock ≠ some b) (w3.setCell p u) t x y) ∧
    (∀ t x y, RV (fun b => wr.heap.size ≤ b) w2 t x y → RV (fun b => B ≤ b ∧ (Value.slice (some ⟨g, 0, none⟩) n cap).ownBlock ≠ some b) (w3.setCell p u) t x y) := by
  have hsz : w2.heap.size ≤ w3.heap.size := Nat.le_trans hW.size hgrow.size
  have hse : (w3.setCell p u).heap.size = w3.heap.size := by simp [World.setCell]
  have e0 : (Value.slice (some ⟨g, 0, none⟩) n cap).ownBlock = some g := rfl
  have blk : ∀ b, B ≤ b → b < w2.heap.size → lv.ownBlock ≠ some b → (w3.setCell p u).heap[b]? = w2.heap[b]? := by
    intro b h1 h2 h3
    rw [Below.heap_setCell _ _ _ _ (by omega), hgrow.block b (Nat.lt_of_lt_of_le h2 hW.size) (fun e => h3 e.symm), hW.block b h2]
  have gne : ∀ b, b < w2.heap.size → lv.ownBlock ≠ some b → (some g : Option Nat) ≠ some b := by
    intro b h1 h2 e
    cases e
    rcases hat with h | h
    · exact h2 h
    · have := hW.size; omega
  constructor
  · intro t x y h
    refine RV.move (fun b hb hl => ⟨hb.1, e0 ▸ gne b (Nat.lt_of_lt_of_le hl hb2.size) hb.2⟩) (hse ▸ Nat.le_trans hb2.size hsz) (fun b hb hl => ?_) t x y h
    rw [blk b hb.1 (Nat.lt_of_lt_of_le hl hb2.size) hb.2, hb2.block b hl]
  · intro t x y h
    have hne : ∀ b, wr.heap.size ≤ b → lv.ownBlock ≠ some b := fun b h1 e => by have := hlv b e; omega
    exact RV.move (fun b hb hl => ⟨Nat.le_trans hB hb, e0 ▸ gne b hl (hne b hb)⟩) (hse ▸ hsz) (fun b hb hl => blk b (Nat.le_trans hB hb) hl (hne b hb)) t x y h
/-- between the calls nothing of it turns -/
theorem LInv.keep {B : Nat} {wr w' : World} {l : Nat → T} {j : Nat} {lv : Value} (h : LInv B wr l j lv) (hb : Below wr.heap.size wr w') : LInv B w' l j lv := by
  obtain ⟨X, Y, h1, h2⟩ := h
  exact ⟨X, Y, h1.kept (grown_of_below hb) (by cases hv : lv.ownBlock with | none => exact .inl rfl | some k => exact .inr (by simp)), fun i hi => RV.move (fun b h _ => h) hb.size (fun b _ hl => hb.block b hl) _ _ _ (h2 i hi)⟩
theorem ownForm {w : World} {B : Nat} {e : TypeId} {sz : Nat} {v : Value} {n : Nat} {xs : List Value} (h : w.ownsRow B e sz v n xs) : ∃ a c, v = .slice a n c := by
  rcases h.2 with ⟨rfl, rfl⟩ | ⟨g, cap, cur, rfl, _⟩
  · exact ⟨_, _, rfl⟩
  · exact ⟨_, _, rfl⟩
theorem heap_new (w : World) (o : Obj) : (w.alloc o).heap[w.heap.size]? = some o := by show (w.heap.push o)[w.heap.size]? = _; simp
/-- what stands at a round's head in Copy -/
def CInv (H : Nat) (w wr : World) (k n : Int) (s : ByteArray) (x y lv dv : Value) : Prop :=
  Below H w wr ∧ obj wr H (.int .i64 k) (.int .i64 n) (.string s) x y ∧ obj wr (H + 1) (.int .i64 0) (.int .i64 0) (.string { data := #[] }) (.slice .none 0 0) (.slice .none 0 0) ∧ obj wr (H + 1 + 1) (.int .i64 k) (.int .i64 n) (.string s) lv dv
theorem CInv.keep {H : Nat} {w wr w' : World} {k n : Int} {s : ByteArray} {x y lv dv : Value} (h : CInv H w wr k n s x y lv dv) (hH : w.heap.size = H) (hb : Below wr.heap.size wr w') : CInv H w w' k n s x y lv dv := by
  obtain ⟨h1, h2, h3, h4⟩ := h
  exact ⟨h1.trans (hb.mono (hH ▸ h1.size)), h2.keep (hb.block _ h2.lt), h3.keep (hb.block _ h3.lt), h4.keep (hb.block _ h4.lt)⟩
theorem grown_cell {W w4 : World} {row : Option Nat} {p : Addr} {v : Value} (hg : W.grownBy w4 row) (hc : W.cell? p = some v) (hne : some p.block ≠ row) : w4.cell? p = some v :=
  (World.cell?_of_block (w := W) (hg.block p.block (World.block_lt_of_cell? W p hc) hne)).trans hc
theorem grown_frozen {W w4 : World} {row : Option Nat} {p : Addr} {v : Value} (hg : W.grownBy w4 row) (hc : W.cell? p = some v) (hf : W.frozen? p = false) (hne : some p.block ≠ row) : w4.frozen? p = false :=
  (World.frozen?_of_block (w := W) (hg.block p.block (World.block_lt_of_cell? W p hc) hne)).trans hf
theorem info42 : (Tryd.prog.info? 48).map (fun i => (i.zero, i.size, i.bytes)) = some (some (.agg #[.string ByteArray.empty, .int .i64 0, .int .i64 0, .string ByteArray.empty, .slice none 0 0, .slice none 0 0]), 6, 96) := by kernel_rfl
theorem dict_step {H : Nat} {w w1 wr w2 W w4 : World} {k n : Int} {s : ByteArray} {xx yy lv : Value} {ky : Nat → ByteArray} {dv : Nat → T} {X Y : Nat → Value} {j2 lc g cap : Nat} {la : Option Addr} {x2 y2 : Value}
    (hlt3 : H + 3 ≤ w1.heap.size) (hc2 : CInv H w w2 k n s xx yy lv (.slice la j2 lc)) (hrv : RV (fun b => wr.heap.size ≤ b) w2 (dv j2) x2 y2) (hb2 : Below wr.heap.size wr w2) (hbs : Besides (H + 1 + 1) w1 wr)
    (hel : ∀ i, i < j2 → RV (fun b => w1.heap.size ≤ b ∧ (Value.slice la j2 lc).ownBlock ≠ some b) wr (dv i) (X i) (Y i)) (hown : wr.ownsRow w1.heap.size 48 6 (.slice la j2 lc) j2 (rowD ky dv X Y j2))
    (hWb : Below w2.heap.size w2 W) (hgrow : W.grownBy w4 (Value.slice la j2 lc).ownBlock) (hat : (Value.slice la j2 lc).ownBlock = some g ∨ g = W.heap.size)
    (hown4 : w4.ownsRow w1.heap.size 48 6 (.slice (some ⟨g, 0, none⟩) (j2 + 1) cap) (j2 + 1) (rowD ky dv X Y j2 ++ (.string (ky j2) :: cv (dv j2) x2 y2))) :
    CInv H w (w4.setCell ⟨H + 1 + 1, 4, none⟩ (.slice (some ⟨g, 0, none⟩) (j2 + 1) cap)) k n s xx yy lv (.slice (some ⟨g, 0, none⟩) (j2 + 1) cap) ∧ Besides (H + 1 + 1) w1 (w4.setCell ⟨H + 1 + 1, 4, none⟩ (.slice (some ⟨g, 0, none⟩) (j2 + 1) cap)) ∧ DInv w1.heap.size (w4.setCell ⟨H + 1 + 1, 4, none⟩ (.slice (some ⟨g, 0, none⟩) (j2 + 1) cap)) ky dv (j2 + 1) (.slice (some ⟨g, 0, none⟩) (j2 + 1) cap) := by
  have hlo := fun q (hq : (Value.slice la j2 lc).ownBlock = some q) => (hown.lt q hq)
  have s1 := hbs.size
  have s2 := hb2.size
  have s3 := hWb.size
  have blk : ∀ q, q < w1.heap.size → w4.heap[q]? = w2.heap[q]? := fun q hq =>
    (hgrow.block q (by omega) (fun e => by have := (hlo q e.symm).1; omega)).trans (hWb.block q (by omega))
  have st := rows_step (p := ⟨H + 1 + 1, 4, none⟩) (u := .slice (some ⟨g, 0, none⟩) (j2 + 1) cap) (n := j2 + 1) (cap := cap) s1 (fun q hq => (hlo q hq).2) hb2 hWb hgrow hat (show H + 1 + 1 < w1.heap.size by omega)
  have o4 := hc2.2.2.2.keep (blk _ (by omega))
  refine ⟨⟨?_, ?_, ?_, o4.set4 _⟩, ?_, upd X j2 x2, upd Y j2 y2, ?_, ?_⟩
  · exact ((hc2.1.trans (hWb.mono (by omega))).grown hgrow (by omega) (fun q hq => by have := (hlo q hq).1; omega)).setCell (by show H ≤ H + 1 + 1; omega) _
  · exact (hc2.2.1.keep (blk _ (by omega))).keep (Below.heap_setCell _ _ _ _ (by show H ≠ H + 1 + 1; omega))
  · exact (hc2.2.2.1.keep (blk _ (by omega))).keep (Below.heap_setCell _ _ _ _ (by show H + 1 ≠ H + 1 + 1; omega))
  · refine ⟨((hgrow.os.trans hWb.os).trans hb2.os).trans hbs.os, ((hgrow.tape.trans hWb.tape).trans hb2.tape).trans hbs.tape, ((hgrow.output.trans hWb.output).trans hb2.output).trans hbs.output, ?_, fun q hq hn => ?_⟩
    · have := hgrow.size
      simp [World.setCell]; omega
    · rw [Below.heap_setCell _ _ _ _ hn, blk q hq, hb2.block q (by omega), hbs.block q hq hn]
  · rw [rowD_succ]
    exact hown4.kept (grown_setCell _ _ _) (owns_ne hown4 (show H + 1 + 1 < w1.heap.size by omega))
  · intro i hi
    rcases Nat.lt_succ_iff_lt_or_eq.1 hi with h | rfl
    · rw [upd_lt h, upd_lt h]; exact st.1 _ _ _ (hel i h)
    · rw [upd_eq, upd_eq]; exact st.2 _ _ _ hrv
theorem rowL_len (l : Nat → T) (X Y : Nat → Value) (j : Nat) : (rowL l X Y j).length = j * 5 := by
  unfold rowL
  induction j with
  | zero => rfl
  | succ j ih => rw [List.range_succ, List.flatMap_append, List.length_append, ih]; simp [cv]; omega
theorem rowD_len (ky : Nat → ByteArray) (l : Nat → T) (X Y : Nat → Value) (j : Nat) : (rowD ky l X Y j).length = j * 6 := by
  unfold rowD
  induction j with
  | zero => rfl
  | succ j ih => rw [List.range_succ, List.flatMap_append, List.length_append, ih]; simp [cv]; omega
theorem rowL_get (l : Nat → T) (X Y : Nat → Value) (i r : Nat) (hr : r < 5) : ∀ j, i < j → (rowL l X Y j)[i * 5 + r]? = (cv (l i) (X i) (Y i))[r]? := by
  intro j
  induction j with
  | zero => intro h; omega
  | succ j ih =>
    intro h
    have e : rowL l X Y (j + 1) = rowL l X Y j ++ cv (l j) (X j) (Y j) := by unfold rowL; rw [List.range_succ, List.flatMap_append]; simp
    rw [e]
    by_cases hij : i = j
    · subst hij
      rw [List.getElem?_append_right (by rw [rowL_len]; omega), rowL_len]
      congr 1; omega
    · rw [List.getElem?_append_left (by rw [rowL_len]; omega)]
      exact ih (by omega)
theorem rowD_get (ky : Nat → ByteArray) (l : Nat → T) (X Y : Nat → Value) (i r : Nat) (hr : r < 6) : ∀ j, i < j → (rowD ky l X Y j)[i * 6 + r]? = (.string (ky i) :: cv (l i) (X i) (Y i))[r]? := by
  intro j
  induction j with
  | zero => intro h; omega
  | succ j ih =>
    intro h
    have e : rowD ky l X Y (j + 1) = rowD ky l X Y j ++ (.string (ky j) :: cv (l j) (X j) (Y j)) := by unfold rowD; rw [List.range_succ, List.flatMap_append]; simp
    rw [e]
    by_cases hij : i = j
    · subst hij
      rw [List.getElem?_append_right (by rw [rowD_len]; omega), rowD_len]
      congr 1; omega
    · rw [List.getElem?_append_left (by rw [rowD_len]; omega)]
      exact ih (by omega)
/-- the finished list reads as it should -/
theorem LInv.rl {B : Nat} {w w' : World} {l : Nat → T} {ln : Nat} {lv : Value} {S : Nat → Prop} (h : LInv B w l ln lv) (hs : w.heap.size ≤ w'.heap.size) (hb : ∀ b, B ≤ b → b < w.heap.size → w'.heap[b]? = w.heap[b]?) (hS : ∀ b, B ≤ b → S b) : RL S w' ln l lv := by
  obtain ⟨X, Y, hown, hel⟩ := h
  rcases hown.2 with ⟨rfl, rfl⟩ | ⟨g, cap, cur, rfl, hg1, hg2, _⟩
  · exact ⟨_, _, rfl, .inl rfl⟩
  have hg : g < w.heap.size := (Array.getElem?_eq_some_iff.1 hg2).1
  refine ⟨_, _, rfl, .inr ⟨g, 0, rfl, hS g hg1, Nat.lt_of_lt_of_le hg hs, fun i hi => ⟨X i, Y i, RV.move (fun b hb' _ => hS b hb'.1) hs (fun b hb' hl => hb b hb'.1 hl) _ _ _ (hel i hi), ?_⟩⟩⟩
  have c : ∀ r, r < 5 → w'.cell? ⟨g, i * 5 + r, none⟩ = (cv (l i) (X i) (Y i))[r]? := fun r hr => by
    rw [World.cell?_of_block (w := w) (a := ⟨g, i * 5 + r, none⟩) (hb g hg1 hg), hown.cellAt (i * 5 + r) (by omega), rowL_get _ _ _ _ _ hr _ hi]
  have c0 := c 0 (by omega)
  have c1 := c 1 (by omega)
  have c2 := c 2 (by omega)
  have c3 := c 3 (by omega)
  have c4 := c 4 (by omega)
  simp only [cv, Nat.add_zero] at c0 c1 c2 c3 c4
  simp only [Nat.zero_add]
  exact ⟨c0, c1, c2, c3, c4⟩
theorem DInv.rd {B : Nat} {w w' : World} {ky : Nat → ByteArray} {l : Nat → T} {dn : Nat} {dl : Value} {S : Nat → Prop} (h : DInv B w ky l dn dl) (hs : w.heap.size ≤ w'.heap.size) (hb : ∀ b, B ≤ b → b < w.heap.size → w'.heap[b]? = w.heap[b]?) (hS : ∀ b, B ≤ b → S b) : RD S w' dn ky l dl := by
  obtain ⟨X, Y, hown, hel⟩ := h
  rcases hown.2 with ⟨rfl, rfl⟩ | ⟨g, cap, cur, rfl, hg1, hg2, _⟩
  · exact ⟨_, _, rfl, .inl rfl⟩
  have hg : g < w.heap.size := (Array.getElem?_eq_some_iff.1 hg2).1
  refine ⟨_, _, rfl, .inr ⟨g, 0, rfl, hS g hg1, Nat.lt_of_lt_of_le hg hs, fun i hi => ⟨X i, Y i, RV.move (fun b hb' _ => hS b hb'.1) hs (fun b hb' hl => hb b hb'.1 hl) _ _ _ (hel i hi), ?_⟩⟩⟩
  have c : ∀ r, r < 6 → w'.cell? ⟨g, i * 6 + r, none⟩ = (.string (ky i) :: cv (l i) (X i) (Y i))[r]? := fun r hr => by
    rw [World.cell?_of_block (w := w) (a := ⟨g, i * 6 + r, none⟩) (hb g hg1 hg), hown.cellAt (i * 6 + r) (by omega), rowD_get _ _ _ _ _ _ hr _ hi]
  have c0 := c 0 (by omega)
  have c1 := c 1 (by omega)
  have c2 := c 2 (by omega)
  have c3 := c 3 (by omega)
  have c4 := c 4 (by omega)
  have c5 := c 5 (by omega)
  simp only [cv, Nat.add_zero] at c0 c1 c2 c3 c4 c5
  simp only [Nat.zero_add]
  exact ⟨c0, c1, c2, c3, c4, c5⟩
theorem info25s : (Tryd.prog.info? 27).map (·.size) = some 5 := by kernel_rfl
theorem besides5 (w : World) (b : Nat) (c0 c1 c2 c3 c4 : Value) : Besides b w (((((w.setCell ⟨b, 0, none⟩ c0).setCell ⟨b, 1, none⟩ c1).setCell ⟨b, 2, none⟩ c2).setCell ⟨b, 3, none⟩ c3).setCell ⟨b, 4, none⟩ c4) :=
  ((((Besides.setCell w ⟨b, 0, none⟩ c0).trans (Besides.setCell _ ⟨b, 1, none⟩ c1)).trans (Besides.setCell _ ⟨b, 2, none⟩ c2)).trans (Besides.setCell _ ⟨b, 3, none⟩ c3)).trans (Besides.setCell _ ⟨b, 4, none⟩ c4)
theorem copy_end {H : Nat} {w w1 w9 wE : World} {k n : Int} {s : ByteArray} {xx yy lv dl : Value} {ln dn : Nat} {l : Nat → T} {ky : Nat → ByteArray} {dv : Nat → T} (hS : w.heap.size = H) (hlt3 : H + 3 ≤ w1.heap.size)
    (hc : CInv H w w9 k n s xx yy lv dl) (hL : LInv (H + 3) w1 l ln lv) (hbs : Besides (H + 1 + 1) w1 w9) (hD : DInv w1.heap.size w9 ky dv dn dl) (hE : Besides (H + 1) w9 wE) :
    RV (fun b => w.heap.size ≤ b) wE (.mk k n s ln l dn ky dv) lv dl ∧ Below w.heap.size w wE := by
  have s1 := hbs.size
  have s2 := hE.size
  refine ⟨⟨hL.rl (Nat.le_trans s1 s2) (fun b h1 h2 => ?_) (fun b h => by omega), hD.rd s2 (fun b h1 h2 => ?_) (fun b h => by omega)⟩, ?_⟩
  · rw [hE.block b (by omega) (by omega), hbs.block b h2 (by omega)]
  · rw [hE.block b h2 (by omega)]
  · have h0 := hc.1
    exact ⟨hE.os.trans h0.os, hE.tape.trans h0.tape, hE.output.trans h0.output, Nat.le_trans h0.size s2, fun q hq => (hE.block q (by have := h0.size; omega) (by omega)).trans (h0.block q (by omega))⟩
end Go.Proofs.YtegdlkbilgkfoaaDoor
namespace Go.Proofs.YtegdlkbilgkfoaaDoor
open Go.RowKit Go.Deep
theorem info55 : (Tryd.prog.info? 52).map (fun i => (i.zero, i.size, i.bytes)) = some (some .nilIface, 1, 16) := by kernel_rfl
theorem info57 : (Tryd.prog.info? 66).map (fun i => (i.zero, i.size, i.bytes)) = some (some (.agg #[.string ByteArray.empty, .nilIface]), 2, 32) := by kernel_rfl
/-- a block, whole -/
def blk (w : World) (g : Nat) (ty : TypeId) (cs : Array Value) : Prop := w.heap[g]? = some (.cells cs ty (0, 0))
theorem blk.cell {w : World} {g : Nat} {ty : TypeId} {cs : Array Value} (h : blk w g ty cs) (i : Nat) : w.cell? ⟨g, i, none⟩ = cs[i]? := by
  unfold blk at h
  simp [World.cell?, h]
theorem blk.frozen {w : World} {g : Nat} {ty : TypeId} {cs : Array Value} (h : blk w g ty cs) (i : Nat) : w.frozen? ⟨g, i, none⟩ = false := by
  unfold blk at h
  simp [World.frozen?, h]
theorem blk.set {w : World} {g : Nat} {ty : TypeId} {cs : Array Value} (h : blk w g ty cs) (i : Nat) (u : Value) : blk (w.setCell ⟨g, i, none⟩ u) g ty (cs.setIfInBounds i u) := by
  unfold blk at h ⊢
  simp [World.setCell, Array.getElem?_modify, h]
theorem blk.keep {w w' : World} {g : Nat} {ty : TypeId} {cs : Array Value} (h : blk w g ty cs) (hb : w'.heap[g]? = w.heap[g]?) : blk w' g ty cs := hb.trans h
theorem blk.lt {w : World} {g : Nat} {ty : TypeId} {cs : Array Value} (h : blk w g ty cs) : g < w.heap.size := (Array.getElem?_eq_some_iff.1 h).1
/-- a node reads as the tree -/
def RN (S : Nat → Prop) (w : World) : T → Value → Prop
  | .no => fun _ => False
  | .mk k n s ln l dn ky dv => fun v =>
    (k = 1 ∧ v = .iface 76 (.int .i64 n)) ∨ (k = 2 ∧ v = .iface 64 (.string s)) ∨
    (k = 3 ∧ ∃ b c, v = .iface 78 (.slice (some ⟨b, 0, none⟩) ln c) ∧ S b ∧ b < w.heap.size ∧ ∀ i, i < ln → ∃ u, w.cell? ⟨b, i, none⟩ = some u ∧ RN S w (l i) u) ∨
    (k = 4 ∧ ∃ b c, v = .iface 59 (.slice (some ⟨b, 0, none⟩) dn c) ∧ S b ∧ b < w.heap.size ∧ ∀ i, i < dn → ∃ u, w.cell? ⟨b, i * 2, none⟩ = some (.string (ky i)) ∧ w.cell? ⟨b, i * 2 + 1, none⟩ = some u ∧ RN S w (dv i) u)
theorem RN.move {S S' : Nat → Prop} {w w' : World} (hS : ∀ b, S b → b < w.heap.size → S' b) (hs : w.heap.size ≤ w'.heap.size) (hb : ∀ b, S b → b < w.heap.size → w'.heap[b]? = w.heap[b]?) :
    ∀ (t : T) (v : Value), RN S w t v → RN S' w' t v := by
  intro t
  induction t with
  | no => intro v h; exact h
  | mk k n s ln l dn ky dv il id =>
    rintro v (h | h | ⟨hk, b, c, rfl, h1, h2, h3⟩ | ⟨hk, b, c, rfl, h1, h2, h3⟩)
    · exact .inl h
    · exact .inr (.inl h)
    · refine .inr (.inr (.inl ⟨hk, b, c, rfl, hS b h1 h2, Nat.lt_of_lt_of_le h2 hs, fun i hi => ?_⟩))
      obtain ⟨u, g1, g2⟩ := h3 i hi
      exact ⟨u, (World.cell?_of_block (w := w) (hb b h1 h2)).trans g1, il i _ g2⟩
    · refine .inr (.inr (.inr ⟨hk, b, c, rfl, hS b h1 h2, Nat.lt_of_lt_of_le h2 hs, fun i hi => ?_⟩))
      obtain ⟨u, g0, g1, g2⟩ := h3 i hi
      exact ⟨u, (World.cell?_of_block (w := w) (hb b h1 h2)).trans g0, (World.cell?_of_block (w := w) (hb b h1 h2)).trans g1, id i _ g2⟩
theorem RN.iface {S : Nat → Prop} {w : World} {t : T} {v : Value} (h : RN S w t v) : ∃ ty u, v = .iface ty u := by
  cases t with
  | no => exact h.elim
  | mk k n s ln l dn ky dv =>
    rcases h with ⟨_, rfl⟩ | ⟨_, rfl⟩ | ⟨_, b, c, rfl, _⟩ | ⟨_, b, c, rfl, _⟩ <;> exact ⟨_, _, rfl⟩
/-- valid, but for its depth -/
def VT : T → Prop
  | .no => True
  | .mk k n s ln l dn ky dv => ownB k n s ln dn = true ∧ (∀ i, i < ln → VT (l i)) ∧ (∀ i, i < dn → keyBad ky i = false ∧ VT (dv i))
theorem fstE_zero {f : Nat → Int} {n : Nat} (h : fstE f n = 0) : ∀ i, i < n → f i = 0 := by
  induction n with
  | zero => intro i hi; omega
  | succ n ih =>
    unfold fstE at h
    by_cases h0 : fstE f n = 0
    · rw [if_pos h0] at h
      intro i hi
      by_cases e : i = n
      · subst e; exact h
      · exact ih h0 i (by omega)
    · rw [if_neg h0] at h; exact absurd h h0
theorem vt_of_wk : ∀ (t : T) (ar : Int), wk t ar = 0 → VT t := by
  intro t
  induction t with
  | no => intro _ _; trivial
  | mk k n s ln l dn ky dv il id =>
    intro ar h
    rw [wk] at h
    dsimp only at h
    by_cases h1 : ownB k n s ln dn = false
    · rw [if_pos h1] at h; omega
    rw [if_neg h1] at h
    have ho : ownB k n s ln dn = true := by simpa using h1
    refine ⟨ho, ?_⟩
    obtain ⟨k1, k4, o1, o2, o3, o4⟩ := (ownB_iff _ _ _ _ _).1 ho
    by_cases h2 : k < 3
    · have e1 : ln = 0 := by omega
      have e2 : dn = 0 := by omega
      exact ⟨fun i hi => by omega, fun i hi => by omega⟩
    rw [if_neg h2] at h
    by_cases h3 : 32 ≤ ar
    · rw [if_pos h3] at h; omega
    rw [if_neg h3] at h
    by_cases h4 : fstE (fun i => wk (l i) (ar + 1)) ln ≠ 0
    · rw [if_pos h4] at h; exact absurd h h4
    rw [if_neg h4] at h
    have h4' : fstE (fun i => wk (l i) (ar + 1)) ln = 0 := by simpa using h4
    refine ⟨fun i hi => il i (ar + 1) (fstE_zero h4' i hi), fun i hi => ?_⟩
    have h5 := fstE_zero h i hi
    by_cases h6 : keyBad ky i = true
    · simp only [h6] at h5; simp at h5
    · have h6' : keyBad ky i = false := by simpa using h6
      simp only [h6'] at h5
      exact ⟨h6', id i (ar + 1) (by simpa using h5)⟩
/-- no row of bytes -/
def NB (w : World) (b : Nat) : Prop := ∀ c fz, w.heap[b]? ≠ some (.cells c 5 fz)
def NB5 (H : Nat) (w : World) : Prop := ∀ b, H ≤ b → NB w b
theorem NB5.alloc {H : Nat} {w : World} (h : NB5 H w) (o : Obj) (ho : ∀ c fz, o ≠ .cells c 5 fz) : NB5 H (w.alloc o) := fun b hb c fz hc => by
  by_cases e : b < w.heap.size
  · rw [Below.heap_alloc _ _ _ e] at hc; exact h b hb c fz hc
  · by_cases e2 : b = w.heap.size
    · subst e2; rw [heap_new] at hc; exact ho c fz (Option.some.inj hc)
    · rw [Array.getElem?_eq_none (by simp; omega)] at hc; cases hc
theorem NB5.self (w : World) : NB5 w.heap.size w := fun b hb c fz hc => by
  rw [Array.getElem?_eq_none hb] at hc; cases hc
theorem NB5.next {H : Nat} {w w' : World} (h : NB5 H w) (hb : Below w.heap.size w w') (k : NB5 w.heap.size w') : NB5 H w' := fun b hH => by
  by_cases e : b < w.heap.size
  · intro c fz hc; rw [hb.block b e] at hc; exact h b hH c fz hc
  · exact k b (by omega)
theorem NB5.set {H g i : Nat} {w : World} {ty : TypeId} {cs : Array Value} {v : Value} (h : NB5 H w) (hg : blk w g ty cs) (ht : ty ≠ 5) : NB5 H (w.setCell ⟨g, i, none⟩ v) := fun b hH c fz hc => by
  by_cases e : b = g
  · subst e
    have := hg.set i v
    rw [this] at hc
    cases hc; exact ht rfl
  · rw [Below.heap_setCell _ _ _ _ e] at hc; exact h b hH c fz hc
def NC (t : T) : Prop := ∀ (x y : Value) (w : World), t.ok → t.small → VT t → RV (fun _ => True) w t x y →
  Calls Tryd.prog 27 #[vv t x y] w fun e w' => ∃ u, e = .returned u ∧ RN (fun b => w.heap.size ≤ b) w' t u ∧ Below w.heap.size w w' ∧ NB5 w.heap.size w'
/-- a row of nodes so far -/
def NInv (g : Nat) (w : World) (l : Nat → T) (ln j : Nat) (cs : Array Value) : Prop := blk w g 52 cs ∧ cs.size = ln ∧ ∀ i, i < j → ∃ u, cs[i]? = some u ∧ RN (fun b => g < b) w (l i) u
set_option maxHeartbeats 2000000 in
theorem listOf39 (ln : Nat) (l : Nat → T) (x : Value) (w : World) (ih : ∀ i, NC (l i)) (hs : ln ≤ 2147483647) (ok4 : ∀ i, i < ln → (l i).ok ∧ (l i).small ∧ VT (l i)) (hL : RL (fun _ => True) w ln l x) :
    Calls Tryd.prog 39 #[x] w fun e w' => ∃ c, e = .returned (.slice (some ⟨w.heap.size, 0, none⟩) ln c) ∧ (∀ i, i < ln → ∃ u, w'.cell? ⟨w.heap.size, i, none⟩ = some u ∧ RN (fun b => w.heap.size ≤ b) w' (l i) u) ∧ w.heap.size < w'.heap.size ∧ Below w.heap.size w w' ∧ NB5 w.heap.size w' := by
  obtain ⟨a, ca, rfl, hL⟩ := hL
  obtain ⟨i0, hi, hz0, hz1, hz2⟩ := info_parts info55
  have hmk : ∀ u : World, (Instr.makeSlice 78 (.int .i64 (ln : Int)) (.int .i64 (ln : Int))).run Tryd.prog u =
      .ok (.slice (some ⟨u.heap.size, 0, none⟩) ln ln) (u.alloc (.cells (madeCells #[.nilIface] ln) 52)) := fun u => by
    have h := run_make (P := Tryd.prog) u 78 52 i0 .nilIface Tryd.underlying78 hi hz0 .i64 .i64 ln ln (by omega) (by omega) (by rw [hz2]; omega) (by omega)
    simpa [hz1, Value.cells] using h
  have HI : Hid ((∀ i, NC (l i)) ∧ (∀ i, i < ln → (l i).ok ∧ (l i).small ∧ VT (l i)) ∧ (ln = 0 ∨ ∃ b o, a = some ⟨b, o, none⟩ ∧ True ∧ b < w.heap.size ∧ ∀ i, i < ln → ∃ x' y', RV (fun _ => True) w (l i) x' y' ∧ five w b (o + i * 5) (l i) x' y')) := ⟨ih, ok4, hL⟩
  clear ih ok4 hL hi hz0 hz1 hz2
  go_enter Tryd.func39, Tryd.ntmps39
  go_wp2
  clear hmk
  have HB0 : Hid (Below w.heap.size w (w.alloc (.cells (madeCells #[.nilIface] ln) 52)) ∧ NInv w.heap.size (w.alloc (.cells (madeCells #[.nilIface] ln) 52)) l ln 0 (madeCells #[.nilIface] ln) ∧ NB5 w.heap.size (w.alloc (.cells (madeCells #[.nilIface] ln) 52))) :=
    ⟨(Below.refl _ _).alloc (Nat.le_refl _) _, ⟨heap_new _ _, by rw [size_madeCells], fun i hi => absurd hi (Nat.not_lt_zero _)⟩, (NB5.self w).alloc _ (fun c fz h => by cases h)⟩
  generalize w.alloc (.cells (madeCells #[.nilIface] ln) 52) = w0 at *
  generalize hg : w.heap.size = g at *
  have HG : Hid (w.heap.size = g) := hg
  clear hg
  go_loopw [11] (fun i wr => ∃ (j : Nat) (cs : Array Value), j ≤ ln ∧ i = .int .i64 j ∧ Hid (Below g w wr ∧ NInv g wr l ln j cs ∧ NB5 g wr)) (fun i _ => ln - (intOf i).toNat)
  case atStart => exact ⟨0, _, Nat.zero_le _, rfl, HB0⟩
  case round =>
    obtain ⟨j, cs, hj, rfl, hinv⟩ := hrel
    by_cases hlt : j < ln
    · obtain ⟨il, ok4, hL⟩ := HI.out
      rcases hL with h | ⟨b, o, rfl, _, hbl, hL⟩
      · omega
      obtain ⟨x1, y1, hv, g1, g2, g3, g4, g5⟩ := hL j hlt
      have hw := hinv.out.1
      have hle : w.heap.size ≤ g := Nat.le_of_eq HG.out
      replace g1 := Below.cellS hw hle g1
      replace g2 := Below.cellS hw hle g2
      replace g3 := Below.cellS hw hle g3
      replace g4 := Below.cellS hw hle g4
      replace g5 := Below.cellS hw hle g5
      obtain ⟨⟨xa, xn, xc, rfl⟩, ⟨ya, yn, yc, rfl⟩⟩ := hv.slices
      have HA : Hid (Below wr.heap.size wr (wr.alloc (Obj.cells #[.int .i64 (l j).k, .int .i64 (l j).n, .string (l j).s, .slice xa xn xc, .slice ya yn yc] 27))) := (Below.refl _ _).alloc (Nat.le_refl _) _
      have HV : Hid (NC (l j) ∧ (l j).ok ∧ (l j).small ∧ VT (l j) ∧ RV (fun _ => True) wr (l j) (.slice xa xn xc) (.slice ya yn yc)) := ⟨il j, (ok4 j hlt).1, (ok4 j hlt).2.1, (ok4 j hlt).2.2, Below.rv hw hle hv⟩
      clear il ok4 hL hv hbl hw hle
      go_wp2_with fail
      refine (HV.out.1 _ _ _ HV.out.2.1 HV.out.2.2.1 HV.out.2.2.2.1 (Below.rv HA.out (Nat.le_refl _) HV.out.2.2.2.2)).mono ?_
      rintro e w2 ⟨u, rfl, hrn, hb2, hn2⟩
      obtain ⟨ty, uu, rfl⟩ := hrn.iface
      obtain ⟨hbw, ⟨hblk, hsz, hel⟩, hnb⟩ := hinv.out
      have hn3 := (hnb.alloc (Obj.cells #[.int .i64 (l j).k, .int .i64 (l j).n, .string (l j).s, .slice xa xn xc, .slice ya yn yc] 27) (fun c fz h => by cases h)).next hb2 hn2
      have hb3 : Below wr.heap.size wr w2 := HA.out.trans (hb2.mono HA.out.size)
      have hblk2 := hblk.keep (hb3.block _ hblk.lt)
      have cj : ∃ z, w2.cell? ⟨g, j, none⟩ = some z := ⟨cs[j], by rw [hblk2.cell]; exact Array.getElem?_eq_getElem (by omega)⟩
      obtain ⟨z, cj⟩ := cj
      have fj := hblk2.frozen j
      have HN : Hid (Below g w (w2.setCell ⟨g, j, none⟩ (.iface ty uu)) ∧ NInv g (w2.setCell ⟨g, j, none⟩ (.iface ty uu)) l ln (j + 1) (cs.setIfInBounds j (.iface ty uu)) ∧ NB5 g (w2.setCell ⟨g, j, none⟩ (.iface ty uu))) := by
        have hglt := hblk.lt
        refine ⟨(hbw.trans (hb3.mono (by omega))).setCell (Nat.le_refl _) _, ⟨hblk2.set j _, by simp [hsz], fun i hi => ?_⟩, hn3.set hblk2 (by decide)⟩
        rcases Nat.lt_succ_iff_lt_or_eq.1 hi with h | rfl
        · obtain ⟨u, q1, q2⟩ := hel i h
          refine ⟨u, by rw [Array.getElem?_setIfInBounds_ne (by omega)]; exact q1, RN.move (fun b hb _ => hb) (by have := hb3.size; simp [World.setCell]; omega) (fun b hb hl => ?_) _ _ q2⟩
          rw [Below.heap_setCell _ _ _ _ (show b ≠ g by omega), hb3.block b hl]
        · refine ⟨_, Array.getElem?_setIfInBounds_self_of_lt (by omega), RN.move (fun b hb _ => ?_) (by simp [World.setCell]) (fun b hb hl => Below.heap_setCell _ _ _ _ ?_) _ _ hrn⟩
          · have := HA.out.size; omega
          · have := HA.out.size; show b ≠ g; omega
      clear hinv HV HA hrn hb2 hn2 hn3 hnb hb3 hblk hblk2 hel hbw hsz g1 g2 g3 g4 g5
      go_wp2
      go_roundw
      case rel => exact ⟨j + 1, _, by omega, by go_num, HN⟩
      case measure => simp [intOf]; omega
    · obtain rfl : j = ln := by omega
      go_wp2
      go_ret
      obtain ⟨hbw, ⟨hblk, hsz, hel⟩, hnb⟩ := hinv.out
      refine ⟨j, by rw [HG.out]; rfl, fun i hi => ?_, HG.out ▸ hblk.lt, HG.out ▸ hbw, HG.out ▸ hnb⟩
      obtain ⟨u, q1, q2⟩ := hel i hi
      exact ⟨u, by rw [HG.out, hblk.cell]; exact q1, RN.move (fun b hb _ => by have := HG.out; omega) (Nat.le_refl _) (fun _ _ _ => rfl) _ _ q2⟩
end Go.Proofs.YtegdlkbilgkfoaaDoor
namespace Go.Proofs.YtegdlkbilgkfoaaDoor
open Go.RowKit Go.Deep
/-- a row of entries so far -/
def EInv (g : Nat) (w : World) (ky : Nat → ByteArray) (l : Nat → T) (ln j : Nat) (cs : Array Value) : Prop := blk w g 66 cs ∧ cs.size = ln * 2 ∧ ∀ i, i < j → ∃ u, cs[i * 2]? = some (.string (ky i)) ∧ cs[i * 2 + 1]? = some u ∧ RN (fun b => g < b) w (l i) u
theorem cell_set_ne {w : World} {p q : Addr} {u v : Value} (h : w.cell? p = some v) (hne : p.block ≠ q.block) : (w.setCell q u).cell? p = some v :=
  (World.cell?_of_block (w := w) (Below.heap_setCell w q u p.block hne)).trans h
theorem EInv.step {g : Nat} {w wr w2 : World} {ky : Nat → ByteArray} {l : Nat → T} {ln j : Nat} {cs : Array Value} {ty : TypeId} {uu : Value} {B : Nat} (hj : j < ln) (hbw : Below g w wr) (he : EInv g wr ky l ln j cs) (hb3 : Below wr.heap.size wr w2) (hrn : RN (fun b => B ≤ b) w2 (l j) (.iface ty uu)) (hB : g < B) :
    Below g w ((w2.setCell ⟨g, j * 2, none⟩ (.string (ky j))).setCell ⟨g, j * 2 + 1, none⟩ (.iface ty uu)) ∧
    EInv g ((w2.setCell ⟨g, j * 2, none⟩ (.string (ky j))).setCell ⟨g, j * 2 + 1, none⟩ (.iface ty uu)) ky l ln (j + 1) ((cs.setIfInBounds (j * 2) (.string (ky j))).setIfInBounds (j * 2 + 1) (.iface ty uu)) := by
  obtain ⟨hblk, hsz, hel⟩ := he
  have hglt := hblk.lt
  have hblk2 := hblk.keep (hb3.block _ hglt)
  have hsize : ((w2.setCell ⟨g, j * 2, none⟩ (.string (ky j))).setCell ⟨g, j * 2 + 1, none⟩ (.iface ty uu)).heap.size = w2.heap.size := by simp [World.setCell]
  have hne : ∀ b, b ≠ g → ((w2.setCell ⟨g, j * 2, none⟩ (.string (ky j))).setCell ⟨g, j * 2 + 1, none⟩ (.iface ty uu)).heap[b]? = w2.heap[b]? := fun b hb => by
    rw [Below.heap_setCell _ _ _ _ hb, Below.heap_setCell _ _ _ _ hb]
  refine ⟨((hbw.trans (hb3.mono (by omega))).setCell (Nat.le_refl _) _).setCell (Nat.le_refl _) _, (hblk2.set (j * 2) _).set (j * 2 + 1) _, by simp [hsz], fun i hi => ?_⟩
  rcases Nat.lt_succ_iff_lt_or_eq.1 hi with h | rfl
  · obtain ⟨u, q0, q1, q2⟩ := hel i h
    refine ⟨u, ?_, ?_, RN.move (fun b hb _ => hb) (by rw [hsize]; exact hb3.size) (fun b hb hl => ?_) _ _ q2⟩
    · rw [Array.getElem?_setIfInBounds_ne (by omega), Array.getElem?_setIfInBounds_ne (by omega)]; exact q0
    · rw [Array.getElem?_setIfInBounds_ne (by omega), Array.getElem?_setIfInBounds_ne (by omega)]; exact q1
    · rw [hne b (by omega), hb3.block b hl]
  · refine ⟨_, ?_, Array.getElem?_setIfInBounds_self_of_lt (by simp; omega), RN.move (fun b hb _ => by omega) (by rw [hsize]; exact Nat.le_refl _) (fun b hb hl => hne b (by omega)) _ _ hrn⟩
    rw [Array.getElem?_setIfInBounds_ne (by omega)]
    exact Array.getElem?_setIfInBounds_self_of_lt (by omega)
set_option maxHeartbeats 4000000 in
theorem dictOf24 (ln : Nat) (ky : Nat → ByteArray) (l : Nat → T) (x : Value) (w : World) (ih : ∀ i, NC (l i)) (hs : ln ≤ 2147483647) (ok4 : ∀ i, i < ln → (l i).ok ∧ (l i).small ∧ VT (l i)) (hL : RD (fun _ => True) w ln ky l x) :
    Calls Tryd.prog 29 #[x] w fun e w' => ∃ c, e = .returned (.slice (some ⟨w.heap.size, 0, none⟩) ln c) ∧ (∀ i, i < ln → ∃ u, w'.cell? ⟨w.heap.size, i * 2, none⟩ = some (.string (ky i)) ∧ w'.cell? ⟨w.heap.size, i * 2 + 1, none⟩ = some u ∧ RN (fun b => w.heap.size ≤ b) w' (l i) u) ∧ w.heap.size < w'.heap.size ∧ Below w.heap.size w w' ∧ NB5 w.heap.size w' ∧ c = ln ∧ ∃ cs, blk w' w.heap.size 66 cs ∧ cs.size = ln * 2 := by
  obtain ⟨a, ca, rfl, hL⟩ := hL
  obtain ⟨i0, hi, hz0, hz1, hz2⟩ := info_parts info57
  have hmk : ∀ u : World, (Instr.makeSlice 59 (.int .i64 (ln : Int)) (.int .i64 (ln : Int))).run Tryd.prog u =
      .ok (.slice (some ⟨u.heap.size, 0, none⟩) ln ln) (u.alloc (.cells (madeCells #[.string ByteArray.empty, .nilIface] (ln * 2)) 66)) := fun u => by
    have h := run_make (P := Tryd.prog) u 59 66 i0 (.agg #[.string ByteArray.empty, .nilIface]) Tryd.underlying59 hi hz0 .i64 .i64 ln ln (by omega) (by omega) (by rw [hz2]; omega) (by omega)
    simpa [hz1, Value.cells] using h
  have HI : Hid ((∀ i, NC (l i)) ∧ (∀ i, i < ln → (l i).ok ∧ (l i).small ∧ VT (l i)) ∧ (ln = 0 ∨ ∃ b o, a = some ⟨b, o, none⟩ ∧ True ∧ b < w.heap.size ∧ ∀ i, i < ln → ∃ x' y', RV (fun _ => True) w (l i) x' y' ∧ w.cell? ⟨b, o + i * 6, none⟩ = some (.string (ky i)) ∧ five w b (o + i * 6 + 1) (l i) x' y')) := ⟨ih, ok4, hL⟩
  clear ih ok4 hL hi hz0 hz1 hz2
  go_enter Tryd.func29, Tryd.ntmps29
  go_wp2
  clear hmk
  have HB0 : Hid (Below w.heap.size w (w.alloc (.cells (madeCells #[.string ByteArray.empty, .nilIface] (ln * 2)) 66)) ∧ EInv w.heap.size (w.alloc (.cells (madeCells #[.string ByteArray.empty, .nilIface] (ln * 2)) 66)) ky l ln 0 (madeCells #[.string ByteArray.empty, .nilIface] (ln * 2)) ∧ NB5 w.heap.size (w.alloc (.cells (madeCells #[.string ByteArray.empty, .nilIface] (ln * 2)) 66))) :=
    ⟨(Below.refl _ _).alloc (Nat.le_refl _) _, ⟨heap_new _ _, by rw [size_madeCells], fun i hi => absurd hi (Nat.not_lt_zero _)⟩, (NB5.self w).alloc _ (fun c fz h => by cases h)⟩
  generalize w.alloc (.cells (madeCells #[.string ByteArray.empty, .nilIface] (ln * 2)) 66) = w0 at *
  generalize hg : w.heap.size = g at *
  have HG : Hid (w.heap.size = g) := hg
  clear hg
  go_loopw [11] (fun i wr => ∃ (j : Nat) (cs : Array Value), j ≤ ln ∧ i = .int .i64 j ∧ Hid (Below g w wr ∧ EInv g wr ky l ln j cs ∧ NB5 g wr)) (fun i _ => ln - (intOf i).toNat)
  case atStart => exact ⟨0, _, Nat.zero_le _, rfl, HB0⟩
  case round =>
    obtain ⟨j, cs, hj, rfl, hinv⟩ := hrel
    by_cases hlt : j < ln
    · obtain ⟨il, ok4, hL⟩ := HI.out
      rcases hL with h | ⟨b, o, rfl, _, hbl, hL⟩
      · omega
      obtain ⟨x1, y1, hv, g0, g1, g2, g3, g4, g5⟩ := hL j hlt
      have hw := hinv.out.1
      have hle : w.heap.size ≤ g := Nat.le_of_eq HG.out
      replace g0 := Below.cellS hw hle g0
      replace g1 := Below.cellS hw hle g1
      replace g2 := Below.cellS hw hle g2
      replace g3 := Below.cellS hw hle g3
      replace g4 := Below.cellS hw hle g4
      replace g5 := Below.cellS hw hle g5
      obtain ⟨⟨xa, xn, xc, rfl⟩, ⟨ya, yn, yc, rfl⟩⟩ := hv.slices
      have HA : Hid (Below wr.heap.size wr (wr.alloc (Obj.cells #[.string (ky j), .int .i64 (l j).k, .int .i64 (l j).n, .string (l j).s, .slice xa xn xc, .slice ya yn yc] 48))) := (Below.refl _ _).alloc (Nat.le_refl _) _
      have hX : blk (wr.alloc (Obj.cells #[.string (ky j), .int .i64 (l j).k, .int .i64 (l j).n, .string (l j).s, .slice xa xn xc, .slice ya yn yc] 48)) wr.heap.size 48 #[.string (ky j), .int .i64 (l j).k, .int .i64 (l j).n, .string (l j).s, .slice xa xn xc, .slice ya yn yc] := heap_new _ _
      have HV : Hid (NC (l j) ∧ (l j).ok ∧ (l j).small ∧ VT (l j) ∧ RV (fun _ => True) wr (l j) (.slice xa xn xc) (.slice ya yn yc)) := ⟨il j, (ok4 j hlt).1, (ok4 j hlt).2.1, (ok4 j hlt).2.2, Below.rv hw hle hv⟩
      have HN5 : Hid (NB5 g (wr.alloc (Obj.cells #[.string (ky j), .int .i64 (l j).k, .int .i64 (l j).n, .string (l j).s, .slice xa xn xc, .slice ya yn yc] 48))) := hinv.out.2.2.alloc _ (fun c fz h => by cases h)
      clear il ok4 hL hv hbl hw hle
      go_wp2
      have hxg : wr.heap.size ≠ g := by have := hinv.out.2.1.1.lt; omega
      generalize hxb : wr.heap.size = xb at *
      have HX : Hid (wr.heap.size = xb) := hxb
      clear hxb
      generalize (wr.alloc (Obj.cells #[.string (ky j), .int .i64 (l j).k, .int .i64 (l j).n, .string (l j).s, .slice xa xn xc, .slice ya yn yc] 48)) = w3 at *
      have k0 : w3.cell? ⟨xb, 0, none⟩ = some (.string (ky j)) := hX.cell 0
      have k1 : w3.cell? ⟨xb, 1, none⟩ = some (.int .i64 (l j).k) := hX.cell 1
      have k2 : w3.cell? ⟨xb, 2, none⟩ = some (.int .i64 (l j).n) := hX.cell 2
      have k3 : w3.cell? ⟨xb, 3, none⟩ = some (.string (l j).s) := hX.cell 3
      have k4 : w3.cell? ⟨xb, 4, none⟩ = some (.slice xa xn xc) := hX.cell 4
      have k5 : w3.cell? ⟨xb, 5, none⟩ = some (.slice ya yn yc) := hX.cell 5
      have j0 : (0 : Int) ≤ (j : Int) := by omega
      have j1 : (j : Int) < (ln : Int) := by omega
      have HC : Hid (∀ w', w'.heap = w3.heap → w'.os = w3.os → w'.tape = w3.tape → w'.output = w3.output → Calls Tryd.prog 27 #[vv (l j) (.slice xa xn xc) (.slice ya yn yc)] w' fun e w'' => ∃ ty uu, e = .returned (.iface ty uu) ∧ (∃ z, w''.cell? ⟨g, j * 2, none⟩ = some z) ∧ (∃ z, w''.cell? ⟨g, j * 2 + 1, none⟩ = some z) ∧ w''.frozen? ⟨g, j * 2, none⟩ = false ∧ w''.frozen? ⟨g, j * 2 + 1, none⟩ = false ∧ Hid (Below w3.heap.size w3 w'') ∧
          Hid (∃ cs', Below g w ((w''.setCell ⟨g, j * 2, none⟩ (.string (ky j))).setCell ⟨g, j * 2 + 1, none⟩ (.iface ty uu)) ∧ EInv g ((w''.setCell ⟨g, j * 2, none⟩ (.string (ky j))).setCell ⟨g, j * 2 + 1, none⟩ (.iface ty uu)) ky l ln (j + 1) cs' ∧ NB5 g ((w''.setCell ⟨g, j * 2, none⟩ (.string (ky j))).setCell ⟨g, j * 2 + 1, none⟩ (.iface ty uu)))) := by
        intro w' hh h1 h2 h3
        have hbw : Below w3.heap.size w3 w' := ⟨h1, h2, h3, by rw [hh]; exact Nat.le_refl _, fun q _ => by rw [hh]⟩
        have hA3 : Below xb wr w' := HA.out.trans (hbw.mono (HX.out ▸ HA.out.size))
        refine (HV.out.1 _ _ w' HV.out.2.1 HV.out.2.2.1 HV.out.2.2.2.1 (Below.rv hA3 (Nat.le_of_eq HX.out) HV.out.2.2.2.2)).mono ?_
        rintro e w2 ⟨u, rfl, hrn, hb2, hn2⟩
        obtain ⟨ty, uu, rfl⟩ := hrn.iface
        have hnw : NB5 g w' := fun b hb c fz hc => by rw [hh] at hc; exact HN5.out b hb c fz hc
        have hn3 := hnw.next hb2 hn2
        obtain ⟨hbg, hE, _⟩ := hinv.out
        have hsz := hE.2.1
        have hglt := hE.1.lt
        have hb3 : Below wr.heap.size wr w2 := (HX.out ▸ hA3).trans (hb2.mono (HX.out ▸ hA3.size))
        have hblk2 := hE.1.keep (hb3.block _ hglt)
        refine ⟨ty, uu, rfl, ⟨cs[j * 2], by rw [hblk2.cell]; exact Array.getElem?_eq_getElem (by omega)⟩, ⟨cs[j * 2 + 1], by rw [hblk2.cell]; exact Array.getElem?_eq_getElem (by omega)⟩, hblk2.frozen _, hblk2.frozen _, hbw.trans (hb2.mono hbw.size), _, (EInv.step hlt hbg hE hb3 hrn (by have := hA3.size; have := HX.out; omega)).1, (EInv.step hlt hbg hE hb3 hrn (by have := hA3.size; have := HX.out; omega)).2, (hn3.set hblk2 (by decide)).set (hblk2.set _ _) (by decide)⟩
      clear HV HA HN5 hinv hX g0 g1 g2 g3 g4 g5
      go_region_held3 (fun w' => w'.cell? ⟨xb, 0, none⟩ = some (.string (ky j)) ∧ w'.cell? ⟨xb, 1, none⟩ = some (.int .i64 (l j).k) ∧ w'.cell? ⟨xb, 2, none⟩ = some (.int .i64 (l j).n) ∧ w'.cell? ⟨xb, 3, none⟩ = some (.string (l j).s) ∧ w'.cell? ⟨xb, 4, none⟩ = some (.slice xa xn xc) ∧ w'.cell? ⟨xb, 5, none⟩ = some (.slice ya yn yc))
        (first | (exact ⟨k0, k1, k2, k3, k4, k5⟩) | (exact ⟨Below.cellS hq.out (Nat.le_refl _) k0, Below.cellS hq.out (Nat.le_refl _) k1, Below.cellS hq.out (Nat.le_refl _) k2, Below.cellS hq.out (Nat.le_refl _) k3, Below.cellS hq.out (Nat.le_refl _) k4, Below.cellS hq.out (Nat.le_refl _) k5⟩) | (exact ⟨cell_set_ne (cell_set_ne (Below.cellS hq.out (Nat.le_refl _) k0) hxg) hxg, cell_set_ne (cell_set_ne (Below.cellS hq.out (Nat.le_refl _) k1) hxg) hxg, cell_set_ne (cell_set_ne (Below.cellS hq.out (Nat.le_refl _) k2) hxg) hxg, cell_set_ne (cell_set_ne (Below.cellS hq.out (Nat.le_refl _) k3) hxg) hxg, cell_set_ne (cell_set_ne (Below.cellS hq.out (Nat.le_refl _) k4) hxg) hxg, cell_set_ne (cell_set_ne (Below.cellS hq.out (Nat.le_refl _) k5) hxg) hxg⟩))
        (first | (go_at_call 27; refine (HC.out w3.drew rfl rfl rfl rfl).mono ?_; rintro e wq ⟨ty, uu, rfl, ⟨z0, cj0⟩, ⟨z1, cj1⟩, fj0, fj1, hq, HN⟩))
      clear k0 k1 k2 k3 k4 k5 HC cj0 cj1 fj0 fj1 hq
      go_wp2
      go_roundw
      case rel => exact ⟨j + 1, _, by omega, by go_num, HN.out.choose_spec⟩
      case measure => simp [intOf]; omega
    · obtain rfl : j = ln := by omega
      go_wp2
      go_ret
      obtain ⟨hbw, ⟨hblk, hsz, hel⟩, hnb⟩ := hinv.out
      refine ⟨j, by rw [HG.out]; rfl, fun i hi => ?_, HG.out ▸ hblk.lt, HG.out ▸ hbw, HG.out ▸ hnb, rfl, cs, HG.out ▸ hblk, hsz⟩
      obtain ⟨u, q0, q1, q2⟩ := hel i hi
      exact ⟨u, by rw [HG.out, hblk.cell]; exact q0, by rw [HG.out, hblk.cell]; exact q1, RN.move (fun b hb _ => by have := HG.out; omega) (Nat.le_refl _) (fun _ _ _ => rfl) _ _ q2⟩
set_option maxHeartbeats 1000000 in
theorem nodeOf27 (t : T) : NC t := by
  induction t with
  | no => intro x y w _ _ _ h; exact h.elim
  | mk k n s ln l dn ky dv il id =>
    intro x y w hok hsm hvt hr
    obtain ⟨ok1, ok2, ok3, ok4, ok5⟩ := hok
    obtain ⟨sm1, sm2, sm3, sm4⟩ := hsm
    obtain ⟨hown, v1, v2⟩ := hvt
    obtain ⟨hL, hD⟩ := hr
    obtain ⟨k1, k4, _⟩ := (ownB_iff _ _ _ _ _).1 hown
    show Calls Tryd.prog 27 #[.agg #[.int .i64 k, .int .i64 n, .string s, x, y]] w _
    have HB : Hid (Below w.heap.size w (w.alloc (Obj.cells #[.int .i64 k, .int .i64 n, .string s, x, y] 27))) := (Below.refl _ _).alloc (Nat.le_refl _) _
    have HN0 : Hid (NB5 w.heap.size (w.alloc (Obj.cells #[.int .i64 k, .int .i64 n, .string s, x, y] 27))) := (NB5.self w).alloc _ (fun c fz h => by cases h)
    have HL : Hid (RL (fun _ => True) (w.alloc (Obj.cells #[.int .i64 k, .int .i64 n, .string s, x, y] 27)) ln l x) := RL.keep (fun _ h => h) HB.out.size (fun b _ hl => HB.out.block b hl) hL
    have HD : Hid (RD (fun _ => True) (w.alloc (Obj.cells #[.int .i64 k, .int .i64 n, .string s, x, y] 27)) dn ky dv y) := RD.keep (fun _ h => h) HB.out.size (fun b _ hl => HB.out.block b hl) hD
    have HO : Hid ((∀ i, NC (l i)) ∧ (∀ i, NC (dv i)) ∧ (∀ i, i < ln → (l i).ok ∧ (l i).small ∧ VT (l i)) ∧ (∀ i, i < dn → (dv i).ok ∧ (dv i).small ∧ VT (dv i))) := ⟨il, id, fun i hi => ⟨ok4 i hi, sm3 i hi, v1 i hi⟩, fun i hi => ⟨(ok5 i hi).2, sm4 i hi, (v2 i hi).2⟩⟩
    clear il id ok4 ok5 sm3 sm4 v1 v2 hL hD hown
    have hk : k = 1 ∨ k = 2 ∨ k = 3 ∨ k = 4 := by omega
    clear k1 k4
    rcases hk with rfl | rfl | rfl | rfl
    · go_enter Tryd.func27, Tryd.ntmps27
      go_wp2
      go_ret
      exact ⟨_, rfl, .inl ⟨rfl, rfl⟩, HB.out, HN0.out⟩
    · go_enter Tryd.func27, Tryd.ntmps27
      go_wp2
      go_ret
      exact ⟨_, rfl, .inr (.inl ⟨rfl, rfl⟩), HB.out, HN0.out⟩
    · go_enter Tryd.func27, Tryd.ntmps27
      go_wp2_with fail
      refine (listOf39 ln l x _ HO.out.1 sm1 HO.out.2.2.1 HL.out).mono ?_
      rintro e w1 ⟨c, rfl, h1, h2, h3, h4⟩
      have HH : Hid (RN (fun b => w.heap.size ≤ b) w1 (.mk 3 n s ln l dn ky dv) (.iface 78 (.slice (some ⟨w.heap.size + 1, 0, none⟩) ln c)) ∧ Below w.heap.size w w1 ∧ NB5 w.heap.size w1) := by
        have hn4 := HN0.out.next h3 h4
        have hsz : (w.alloc (Obj.cells #[.int .i64 3, .int .i64 n, .string s, x, y] 27)).heap.size = w.heap.size + 1 := by simp
        rw [hsz] at h1 h2 h3
        refine ⟨.inr (.inr (.inl ⟨rfl, _, _, rfl, by omega, h2, fun i hi => ?_⟩)), HB.out.trans (h3.mono (by omega)), hn4⟩
        obtain ⟨u, q1, q2⟩ := h1 i hi
        exact ⟨u, q1, RN.move (fun b hb _ => by omega) (Nat.le_refl _) (fun _ _ _ => rfl) _ _ q2⟩
      clear h1 h2 h3 h4 HL HD HO HB HN0
      go_wp2
      go_ret
      exact ⟨_, by simp, HH.out⟩
    · go_enter Tryd.func27, Tryd.ntmps27
      go_wp2_with fail
      refine (dictOf24 dn ky dv y _ HO.out.2.1 sm2 HO.out.2.2.2 HD.out).mono ?_
      rintro e w1 ⟨c, rfl, h1, h2, h3, h4, hcc, hcs⟩
      clear hcc hcs
      have HH : Hid (RN (fun b => w.heap.size ≤ b) w1 (.mk 4 n s ln l dn ky dv) (.iface 59 (.slice (some ⟨w.heap.size + 1, 0, none⟩) dn c)) ∧ Below w.heap.size w w1 ∧ NB5 w.heap.size w1) := by
        have hn4 := HN0.out.next h3 h4
        have hsz : (w.alloc (Obj.cells #[.int .i64 4, .int .i64 n, .string s, x, y] 27)).heap.size = w.heap.size + 1 := by simp
        rw [hsz] at h1 h2 h3
        refine ⟨.inr (.inr (.inr ⟨rfl, _, _, rfl, by omega, h2, fun i hi => ?_⟩)), HB.out.trans (h3.mono (by omega)), hn4⟩
        obtain ⟨u, q0, q1, q2⟩ := h1 i hi
        exact ⟨u, q0, q1, RN.move (fun b hb _ => by omega) (Nat.le_refl _) (fun _ _ _ => rfl) _ _ q2⟩
      clear h1 h2 h3 h4 HL HD HO HB HN0
      go_wp2
      go_ret
      exact ⟨_, by simp, HH.out⟩
end Go.Proofs.YtegdlkbilgkfoaaDoor
