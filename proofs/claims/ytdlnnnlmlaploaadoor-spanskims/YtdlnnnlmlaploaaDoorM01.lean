import Derived.Test.YtdlnnnlmlaploaaDoorM00
import Derived.Deep.AppendLies
import Derived.OwnWalk
import Derived.Deep.RegionLaw
import Derived.Lib.ParseIntBTie
import Derived.Lib.Hide
import Derived.Laws.BytesString
import Derived.Laws.IdiomStrings
namespace Go.Proofs.YtdlnnnlmlaploaaDoor
open Go.RowKit Go.Deep
/-- the cells of one value -/
def cv (t : T) (x y : Value) : List Value := [.int .i64 t.k, .int .i64 t.n, .string t.s, x, y]
/-- the cells of a row of values -/
def rowL (l : Nat → T) (X Y : Nat → Value) (j : Nat) : List Value := (List.range j).flatMap fun i => cv (l i) (X i) (Y i)
def rowD (ky : Nat → ByteArray) (l : Nat → T) (X Y : Nat → Value) (j : Nat) : List Value := (List.range j).flatMap fun i => .string (ky i) :: cv (l i) (X i) (Y i)
/-- a function turned at one place -/
def upd (X : Nat → Value) (j : Nat) (x : Value) : Nat → Value := fun i => if i = j then x else X i
theorem upd_lt {X : Nat → Value} {j i : Nat} {x : Value} (h : i < j) : upd X j x i = X i := by unfold upd; rw [if_neg (by omega)]
theorem upd_eq {X : Nat → Value} {j : Nat} {x : Value} : upd X j x j = x := by unfold upd; rw [if_pos rfl]
theorem rowL_succ (l : Nat → T) (X Y : Nat → Value) (j : Nat) (x y : Value) : rowL l (upd X j x) (upd Y j y) (j + 1) = rowL l X Y j ++ cv (l j) x y := by
  unfold rowL
  rw [List.range_succ, List.flatMap_append, flatMap_congr_range (g := fun i => cv (l i) (X i) (Y i)) (fun i hi => by rw [upd_lt hi, upd_lt hi])]
  simp [upd_eq]
theorem rowD_succ (ky : Nat → ByteArray) (l : Nat → T) (X Y : Nat → Value) (j : Nat) (x y : Value) : rowD ky l (upd X j x) (upd Y j y) (j + 1) = rowD ky l X Y j ++ (.string (ky j) :: cv (l j) x y) := by
  unfold rowD
  rw [List.range_succ, List.flatMap_append, flatMap_congr_range (g := fun i => .string (ky i) :: cv (l i) (X i) (Y i)) (fun i hi => by rw [upd_lt hi, upd_lt hi])]
  simp [upd_eq]
/-- what a loop of Copy has laid so far -/
def LInv (B : Nat) (wr : World) (l : Nat → T) (j : Nat) (lv : Value) : Prop :=
  ∃ X Y, wr.ownsRow B 60 5 lv j (rowL l X Y j) ∧ ∀ i, i < j → RV (fun b => B ≤ b ∧ lv.ownBlock ≠ some b) wr (l i) (X i) (Y i)
def DInv (B : Nat) (wr : World) (ky : Nat → ByteArray) (l : Nat → T) (j : Nat) (lv : Value) : Prop :=
  ∃ X Y, wr.ownsRow B 84 6 lv j (rowD ky l X Y j) ∧ ∀ i, i < j → RV (fun b => B ≤ b ∧ lv.ownBlock ≠ some b) wr (l i) (X i) (Y i)
/-- a block of five cells -/
def obj (w : World) (b : Nat) (c0 c1 c2 c3 c4 : Value) : Prop := w.heap[b]? = some (.cells #[c0, c1, c2, c3, c4] 60 (0, 0))
theorem obj.cells {w : World} {b : Nat} {c0 c1 c2 c3 c4 : Value} (h : obj w b c0 c1 c2 c3 c4) :
    w.cell? ⟨b, 0, none⟩ = some c0 ∧ w.cell? ⟨b, 1, none⟩ = some c1 ∧ w.cell? ⟨b, 2, none⟩ = some c2 ∧ w.cell? ⟨b, 3, none⟩ = some c3 ∧ w.cell? ⟨b, 4, none⟩ = some c4 := by
  unfold obj at h
  refine ⟨?_, ?_, ?_, ?_, ?_⟩ <;> simp [World.cell?, h]
theorem obj.frozen {w : World} {b : Nat} {c0 c1 c2 c3 c4 : Value} (h : obj w b c0 c1 c2 c3 c4) (i : Nat) : w.frozen? ⟨b, i, none⟩ = false := by
  unfold obj at h
  simp [World.frozen?, h]
theorem obj.set0 {w : World} {b : Nat} {c0 c1 c2 c3 c4 : Value} (h : obj w b c0 c1 c2 c3 c4) (u : Value) : obj (w.setCell ⟨b, 0, none⟩ u) b u c1 c2 c3 c4 := by
  unfold obj at h ⊢
  simp [World.setCell, Array.getElem?_modify, h]
theorem obj.set1 {w : World} {b : Nat} {c0 c1 c2 c3 c4 : Value} (h : obj w b c0 c1 c2 c3 c4) (u : Value) : obj (w.setCell ⟨b, 1, none⟩ u) b c0 u c2 c3 c4 := by
  unfold obj at h ⊢
  simp [World.setCell, Array.getElem?_modify, h]
theorem obj.set2 {w : World} {b : Nat} {c0 c1 c2 c3 c4 : Value} (h : obj w b c0 c1 c2 c3 c4) (u : Value) : obj (w.setCell ⟨b, 2, none⟩ u) b c0 c1 u c3 c4 := by
  unfold obj at h ⊢
  simp [World.setCell, Array.getElem?_modify, h]
theorem obj.set3 {w : World} {b : Nat} {c0 c1 c2 c3 c4 : Value} (h : obj w b c0 c1 c2 c3 c4) (u : Value) : obj (w.setCell ⟨b, 3, none⟩ u) b c0 c1 c2 u c4 := by
  unfold obj at h ⊢
  simp [World.setCell, Array.getElem?_modify, h]
theorem obj.set4 {w : World} {b : Nat} {c0 c1 c2 c3 c4 : Value} (h : obj w b c0 c1 c2 c3 c4) (u : Value) : obj (w.setCell ⟨b, 4, none⟩ u) b c0 c1 c2 c3 u := by
  unfold obj at h ⊢
  simp [World.setCell, Array.getElem?_modify, h]
theorem obj.keep {w w' : World} {b : Nat} {c0 c1 c2 c3 c4 : Value} (h : obj w b c0 c1 c2 c3 c4) (hb : w'.heap[b]? = w.heap[b]?) : obj w' b c0 c1 c2 c3 c4 := hb.trans h
theorem obj.lt {w : World} {b : Nat} {c0 c1 c2 c3 c4 : Value} (h : obj w b c0 c1 c2 c3 c4) : b < w.heap.size := (Array.getElem?_eq_some_iff.1 h).1
theorem info25 : (Tryd.prog.info? 60).map (fun i => (i.zero, i.size, i.bytes)) = some (some (.agg #[.int .i64 0, .int .i64 0, .string ByteArray.empty, .slice none 0 0, .slice none 0 0]), 5, 80) := by kernel_rfl
theorem grown_of_below {w w' : World} (h : Below w.heap.size w w') : w.grownBy w' .none := ⟨h.os, h.tape, h.output, h.size, fun k hk _ => h.block k hk⟩
theorem grown_setCell (w : World) (p : Addr) (u : Value) : w.grownBy (w.setCell p u) (some p.block) := ⟨rfl, rfl, rfl, by simp [World.setCell], fun k _ hn => Below.heap_setCell _ _ _ _ (fun e => hn (by rw [e]))⟩
theorem owns_ne {w : World} {B : Nat} {e : TypeId} {sz : Nat} {v : Value} {n : Nat} {xs : List Value} (h : w.ownsRow B e sz v n xs) {b : Nat} (hb : b < B) : v.ownBlock = Option.none ∨ v.ownBlock ≠ some b := by
  cases hv : v.ownBlock with
  | none => exact .inl rfl
  | some q =>
    refine .inr fun e => ?_
    have e' : q = b := by simpa using e
    have := (h.lt q hv).1
    omega
/-- the elements so far, behind one more -/
theorem rows_step {B : Nat} {wr w2 W w3 : World} {p : Addr} {u lv : Value} {g n cap : Nat} (hB : B ≤ wr.heap.size) (hlv : ∀ k, lv.ownBlock = some k → k < wr.heap.size) (hb2 : Below wr.heap.size wr w2) (hW : Below w2.heap.size w2 W) (hgrow : W.grownBy w3 lv.ownBlock)
    (hat : lv.ownBlock = some g ∨ g = W.heap.size) (hp : p.block < B) :
    (∀ t x y, RV (fun b => B ≤ b ∧ lv.ownBlock ≠ some b) wr t x y → RV (fun b => B ≤ b ∧ (Value.slice (some ⟨g, 0, none⟩) n cap).ownBlock ≠ some b) (w3.setCell p u) t x y) ∧
    (∀ t x y, RV (fun b => wr.heap.size ≤ b) w2 t x y → RV (fun b => B ≤ b ∧ (Value.slice (some ⟨g, 0, none⟩) n cap).ownBlock ≠ some b) (w3.setCell p u) t x y) := by
  have hsz : w2.heap.size ≤ w3.heap.size := Nat.le_trans hW.size hgrow.size
  have hse : (w3.setCell p u).heap.size = w3.heap.size := by simp [World.setCell]
  have e0 : (Value.slice (some ⟨g, 0, none⟩) n cap).ownBlock = some g := rfl
  have blk : ∀ b, B ≤ b → b < w2.heap.size → lv.ownBlock ≠ some b → (w3.setCell p u).heap[b]? = w2.heap[b]? := by
    intro b h1 h2 h3
    rw [Below.heap_setCell _ _ _ _ (by omega), hgrow.block b (Nat.lt_of_lt_of_le h2 hW.size) (fun e => h3 e.symm), hW.block b h2]
  have gne : ∀ b, b < w2.heap.size → lv.ownBlock ≠ some b → (some g : Option Nat) ≠ some b := by
    intro b h1 h2 e
    cases e
    rcases hat with h | h
    · exact h2 h
    · have := hW.size; omega
  constructor
  · intro t x y h
    refine RV.move (fun b hb hl => ⟨hb.1, e0 ▸ gne b (Nat.lt_of_lt_of_le hl hb2.size) hb.2⟩) (hse ▸ Nat.le_trans hb2.size hsz) (fun b hb hl => ?_) t x y h
    rw [blk b hb.1 (Nat.lt_of_lt_of_le hl hb2.size) hb.2, hb2.block b hl]
  · intro t x y h
    have hne : ∀ b, wr.heap.size ≤ b → lv.ownBlock ≠ some b := fun b h1 e => by have := hlv b e; omega
    exact RV.move (fun b hb hl => ⟨Nat.le_trans hB hb, e0 ▸ gne b hl (hne b hb)⟩) (hse ▸ hsz) (fun b hb hl => blk b (Nat.le_trans hB hb) hl (hne b hb)) t x y h
/-- between the calls nothing of it turns -/
theorem LInv.keep {B : Nat} {wr w' : World} {l : Nat → T} {j : Nat} {lv : Value} (h : LInv B wr l j lv) (hb : Below wr.heap.size wr w') : LInv B w' l j lv := by
  obtain ⟨X, Y, h1, h2⟩ := h
  exact ⟨X, Y, h1.kept (grown_of_below hb) (by cases hv : lv.ownBlock with | none => exact .inl rfl | some k => exact .inr (by simp)), fun i hi => RV.move (fun b h _ => h) hb.size (fun b _ hl => hb.block b hl) _ _ _ (h2 i hi)⟩
theorem ownForm {w : World} {B : Nat} {e : TypeId} {sz : Nat} {v : Value} {n : Nat} {xs : List Value} (h : w.ownsRow B e sz v n xs) : ∃ a c, v = .slice a n c := by
  rcases h.2 with ⟨rfl, rfl⟩ | ⟨g, cap, cur, rfl, _⟩
  · exact ⟨_, _, rfl⟩
  · exact ⟨_, _, rfl⟩
theorem heap_new (w : World) (o : Obj) : (w.alloc o).heap[w.heap.size]? = some o := by show (w.heap.push o)[w.heap.size]? = _; simp
/-- what stands at a round's head in Copy -/
def CInv (H : Nat) (w wr : World) (k n : Int) (s : ByteArray) (x y lv dv : Value) : Prop :=
  Below H w wr ∧ obj wr H (.int .i64 k) (.int .i64 n) (.string s) x y ∧ obj wr (H + 1) (.int .i64 0) (.int .i64 0) (.string { data := #[] }) (.slice .none 0 0) (.slice .none 0 0) ∧ obj wr (H + 1 + 1) (.int .i64 k) (.int .i64 n) (.string s) lv dv
theorem CInv.keep {H : Nat} {w wr w' : World} {k n : Int} {s : ByteArray} {x y lv dv : Value} (h : CInv H w wr k n s x y lv dv) (hH : w.heap.size = H) (hb : Below wr.heap.size wr w') : CInv H w w' k n s x y lv dv := by
  obtain ⟨h1, h2, h3, h4⟩ := h
  exact ⟨h1.trans (hb.mono (hH ▸ h1.size)), h2.keep (hb.block _ h2.lt), h3.keep (hb.block _ h3.lt), h4.keep (hb.block _ h4.lt)⟩
theorem grown_cell {W w4 : World} {row : Option Nat} {p : Addr} {v : Value} (hg : W.grownBy w4 row) (hc : W.cell? p = some v) (hne : some p.block ≠ row) : w4.cell? p = some v :=
  (World.cell?_of_block (w := W) (hg.block p.block (World.block_lt_of_cell? W p hc) hne)).trans hc
theorem grown_frozen {W w4 : World} {row : Option Nat} {p : Addr} {v : Value} (hg : W.grownBy w4 row) (hc : W.cell? p = some v) (hf : W.frozen? p = false) (hne : some p.block ≠ row) : w4.frozen? p = false :=
  (World.frozen?_of_block (w := W) (hg.block p.block (World.block_lt_of_cell? W p hc) hne)).trans hf
theorem info42 : (Tryd.prog.info? 84).map (fun i => (i.zero, i.size, i.bytes)) = some (some (.agg #[.string ByteArray.empty, .int .i64 0, .int .i64 0, .string ByteArray.empty, .slice none 0 0, .slice none 0 0]), 6, 96) := by kernel_rfl
theorem dict_step {H : Nat} {w w1 wr w2 W w4 : World} {k n : Int} {s : ByteArray} {xx yy lv : Value} {ky : Nat → ByteArray} {dv : Nat → T} {X Y : Nat → Value} {j2 lc g cap : Nat} {la : Option Addr} {x2 y2 : Value}
    (hlt3 : H + 3 ≤ w1.heap.size) (hc2 : CInv H w w2 k n s xx yy lv (.slice la j2 lc)) (hrv : RV (fun b => wr.heap.size ≤ b) w2 (dv j2) x2 y2) (hb2 : Below wr.heap.size wr w2) (hbs : Besides (H + 1 + 1) w1 wr)
    (hel : ∀ i, i < j2 → RV (fun b => w1.heap.size ≤ b ∧ (Value.slice la j2 lc).ownBlock ≠ some b) wr (dv i) (X i) (Y i)) (hown : wr.ownsRow w1.heap.size 84 6 (.slice la j2 lc) j2 (rowD ky dv X Y j2))
    (hWb : Below w2.heap.size w2 W) (hgrow : W.grownBy w4 (Value.slice la j2 lc).ownBlock) (hat : (Value.slice la j2 lc).ownBlock = some g ∨ g = W.heap.size)
    (hown4 : w4.ownsRow w1.heap.size 84 6 (.slice (some ⟨g, 0, none⟩) (j2 + 1) cap) (j2 + 1) (rowD ky dv X Y j2 ++ (.string (ky j2) :: cv (dv j2) x2 y2))) :
    CInv H w (w4.setCell ⟨H + 1 + 1, 4, none⟩ (.slice (some ⟨g, 0, none⟩) (j2 + 1) cap)) k n s xx yy lv (.slice (some ⟨g, 0, none⟩) (j2 + 1) cap) ∧ Besides (H + 1 + 1) w1 (w4.setCell ⟨H + 1 + 1, 4, none⟩ (.slice (some ⟨g, 0, none⟩) (j2 + 1) cap)) ∧ DInv w1.heap.size (w4.setCell ⟨H + 1 + 1, 4, none⟩ (.slice (some ⟨g, 0, none⟩) (j2 + 1) cap)) ky dv (j2 + 1) (.slice (some ⟨g, 0, none⟩) (j2 + 1) cap) := by
  have hlo := fun q (hq : (Value.slice la j2 lc).ownBlock = some q) => (hown.lt q hq)
  have s1 := hbs.size
  have s2 := hb2.size
  have s3 := hWb.size
  have blk : ∀ q, q < w1.heap.size → w4.heap[q]? = w2.heap[q]? := fun q hq =>
    (hgrow.block q (by omega) (fun e => by have := (hlo q e.symm).1; omega)).trans (hWb.block q (by omega))
  have st := rows_step (p := ⟨H + 1 + 1, 4, none⟩) (u := .slice (some ⟨g, 0, none⟩) (j2 + 1) cap) (n := j2 + 1) (cap := cap) s1 (fun q hq => (hlo q hq).2) hb2 hWb hgrow hat (show H + 1 + 1 < w1.heap.size by omega)
  have o4 := hc2.2.2.2.keep (blk _ (by omega))
  refine ⟨⟨?_, ?_, ?_, o4.set4 _⟩, ?_, upd X j2 x2, upd Y j2 y2, ?_, ?_⟩
  · exact ((hc2.1.trans (hWb.mono (by omega))).grown hgrow (by omega) (fun q hq => by have := (hlo q hq).1; omega)).setCell (by show H ≤ H + 1 + 1; omega) _
  · exact (hc2.2.1.keep (blk _ (by omega))).keep (Below.heap_setCell _ _ _ _ (by show H ≠ H + 1 + 1; omega))
  · exact (hc2.2.2.1.keep (blk _ (by omega))).keep (Below.heap_setCell _ _ _ _ (by show H + 1 ≠ H + 1 + 1; omega))
  · refine ⟨((hgrow.os.trans hWb.os).trans hb2.os).trans hbs.os, ((hgrow.tape.trans hWb.tape).trans hb2.tape).trans hbs.tape, ((hgrow.output.trans hWb.output).trans hb2.output).trans hbs.output, ?_, fun q hq hn => ?_⟩
    · have := hgrow.size
      simp [World.setCell]; omega
    · rw [Below.heap_setCell _ _ _ _ hn, blk q hq, hb2.block q (by omega), hbs.block q hq hn]
  · rw [rowD_succ]
    exact hown4.kept (grown_setCell _ _ _) (owns_ne hown4 (show H + 1 + 1 < w1.heap.size by omega))
  · intro i hi
    rcases Nat.lt_succ_iff_lt_or_eq.1 hi with h | rfl
    · rw [upd_lt h, upd_lt h]; exact st.1 _ _ _ (hel i h)
    · rw [upd_eq, upd_eq]; exact st.2 _ _ _ hrv
theorem rowL_len (l : Nat → T) (X Y : Nat → Value) (j : Nat) : (rowL l X Y j).length = j * 5 := by
  unfold rowL
  induction j with
  | zero => rfl
  | succ j ih => rw [List.range_succ, List.flatMap_append, List.length_append, ih]; simp [cv]; omega
theorem rowD_len (ky : Nat → ByteArray) (l : Nat → T) (X Y : Nat → Value) (j : Nat) : (rowD ky l X Y j).length = j * 6 := by
  unfold rowD
  induction j with
  | zero => rfl
  | succ j ih => rw [List.range_succ, List.flatMap_append, List.length_append, ih]; simp [cv]; omega
theorem rowL_get (l : Nat → T) (X Y : Nat → Value) (i r : Nat) (hr : r < 5) : ∀ j, i < j → (rowL l X Y j)[i * 5 + r]? = (cv (l i) (X i) (Y i))[r]? := by
  intro j
  induction j with
  | zero => intro h; omega
  | succ j ih =>
    intro h
    have e : rowL l X Y (j + 1) = rowL l X Y j ++ cv (l j) (X j) (Y j) := by unfold rowL; rw [List.range_succ, List.flatMap_append]; simp
    rw [e]
    by_cases hij : i = j
    · subst hij
      rw [List.getElem?_append_right (by rw [rowL_len]; omega), rowL_len]
      congr 1; omega
    · rw [List.getElem?_append_left (by rw [rowL_len]; omega)]
      exact ih (by omega)
theorem rowD_get (ky : Nat → ByteArray) (l : Nat → T) (X Y : Nat → Value) (i r : Nat) (hr : r < 6) : ∀ j, i < j → (rowD ky l X Y j)[i * 6 + r]? = (.string (ky i) :: cv (l i) (X i) (Y i))[r]? := by
  intro j
  induction j with
  | zero => intro h; omega
  | succ j ih =>
    intro h
    have e : rowD ky l X Y (j + 1) = rowD ky l X Y j ++ (.string (ky j) :: cv (l j) (X j) (Y j)) := by unfold rowD; rw [List.range_succ, List.flatMap_append]; simp
    rw [e]
    by_cases hij : i = j
    · subst hij
      rw [List.getElem?_append_right (by rw [rowD_len]; omega), rowD_len]
      congr 1; omega
    · rw [List.getElem?_append_left (by rw [rowD_len]; omega)]
      exact ih (by omega)
/-- the finished list reads as it should -/
theorem LInv.rl {B : Nat} {w w' : World} {l : Nat → T} {ln : Nat} {lv : Value} {S : Nat → Prop} (h : LInv B w l ln lv) (hs : w.heap.size ≤ w'.heap.size) (hb : ∀ b, B ≤ b → b < w.heap.size → w'.heap[b]? = w.heap[b]?) (hS : ∀ b, B ≤ b → S b) : RL S w' ln l lv := by
  obtain ⟨X, Y, hown, hel⟩ := h
  rcases hown.2 with ⟨rfl, rfl⟩ | ⟨g, cap, cur, rfl, hg1, hg2, _⟩
  · exact ⟨_, _, rfl, .inl rfl⟩
  have hg : g < w.heap.size := (Array.getElem?_eq_some_iff.1 hg2).1
  refine ⟨_, _, rfl, .inr ⟨g, 0, rfl, hS g hg1, Nat.lt_of_lt_of_le hg hs, fun i hi => ⟨X i, Y i, RV.move (fun b hb' _ => hS b hb'.1) hs (fun b hb' hl => hb b hb'.1 hl) _ _ _ (hel i hi), ?_⟩⟩⟩
  have c : ∀ r, r < 5 → w'.cell? ⟨g, i * 5 + r, none⟩ = (cv (l i) (X i) (Y i))[r]? := fun r hr => by
    rw [World.cell?_of_block (w := w) (a := ⟨g, i * 5 + r, none⟩) (hb g hg1 hg), hown.cellAt (i * 5 + r) (by omega), rowL_get _ _ _ _ _ hr _ hi]
  have c0 := c 0 (by omega)
  have c1 := c 1 (by omega)
  have c2 := c 2 (by omega)
  have c3 := c 3 (by omega)
  have c4 := c 4 (by omega)
  simp only [cv, Nat.add_zero] at c0 c1 c2 c3 c4
  simp only [Nat.zero_add]
  exact ⟨c0, c1, c2, c3, c4⟩
theorem DInv.rd {B : Nat} {w w' : World} {ky : Nat → ByteArray} {l : Nat → T} {dn : Nat} {dl : Value} {S : Nat → Prop} (h : DInv B w ky l dn dl) (hs : w.heap.size ≤ w'.heap.size) (hb : ∀ b, B ≤ b → b < w.heap.size → w'.heap[b]? = w.heap[b]?) (hS : ∀ b, B ≤ b → S b) : RD S w' dn ky l dl := by
  obtain ⟨X, Y, hown, hel⟩ := h
  rcases hown.2 with ⟨rfl, rfl⟩ | ⟨g, cap, cur, rfl, hg1, hg2, _⟩
  · exact ⟨_, _, rfl, .inl rfl⟩
  have hg : g < w.heap.size := (Array.getElem?_eq_some_iff.1 hg2).1
  refine ⟨_, _, rfl, .inr ⟨g, 0, rfl, hS g hg1, Nat.lt_of_lt_of_le hg hs, fun i hi => ⟨X i, Y i, RV.move (fun b hb' _ => hS b hb'.1) hs (fun b hb' hl => hb b hb'.1 hl) _ _ _ (hel i hi), ?_⟩⟩⟩
  have c : ∀ r, r < 6 → w'.cell? ⟨g, i * 6 + r, none⟩ = (.string (ky i) :: cv (l i) (X i) (Y i))[r]? := fun r hr => by
    rw [World.cell?_of_block (w := w) (a := ⟨g, i * 6 + r, none⟩) (hb g hg1 hg), hown.cellAt (i * 6 + r) (by omega), rowD_get _ _ _ _ _ _ hr _ hi]
  have c0 := c 0 (by omega)
  have c1 := c 1 (by omega)
  have c2 := c 2 (by omega)
  have c3 := c 3 (by omega)
  have c4 := c 4 (by omega)
  have c5 := c 5 (by omega)
  simp only [cv, Nat.add_zero] at c0 c1 c2 c3 c4 c5
  simp only [Nat.zero_add]
  exact ⟨c0, c1, c2, c3, c4, c5⟩
theorem info25s : (Tryd.prog.info? 60).map (·.size) = some 5 := by kernel_rfl
theorem besides5 (w : World) (b : Nat) (c0 c1 c2 c3 c4 : Value) : Besides b w (((((w.setCell ⟨b, 0, none⟩ c0).setCell ⟨b, 1, none⟩ c1).setCell ⟨b, 2, none⟩ c2).setCell ⟨b, 3, none⟩ c3).setCell ⟨b, 4, none⟩ c4) :=
  ((((Besides.setCell w ⟨b, 0, none⟩ c0).trans (Besides.setCell _ ⟨b, 1, none⟩ c1)).trans (Besides.setCell _ ⟨b, 2, none⟩ c2)).trans (Besides.setCell _ ⟨b, 3, none⟩ c3)).trans (Besides.setCell _ ⟨b, 4, none⟩ c4)
theorem copy_end {H : Nat} {w w1 w9 wE : World} {k n : Int} {s : ByteArray} {xx yy lv dl : Value} {ln dn : Nat} {l : Nat → T} {ky : Nat → ByteArray} {dv : Nat → T} (hS : w.heap.size = H) (hlt3 : H + 3 ≤ w1.heap.size)
    (hc : CInv H w w9 k n s xx yy lv dl) (hL : LInv (H + 3) w1 l ln lv) (hbs : Besides (H + 1 + 1) w1 w9) (hD : DInv w1.heap.size w9 ky dv dn dl) (hE : Besides (H + 1) w9 wE) :
    RV (fun b => w.heap.size ≤ b) wE (.mk k n s ln l dn ky dv) lv dl ∧ Below w.heap.size w wE := by
  have s1 := hbs.size
  have s2 := hE.size
  refine ⟨⟨hL.rl (Nat.le_trans s1 s2) (fun b h1 h2 => ?_) (fun b h => by omega), hD.rd s2 (fun b h1 h2 => ?_) (fun b h => by omega)⟩, ?_⟩
  · rw [hE.block b (by omega) (by omega), hbs.block b h2 (by omega)]
  · rw [hE.block b h2 (by omega)]
  · have h0 := hc.1
    exact ⟨hE.os.trans h0.os, hE.tape.trans h0.tape, hE.output.trans h0.output, Nat.le_trans h0.size s2, fun q hq => (hE.block q (by have := h0.size; omega) (by omega)).trans (h0.block q (by omega))⟩
end Go.Proofs.YtdlnnnlmlaploaaDoor
namespace Go.Proofs.YtdlnnnlmlaploaaDoor
open Go.RowKit Go.Deep
theorem info55 : (Tryd.prog.info? 89).map (fun i => (i.zero, i.size, i.bytes)) = some (some .nilIface, 1, 16) := by kernel_rfl
theorem info57 : (Tryd.prog.info? 125).map (fun i => (i.zero, i.size, i.bytes)) = some (some (.agg #[.string ByteArray.empty, .nilIface]), 2, 32) := by kernel_rfl
/-- a block, whole -/
def blk (w : World) (g : Nat) (ty : TypeId) (cs : Array Value) : Prop := w.heap[g]? = some (.cells cs ty (0, 0))
theorem blk.cell {w : World} {g : Nat} {ty : TypeId} {cs : Array Value} (h : blk w g ty cs) (i : Nat) : w.cell? ⟨g, i, none⟩ = cs[i]? := by
  unfold blk at h
  simp [World.cell?, h]
theorem blk.frozen {w : World} {g : Nat} {ty : TypeId} {cs : Array Value} (h : blk w g ty cs) (i : Nat) : w.frozen? ⟨g, i, none⟩ = false := by
  unfold blk at h
  simp [World.frozen?, h]
theorem blk.set {w : World} {g : Nat} {ty : TypeId} {cs : Array Value} (h : blk w g ty cs) (i : Nat) (u : Value) : blk (w.setCell ⟨g, i, none⟩ u) g ty (cs.setIfInBounds i u) := by
  unfold blk at h ⊢
  simp [World.setCell, Array.getElem?_modify, h]
theorem blk.keep {w w' : World} {g : Nat} {ty : TypeId} {cs : Array Value} (h : blk w g ty cs) (hb : w'.heap[g]? = w.heap[g]?) : blk w' g ty cs := hb.trans h
theorem blk.lt {w : World} {g : Nat} {ty : TypeId} {cs : Array Value} (h : blk w g ty cs) : g < w.heap.size := (Array.getElem?_eq_some_iff.1 h).1
/-- a node reads as the tree -/
def RN (S : Nat → Prop) (w : World) : T → Value → Prop
  | .no => fun _ => False
  | .mk k n s ln l dn ky dv => fun v =>
    (k = 1 ∧ v = .iface 99 (.int .i64 n)) ∨ (k = 2 ∧ v = .iface 100 (.string s)) ∨
    (k = 3 ∧ ∃ b c, v = .iface 102 (.slice (some ⟨b, 0, none⟩) ln c) ∧ S b ∧ b < w.heap.size ∧ ∀ i, i < ln → ∃ u, w.cell? ⟨b, i, none⟩ = some u ∧ RN S w (l i) u) ∨
    (k = 4 ∧ ∃ b c, v = .iface 105 (.slice (some ⟨b, 0, none⟩) dn c) ∧ S b ∧ b < w.heap.size ∧ ∀ i, i < dn → ∃ u, w.cell? ⟨b, i * 2, none⟩ = some (.string (ky i)) ∧ w.cell? ⟨b, i * 2 + 1, none⟩ = some u ∧ RN S w (dv i) u)
theorem RN.move {S S' : Nat → Prop} {w w' : World} (hS : ∀ b, S b → b < w.heap.size → S' b) (hs : w.heap.size ≤ w'.heap.size) (hb : ∀ b, S b → b < w.heap.size → w'.heap[b]? = w.heap[b]?) :
    ∀ (t : T) (v : Value), RN S w t v → RN S' w' t v := by
  intro t
  induction t with
  | no => intro v h; exact h
  | mk k n s ln l dn ky dv il id =>
    rintro v (h | h | ⟨hk, b, c, rfl, h1, h2, h3⟩ | ⟨hk, b, c, rfl, h1, h2, h3⟩)
    · exact .inl h
    · exact .inr (.inl h)
    · refine .inr (.inr (.inl ⟨hk, b, c, rfl, hS b h1 h2, Nat.lt_of_lt_of_le h2 hs, fun i hi => ?_⟩))
      obtain ⟨u, g1, g2⟩ := h3 i hi
      exact ⟨u, (World.cell?_of_block (w := w) (hb b h1 h2)).trans g1, il i _ g2⟩
    · refine .inr (.inr (.inr ⟨hk, b, c, rfl, hS b h1 h2, Nat.lt_of_lt_of_le h2 hs, fun i hi => ?_⟩))
      obtain ⟨u, g0, g1, g2⟩ := h3 i hi
      exact ⟨u, (World.cell?_of_block (w := w) (hb b h1 h2)).trans g0, (World.cell?_of_block (w := w) (hb b h1 h2)).trans g1, id i _ g2⟩
theorem RN.iface {S : Nat → Prop} {w : World} {t : T} {v : Value} (h : RN S w t v) : ∃ ty u, v = .iface ty u := by
  cases t with
  | no => exact h.elim
  | mk k n s ln l dn ky dv =>
    rcases h with ⟨_, rfl⟩ | ⟨_, rfl⟩ | ⟨_, b, c, rfl, _⟩ | ⟨_, b, c, rfl, _⟩ <;> exact ⟨_, _, rfl⟩
/-- valid, but for its depth -/
def VT : T → Prop
  | .no => True
  | .mk k n s ln l dn ky dv => ownB k n s ln dn = true ∧ (∀ i, i < ln → VT (l i)) ∧ (∀ i, i < dn → keyBad ky i = false ∧ VT (dv i))
theorem fstE_zero {f : Nat → Int} {n : Nat} (h : fstE f n = 0) : ∀ i, i < n → f i = 0 := by
  induction n with
  | zero => intro i hi; omega
  | succ n ih =>
    unfold fstE at h
    by_cases h0 : fstE f n = 0
    · rw [if_pos h0] at h
      intro i hi
      by_cases e : i = n
      · subst e; exact h
      · exact ih h0 i (by omega)
    · rw [if_neg h0] at h; exact absurd h h0
theorem vt_of_wk : ∀ (t : T) (ar : Int), wk t ar = 0 → VT t := by
  intro t
  induction t with
  | no => intro _ _; trivial
  | mk k n s ln l dn ky dv il id =>
    intro ar h
    rw [wk] at h
    dsimp only at h
    by_cases h1 : ownB k n s ln dn = false
    · rw [if_pos h1] at h; omega
    rw [if_neg h1] at h
    have ho : ownB k n s ln dn = true := by simpa using h1
    refine ⟨ho, ?_⟩
    obtain ⟨k1, k4, o1, o2, o3, o4⟩ := (ownB_iff _ _ _ _ _).1 ho
    by_cases h2 : k < 3
    · have e1 : ln = 0 := by omega
      have e2 : dn = 0 := by omega
      exact ⟨fun i hi => by omega, fun i hi => by omega⟩
    rw [if_neg h2] at h
    by_cases h3 : 32 ≤ ar
    · rw [if_pos h3] at h; omega
    rw [if_neg h3] at h
    by_cases h4 : fstE (fun i => wk (l i) (ar + 1)) ln ≠ 0
    · rw [if_pos h4] at h; exact absurd h h4
    rw [if_neg h4] at h
    have h4' : fstE (fun i => wk (l i) (ar + 1)) ln = 0 := by simpa using h4
    refine ⟨fun i hi => il i (ar + 1) (fstE_zero h4' i hi), fun i hi => ?_⟩
    have h5 := fstE_zero h i hi
    by_cases h6 : keyBad ky i = true
    · simp only [h6] at h5; simp at h5
    · have h6' : keyBad ky i = false := by simpa using h6
      simp only [h6'] at h5
      exact ⟨h6', id i (ar + 1) (by simpa using h5)⟩
/-- no row of bytes -/
def NB (w : World) (b : Nat) : Prop := ∀ c fz, w.heap[b]? ≠ some (.cells c 5 fz)
def NB5 (H : Nat) (w : World) : Prop := ∀ b, H ≤ b → NB w b
theorem NB5.alloc {H : Nat} {w : World} (h : NB5 H w) (o : Obj) (ho : ∀ c fz, o ≠ .cells c 5 fz) : NB5 H (w.alloc o) := fun b hb c fz hc => by
  by_cases e : b < w.heap.size
  · rw [Below.heap_alloc _ _ _ e] at hc; exact h b hb c fz hc
  · by_cases e2 : b = w.heap.size
    · subst e2; rw [heap_new] at hc; exact ho c fz (Option.some.inj hc)
    · rw [Array.getElem?_eq_none (by simp; omega)] at hc; cases hc
theorem NB5.self (w : World) : NB5 w.heap.size w := fun b hb c fz hc => by
  rw [Array.getElem?_eq_none hb] at hc; cases hc
theorem NB5.next {H : Nat} {w w' : World} (h : NB5 H w) (hb : Below w.heap.size w w') (k : NB5 w.heap.size w') : NB5 H w' := fun b hH => by
  by_cases e : b < w.heap.size
  · intro c fz hc; rw [hb.block b e] at hc; exact h b hH c fz hc
  · exact k b (by omega)
theorem NB5.set {H g i : Nat} {w : World} {ty : TypeId} {cs : Array Value} {v : Value} (h : NB5 H w) (hg : blk w g ty cs) (ht : ty ≠ 5) : NB5 H (w.setCell ⟨g, i, none⟩ v) := fun b hH c fz hc => by
  by_cases e : b = g
  · subst e
    have := hg.set i v
    rw [this] at hc
    cases hc; exact ht rfl
  · rw [Below.heap_setCell _ _ _ _ e] at hc; exact h b hH c fz hc
def NC (t : T) : Prop := ∀ (x y : Value) (w : World), t.ok → t.small → VT t → RV (fun _ => True) w t x y →
  Calls Tryd.prog 53 #[vv t x y] w fun e w' => ∃ u, e = .returned u ∧ RN (fun b => w.heap.size ≤ b) w' t u ∧ Below w.heap.size w w' ∧ NB5 w.heap.size w'
/-- a row of nodes so far -/
def NInv (g : Nat) (w : World) (l : Nat → T) (ln j : Nat) (cs : Array Value) : Prop := blk w g 89 cs ∧ cs.size = ln ∧ ∀ i, i < j → ∃ u, cs[i]? = some u ∧ RN (fun b => g < b) w (l i) u
set_option maxHeartbeats 2000000 in
theorem listOf39 (ln : Nat) (l : Nat → T) (x : Value) (w : World) (ih : ∀ i, NC (l i)) (hs : ln ≤ 2147483647) (ok4 : ∀ i, i < ln → (l i).ok ∧ (l i).small ∧ VT (l i)) (hL : RL (fun _ => True) w ln l x) :
    Calls Tryd.prog 62 #[x] w fun e w' => ∃ c, e = .returned (.slice (some ⟨w.heap.size, 0, none⟩) ln c) ∧ (∀ i, i < ln → ∃ u, w'.cell? ⟨w.heap.size, i, none⟩ = some u ∧ RN (fun b => w.heap.size ≤ b) w' (l i) u) ∧ w.heap.size < w'.heap.size ∧ Below w.heap.size w w' ∧ NB5 w.heap.size w' := by
  obtain ⟨a, ca, rfl, hL⟩ := hL
  obtain ⟨i0, hi, hz0, hz1, hz2⟩ := info_parts info55
  have hmk : ∀ u : World, (Instr.makeSlice 102 (.int .i64 (ln : Int)) (.int .i64 (ln : Int))).run Tryd.prog u =
      .ok (.slice (some ⟨u.heap.size, 0, none⟩) ln ln) (u.alloc (.cells (madeCells #[.nilIface] ln) 89)) := fun u => by
    have h := run_make (P := Tryd.prog) u 102 89 i0 .nilIface Tryd.underlying102 hi hz0 .i64 .i64 ln ln (by omega) (by omega) (by rw [hz2]; omega) (by omega)
    simpa [hz1, Value.cells] using h
  have HI : Hid ((∀ i, NC (l i)) ∧ (∀ i, i < ln → (l i).ok ∧ (l i).small ∧ VT (l i)) ∧ (ln = 0 ∨ ∃ b o, a = some ⟨b, o, none⟩ ∧ True ∧ b < w.heap.size ∧ ∀ i, i < ln → ∃ x' y', RV (fun _ => True) w (l i) x' y' ∧ five w b (o + i * 5) (l i) x' y')) := ⟨ih, ok4, hL⟩
  clear ih ok4 hL hi hz0 hz1 hz2
  go_enter Tryd.func62, Tryd.ntmps62
  go_wp2
  clear hmk
  have HB0 : Hid (Below w.heap.size w (w.alloc (.cells (madeCells #[.nilIface] ln) 89)) ∧ NInv w.heap.size (w.alloc (.cells (madeCells #[.nilIface] ln) 89)) l ln 0 (madeCells #[.nilIface] ln) ∧ NB5 w.heap.size (w.alloc (.cells (madeCells #[.nilIface] ln) 89))) :=
    ⟨(Below.refl _ _).alloc (Nat.le_refl _) _, ⟨heap_new _ _, by rw [size_madeCells], fun i hi => absurd hi (Nat.not_lt_zero _)⟩, (NB5.self w).alloc _ (fun c fz h => by cases h)⟩
  generalize w.alloc (.cells (madeCells #[.nilIface] ln) 89) = w0 at *
  generalize hg : w.heap.size = g at *
  have HG : Hid (w.heap.size = g) := hg
  clear hg
  go_loopw [11] (fun i wr => ∃ (j : Nat) (cs : Array Value), j ≤ ln ∧ i = .int .i64 j ∧ Hid (Below g w wr ∧ NInv g wr l ln j cs ∧ NB5 g wr)) (fun i _ => ln - (intOf i).toNat)
  case atStart => exact ⟨0, _, Nat.zero_le _, rfl, HB0⟩
  case round =>
    obtain ⟨j, cs, hj, rfl, hinv⟩ := hrel
    by_cases hlt : j < ln
    · obtain ⟨il, ok4, hL⟩ := HI.out
      rcases hL with h | ⟨b, o, rfl, _, hbl, hL⟩
      · omega
      obtain ⟨x1, y1, hv, g1, g2, g3, g4, g5⟩ := hL j hlt
      have hw := hinv.out.1
      have hle : w.heap.size ≤ g := Nat.le_of_eq HG.out
      replace g1 := Below.cellS hw hle g1
      replace g2 := Below.cellS hw hle g2
      replace g3 := Below.cellS hw hle g3
      replace g4 := Below.cellS hw hle g4
      replace g5 := Below.cellS hw hle g5
      obtain ⟨⟨xa, xn, xc, rfl⟩, ⟨ya, yn, yc, rfl⟩⟩ := hv.slices
      have HA : Hid (Below wr.heap.size wr (wr.alloc (Obj.cells #[.int .i64 (l j).k, .int .i64 (l j).n, .string (l j).s, .slice xa xn xc, .slice ya yn yc] 60))) := (Below.refl _ _).alloc (Nat.le_refl _) _
      have HV : Hid (NC (l j) ∧ (l j).ok ∧ (l j).small ∧ VT (l j) ∧ RV (fun _ => True) wr (l j) (.slice xa xn xc) (.slice ya yn yc)) := ⟨il j, (ok4 j hlt).1, (ok4 j hlt).2.1, (ok4 j hlt).2.2, Below.rv hw hle hv⟩
      clear il ok4 hL hv hbl hw hle
      go_wp2_with fail
      refine (HV.out.1 _ _ _ HV.out.2.1 HV.out.2.2.1 HV.out.2.2.2.1 (Below.rv HA.out (Nat.le_refl _) HV.out.2.2.2.2)).mono ?_
      rintro e w2 ⟨u, rfl, hrn, hb2, hn2⟩
      obtain ⟨ty, uu, rfl⟩ := hrn.iface
      obtain ⟨hbw, ⟨hblk, hsz, hel⟩, hnb⟩ := hinv.out
      have hn3 := (hnb.alloc (Obj.cells #[.int .i64 (l j).k, .int .i64 (l j).n, .string (l j).s, .slice xa xn xc, .slice ya yn yc] 60) (fun c fz h => by cases h)).next hb2 hn2
      have hb3 : Below wr.heap.size wr w2 := HA.out.trans (hb2.mono HA.out.size)
      have hblk2 := hblk.keep (hb3.block _ hblk.lt)
      have cj : ∃ z, w2.cell? ⟨g, j, none⟩ = some z := ⟨cs[j], by rw [hblk2.cell]; exact Array.getElem?_eq_getElem (by omega)⟩
      obtain ⟨z, cj⟩ := cj
      have fj := hblk2.frozen j
      have HN : Hid (Below g w (w2.setCell ⟨g, j, none⟩ (.iface ty uu)) ∧ NInv g (w2.setCell ⟨g, j, none⟩ (.iface ty uu)) l ln (j + 1) (cs.setIfInBounds j (.iface ty uu)) ∧ NB5 g (w2.setCell ⟨g, j, none⟩ (.iface ty uu))) := by
        have hglt := hblk.lt
        refine ⟨(hbw.trans (hb3.mono (by omega))).setCell (Nat.le_refl _) _, ⟨hblk2.set j _, by simp [hsz], fun i hi => ?_⟩, hn3.set hblk2 (by decide)⟩
        rcases Nat.lt_succ_iff_lt_or_eq.1 hi with h | rfl
        · obtain ⟨u, q1, q2⟩ := hel i h
          refine ⟨u, by rw [Array.getElem?_setIfInBounds_ne (by omega)]; exact q1, RN.move (fun b hb _ => hb) (by have := hb3.size; simp [World.setCell]; omega) (fun b hb hl => ?_) _ _ q2⟩
          rw [Below.heap_setCell _ _ _ _ (show b ≠ g by omega), hb3.block b hl]
        · refine ⟨_, Array.getElem?_setIfInBounds_self_of_lt (by omega), RN.move (fun b hb _ => ?_) (by simp [World.setCell]) (fun b hb hl => Below.heap_setCell _ _ _ _ ?_) _ _ hrn⟩
          · have := HA.out.size; omega
          · have := HA.out.size; show b ≠ g; omega
      clear hinv HV HA hrn hb2 hn2 hn3 hnb hb3 hblk hblk2 hel hbw hsz g1 g2 g3 g4 g5
      go_wp2
      go_roundw
      case rel => exact ⟨j + 1, _, by omega, by go_num, HN⟩
      case measure => simp [intOf]; omega
    · obtain rfl : j = ln := by omega
      go_wp2
      go_ret
      obtain ⟨hbw, ⟨hblk, hsz, hel⟩, hnb⟩ := hinv.out
      refine ⟨j, by rw [HG.out]; rfl, fun i hi => ?_, HG.out ▸ hblk.lt, HG.out ▸ hbw, HG.out ▸ hnb⟩
      obtain ⟨u, q1, q2⟩ := hel i hi
      exact ⟨u, by rw [HG.out, hblk.cell]; exact q1, RN.move (fun b hb _ => by have := HG.out; omega) (Nat.le_refl _) (fun _ _ _ => rfl) _ _ q2⟩
end Go.Proofs.YtdlnnnlmlaploaaDoor
namespace Go.Proofs.YtdlnnnlmlaploaaDoor
/-! ### Reading a text, in plain lists: a machine that goes step by step, as the document tells it -/
/-- what reading a piece gives: the piece and the place behind it, or the place of the fault and the error -/
inductive Pc (α : Type) where
  | ok (a : α) (j : Nat)
  | bad (p : Nat) (e : Int)
/-- the byte at a place -/
def byt (b : List UInt8) (i : Nat) : UInt8 := b.getD i 0
def dig (c : UInt8) : Bool := 48 ≤ c && c ≤ 57
/-- how many digits stand from i on -/
def run (b : List UInt8) (i : Nat) : Nat := ((b.drop i).takeWhile dig).length
/-- the bytes from i on, ahead of j -/
def cut (b : List UInt8) (i j : Nat) : List UInt8 := (b.drop i).take (j - i)
/-- digits, and the byte that ends them -/
def digs (b : List UInt8) (en : UInt8) (i : Nat) : Pc (List UInt8) :=
  if b.length ≤ i + run b i then .bad b.length 21
  else if run b i = 0 ∨ byt b (i + run b i) ≠ en then .bad (i + run b i) 22
  else .ok (cut b i (i + run b i)) (i + run b i + 1)
def padd (l : List UInt8) : Bool := decide (1 < l.length) && byt l 0 == 48
/-- a string -/
def strg (b : List UInt8) (i : Nat) : Pc ByteArray :=
  match digs b 58 i with
  | .bad p e => .bad p e
  | .ok d j => if padd d = true then .bad i 23 else
    match Lib.atoiAll d with
    | .ok n => if (b.length : Int) - j < n then .bad b.length 21 else .ok ⟨(cut b j (j + n.toNat)).toArray⟩ (j + n.toNat)
    | _ => .bad b.length 21
/-- a number; at i stands the letter i -/
def numb (b : List UInt8) (i : Nat) : Pc Int :=
  if b.length ≤ i + 1 then .bad b.length 21 else
  let sg : List UInt8 := if byt b (i + 1) = 45 then [45] else []
  match digs b 101 (i + 1 + sg.length) with
  | .bad p e => .bad p e
  | .ok d j => match Lib.atoiAll (sg ++ d) with
    | .ok n => if padd d = true ∨ sg ++ d = [45, 48] then .bad i 23 else .ok n j
    | _ => .bad i 23
/-- a list or a dictionary that has begun and not ended -/
structure Fr where
  d : Bool
  ls : List T := []
  ps : List (ByteArray × T) := []
  key : ByteArray := ByteArray.empty
  has : Bool := false
def tNum (n : Int) : T := .mk 1 n ByteArray.empty 0 (fun _ => .no) 0 (fun _ => ByteArray.empty) (fun _ => .no)
def tStr (s : ByteArray) : T := .mk 2 0 s 0 (fun _ => .no) 0 (fun _ => ByteArray.empty) (fun _ => .no)
def tList (l : List T) : T := .mk 3 0 ByteArray.empty l.length (fun i => l.getD i .no) 0 (fun _ => ByteArray.empty) (fun _ => .no)
def tDict (l : List (ByteArray × T)) : T := .mk 4 0 ByteArray.empty 0 (fun _ => .no) l.length (fun i => (l.getD i (ByteArray.empty, .no)).1) (fun i => (l.getD i (ByteArray.empty, .no)).2)
def Fr.close (f : Fr) : T := if f.d = true then tDict f.ps else tList f.ls
def Fr.join (f : Fr) (t : T) : Fr := if f.d = true then { d := true, ps := f.ps ++ [(f.key, t)] } else { d := false, ls := f.ls ++ [t] }
/-- where the machine stands -/
inductive Out where
  | go (st : List Fr) (i : Nat)
  | val (t : T) (i : Nat)
  | bad (p : Nat) (e : Int)
def deliver : List Fr → T → Nat → Out
  | [], t, i => .val t i
  | f :: r, t, i => .go (f.join t :: r) i
def scal (b : List UInt8) (st : List Fr) (i : Nat) : Out :=
  if byt b i = 105 then (match numb b i with | .bad p e => .bad p e | .ok n j => deliver st (tNum n) j)
  else if dig (byt b i) = true then (match strg b i with | .bad p e => .bad p e | .ok s j => deliver st (tStr s) j)
  else .bad i 22
/-- a value begins -/
def opn (b : List UInt8) (st : List Fr) (i : Nat) : Out :=
  if byt b i = 108 then (if 32 ≤ st.length then .bad i 24 else .go ({ d := false } :: st) (i + 1))
  else if byt b i = 100 then (if 32 ≤ st.length then .bad i 24 else .go ({ d := true } :: st) (i + 1))
  else scal b st i
def leB (s p : ByteArray) : Bool := Op.bytesLess s.toList p.toList || s.toList == p.toList
/-- a key begins -/
def keyy (b : List UInt8) (f : Fr) (r : List Fr) (i : Nat) : Out :=
  if dig (byt b i) = false then .bad i 22 else
  match strg b i with
  | .bad p e => .bad p e
  | .ok s j => if f.ps ≠ [] ∧ leB s (f.ps.getLastD (ByteArray.empty, .no)).1 = true then .bad i 25 else .go ({ f with key := s, has := true } :: r) j
def step (b : List UInt8) (st : List Fr) (i : Nat) : Out :=
  if b.length ≤ i then .bad b.length 21 else
  match st with
  | [] => opn b [] i
  | f :: r =>
    if f.d = true ∧ f.has = false then (if byt b i = 101 then deliver r f.close (i + 1) else keyy b f r i)
    else if f.d = false ∧ byt b i = 101 then deliver r f.close (i + 1)
    else opn b (f :: r) i
inductive Run (b : List UInt8) : Out → Out → Prop where
  | refl (o : Out) : Run b o o
  | more {st : List Fr} {i : Nat} {o : Out} : Run b (step b st i) o → Run b (.go st i) o
theorem Run.trans {b : List UInt8} {o p q : Out} (h : Run b o p) (k : Run b p q) : Run b o q := by
  induction h with
  | refl => exact k
  | more _ ih => exact .more (ih k)
theorem Run.one {b : List UInt8} {st : List Fr} {i : Nat} {o : Out} (h : step b st i = o) : Run b (.go st i) o := .more (h ▸ .refl _)
def Out.fin : Out → Prop
  | .go _ _ => False
  | _ => True
theorem Run.unique {b : List UInt8} {o p q : Out} (h : Run b o p) (k : Run b o q) (hp : p.fin) (hq : q.fin) : p = q := by
  induction h with
  | refl o => cases k with
    | refl => rfl
    | more _ => exact hp.elim
  | more h ih => cases k with
    | refl => exact hq.elim
    | more k => exact ih k hp
end Go.Proofs.YtdlnnnlmlaploaaDoor
namespace Go.Proofs.YtdlnnnlmlaploaaDoor
open Go.RowKit Go.Deep
theorem byt_drop (b : List UInt8) (i k : Nat) : byt b (i + k) = byt (b.drop i) k := by
  simp [byt, List.getD, List.getElem?_drop]
theorem takeWhile_dig (l : List UInt8) : ∀ k, k < (l.takeWhile dig).length → k < l.length ∧ dig (byt l k) = true := by
  induction l with
  | nil => intro k hk; simp at hk
  | cons x l ih =>
    intro k hk
    by_cases hx : dig x = true
    · rw [List.takeWhile_cons_of_pos hx] at hk
      cases k with
      | zero => exact ⟨by simp, by simpa [byt] using hx⟩
      | succ k =>
        obtain ⟨h1, h2⟩ := ih k (by simpa using hk)
        exact ⟨by simpa using h1, by simpa [byt] using h2⟩
    · rw [List.takeWhile_cons_of_neg hx] at hk; simp at hk
theorem takeWhile_end (l : List UInt8) : (l.takeWhile dig).length < l.length → dig (byt l (l.takeWhile dig).length) = false := by
  induction l with
  | nil => intro h; simp at h
  | cons x l ih =>
    intro h
    by_cases hx : dig x = true
    · rw [List.takeWhile_cons_of_pos hx] at h ⊢
      have := ih (by simpa using h)
      simpa [byt] using this
    · rw [List.takeWhile_cons_of_neg hx]
      simpa [byt] using hx
theorem takeWhile_le (l : List UInt8) : (l.takeWhile dig).length ≤ l.length := by
  induction l with
  | nil => simp
  | cons x l ih =>
    by_cases hx : dig x = true
    · rw [List.takeWhile_cons_of_pos hx]; simpa using ih
    · rw [List.takeWhile_cons_of_neg hx]; simp
theorem run_lt {b : List UInt8} {i k : Nat} (h : k < run b i) : i + k < b.length ∧ dig (byt b (i + k)) = true := by
  obtain ⟨h1, h2⟩ := takeWhile_dig (b.drop i) k h
  rw [← byt_drop] at h2
  exact ⟨by rw [List.length_drop] at h1; omega, h2⟩
theorem run_end {b : List UInt8} {i : Nat} (h : i + run b i < b.length) : dig (byt b (i + run b i)) = false := by
  rw [byt_drop]
  exact takeWhile_end (b.drop i) (by rw [List.length_drop]; unfold run at h; omega)
theorem run_le {b : List UInt8} {i : Nat} (h : i ≤ b.length) : i + run b i ≤ b.length := by
  have := takeWhile_le (b.drop i)
  rw [List.length_drop] at this
  unfold run; omega
theorem cut_length {b : List UInt8} {i j : Nat} (h : j ≤ b.length) : (cut b i j).length = j - i := by
  unfold cut; rw [List.length_take, List.length_drop]; omega
theorem byt_cut {b : List UInt8} {i j k : Nat} (h : k < j - i) : byt (cut b i j) k = byt b (i + k) := by
  simp [byt, cut, List.getD, h, List.getElem?_drop]
/-- the ending of a reader that gives up -/
def pnc (p e : Int) : Ending := .panicked [{ v := .iface 117 (.agg #[.int .i64 p, .int .i64 e]), recovered := false }]
/-- the slice holds the text; its block is not rb -/
def TXn (rb : Nat) (w : World) (a : Option Addr) (c : Nat) (b : List UInt8) : Prop :=
  b.length ≤ c ∧ b.length ≤ 1048576 ∧ (b = [] ∨ ∃ g o, a = some ⟨g, o, none⟩ ∧ g ≠ rb ∧ g < w.heap.size ∧ ∀ i, i < b.length → w.cell? ⟨g, o + i, none⟩ = some (.int .u8 ((byt b i).toNat : Int)))
/-- the two errors of strconv hold something; rb is another block -/
def EVn (rb : Nat) (w : World) : Prop := 3 ≠ rb ∧ 4 ≠ rb ∧ (∃ t p, w.cell? ⟨3, 0, none⟩ = some (.iface t p)) ∧ ∃ t p, w.cell? ⟨4, 0, none⟩ = some (.iface t p)
/-- the reader in block rb stands at i -/
def RR (rb : Nat) (w : World) (a : Option Addr) (c : Nat) (b : List UInt8) (i : Nat) : Prop := (blk w rb 120 #[.slice a b.length c, .int .i64 i] ∧ EVn rb w) ∧ i ≤ b.length ∧ TXn rb w a c b
theorem EVn.keep {rb : Nat} {w w' : World} (h : EVn rb w) (hb : Besides rb w w') : EVn rb w' := by
  obtain ⟨h1, h2, ⟨t, p, h3⟩, ⟨t', p', h4⟩⟩ := h
  exact ⟨h1, h2, ⟨t, p, hb.cell h1 h3⟩, ⟨t', p', hb.cell h2 h4⟩⟩
theorem TXn.keep {rb : Nat} {w w' : World} {a : Option Addr} {c : Nat} {b : List UInt8} (h : TXn rb w a c b) (hb : Besides rb w w') : TXn rb w' a c b := by
  refine ⟨h.1, h.2.1, ?_⟩
  rcases h.2.2 with h | ⟨g, o, h1, h2, h3, h4⟩
  · exact .inl h
  · exact .inr ⟨g, o, h1, h2, Nat.lt_of_lt_of_le h3 hb.size, fun i hi => (World.cell?_of_block (w := w) (hb.block g h3 h2)).trans (h4 i hi)⟩
theorem RR.heap {rb : Nat} {w w' : World} {a : Option Addr} {c : Nat} {b : List UInt8} {i : Nat} (h : RR rb w a c b i) (hb : Below w.heap.size w w') : RR rb w' a c b i :=
  ⟨⟨h.1.1.keep (hb.block _ h.1.1.lt), h.1.2.keep ⟨hb.os, hb.tape, hb.output, hb.size, fun k hk _ => hb.block k hk⟩⟩, h.2.1, h.2.2.keep ⟨hb.os, hb.tape, hb.output, hb.size, fun k hk _ => hb.block k hk⟩⟩
theorem Besides.of_below {rb : Nat} {w w' : World} (hb : Below w.heap.size w w') : Besides rb w w' := ⟨hb.os, hb.tape, hb.output, hb.size, fun k hk _ => hb.block k hk⟩
theorem Besides.set1 {rb i : Nat} {v : Value} {w w' : World} (h : Besides rb w w') : Besides rb w (w'.setCell ⟨rb, i, none⟩ v) :=
  ⟨h.os, h.tape, h.output, by simpa [World.setCell] using h.size, fun k hk hn => by rw [Below.heap_setCell _ _ _ _ hn]; exact h.block k hk hn⟩
theorem RR.set {rb : Nat} {w : World} {a : Option Addr} {c : Nat} {b : List UInt8} {i : Nat} (h : RR rb w a c b i) (j : Nat) (hj : j ≤ b.length) : RR rb (w.setCell ⟨rb, 1, none⟩ (.int .i64 j)) a c b j :=
  ⟨⟨h.1.1.set 1 _, h.1.2.keep (Besides.refl rb w).set1⟩, hj, h.2.2.keep (Besides.refl rb w).set1⟩
theorem RR.cells {rb : Nat} {w : World} {a : Option Addr} {c : Nat} {b : List UInt8} {i : Nat} (h : RR rb w a c b i) : w.cell? ⟨rb, 0, none⟩ = some (.slice a b.length c) ∧ w.cell? ⟨rb, 1, none⟩ = some (.int .i64 i) ∧ w.frozen? ⟨rb, 1, none⟩ = false := ⟨h.1.1.cell 0, h.1.1.cell 1, h.1.1.frozen 1⟩
theorem RR.byte {rb : Nat} {w : World} {a : Option Addr} {c : Nat} {b : List UInt8} {i k : Nat} (h : RR rb w a c b i) (hk : k < b.length) : ∃ g o, a = some ⟨g, o, none⟩ ∧ g ≠ rb ∧ w.cell? ⟨g, o + k, none⟩ = some (.int .u8 ((byt b k).toNat : Int)) := by
  rcases h.2.2.2.2 with rfl | ⟨g, o, h1, h2, _, h4⟩
  · simp at hk
  · exact ⟨g, o, h1, h2, h4 k hk⟩
/-- how a reading function ends -/
def pcEnd {α : Type} (r : Pc α) (rb : Nat) (w w' : World) (a : Option Addr) (c : Nat) (b : List UInt8) (val : α → Value) (e : Ending) : Prop :=
  Besides rb w w' ∧ match r with
    | .ok x j => e = .returned (val x) ∧ RR rb w' a c b j
    | .bad p er => e = pnc p er
theorem pcEnd.ok {α : Type} {r : Pc α} {rb : Nat} {w w' : World} {a : Option Addr} {c : Nat} {b : List UInt8} {val : α → Value} {x : α} {j : Nat} (h : r = .ok x j) (h1 : Besides rb w w') (h2 : RR rb w' a c b j) : pcEnd r rb w w' a c b val (.returned (val x)) := by
  subst h; exact ⟨h1, rfl, h2⟩
theorem pcEnd.bad {α : Type} {r : Pc α} {rb : Nat} {w w' : World} {a : Option Addr} {c : Nat} {b : List UInt8} {val : α → Value} {p : Nat} {er : Int} (h : r = .bad p er) (h1 : Besides rb w w') : pcEnd r rb w w' a c b val (pnc p er) := by
  subst h; exact ⟨h1, rfl⟩
theorem pcEnd.cases {α : Type} {r : Pc α} {rb : Nat} {w w' : World} {a : Option Addr} {c : Nat} {b : List UInt8} {val : α → Value} {e : Ending} (h : pcEnd r rb w w' a c b val e) :
    Besides rb w w' ∧ ((∃ x j, r = .ok x j ∧ e = .returned (val x) ∧ RR rb w' a c b j) ∨ ∃ p er, r = .bad p er ∧ e = pnc p er) := by
  refine ⟨h.1, ?_⟩
  have h2 := h.2
  cases r with
  | ok x j => exact .inl ⟨x, j, rfl, h2⟩
  | bad p er => exact .inr ⟨p, er, rfl, h2⟩
theorem digs_ok {b : List UInt8} {en : UInt8} {i j : Nat} {d : List UInt8} (h : digs b en i = .ok d j) : d = cut b i (i + run b i) ∧ j = i + run b i + 1 ∧ 0 < run b i ∧ i + run b i < b.length ∧ byt b (i + run b i) = en := by
  unfold digs at h
  split at h
  · cases h
  · split at h
    · cases h
    · rename_i h1 h2
      cases h
      refine ⟨rfl, rfl, ?_, by omega, ?_⟩
      · rcases Nat.eq_zero_or_pos (run b i) with h0 | h0
        · exact absurd (.inl h0) h2
        · exact h0
      · by_cases e : byt b (i + run b i) = en
        · exact e
        · exact absurd (.inr e) h2
theorem digs_len {b : List UInt8} {en : UInt8} {i j : Nat} {d : List UInt8} (h : digs b en i = .ok d j) : d.length = run b i ∧ ∀ k, k < d.length → dig (byt d k) = true := by
  obtain ⟨rfl, _, h1, h2, _⟩ := digs_ok h
  have hl : (cut b i (i + run b i)).length = run b i := by rw [cut_length (by omega)]; omega
  refine ⟨hl, fun k hk => ?_⟩
  rw [byt_cut (by omega)]
  exact (run_lt (by omega)).2
theorem dig_iff (c : UInt8) : dig c = true ↔ 48 ≤ c.toNat ∧ c.toNat ≤ 57 := by
  unfold dig
  simp [UInt8.le_iff_toNat_le]
theorem atoi_nonneg {d : List UInt8} {v : Int} (hd : dig (byt d 0) = true) (h : Lib.atoiAll d = .ok v) : 0 ≤ v := by
  cases d with
  | nil => cases h
  | cons x l =>
    have hx : dig x = true := hd
    rw [dig_iff] at hx
    unfold Lib.atoiAll at h
    dsimp only at h
    rw [if_neg (by omega)] at h
    split at h
    · cases h
    · cases h
    · rename_i u _
      have h45 : ¬ x.toNat = 45 := by omega
      simp only [h45, not_false_eq_true, true_and, false_and, if_false] at h
      split at h
      · cases h
      · cases h; omega
end Go.Proofs.YtdlnnnlmlaploaaDoor
namespace Go.Proofs.YtdlnnnlmlaploaaDoor
open Go.RowKit Go.Deep
/-- a row of entries so far -/
def EInv (g : Nat) (w : World) (ky : Nat → ByteArray) (l : Nat → T) (ln j : Nat) (cs : Array Value) : Prop := blk w g 125 cs ∧ cs.size = ln * 2 ∧ ∀ i, i < j → ∃ u, cs[i * 2]? = some (.string (ky i)) ∧ cs[i * 2 + 1]? = some u ∧ RN (fun b => g < b) w (l i) u
theorem cell_set_ne {w : World} {p q : Addr} {u v : Value} (h : w.cell? p = some v) (hne : p.block ≠ q.block) : (w.setCell q u).cell? p = some v :=
  (World.cell?_of_block (w := w) (Below.heap_setCell w q u p.block hne)).trans h
theorem EInv.step {g : Nat} {w wr w2 : World} {ky : Nat → ByteArray} {l : Nat → T} {ln j : Nat} {cs : Array Value} {ty : TypeId} {uu : Value} {B : Nat} (hj : j < ln) (hbw : Below g w wr) (he : EInv g wr ky l ln j cs) (hb3 : Below wr.heap.size wr w2) (hrn : RN (fun b => B ≤ b) w2 (l j) (.iface ty uu)) (hB : g < B) :
    Below g w ((w2.setCell ⟨g, j * 2, none⟩ (.string (ky j))).setCell ⟨g, j * 2 + 1, none⟩ (.iface ty uu)) ∧
    EInv g ((w2.setCell ⟨g, j * 2, none⟩ (.string (ky j))).setCell ⟨g, j * 2 + 1, none⟩ (.iface ty uu)) ky l ln (j + 1) ((cs.setIfInBounds (j * 2) (.string (ky j))).setIfInBounds (j * 2 + 1) (.iface ty uu)) := by
  obtain ⟨hblk, hsz, hel⟩ := he
  have hglt := hblk.lt
  have hblk2 := hblk.keep (hb3.block _ hglt)
  have hsize : ((w2.setCell ⟨g, j * 2, none⟩ (.string (ky j))).setCell ⟨g, j * 2 + 1, none⟩ (.iface ty uu)).heap.size = w2.heap.size := by simp [World.setCell]
  have hne : ∀ b, b ≠ g → ((w2.setCell ⟨g, j * 2, none⟩ (.string (ky j))).setCell ⟨g, j * 2 + 1, none⟩ (.iface ty uu)).heap[b]? = w2.heap[b]? := fun b hb => by
    rw [Below.heap_setCell _ _ _ _ hb, Below.heap_setCell _ _ _ _ hb]
  refine ⟨((hbw.trans (hb3.mono (by omega))).setCell (Nat.le_refl _) _).setCell (Nat.le_refl _) _, (hblk2.set (j * 2) _).set (j * 2 + 1) _, by simp [hsz], fun i hi => ?_⟩
  rcases Nat.lt_succ_iff_lt_or_eq.1 hi with h | rfl
  · obtain ⟨u, q0, q1, q2⟩ := hel i h
    refine ⟨u, ?_, ?_, RN.move (fun b hb _ => hb) (by rw [hsize]; exact hb3.size) (fun b hb hl => ?_) _ _ q2⟩
    · rw [Array.getElem?_setIfInBounds_ne (by omega), Array.getElem?_setIfInBounds_ne (by omega)]; exact q0
    · rw [Array.getElem?_setIfInBounds_ne (by omega), Array.getElem?_setIfInBounds_ne (by omega)]; exact q1
    · rw [hne b (by omega), hb3.block b hl]
  · refine ⟨_, ?_, Array.getElem?_setIfInBounds_self_of_lt (by simp; omega), RN.move (fun b hb _ => by omega) (by rw [hsize]; exact Nat.le_refl _) (fun b hb hl => hne b (by omega)) _ _ hrn⟩
    rw [Array.getElem?_setIfInBounds_ne (by omega)]
    exact Array.getElem?_setIfInBounds_self_of_lt (by omega)
set_option maxHeartbeats 4000000 in
theorem dictOf24 (ln : Nat) (ky : Nat → ByteArray) (l : Nat → T) (x : Value) (w : World) (ih : ∀ i, NC (l i)) (hs : ln ≤ 2147483647) (ok4 : ∀ i, i < ln → (l i).ok ∧ (l i).small ∧ VT (l i)) (hL : RD (fun _ => True) w ln ky l x) :
    Calls Tryd.prog 63 #[x] w fun e w' => ∃ c, e = .returned (.slice (some ⟨w.heap.size, 0, none⟩) ln c) ∧ (∀ i, i < ln → ∃ u, w'.cell? ⟨w.heap.size, i * 2, none⟩ = some (.string (ky i)) ∧ w'.cell? ⟨w.heap.size, i * 2 + 1, none⟩ = some u ∧ RN (fun b => w.heap.size ≤ b) w' (l i) u) ∧ w.heap.size < w'.heap.size ∧ Below w.heap.size w w' ∧ NB5 w.heap.size w' ∧ c = ln ∧ ∃ cs, blk w' w.heap.size 125 cs ∧ cs.size = ln * 2 := by
  obtain ⟨a, ca, rfl, hL⟩ := hL
  obtain ⟨i0, hi, hz0, hz1, hz2⟩ := info_parts info57
  have hmk : ∀ u : World, (Instr.makeSlice 105 (.int .i64 (ln : Int)) (.int .i64 (ln : Int))).run Tryd.prog u =
      .ok (.slice (some ⟨u.heap.size, 0, none⟩) ln ln) (u.alloc (.cells (madeCells #[.string ByteArray.empty, .nilIface] (ln * 2)) 125)) := fun u => by
    have h := run_make (P := Tryd.prog) u 105 125 i0 (.agg #[.string ByteArray.empty, .nilIface]) Tryd.underlying105 hi hz0 .i64 .i64 ln ln (by omega) (by omega) (by rw [hz2]; omega) (by omega)
    simpa [hz1, Value.cells] using h
  have HI : Hid ((∀ i, NC (l i)) ∧ (∀ i, i < ln → (l i).ok ∧ (l i).small ∧ VT (l i)) ∧ (ln = 0 ∨ ∃ b o, a = some ⟨b, o, none⟩ ∧ True ∧ b < w.heap.size ∧ ∀ i, i < ln → ∃ x' y', RV (fun _ => True) w (l i) x' y' ∧ w.cell? ⟨b, o + i * 6, none⟩ = some (.string (ky i)) ∧ five w b (o + i * 6 + 1) (l i) x' y')) := ⟨ih, ok4, hL⟩
  clear ih ok4 hL hi hz0 hz1 hz2
  go_enter Tryd.func63, Tryd.ntmps63
  go_wp2
  clear hmk
  have HB0 : Hid (Below w.heap.size w (w.alloc (.cells (madeCells #[.string ByteArray.empty, .nilIface] (ln * 2)) 125)) ∧ EInv w.heap.size (w.alloc (.cells (madeCells #[.string ByteArray.empty, .nilIface] (ln * 2)) 125)) ky l ln 0 (madeCells #[.string ByteArray.empty, .nilIface] (ln * 2)) ∧ NB5 w.heap.size (w.alloc (.cells (madeCells #[.string ByteArray.empty, .nilIface] (ln * 2)) 125))) :=
    ⟨(Below.refl _ _).alloc (Nat.le_refl _) _, ⟨heap_new _ _, by rw [size_madeCells], fun i hi => absurd hi (Nat.not_lt_zero _)⟩, (NB5.self w).alloc _ (fun c fz h => by cases h)⟩
  generalize w.alloc (.cells (madeCells #[.string ByteArray.empty, .nilIface] (ln * 2)) 125) = w0 at *
  generalize hg : w.heap.size = g at *
  have HG : Hid (w.heap.size = g) := hg
  clear hg
  go_loopw [11] (fun i wr => ∃ (j : Nat) (cs : Array Value), j ≤ ln ∧ i = .int .i64 j ∧ Hid (Below g w wr ∧ EInv g wr ky l ln j cs ∧ NB5 g wr)) (fun i _ => ln - (intOf i).toNat)
  case atStart => exact ⟨0, _, Nat.zero_le _, rfl, HB0⟩
  case round =>
    obtain ⟨j, cs, hj, rfl, hinv⟩ := hrel
    by_cases hlt : j < ln
    · obtain ⟨il, ok4, hL⟩ := HI.out
      rcases hL with h | ⟨b, o, rfl, _, hbl, hL⟩
      · omega
      obtain ⟨x1, y1, hv, g0, g1, g2, g3, g4, g5⟩ := hL j hlt
      have hw := hinv.out.1
      have hle : w.heap.size ≤ g := Nat.le_of_eq HG.out
      replace g0 := Below.cellS hw hle g0
      replace g1 := Below.cellS hw hle g1
      replace g2 := Below.cellS hw hle g2
      replace g3 := Below.cellS hw hle g3
      replace g4 := Below.cellS hw hle g4
      replace g5 := Below.cellS hw hle g5
      obtain ⟨⟨xa, xn, xc, rfl⟩, ⟨ya, yn, yc, rfl⟩⟩ := hv.slices
      have HA : Hid (Below wr.heap.size wr (wr.alloc (Obj.cells #[.string (ky j), .int .i64 (l j).k, .int .i64 (l j).n, .string (l j).s, .slice xa xn xc, .slice ya yn yc] 84))) := (Below.refl _ _).alloc (Nat.le_refl _) _
      have hX : blk (wr.alloc (Obj.cells #[.string (ky j), .int .i64 (l j).k, .int .i64 (l j).n, .string (l j).s, .slice xa xn xc, .slice ya yn yc] 84)) wr.heap.size 84 #[.string (ky j), .int .i64 (l j).k, .int .i64 (l j).n, .string (l j).s, .slice xa xn xc, .slice ya yn yc] := heap_new _ _
      have HV : Hid (NC (l j) ∧ (l j).ok ∧ (l j).small ∧ VT (l j) ∧ RV (fun _ => True) wr (l j) (.slice xa xn xc) (.slice ya yn yc)) := ⟨il j, (ok4 j hlt).1, (ok4 j hlt).2.1, (ok4 j hlt).2.2, Below.rv hw hle hv⟩
      have HN5 : Hid (NB5 g (wr.alloc (Obj.cells #[.string (ky j), .int .i64 (l j).k, .int .i64 (l j).n, .string (l j).s, .slice xa xn xc, .slice ya yn yc] 84))) := hinv.out.2.2.alloc _ (fun c fz h => by cases h)
      clear il ok4 hL hv hbl hw hle
      go_wp2
      have hxg : wr.heap.size ≠ g := by have := hinv.out.2.1.1.lt; omega
      generalize hxb : wr.heap.size = xb at *
      have HX : Hid (wr.heap.size = xb) := hxb
      clear hxb
      generalize (wr.alloc (Obj.cells #[.string (ky j), .int .i64 (l j).k, .int .i64 (l j).n, .string (l j).s, .slice xa xn xc, .slice ya yn yc] 84)) = w3 at *
      have k0 : w3.cell? ⟨xb, 0, none⟩ = some (.string (ky j)) := hX.cell 0
      have k1 : w3.cell? ⟨xb, 1, none⟩ = some (.int .i64 (l j).k) := hX.cell 1
      have k2 : w3.cell? ⟨xb, 2, none⟩ = some (.int .i64 (l j).n) := hX.cell 2
      have k3 : w3.cell? ⟨xb, 3, none⟩ = some (.string (l j).s) := hX.cell 3
      have k4 : w3.cell? ⟨xb, 4, none⟩ = some (.slice xa xn xc) := hX.cell 4
      have k5 : w3.cell? ⟨xb, 5, none⟩ = some (.slice ya yn yc) := hX.cell 5
      have j0 : (0 : Int) ≤ (j : Int) := by omega
      have j1 : (j : Int) < (ln : Int) := by omega
      have HC : Hid (∀ w', w'.heap = w3.heap → w'.os = w3.os → w'.tape = w3.tape → w'.output = w3.output → Calls Tryd.prog 53 #[vv (l j) (.slice xa xn xc) (.slice ya yn yc)] w' fun e w'' => ∃ ty uu, e = .returned (.iface ty uu) ∧ (∃ z, w''.cell? ⟨g, j * 2, none⟩ = some z) ∧ (∃ z, w''.cell? ⟨g, j * 2 + 1, none⟩ = some z) ∧ w''.frozen? ⟨g, j * 2, none⟩ = false ∧ w''.frozen? ⟨g, j * 2 + 1, none⟩ = false ∧ Hid (Below w3.heap.size w3 w'') ∧
          Hid (∃ cs', Below g w ((w''.setCell ⟨g, j * 2, none⟩ (.string (ky j))).setCell ⟨g, j * 2 + 1, none⟩ (.iface ty uu)) ∧ EInv g ((w''.setCell ⟨g, j * 2, none⟩ (.string (ky j))).setCell ⟨g, j * 2 + 1, none⟩ (.iface ty uu)) ky l ln (j + 1) cs' ∧ NB5 g ((w''.setCell ⟨g, j * 2, none⟩ (.string (ky j))).setCell ⟨g, j * 2 + 1, none⟩ (.iface ty uu)))) := by
        intro w' hh h1 h2 h3
        have hbw : Below w3.heap.size w3 w' := ⟨h1, h2, h3, by rw [hh]; exact Nat.le_refl _, fun q _ => by rw [hh]⟩
        have hA3 : Below xb wr w' := HA.out.trans (hbw.mono (HX.out ▸ HA.out.size))
        refine (HV.out.1 _ _ w' HV.out.2.1 HV.out.2.2.1 HV.out.2.2.2.1 (Below.rv hA3 (Nat.le_of_eq HX.out) HV.out.2.2.2.2)).mono ?_
        rintro e w2 ⟨u, rfl, hrn, hb2, hn2⟩
        obtain ⟨ty, uu, rfl⟩ := hrn.iface
        have hnw : NB5 g w' := fun b hb c fz hc => by rw [hh] at hc; exact HN5.out b hb c fz hc
        have hn3 := hnw.next hb2 hn2
        obtain ⟨hbg, hE, _⟩ := hinv.out
        have hsz := hE.2.1
        have hglt := hE.1.lt
        have hb3 : Below wr.heap.size wr w2 := (HX.out ▸ hA3).trans (hb2.mono (HX.out ▸ hA3.size))
        have hblk2 := hE.1.keep (hb3.block _ hglt)
        refine ⟨ty, uu, rfl, ⟨cs[j * 2], by rw [hblk2.cell]; exact Array.getElem?_eq_getElem (by omega)⟩, ⟨cs[j * 2 + 1], by rw [hblk2.cell]; exact Array.getElem?_eq_getElem (by omega)⟩, hblk2.frozen _, hblk2.frozen _, hbw.trans (hb2.mono hbw.size), _, (EInv.step hlt hbg hE hb3 hrn (by have := hA3.size; have := HX.out; omega)).1, (EInv.step hlt hbg hE hb3 hrn (by have := hA3.size; have := HX.out; omega)).2, (hn3.set hblk2 (by decide)).set (hblk2.set _ _) (by decide)⟩
      clear HV HA HN5 hinv hX g0 g1 g2 g3 g4 g5
      go_region_held3 (fun w' => w'.cell? ⟨xb, 0, none⟩ = some (.string (ky j)) ∧ w'.cell? ⟨xb, 1, none⟩ = some (.int .i64 (l j).k) ∧ w'.cell? ⟨xb, 2, none⟩ = some (.int .i64 (l j).n) ∧ w'.cell? ⟨xb, 3, none⟩ = some (.string (l j).s) ∧ w'.cell? ⟨xb, 4, none⟩ = some (.slice xa xn xc) ∧ w'.cell? ⟨xb, 5, none⟩ = some (.slice ya yn yc))
        (first | (exact ⟨k0, k1, k2, k3, k4, k5⟩) | (exact ⟨Below.cellS hq.out (Nat.le_refl _) k0, Below.cellS hq.out (Nat.le_refl _) k1, Below.cellS hq.out (Nat.le_refl _) k2, Below.cellS hq.out (Nat.le_refl _) k3, Below.cellS hq.out (Nat.le_refl _) k4, Below.cellS hq.out (Nat.le_refl _) k5⟩) | (exact ⟨cell_set_ne (cell_set_ne (Below.cellS hq.out (Nat.le_refl _) k0) hxg) hxg, cell_set_ne (cell_set_ne (Below.cellS hq.out (Nat.le_refl _) k1) hxg) hxg, cell_set_ne (cell_set_ne (Below.cellS hq.out (Nat.le_refl _) k2) hxg) hxg, cell_set_ne (cell_set_ne (Below.cellS hq.out (Nat.le_refl _) k3) hxg) hxg, cell_set_ne (cell_set_ne (Below.cellS hq.out (Nat.le_refl _) k4) hxg) hxg, cell_set_ne (cell_set_ne (Below.cellS hq.out (Nat.le_refl _) k5) hxg) hxg⟩))
        (first | (go_at_call 53; refine (HC.out w3.drew rfl rfl rfl rfl).mono ?_; rintro e wq ⟨ty, uu, rfl, ⟨z0, cj0⟩, ⟨z1, cj1⟩, fj0, fj1, hq, HN⟩))
      clear k0 k1 k2 k3 k4 k5 HC cj0 cj1 fj0 fj1 hq
      go_wp2
      go_roundw
      case rel => exact ⟨j + 1, _, by omega, by go_num, HN.out.choose_spec⟩
      case measure => simp [intOf]; omega
    · obtain rfl : j = ln := by omega
      go_wp2
      go_ret
      obtain ⟨hbw, ⟨hblk, hsz, hel⟩, hnb⟩ := hinv.out
      refine ⟨j, by rw [HG.out]; rfl, fun i hi => ?_, HG.out ▸ hblk.lt, HG.out ▸ hbw, HG.out ▸ hnb, rfl, cs, HG.out ▸ hblk, hsz⟩
      obtain ⟨u, q0, q1, q2⟩ := hel i hi
      exact ⟨u, by rw [HG.out, hblk.cell]; exact q0, by rw [HG.out, hblk.cell]; exact q1, RN.move (fun b hb _ => by have := HG.out; omega) (Nat.le_refl _) (fun _ _ _ => rfl) _ _ q2⟩
set_option maxHeartbeats 1000000 in
theorem nodeOf27 (t : T) : NC t := by
  induction t with
  | no => intro x y w _ _ _ h; exact h.elim
  | mk k n s ln l dn ky dv il id =>
    intro x y w hok hsm hvt hr
    obtain ⟨ok1, ok2, ok3, ok4, ok5⟩ := hok
    obtain ⟨sm1, sm2, sm3, sm4⟩ := hsm
    obtain ⟨hown, v1, v2⟩ := hvt
    obtain ⟨hL, hD⟩ := hr
    obtain ⟨k1, k4, _⟩ := (ownB_iff _ _ _ _ _).1 hown
    show Calls Tryd.prog 53 #[.agg #[.int .i64 k, .int .i64 n, .string s, x, y]] w _
    have HB : Hid (Below w.heap.size w (w.alloc (Obj.cells #[.int .i64 k, .int .i64 n, .string s, x, y] 60))) := (Below.refl _ _).alloc (Nat.le_refl _) _
    have HN0 : Hid (NB5 w.heap.size (w.alloc (Obj.cells #[.int .i64 k, .int .i64 n, .string s, x, y] 60))) := (NB5.self w).alloc _ (fun c fz h => by cases h)
    have HL : Hid (RL (fun _ => True) (w.alloc (Obj.cells #[.int .i64 k, .int .i64 n, .string s, x, y] 60)) ln l x) := RL.keep (fun _ h => h) HB.out.size (fun b _ hl => HB.out.block b hl) hL
    have HD : Hid (RD (fun _ => True) (w.alloc (Obj.cells #[.int .i64 k, .int .i64 n, .string s, x, y] 60)) dn ky dv y) := RD.keep (fun _ h => h) HB.out.size (fun b _ hl => HB.out.block b hl) hD
    have HO : Hid ((∀ i, NC (l i)) ∧ (∀ i, NC (dv i)) ∧ (∀ i, i < ln → (l i).ok ∧ (l i).small ∧ VT (l i)) ∧ (∀ i, i < dn → (dv i).ok ∧ (dv i).small ∧ VT (dv i))) := ⟨il, id, fun i hi => ⟨ok4 i hi, sm3 i hi, v1 i hi⟩, fun i hi => ⟨(ok5 i hi).2, sm4 i hi, (v2 i hi).2⟩⟩
    clear il id ok4 ok5 sm3 sm4 v1 v2 hL hD hown
    have hk : k = 1 ∨ k = 2 ∨ k = 3 ∨ k = 4 := by omega
    clear k1 k4
    rcases hk with rfl | rfl | rfl | rfl
    · go_enter Tryd.func53, Tryd.ntmps53
      go_wp2
      go_ret
      exact ⟨_, rfl, .inl ⟨rfl, rfl⟩, HB.out, HN0.out⟩
    · go_enter Tryd.func53, Tryd.ntmps53
      go_wp2
      go_ret
      exact ⟨_, rfl, .inr (.inl ⟨rfl, rfl⟩), HB.out, HN0.out⟩
    · go_enter Tryd.func53, Tryd.ntmps53
      go_wp2_with fail
      refine (listOf39 ln l x _ HO.out.1 sm1 HO.out.2.2.1 HL.out).mono ?_
      rintro e w1 ⟨c, rfl, h1, h2, h3, h4⟩
      have HH : Hid (RN (fun b => w.heap.size ≤ b) w1 (.mk 3 n s ln l dn ky dv) (.iface 102 (.slice (some ⟨w.heap.size + 1, 0, none⟩) ln c)) ∧ Below w.heap.size w w1 ∧ NB5 w.heap.size w1) := by
        have hn4 := HN0.out.next h3 h4
        have hsz : (w.alloc (Obj.cells #[.int .i64 3, .int .i64 n, .string s, x, y] 60)).heap.size = w.heap.size + 1 := by simp
        rw [hsz] at h1 h2 h3
        refine ⟨.inr (.inr (.inl ⟨rfl, _, _, rfl, by omega, h2, fun i hi => ?_⟩)), HB.out.trans (h3.mono (by omega)), hn4⟩
        obtain ⟨u, q1, q2⟩ := h1 i hi
        exact ⟨u, q1, RN.move (fun b hb _ => by omega) (Nat.le_refl _) (fun _ _ _ => rfl) _ _ q2⟩
      clear h1 h2 h3 h4 HL HD HO HB HN0
      go_wp2
      go_ret
      exact ⟨_, by simp, HH.out⟩
    · go_enter Tryd.func53, Tryd.ntmps53
      go_wp2_with fail
      refine (dictOf24 dn ky dv y _ HO.out.2.1 sm2 HO.out.2.2.2 HD.out).mono ?_
      rintro e w1 ⟨c, rfl, h1, h2, h3, h4, hcc, hcs⟩
      clear hcc hcs
      have HH : Hid (RN (fun b => w.heap.size ≤ b) w1 (.mk 4 n s ln l dn ky dv) (.iface 105 (.slice (some ⟨w.heap.size + 1, 0, none⟩) dn c)) ∧ Below w.heap.size w w1 ∧ NB5 w.heap.size w1) := by
        have hn4 := HN0.out.next h3 h4
        have hsz : (w.alloc (Obj.cells #[.int .i64 4, .int .i64 n, .string s, x, y] 60)).heap.size = w.heap.size + 1 := by simp
        rw [hsz] at h1 h2 h3
        refine ⟨.inr (.inr (.inr ⟨rfl, _, _, rfl, by omega, h2, fun i hi => ?_⟩)), HB.out.trans (h3.mono (by omega)), hn4⟩
        obtain ⟨u, q0, q1, q2⟩ := h1 i hi
        exact ⟨u, q0, q1, RN.move (fun b hb _ => by omega) (Nat.le_refl _) (fun _ _ _ => rfl) _ _ q2⟩
      clear h1 h2 h3 h4 HL HD HO HB HN0
      go_wp2
      go_ret
      exact ⟨_, by simp, HH.out⟩
end Go.Proofs.YtdlnnnlmlaploaaDoor
namespace Go.Proofs.YtdlnnnlmlaploaaDoor
open Go.RowKit Go.Deep
theorem empty_of {s : ByteArray} (h : s.toList = []) : s = { data := #[] } := by
  rw [ByteArray.toList_eq] at h
  obtain ⟨d⟩ := s
  have : d = #[] := by simpa using h
  rw [this]
def PC (t : T) : Prop := ∀ (u : Value) (S : Nat → Prop) (w : World), t.small → VT t → RN S w t u →
  Calls Tryd.prog 72 #[u] w fun e w' => ∃ x' y', e = .returned (vv t x' y') ∧ RV (fun b => w.heap.size ≤ b) w' t x' y' ∧ Below w.heap.size w w'
/-- the two blocks of plain -/
def PB (H : Nat) (w wr : World) (c0 c1 c2 c3 c4 : Value) : Prop := Below H w wr ∧ obj wr H (.int .i64 0) (.int .i64 0) (.string { data := #[] }) (.slice .none 0 0) (.slice .none 0 0) ∧ obj wr (H + 1) c0 c1 c2 c3 c4
theorem set5_get (cs : Array Value) (o : Nat) (c0 c1 c2 c3 c4 : Value) (h : o + 4 < cs.size) :
    let cs' := ((((cs.setIfInBounds o c0).setIfInBounds (o + 1) c1).setIfInBounds (o + 2) c2).setIfInBounds (o + 3) c3).setIfInBounds (o + 4) c4
    cs'.size = cs.size ∧ (∀ r, r < 5 → cs'[o + r]? = [c0, c1, c2, c3, c4][r]?) ∧ ∀ q, q < o → cs'[q]? = cs[q]? := by
  intro cs'
  refine ⟨by simp [cs'], fun r hr => ?_, fun q hq => ?_⟩
  · match r, hr with
    | 0, _ => simp [cs', Array.getElem?_setIfInBounds]; omega
    | 1, _ => simp [cs', Array.getElem?_setIfInBounds]; omega
    | 2, _ => simp [cs', Array.getElem?_setIfInBounds]; omega
    | 3, _ => simp [cs', Array.getElem?_setIfInBounds]; omega
    | 4, _ => simp [cs', Array.getElem?_setIfInBounds]; omega
  · simp only [cs', Array.getElem?_setIfInBounds]
    rw [if_neg (by omega), if_neg (by omega), if_neg (by omega), if_neg (by omega), if_neg (by omega)]
theorem set6_get (cs : Array Value) (o : Nat) (c0 c1 c2 c3 c4 c5 : Value) (h : o + 5 < cs.size) :
    let cs' := (((((cs.setIfInBounds o c0).setIfInBounds (o + 1) c1).setIfInBounds (o + 2) c2).setIfInBounds (o + 3) c3).setIfInBounds (o + 4) c4).setIfInBounds (o + 5) c5
    cs'.size = cs.size ∧ (∀ r, r < 6 → cs'[o + r]? = [c0, c1, c2, c3, c4, c5][r]?) ∧ ∀ q, q < o → cs'[q]? = cs[q]? := by
  intro cs'
  refine ⟨by simp [cs'], fun r hr => ?_, fun q hq => ?_⟩
  · match r, hr with
    | 0, _ => simp [cs', Array.getElem?_setIfInBounds]; omega
    | 1, _ => simp [cs', Array.getElem?_setIfInBounds]; omega
    | 2, _ => simp [cs', Array.getElem?_setIfInBounds]; omega
    | 3, _ => simp [cs', Array.getElem?_setIfInBounds]; omega
    | 4, _ => simp [cs', Array.getElem?_setIfInBounds]; omega
    | 5, _ => simp [cs', Array.getElem?_setIfInBounds]; omega
  · simp only [cs', Array.getElem?_setIfInBounds]
    rw [if_neg (by omega), if_neg (by omega), if_neg (by omega), if_neg (by omega), if_neg (by omega), if_neg (by omega)]
theorem as68_68 (v : Value) (w : World) : (Instr.typeAssert (.iface 99 v) 89 99 true).run Tryd.prog w = .ok (.tuple #[v, .bool true]) w := by kernel_rfl
theorem as53_68 (v : Value) (w : World) : (Instr.typeAssert (.iface 100 v) 89 99 true).run Tryd.prog w = .ok (.tuple #[.int .i64 0, .bool false]) w := by kernel_rfl
theorem as53_53 (v : Value) (w : World) : (Instr.typeAssert (.iface 100 v) 89 100 true).run Tryd.prog w = .ok (.tuple #[v, .bool true]) w := by kernel_rfl
theorem as70_68 (v : Value) (w : World) : (Instr.typeAssert (.iface 102 v) 89 99 true).run Tryd.prog w = .ok (.tuple #[.int .i64 0, .bool false]) w := by kernel_rfl
theorem as70_53 (v : Value) (w : World) : (Instr.typeAssert (.iface 102 v) 89 100 true).run Tryd.prog w = .ok (.tuple #[.string ByteArray.empty, .bool false]) w := by kernel_rfl
theorem as70_70 (v : Value) (w : World) : (Instr.typeAssert (.iface 102 v) 89 102 true).run Tryd.prog w = .ok (.tuple #[v, .bool true]) w := by kernel_rfl
theorem as48_68 (v : Value) (w : World) : (Instr.typeAssert (.iface 105 v) 89 99 true).run Tryd.prog w = .ok (.tuple #[.int .i64 0, .bool false]) w := by kernel_rfl
theorem as48_53 (v : Value) (w : World) : (Instr.typeAssert (.iface 105 v) 89 100 true).run Tryd.prog w = .ok (.tuple #[.string ByteArray.empty, .bool false]) w := by kernel_rfl
theorem as48_70 (v : Value) (w : World) : (Instr.typeAssert (.iface 105 v) 89 102 true).run Tryd.prog w = .ok (.tuple #[.slice none 0 0, .bool false]) w := by kernel_rfl
theorem as48_48 (v : Value) (w : World) : (Instr.typeAssert (.iface 105 v) 89 105 true).run Tryd.prog w = .ok (.tuple #[v, .bool true]) w := by kernel_rfl
/-- five cells stored -/
def set5 (w : World) (g o : Nat) (c0 c1 c2 c3 c4 : Value) : World := ((((w.setCell ⟨g, o, none⟩ c0).setCell ⟨g, o + 1, none⟩ c1).setCell ⟨g, o + 2, none⟩ c2).setCell ⟨g, o + 3, none⟩ c3).setCell ⟨g, o + 4, none⟩ c4
theorem set5_besides (w : World) (g o : Nat) (c0 c1 c2 c3 c4 : Value) : Besides g w (set5 w g o c0 c1 c2 c3 c4) :=
  ((((Besides.setCell w ⟨g, o, none⟩ c0).trans (Besides.setCell _ ⟨g, o + 1, none⟩ c1)).trans (Besides.setCell _ ⟨g, o + 2, none⟩ c2)).trans (Besides.setCell _ ⟨g, o + 3, none⟩ c3)).trans (Besides.setCell _ ⟨g, o + 4, none⟩ c4)
theorem set5_block (w : World) (g o : Nat) (c0 c1 c2 c3 c4 : Value) (b : Nat) (hb : b ≠ g) : (set5 w g o c0 c1 c2 c3 c4).heap[b]? = w.heap[b]? := by
  unfold set5
  rw [Below.heap_setCell _ _ _ _ hb, Below.heap_setCell _ _ _ _ hb, Below.heap_setCell _ _ _ _ hb, Below.heap_setCell _ _ _ _ hb, Below.heap_setCell _ _ _ _ hb]
theorem set5_size (w : World) (g o : Nat) (c0 c1 c2 c3 c4 : Value) : (set5 w g o c0 c1 c2 c3 c4).heap.size = w.heap.size := by simp [set5, World.setCell]
theorem set5_below {H g : Nat} {w wr : World} (h : Below H w wr) (hg : H ≤ g) (o : Nat) (c0 c1 c2 c3 c4 : Value) : Below H w (set5 wr g o c0 c1 c2 c3 c4) :=
  ((((h.setCell hg _).setCell hg _).setCell hg _).setCell hg _).setCell hg _
theorem set5_blk {w : World} {g : Nat} {ty : TypeId} {cs : Array Value} (h : blk w g ty cs) (o : Nat) (c0 c1 c2 c3 c4 : Value) : blk (set5 w g o c0 c1 c2 c3 c4) g ty (((((cs.setIfInBounds o c0).setIfInBounds (o + 1) c1).setIfInBounds (o + 2) c2).setIfInBounds (o + 3) c3).setIfInBounds (o + 4) c4) :=
  ((((h.set o _).set (o + 1) _).set (o + 2) _).set (o + 3) _).set (o + 4) _
/-- the list that plain lays, so far -/
def PL (g : Nat) (w : World) (l : Nat → T) (ln j : Nat) (cs : Array Value) : Prop := blk w g 60 cs ∧ cs.size = ln * 5 ∧ ∀ i, i < j → ∃ X Y, (∀ r, r < 5 → cs[i * 5 + r]? = (cv (l i) X Y)[r]?) ∧ RV (fun b => g < b) w (l i) X Y
theorem PL.step {g : Nat} {wr w2 : World} {l : Nat → T} {ln j : Nat} {cs : Array Value} {X Y : Value} {B : Nat} (hj : j < ln) (he : PL g wr l ln j cs) (hb3 : Below wr.heap.size wr w2) (hrv : RV (fun b => B ≤ b) w2 (l j) X Y) (hB : g < B) :
    ∃ cs', PL g (set5 w2 g (j * 5) (.int .i64 (l j).k) (.int .i64 (l j).n) (.string (l j).s) X Y) l ln (j + 1) cs' := by
  obtain ⟨hblk, hsz, hel⟩ := he
  have hblk2 := hblk.keep (hb3.block _ hblk.lt)
  obtain ⟨q1, q2, q3⟩ := set5_get cs (j * 5) (.int .i64 (l j).k) (.int .i64 (l j).n) (.string (l j).s) X Y (by omega)
  refine ⟨_, set5_blk hblk2 _ _ _ _ _ _, q1.trans hsz, fun i hi => ?_⟩
  rcases Nat.lt_succ_iff_lt_or_eq.1 hi with h | rfl
  · obtain ⟨X', Y', e1, e2⟩ := hel i h
    refine ⟨X', Y', fun r hr => by rw [q3 _ (by omega)]; exact e1 r hr, RV.move (fun b hb _ => hb) (by rw [set5_size]; exact hb3.size) (fun b hb hl => ?_) _ _ _ e2⟩
    rw [set5_block _ _ _ _ _ _ _ _ _ (by omega), hb3.block b hl]
  · exact ⟨X, Y, q2, RV.move (fun b hb _ => by omega) (by rw [set5_size]; exact Nat.le_refl _) (fun b hb hl => set5_block _ _ _ _ _ _ _ _ _ (by omega)) _ _ _ hrv⟩
theorem PL.rl {g : Nat} {w w' : World} {l : Nat → T} {ln c : Nat} {cs : Array Value} {S : Nat → Prop} (h : PL g w l ln ln cs) (hs : w.heap.size ≤ w'.heap.size) (hb : ∀ b, g ≤ b → b < w.heap.size → w'.heap[b]? = w.heap[b]?) (hS : ∀ b, g ≤ b → S b) : RL S w' ln l (.slice (some ⟨g, 0, none⟩) ln c) := by
  obtain ⟨hblk, hsz, hel⟩ := h
  have hglt := hblk.lt
  refine ⟨_, _, rfl, .inr ⟨g, 0, rfl, hS g (Nat.le_refl _), Nat.lt_of_lt_of_le hglt hs, fun i hi => ?_⟩⟩
  obtain ⟨X, Y, e1, e2⟩ := hel i hi
  refine ⟨X, Y, RV.move (fun b hb' _ => hS b (Nat.le_of_lt hb')) hs (fun b hb' hl => hb b (Nat.le_of_lt hb') hl) _ _ _ e2, ?_⟩
  have c : ∀ r, r < 5 → w'.cell? ⟨g, i * 5 + r, none⟩ = (cv (l i) X Y)[r]? := fun r hr => by
    rw [World.cell?_of_block (w := w) (a := ⟨g, i * 5 + r, none⟩) (hb g (Nat.le_refl _) hglt), hblk.cell, e1 r hr]
  have c0 := c 0 (by omega)
  have c1 := c 1 (by omega)
  have c2 := c 2 (by omega)
  have c3 := c 3 (by omega)
  have c4 := c 4 (by omega)
  simp only [cv, Nat.add_zero] at c0 c1 c2 c3 c4
  simp only [Nat.zero_add]
  exact ⟨c0, c1, c2, c3, c4⟩
/-- six cells stored -/
def set6 (w : World) (g o : Nat) (c0 c1 c2 c3 c4 c5 : Value) : World := (((((w.setCell ⟨g, o, none⟩ c0).setCell ⟨g, o + 1, none⟩ c1).setCell ⟨g, o + 2, none⟩ c2).setCell ⟨g, o + 3, none⟩ c3).setCell ⟨g, o + 4, none⟩ c4).setCell ⟨g, o + 5, none⟩ c5
theorem set6_block (w : World) (g o : Nat) (c0 c1 c2 c3 c4 c5 : Value) (b : Nat) (hb : b ≠ g) : (set6 w g o c0 c1 c2 c3 c4 c5).heap[b]? = w.heap[b]? := by
  unfold set6
  rw [Below.heap_setCell _ _ _ _ hb, Below.heap_setCell _ _ _ _ hb, Below.heap_setCell _ _ _ _ hb, Below.heap_setCell _ _ _ _ hb, Below.heap_setCell _ _ _ _ hb, Below.heap_setCell _ _ _ _ hb]
theorem set6_size (w : World) (g o : Nat) (c0 c1 c2 c3 c4 c5 : Value) : (set6 w g o c0 c1 c2 c3 c4 c5).heap.size = w.heap.size := by simp [set6, World.setCell]
theorem set6_below {H g : Nat} {w wr : World} (h : Below H w wr) (hg : H ≤ g) (o : Nat) (c0 c1 c2 c3 c4 c5 : Value) : Below H w (set6 wr g o c0 c1 c2 c3 c4 c5) :=
  (((((h.setCell hg _).setCell hg _).setCell hg _).setCell hg _).setCell hg _).setCell hg _
theorem set6_blk {w : World} {g : Nat} {ty : TypeId} {cs : Array Value} (h : blk w g ty cs) (o : Nat) (c0 c1 c2 c3 c4 c5 : Value) : blk (set6 w g o c0 c1 c2 c3 c4 c5) g ty ((((((cs.setIfInBounds o c0).setIfInBounds (o + 1) c1).setIfInBounds (o + 2) c2).setIfInBounds (o + 3) c3).setIfInBounds (o + 4) c4).setIfInBounds (o + 5) c5) :=
  (((((h.set o _).set (o + 1) _).set (o + 2) _).set (o + 3) _).set (o + 4) _).set (o + 5) _
/-- the pairs that plain lays, so far -/
def PD (g : Nat) (w : World) (ky : Nat → ByteArray) (l : Nat → T) (ln j : Nat) (cs : Array Value) : Prop := blk w g 84 cs ∧ cs.size = ln * 6 ∧ ∀ i, i < j → ∃ X Y, (∀ r, r < 6 → cs[i * 6 + r]? = (.string (ky i) :: cv (l i) X Y)[r]?) ∧ RV (fun b => g < b) w (l i) X Y
theorem PD.step {g : Nat} {wr w2 : World} {ky : Nat → ByteArray} {l : Nat → T} {ln j : Nat} {cs : Array Value} {X Y : Value} {B : Nat} (hj : j < ln) (he : PD g wr ky l ln j cs) (hb3 : Below wr.heap.size wr w2) (hrv : RV (fun b => B ≤ b) w2 (l j) X Y) (hB : g < B) :
    ∃ cs', PD g (set6 w2 g (j * 6) (.string (ky j)) (.int .i64 (l j).k) (.int .i64 (l j).n) (.string (l j).s) X Y) ky l ln (j + 1) cs' := by
  obtain ⟨hblk, hsz, hel⟩ := he
  have hblk2 := hblk.keep (hb3.block _ hblk.lt)
  obtain ⟨q1, q2, q3⟩ := set6_get cs (j * 6) (.string (ky j)) (.int .i64 (l j).k) (.int .i64 (l j).n) (.string (l j).s) X Y (by omega)
  refine ⟨_, set6_blk hblk2 _ _ _ _ _ _ _, q1.trans hsz, fun i hi => ?_⟩
  rcases Nat.lt_succ_iff_lt_or_eq.1 hi with h | rfl
  · obtain ⟨X', Y', e1, e2⟩ := hel i h
    refine ⟨X', Y', fun r hr => by rw [q3 _ (by omega)]; exact e1 r hr, RV.move (fun b hb _ => hb) (by rw [set6_size]; exact hb3.size) (fun b hb hl => ?_) _ _ _ e2⟩
    rw [set6_block _ _ _ _ _ _ _ _ _ _ (by omega), hb3.block b hl]
  · exact ⟨X, Y, q2, RV.move (fun b hb _ => by omega) (by rw [set6_size]; exact Nat.le_refl _) (fun b hb hl => set6_block _ _ _ _ _ _ _ _ _ _ (by omega)) _ _ _ hrv⟩
theorem PD.rd {g : Nat} {w w' : World} {ky : Nat → ByteArray} {l : Nat → T} {ln c : Nat} {cs : Array Value} {S : Nat → Prop} (h : PD g w ky l ln ln cs) (hs : w.heap.size ≤ w'.heap.size) (hb : ∀ b, g ≤ b → b < w.heap.size → w'.heap[b]? = w.heap[b]?) (hS : ∀ b, g ≤ b → S b) : RD S w' ln ky l (.slice (some ⟨g, 0, none⟩) ln c) := by
  obtain ⟨hblk, hsz, hel⟩ := h
  have hglt := hblk.lt
  refine ⟨_, _, rfl, .inr ⟨g, 0, rfl, hS g (Nat.le_refl _), Nat.lt_of_lt_of_le hglt hs, fun i hi => ?_⟩⟩
  obtain ⟨X, Y, e1, e2⟩ := hel i hi
  refine ⟨X, Y, RV.move (fun b hb' _ => hS b (Nat.le_of_lt hb')) hs (fun b hb' hl => hb b (Nat.le_of_lt hb') hl) _ _ _ e2, ?_⟩
  have c : ∀ r, r < 6 → w'.cell? ⟨g, i * 6 + r, none⟩ = (.string (ky i) :: cv (l i) X Y)[r]? := fun r hr => by
    rw [World.cell?_of_block (w := w) (a := ⟨g, i * 6 + r, none⟩) (hb g (Nat.le_refl _) hglt), hblk.cell, e1 r hr]
  have c0 := c 0 (by omega)
  have c1 := c 1 (by omega)
  have c2 := c 2 (by omega)
  have c3 := c 3 (by omega)
  have c4 := c 4 (by omega)
  have c5 := c 5 (by omega)
  simp only [cv, Nat.add_zero] at c0 c1 c2 c3 c4 c5
  simp only [Nat.zero_add]
  exact ⟨c0, c1, c2, c3, c4, c5⟩
set_option maxHeartbeats 6000000 in
theorem plain28 (t : T) : PC t := by
  induction t with
  | no => intro u S w _ _ h; exact h.elim
  | mk k n s ln l dn ky dv il id =>
    intro u S w hsm hvt hr
    obtain ⟨sm1, sm2, sm3, sm4⟩ := hsm
    obtain ⟨hown, v1, v2⟩ := hvt
    obtain ⟨k1, k4, o1, o2, o3, o4⟩ := (ownB_iff _ _ _ _ _).1 hown
    have HO : Hid ((∀ i, PC (l i)) ∧ (∀ i, PC (dv i)) ∧ (∀ i, i < ln → (l i).small ∧ VT (l i)) ∧ (∀ i, i < dn → (dv i).small ∧ VT (dv i))) := ⟨il, id, fun i hi => ⟨sm3 i hi, v1 i hi⟩, fun i hi => ⟨sm4 i hi, (v2 i hi).2⟩⟩
    clear il id sm3 sm4 v1 v2 hown
    rcases hr with ⟨rfl, rfl⟩ | ⟨rfl, rfl⟩ | ⟨rfl, b, c, rfl, h1, h2, h3⟩ | ⟨rfl, b, c, rfl, h1, h2, h3⟩
    · obtain rfl : ln = 0 := by omega
      obtain rfl : dn = 0 := by omega
      have hs0 : s = { data := #[] } := empty_of (o2.resolve_left (by omega))
      subst hs0
      clear o1 o2 o3 o4 k1 k4
      have ha := as68_68
      go_enter Tryd.func72, Tryd.ntmps72
      go_wp2
      exact bodyPost_ret (v := .agg #[.int .i64 1, .int .i64 n, .string { data := #[] }, .slice none 0 0, .slice none 0 0]) (results_cell_row Tryd.results72 _ _ w.heap.size 60 _ (0, 0) _ rfl ((Below.heap_alloc _ _ _ (by simp)).trans (heap_new _ _)) Tryd.underlying60 rfl info25s) rfl
        ⟨_, _, rfl, ⟨⟨_, _, rfl, .inl rfl⟩, ⟨_, _, rfl, .inl rfl⟩⟩, ((Below.refl _ _).alloc (Nat.le_refl _) _).alloc (by simp) _⟩
    · obtain rfl : n = 0 := o1.resolve_left (by omega)
      obtain rfl : ln = 0 := o3.resolve_left (by omega)
      obtain rfl : dn = 0 := o4.resolve_left (by omega)
      clear o1 o2 o3 o4 k1 k4
      have ha := as53_68
      have hb := as53_53
      go_enter Tryd.func72, Tryd.ntmps72
      go_wp2
      exact bodyPost_ret (v := .agg #[.int .i64 2, .int .i64 0, .string s, .slice none 0 0, .slice none 0 0]) (results_cell_row Tryd.results72 _ _ w.heap.size 60 _ (0, 0) _ rfl ((Below.heap_alloc _ _ _ (by simp)).trans (heap_new _ _)) Tryd.underlying60 rfl info25s) rfl
        ⟨_, _, rfl, ⟨⟨_, _, rfl, .inl rfl⟩, ⟨_, _, rfl, .inl rfl⟩⟩, ((Below.refl _ _).alloc (Nat.le_refl _) _).alloc (by simp) _⟩
    · obtain rfl : n = 0 := o1.resolve_left (by omega)
      obtain rfl : dn = 0 := o4.resolve_left (by omega)
      have hs0 : s = { data := #[] } := empty_of (o2.resolve_left (by omega))
      subst hs0
      clear o1 o2 o3 o4 k1 k4
      obtain ⟨i0, hi, hz0, hz1, hz2⟩ := info_parts info25
      have hmk : ∀ u : World, (Instr.makeSlice 57 (.int .i64 (ln : Int)) (.int .i64 (ln : Int))).run Tryd.prog u =
          .ok (.slice (some ⟨u.heap.size, 0, none⟩) ln ln) (u.alloc (.cells (madeCells #[.int .i64 0, .int .i64 0, .string ByteArray.empty, .slice none 0 0, .slice none 0 0] (ln * 5)) 60)) := fun u => by
        have h := run_make (P := Tryd.prog) u 57 60 i0 _ Tryd.underlying57 hi hz0 .i64 .i64 ln ln (by omega) (by omega) (by rw [hz2]; omega) (by omega)
        simpa [hz1, Value.cells] using h
      have HN : Hid (∀ i, i < ln → ∃ u, w.cell? ⟨b, i, none⟩ = some u ∧ RN S w (l i) u) := h3
      have HBL : Hid (b < w.heap.size) := h2
      clear h1 h2 h3 hi hz0 hz1 hz2
      have ha := as70_68
      have hb := as70_53
      have hc := as70_70
      go_enter Tryd.func72, Tryd.ntmps72
      go_wp2
      clear ha hb hc
      go_region
      go_wp2
      clear hmk
      have HB0 : Hid (PB w.heap.size w (((w.alloc (Obj.cells #[.int .i64 0, .int .i64 0, .string { data := #[] }, .slice .none 0 0, .slice .none 0 0] 60)).alloc (Obj.cells #[.int .i64 3, .int .i64 0, .string { data := #[] }, .slice (some ⟨w.heap.size + 1 + 1, 0, none⟩) ln ln, .slice .none 0 0] 60)).alloc (Obj.cells (madeCells #[.int .i64 0, .int .i64 0, .string ByteArray.empty, .slice .none 0 0, .slice .none 0 0] (ln * 5)) 60)).drew (.int .i64 3) (.int .i64 0) (.string { data := #[] }) (.slice (some ⟨w.heap.size + 1 + 1, 0, none⟩) ln ln) (.slice .none 0 0) ∧
          PL (w.heap.size + 1 + 1) (((w.alloc (Obj.cells #[.int .i64 0, .int .i64 0, .string { data := #[] }, .slice .none 0 0, .slice .none 0 0] 60)).alloc (Obj.cells #[.int .i64 3, .int .i64 0, .string { data := #[] }, .slice (some ⟨w.heap.size + 1 + 1, 0, none⟩) ln ln, .slice .none 0 0] 60)).alloc (Obj.cells (madeCells #[.int .i64 0, .int .i64 0, .string ByteArray.empty, .slice .none 0 0, .slice .none 0 0] (ln * 5)) 60)).drew l ln 0 (madeCells #[.int .i64 0, .int .i64 0, .string ByteArray.empty, .slice .none 0 0, .slice .none 0 0] (ln * 5))) := by
        refine ⟨⟨((((Below.refl _ _).alloc (Nat.le_refl _) _).alloc (by simp) _).alloc (by simp; omega) _).drew, ?_, ?_⟩, ?_, by rw [size_madeCells], fun i hi => absurd hi (Nat.not_lt_zero _)⟩
        · exact (Below.heap_alloc _ _ _ (by simp; omega)).trans ((Below.heap_alloc _ _ _ (by simp)).trans (heap_new _ _))
        · refine (Below.heap_alloc _ _ _ (by simp)).trans ?_
          have := heap_new (w.alloc (Obj.cells #[.int .i64 0, .int .i64 0, .string { data := #[] }, .slice .none 0 0, .slice .none 0 0] 60)) (Obj.cells #[.int .i64 3, .int .i64 0, .string { data := #[] }, .slice (some ⟨w.heap.size + 1 + 1, 0, none⟩) ln ln, .slice .none 0 0] 60)
          simpa using this
        · have := heap_new ((w.alloc (Obj.cells #[.int .i64 0, .int .i64 0, .string { data := #[] }, .slice .none 0 0, .slice .none 0 0] 60)).alloc (Obj.cells #[.int .i64 3, .int .i64 0, .string { data := #[] }, .slice (some ⟨w.heap.size + 1 + 1, 0, none⟩) ln ln, .slice .none 0 0] 60)) (Obj.cells (madeCells #[.int .i64 0, .int .i64 0, .string ByteArray.empty, .slice .none 0 0, .slice .none 0 0] (ln * 5)) 60)
          have e : ((w.alloc (Obj.cells #[.int .i64 0, .int .i64 0, .string { data := #[] }, .slice .none 0 0, .slice .none 0 0] 60)).alloc (Obj.cells #[.int .i64 3, .int .i64 0, .string { data := #[] }, .slice (some ⟨w.heap.size + 1 + 1, 0, none⟩) ln ln, .slice .none 0 0] 60)).heap.size = w.heap.size + 1 + 1 := by simp
          rw [e] at this
          exact this
      generalize (((w.alloc (Obj.cells #[.int .i64 0, .int .i64 0, .string { data := #[] }, .slice .none 0 0, .slice .none 0 0] 60)).alloc (Obj.cells #[.int .i64 3, .int .i64 0, .string { data := #[] }, .slice (some ⟨w.heap.size + 1 + 1, 0, none⟩) ln ln, .slice .none 0 0] 60)).alloc (Obj.cells (madeCells #[.int .i64 0, .int .i64 0, .string ByteArray.empty, .slice .none 0 0, .slice .none 0 0] (ln * 5)) 60)).drew = w0 at *
      generalize hg : w.heap.size = H at *
      have HG : Hid (w.heap.size = H) := hg
      clear hg
      go_loopw [36] (fun i wr => ∃ (j : Nat) (cs : Array Value), j ≤ ln ∧ i = .int .i64 j ∧ Hid (PB H w wr (.int .i64 3) (.int .i64 0) (.string { data := #[] }) (.slice (some ⟨H + 1 + 1, 0, none⟩) ln ln) (.slice .none 0 0) ∧ PL (H + 1 + 1) wr l ln j cs)) (fun i _ => ln - (intOf i).toNat)
      case atStart => exact ⟨0, _, Nat.zero_le _, rfl, HB0⟩
      case round =>
        clear HB0
        obtain ⟨j, cs, hj, rfl, hinv⟩ := hrel
        by_cases hlt : j < ln
        · obtain ⟨u, hu, hrn⟩ := HN.out j hlt
          have hw := hinv.out.1.1
          have hle : w.heap.size ≤ H := Nat.le_of_eq HG.out
          replace hu := Below.cellS hw hle hu
          obtain ⟨ty, uu, rfl⟩ := hrn.iface
          obtain ⟨_, _, _, c3, _⟩ := hinv.out.1.2.2.cells
          have hne : H + 1 ≠ H + 1 + 1 := by omega
          have j0 : (0 : Int) ≤ (j : Int) := by omega
          have j1 : (j : Int) < (ln : Int) := by omega
          have HC : Hid (∀ w', w'.heap = wr.heap → w'.os = wr.os → w'.tape = wr.tape → w'.output = wr.output → Calls Tryd.prog 72 #[.iface ty uu] w' fun e w'' => ∃ xa xn xc ya yn yc, e = .returned (.agg #[.int .i64 (l j).k, .int .i64 (l j).n, .string (l j).s, .slice xa xn xc, .slice ya yn yc]) ∧
              ((∃ z, w''.cell? ⟨H + 1 + 1, j * 5, none⟩ = some z) ∧ (∃ z, w''.cell? ⟨H + 1 + 1, j * 5 + 1, none⟩ = some z) ∧ (∃ z, w''.cell? ⟨H + 1 + 1, j * 5 + 2, none⟩ = some z) ∧ (∃ z, w''.cell? ⟨H + 1 + 1, j * 5 + 3, none⟩ = some z) ∧ (∃ z, w''.cell? ⟨H + 1 + 1, j * 5 + 4, none⟩ = some z)) ∧
              (w''.frozen? ⟨H + 1 + 1, j * 5, none⟩ = false ∧ w''.frozen? ⟨H + 1 + 1, j * 5 + 1, none⟩ = false ∧ w''.frozen? ⟨H + 1 + 1, j * 5 + 2, none⟩ = false ∧ w''.frozen? ⟨H + 1 + 1, j * 5 + 3, none⟩ = false ∧ w''.frozen? ⟨H + 1 + 1, j * 5 + 4, none⟩ = false) ∧
              Hid (Below wr.heap.size wr w'') ∧
              Hid (∃ cs', PB H w (set5 w'' (H + 1 + 1) (j * 5) (.int .i64 (l j).k) (.int .i64 (l j).n) (.string (l j).s) (.slice xa xn xc) (.slice ya yn yc)) (.int .i64 3) (.int .i64 0) (.string { data := #[] }) (.slice (some ⟨H + 1 + 1, 0, none⟩) ln ln) (.slice .none 0 0) ∧ PL (H + 1 + 1) (set5 w'' (H + 1 + 1) (j * 5) (.int .i64 (l j).k) (.int .i64 (l j).n) (.string (l j).s) (.slice xa xn xc) (.slice ya yn yc)) l ln (j + 1) cs')) := by
            intro w' hh h1 h2 h3
            have hbw : Below wr.heap.size wr w' := ⟨h1, h2, h3, by rw [hh]; exact Nat.le_refl _, fun q _ => by rw [hh]⟩
            have hww := hw.trans (hbw.mono (HG.out ▸ hw.size))
            refine (HO.out.1 j _ (fun _ => True) w' (HO.out.2.2.1 j hlt).1 (HO.out.2.2.1 j hlt).2 (RN.move (fun _ _ _ => trivial) hww.size (fun q _ hq => hww.block q (by omega)) _ _ hrn)).mono ?_
            rintro e w2 ⟨X, Y, rfl, hrv, hb2⟩
            obtain ⟨⟨xa, xn, xc, rfl⟩, ⟨ya, yn, yc, rfl⟩⟩ := hrv.slices
            obtain ⟨hP, hE⟩ := hinv.out
            have hb3 : Below wr.heap.size wr w2 := hbw.trans (hb2.mono hbw.size)
            have hsz := hE.2.1
            have hglt := hE.1.lt
            have hblk2 := hE.1.keep (hb3.block _ hglt)
            have ex : ∀ r, r < 5 → ∃ z, w2.cell? ⟨H + 1 + 1, j * 5 + r, none⟩ = some z := fun r hr => ⟨cs[j * 5 + r], by rw [hblk2.cell]; exact Array.getElem?_eq_getElem (by omega)⟩
            obtain ⟨cs', hst⟩ := PL.step hlt hE hb3 hrv (by have := hbw.size; omega)
            refine ⟨xa, xn, xc, ya, yn, yc, rfl, ⟨ex 0 (by omega), ex 1 (by omega), ex 2 (by omega), ex 3 (by omega), ex 4 (by omega)⟩, ⟨hblk2.frozen _, hblk2.frozen _, hblk2.frozen _, hblk2.frozen _, hblk2.frozen _⟩, hb3, cs', ⟨?_, ?_, ?_⟩, hst⟩
            · exact set5_below (hP.1.trans (hb3.mono (HG.out ▸ hP.1.size))) (by omega) _ _ _ _ _ _
            · exact (hP.2.1.keep (hb3.block _ hP.2.1.lt)).keep (set5_block _ _ _ _ _ _ _ _ _ (by omega))
            · exact (hP.2.2.keep (hb3.block _ hP.2.2.lt)).keep (set5_block _ _ _ _ _ _ _ _ _ (by omega))
          have c3d : wr.drew.cell? ⟨H + 1, 3, none⟩ = some (.slice (some ⟨H + 1 + 1, 0, none⟩) ln ln) := c3
          clear hw hle hrn hinv
          go_wp2
          go_region_held3 (fun w' => w'.cell? ⟨H + 1, 3, none⟩ = some (.slice (some ⟨H + 1 + 1, 0, none⟩) ln ln))
            (first | (with_reducible exact c3) | (with_reducible exact c3d) | (with_reducible exact Below.cellS hq.out (Nat.le_refl _) c3) | (exact cell_set_ne (cell_set_ne (cell_set_ne (cell_set_ne (cell_set_ne (Below.cellS hq.out (Nat.le_refl _) c3) hne) hne) hne) hne) hne))
            (first | (go_at_call 72; refine (HC.out wr.drew rfl rfl rfl rfl).mono ?_; rintro e wq ⟨xa, xn, xc, ya, yn, yc, rfl, ⟨⟨z0, e0⟩, ⟨z1, e1⟩, ⟨z2, e2⟩, ⟨z3, e3⟩, ⟨z4, e4⟩⟩, ⟨f0, f1, f2, f3, f4⟩, hq, HN2⟩))
          clear HC c3 c3d hq e0 e1 e2 e3 e4 f0 f1 f2 f3 f4 hu
          go_wp2
          go_roundw
          case rel => exact ⟨j + 1, _, by omega, by go_num, HN2.out.choose_spec⟩
          case measure => simp [intOf]; omega
        · obtain rfl : j = ln := by omega
          obtain ⟨q0, q1, q2, q3, q4⟩ := hinv.out.1.2.2.cells
          obtain ⟨r0, r1, r2, r3, r4⟩ := hinv.out.1.2.1.cells
          have z0 := hinv.out.1.2.1.frozen 0
          have z1 := hinv.out.1.2.1.frozen 1
          have z2 := hinv.out.1.2.1.frozen 2
          have z3 := hinv.out.1.2.1.frozen 3
          have z4 := hinv.out.1.2.1.frozen 4
          go_wp2
          refine bodyPost_ret (v := .agg #[.int .i64 3, .int .i64 0, .string { data := #[] }, .slice (some ⟨H + 1 + 1, 0, none⟩) j j, .slice .none 0 0]) (results_cell_row Tryd.results72 _ _ H 60 _ (0, 0) _ rfl (((((hinv.out.1.2.1.set0 _).set1 _).set2 _).set3 _).set4 _) Tryd.underlying60 rfl info25s) rfl ⟨_, _, rfl, ?_, ?_⟩
          · have hbs := besides5 wr H (.int .i64 3) (.int .i64 0) (.string { data := #[] }) (.slice (some ⟨H + 1 + 1, 0, none⟩) j j) (.slice .none 0 0)
            exact ⟨PL.rl hinv.out.2 hbs.size (fun q h1 h2 => hbs.block q h2 (by omega)) (fun q hq => by have := HG.out; omega), ⟨_, _, rfl, .inl rfl⟩⟩
          · have hbs := besides5 wr H (.int .i64 3) (.int .i64 0) (.string { data := #[] }) (.slice (some ⟨H + 1 + 1, 0, none⟩) j j) (.slice .none 0 0)
            have h0 := hinv.out.1.1
            rw [HG.out]
            exact ⟨hbs.os.trans h0.os, hbs.tape.trans h0.tape, hbs.output.trans h0.output, Nat.le_trans h0.size hbs.size, fun q hq => (hbs.block q (by have := h0.size; have := HG.out; omega) (by omega)).trans (h0.block q hq)⟩
    · obtain rfl : n = 0 := o1.resolve_left (by omega)
      obtain rfl : ln = 0 := o3.resolve_left (by omega)
      have hs0 : s = { data := #[] } := empty_of (o2.resolve_left (by omega))
      subst hs0
      clear o1 o2 o3 o4 k1 k4
      obtain ⟨i0, hi, hz0, hz1, hz2⟩ := info_parts info42
      have hmk : ∀ u : World, (Instr.makeSlice 58 (.int .i64 (dn : Int)) (.int .i64 (dn : Int))).run Tryd.prog u =
          .ok (.slice (some ⟨u.heap.size, 0, none⟩) dn dn) (u.alloc (.cells (madeCells #[.string ByteArray.empty, .int .i64 0, .int .i64 0, .string ByteArray.empty, .slice none 0 0, .slice none 0 0] (dn * 6)) 84)) := fun u => by
        have h := run_make (P := Tryd.prog) u 58 84 i0 _ Tryd.underlying58 hi hz0 .i64 .i64 dn dn (by omega) (by omega) (by rw [hz2]; omega) (by omega)
        simpa [hz1, Value.cells] using h
      have HN : Hid (∀ i, i < dn → ∃ u, w.cell? ⟨b, i * 2, none⟩ = some (.string (ky i)) ∧ w.cell? ⟨b, i * 2 + 1, none⟩ = some u ∧ RN S w (dv i) u) := h3
      have HBL : Hid (b < w.heap.size) := h2
      clear h1 h2 h3 hi hz0 hz1 hz2
      have ha := as48_68
      have hb := as48_53
      have hc := as48_70
      have hd := as48_48
      go_enter Tryd.func72, Tryd.ntmps72
      go_wp2
      clear ha hb hc hd
      go_region
      go_wp2
      clear hmk
      have HB0 : Hid (PB w.heap.size w (((w.alloc (Obj.cells #[.int .i64 0, .int .i64 0, .string { data := #[] }, .slice .none 0 0, .slice .none 0 0] 60)).alloc (Obj.cells #[.int .i64 4, .int .i64 0, .string { data := #[] }, .slice .none 0 0, .slice (some ⟨w.heap.size + 1 + 1, 0, none⟩) dn dn] 60)).alloc (Obj.cells (madeCells #[.string ByteArray.empty, .int .i64 0, .int .i64 0, .string ByteArray.empty, .slice .none 0 0, .slice .none 0 0] (dn * 6)) 84)).drew (.int .i64 4) (.int .i64 0) (.string { data := #[] }) (.slice .none 0 0) (.slice (some ⟨w.heap.size + 1 + 1, 0, none⟩) dn dn) ∧
          PD (w.heap.size + 1 + 1) (((w.alloc (Obj.cells #[.int .i64 0, .int .i64 0, .string { data := #[] }, .slice .none 0 0, .slice .none 0 0] 60)).alloc (Obj.cells #[.int .i64 4, .int .i64 0, .string { data := #[] }, .slice .none 0 0, .slice (some ⟨w.heap.size + 1 + 1, 0, none⟩) dn dn] 60)).alloc (Obj.cells (madeCells #[.string ByteArray.empty, .int .i64 0, .int .i64 0, .string ByteArray.empty, .slice .none 0 0, .slice .none 0 0] (dn * 6)) 84)).drew ky dv dn 0 (madeCells #[.string ByteArray.empty, .int .i64 0, .int .i64 0, .string ByteArray.empty, .slice .none 0 0, .slice .none 0 0] (dn * 6))) := by
        refine ⟨⟨((((Below.refl _ _).alloc (Nat.le_refl _) _).alloc (by simp) _).alloc (by simp; omega) _).drew, ?_, ?_⟩, ?_, by rw [size_madeCells], fun i hi => absurd hi (Nat.not_lt_zero _)⟩
        · exact (Below.heap_alloc _ _ _ (by simp; omega)).trans ((Below.heap_alloc _ _ _ (by simp)).trans (heap_new _ _))
        · refine (Below.heap_alloc _ _ _ (by simp)).trans ?_
          have := heap_new (w.alloc (Obj.cells #[.int .i64 0, .int .i64 0, .string { data := #[] }, .slice .none 0 0, .slice .none 0 0] 60)) (Obj.cells #[.int .i64 4, .int .i64 0, .string { data := #[] }, .slice .none 0 0, .slice (some ⟨w.heap.size + 1 + 1, 0, none⟩) dn dn] 60)
          simpa using this
        · have := heap_new ((w.alloc (Obj.cells #[.int .i64 0, .int .i64 0, .string { data := #[] }, .slice .none 0 0, .slice .none 0 0] 60)).alloc (Obj.cells #[.int .i64 4, .int .i64 0, .string { data := #[] }, .slice .none 0 0, .slice (some ⟨w.heap.size + 1 + 1, 0, none⟩) dn dn] 60)) (Obj.cells (madeCells #[.string ByteArray.empty, .int .i64 0, .int .i64 0, .string ByteArray.empty, .slice .none 0 0, .slice .none 0 0] (dn * 6)) 84)
          have e : ((w.alloc (Obj.cells #[.int .i64 0, .int .i64 0, .string { data := #[] }, .slice .none 0 0, .slice .none 0 0] 60)).alloc (Obj.cells #[.int .i64 4, .int .i64 0, .string { data := #[] }, .slice .none 0 0, .slice (some ⟨w.heap.size + 1 + 1, 0, none⟩) dn dn] 60)).heap.size = w.heap.size + 1 + 1 := by simp
          rw [e] at this
          exact this
      generalize (((w.alloc (Obj.cells #[.int .i64 0, .int .i64 0, .string { data := #[] }, .slice .none 0 0, .slice .none 0 0] 60)).alloc (Obj.cells #[.int .i64 4, .int .i64 0, .string { data := #[] }, .slice .none 0 0, .slice (some ⟨w.heap.size + 1 + 1, 0, none⟩) dn dn] 60)).alloc (Obj.cells (madeCells #[.string ByteArray.empty, .int .i64 0, .int .i64 0, .string ByteArray.empty, .slice .none 0 0, .slice .none 0 0] (dn * 6)) 84)).drew = w0 at *
      generalize hg : w.heap.size = H at *
      have HG : Hid (w.heap.size = H) := hg
      clear hg
      go_loopw [58] (fun i wr => ∃ (j : Nat) (cs : Array Value), j ≤ dn ∧ i = .int .i64 j ∧ Hid (PB H w wr (.int .i64 4) (.int .i64 0) (.string { data := #[] }) (.slice .none 0 0) (.slice (some ⟨H + 1 + 1, 0, none⟩) dn dn) ∧ PD (H + 1 + 1) wr ky dv dn j cs)) (fun i _ => dn - (intOf i).toNat)
      case atStart => exact ⟨0, _, Nat.zero_le _, rfl, HB0⟩
      case round =>
        clear HB0
        obtain ⟨j, cs, hj, rfl, hinv⟩ := hrel
        by_cases hlt : j < dn
        · obtain ⟨u, hky, hu, hrn⟩ := HN.out j hlt
          have hw := hinv.out.1.1
          have hle : w.heap.size ≤ H := Nat.le_of_eq HG.out
          replace hu := Below.cellS hw hle hu
          replace hky := Below.cellS hw hle hky
          obtain ⟨ty, uu, rfl⟩ := hrn.iface
          have hne : H + 1 ≠ H + 1 + 1 := by omega
          have j0 : (0 : Int) ≤ (j : Int) := by omega
          have j1 : (j : Int) < (dn : Int) := by omega
          have hX : blk (wr.alloc (Obj.cells #[.string (ky j), .iface ty uu] 125)) wr.heap.size 125 #[.string (ky j), .iface ty uu] := heap_new _ _
          have hA : Below wr.heap.size wr (wr.alloc (Obj.cells #[.string (ky j), .iface ty uu] 125)) := (Below.refl _ _).alloc (Nat.le_refl _) _
          have HP : Hid (PB H w (wr.alloc (Obj.cells #[.string (ky j), .iface ty uu] 125)) (.int .i64 4) (.int .i64 0) (.string { data := #[] }) (.slice .none 0 0) (.slice (some ⟨H + 1 + 1, 0, none⟩) dn dn) ∧ PD (H + 1 + 1) (wr.alloc (Obj.cells #[.string (ky j), .iface ty uu] 125)) ky dv dn j cs) := by
            obtain ⟨hP, hE⟩ := hinv.out
            refine ⟨⟨hP.1.trans (hA.mono (HG.out ▸ hP.1.size)), hP.2.1.keep (hA.block _ hP.2.1.lt), hP.2.2.keep (hA.block _ hP.2.2.lt)⟩, hE.1.keep (hA.block _ hE.1.lt), hE.2.1, fun i hi => ?_⟩
            obtain ⟨X, Y, e1, e2⟩ := hE.2.2 i hi
            exact ⟨X, Y, e1, RV.move (fun b hb _ => hb) hA.size (fun b _ hl => hA.block b hl) _ _ _ e2⟩
          have hxg : wr.heap.size ≠ H + 1 + 1 := by have := hinv.out.2.1.lt; omega
          clear hinv hw hA
          go_wp2
          generalize hxb : wr.heap.size = xb at *
          clear hxb
          generalize wr.alloc (Obj.cells #[.string (ky j), .iface ty uu] 125) = w3 at *
          have hw := HP.out.1.1
          obtain ⟨_, _, _, _, c4⟩ := HP.out.1.2.2.cells
          have k0 : w3.cell? ⟨xb, 0, none⟩ = some (.string (ky j)) := hX.cell 0
          have k1 : w3.cell? ⟨xb, 1, none⟩ = some (.iface ty uu) := hX.cell 1
          have HC : Hid (∀ w', w'.heap = w3.heap → w'.os = w3.os → w'.tape = w3.tape → w'.output = w3.output → Calls Tryd.prog 72 #[.iface ty uu] w' fun e w'' => ∃ xa xn xc ya yn yc, e = .returned (.agg #[.int .i64 (dv j).k, .int .i64 (dv j).n, .string (dv j).s, .slice xa xn xc, .slice ya yn yc]) ∧
              ((∃ z, w''.cell? ⟨H + 1 + 1, j * 6, none⟩ = some z) ∧ (∃ z, w''.cell? ⟨H + 1 + 1, j * 6 + 1, none⟩ = some z) ∧ (∃ z, w''.cell? ⟨H + 1 + 1, j * 6 + 2, none⟩ = some z) ∧ (∃ z, w''.cell? ⟨H + 1 + 1, j * 6 + 3, none⟩ = some z) ∧ (∃ z, w''.cell? ⟨H + 1 + 1, j * 6 + 4, none⟩ = some z) ∧ (∃ z, w''.cell? ⟨H + 1 + 1, j * 6 + 5, none⟩ = some z)) ∧
              (w''.frozen? ⟨H + 1 + 1, j * 6, none⟩ = false ∧ w''.frozen? ⟨H + 1 + 1, j * 6 + 1, none⟩ = false ∧ w''.frozen? ⟨H + 1 + 1, j * 6 + 2, none⟩ = false ∧ w''.frozen? ⟨H + 1 + 1, j * 6 + 3, none⟩ = false ∧ w''.frozen? ⟨H + 1 + 1, j * 6 + 4, none⟩ = false ∧ w''.frozen? ⟨H + 1 + 1, j * 6 + 5, none⟩ = false) ∧
              Hid (Below w3.heap.size w3 w'') ∧
              Hid (∃ cs', PB H w (set6 w'' (H + 1 + 1) (j * 6) (.string (ky j)) (.int .i64 (dv j).k) (.int .i64 (dv j).n) (.string (dv j).s) (.slice xa xn xc) (.slice ya yn yc)) (.int .i64 4) (.int .i64 0) (.string { data := #[] }) (.slice .none 0 0) (.slice (some ⟨H + 1 + 1, 0, none⟩) dn dn) ∧ PD (H + 1 + 1) (set6 w'' (H + 1 + 1) (j * 6) (.string (ky j)) (.int .i64 (dv j).k) (.int .i64 (dv j).n) (.string (dv j).s) (.slice xa xn xc) (.slice ya yn yc)) ky dv dn (j + 1) cs')) := by
            intro w' hh h1 h2 h3
            have hbw : Below w3.heap.size w3 w' := ⟨h1, h2, h3, by rw [hh]; exact Nat.le_refl _, fun q _ => by rw [hh]⟩
            have hww := hw.trans (hbw.mono (HG.out ▸ hw.size))
            refine (HO.out.2.1 j _ (fun _ => True) w' (HO.out.2.2.2 j hlt).1 (HO.out.2.2.2 j hlt).2 (RN.move (fun _ _ _ => trivial) hww.size (fun q _ hq => hww.block q (by omega)) _ _ hrn)).mono ?_
            rintro e w2 ⟨X, Y, rfl, hrv, hb2⟩
            obtain ⟨⟨xa, xn, xc, rfl⟩, ⟨ya, yn, yc, rfl⟩⟩ := hrv.slices
            obtain ⟨hP, hE⟩ := HP.out
            have hb3 : Below w3.heap.size w3 w2 := hbw.trans (hb2.mono hbw.size)
            have hsz := hE.2.1
            have hglt := hE.1.lt
            have hblk2 := hE.1.keep (hb3.block _ hglt)
            have ex : ∀ r, r < 6 → ∃ z, w2.cell? ⟨H + 1 + 1, j * 6 + r, none⟩ = some z := fun r hr => ⟨cs[j * 6 + r], by rw [hblk2.cell]; exact Array.getElem?_eq_getElem (by omega)⟩
            obtain ⟨cs', hst⟩ := PD.step hlt hE hb3 hrv (by have := hbw.size; omega)
            refine ⟨xa, xn, xc, ya, yn, yc, rfl, ⟨ex 0 (by omega), ex 1 (by omega), ex 2 (by omega), ex 3 (by omega), ex 4 (by omega), ex 5 (by omega)⟩, ⟨hblk2.frozen _, hblk2.frozen _, hblk2.frozen _, hblk2.frozen _, hblk2.frozen _, hblk2.frozen _⟩, hb3, cs', ⟨?_, ?_, ?_⟩, hst⟩
            · exact set6_below (hP.1.trans (hb3.mono (HG.out ▸ hP.1.size))) (by omega) _ _ _ _ _ _ _
            · exact (hP.2.1.keep (hb3.block _ hP.2.1.lt)).keep (set6_block _ _ _ _ _ _ _ _ _ _ (by omega))
            · exact (hP.2.2.keep (hb3.block _ hP.2.2.lt)).keep (set6_block _ _ _ _ _ _ _ _ _ _ (by omega))
          have c4d : w3.drew.cell? ⟨H + 1, 4, none⟩ = some (.slice (some ⟨H + 1 + 1, 0, none⟩) dn dn) := c4
          have k0d : w3.drew.cell? ⟨xb, 0, none⟩ = some (.string (ky j)) := k0
          have k1d : w3.drew.cell? ⟨xb, 1, none⟩ = some (.iface ty uu) := k1
          clear hw hle hrn HP hX hky hu
          go_region_held3 (fun w' => w'.cell? ⟨H + 1, 4, none⟩ = some (.slice (some ⟨H + 1 + 1, 0, none⟩) dn dn) ∧ w'.cell? ⟨xb, 0, none⟩ = some (.string (ky j)) ∧ w'.cell? ⟨xb, 1, none⟩ = some (.iface ty uu))
            (first | (with_reducible exact ⟨c4, k0, k1⟩) | (with_reducible exact ⟨c4d, k0d, k1d⟩) | (with_reducible exact ⟨Below.cellS hq.out (Nat.le_refl _) c4, Below.cellS hq.out (Nat.le_refl _) k0, Below.cellS hq.out (Nat.le_refl _) k1⟩) | (exact ⟨cell_set_ne (cell_set_ne (cell_set_ne (cell_set_ne (cell_set_ne (cell_set_ne (Below.cellS hq.out (Nat.le_refl _) c4) hne) hne) hne) hne) hne) hne, cell_set_ne (cell_set_ne (cell_set_ne (cell_set_ne (cell_set_ne (cell_set_ne (Below.cellS hq.out (Nat.le_refl _) k0) hxg) hxg) hxg) hxg) hxg) hxg, cell_set_ne (cell_set_ne (cell_set_ne (cell_set_ne (cell_set_ne (cell_set_ne (Below.cellS hq.out (Nat.le_refl _) k1) hxg) hxg) hxg) hxg) hxg) hxg⟩))
            (first | (go_at_call 72; refine (HC.out w3.drew rfl rfl rfl rfl).mono ?_; rintro e wq ⟨xa, xn, xc, ya, yn, yc, rfl, ⟨⟨z0, e0⟩, ⟨z1, e1⟩, ⟨z2, e2⟩, ⟨z3, e3⟩, ⟨z4, e4⟩, ⟨z5, e5⟩⟩, ⟨f0, f1, f2, f3, f4, f5⟩, hq, HN2⟩))
          clear HC c4 c4d k0 k1 k0d k1d hq e0 e1 e2 e3 e4 e5 f0 f1 f2 f3 f4 f5
          go_wp2
          go_roundw
          case rel => exact ⟨j + 1, _, by omega, by go_num, HN2.out.choose_spec⟩
          case measure => simp [intOf]; omega
        · obtain rfl : j = dn := by omega
          obtain ⟨q0, q1, q2, q3, q4⟩ := hinv.out.1.2.2.cells
          obtain ⟨r0, r1, r2, r3, r4⟩ := hinv.out.1.2.1.cells
          have z0 := hinv.out.1.2.1.frozen 0
          have z1 := hinv.out.1.2.1.frozen 1
          have z2 := hinv.out.1.2.1.frozen 2
          have z3 := hinv.out.1.2.1.frozen 3
          have z4 := hinv.out.1.2.1.frozen 4
          go_wp2
          refine bodyPost_ret (v := .agg #[.int .i64 4, .int .i64 0, .string { data := #[] }, .slice .none 0 0, .slice (some ⟨H + 1 + 1, 0, none⟩) j j]) (results_cell_row Tryd.results72 _ _ H 60 _ (0, 0) _ rfl (((((hinv.out.1.2.1.set0 _).set1 _).set2 _).set3 _).set4 _) Tryd.underlying60 rfl info25s) rfl ⟨_, _, rfl, ?_, ?_⟩
          · have hbs := besides5 wr H (.int .i64 4) (.int .i64 0) (.string { data := #[] }) (.slice .none 0 0) (.slice (some ⟨H + 1 + 1, 0, none⟩) j j)
            exact ⟨⟨_, _, rfl, .inl rfl⟩, PD.rd hinv.out.2 hbs.size (fun q h1 h2 => hbs.block q h2 (by omega)) (fun q hq => by have := HG.out; omega)⟩
          · have hbs := besides5 wr H (.int .i64 4) (.int .i64 0) (.string { data := #[] }) (.slice .none 0 0) (.slice (some ⟨H + 1 + 1, 0, none⟩) j j)
            have h0 := hinv.out.1.1
            rw [HG.out]
            exact ⟨hbs.os.trans h0.os, hbs.tape.trans h0.tape, hbs.output.trans h0.output, Nat.le_trans h0.size hbs.size, fun q hq => (hbs.block q (by have := h0.size; have := HG.out; omega) (by omega)).trans (h0.block q hq)⟩
end Go.Proofs.YtdlnnnlmlaploaaDoor
namespace Go.Proofs.YtdlnnnlmlaploaaDoor
open Go.RowKit Go.Deep
theorem giveUp44 (rb : Nat) (p er : Int) (w : World) : Calls Tryd.prog 78 #[.pointer (some ⟨rb, 0, none⟩), .int .i64 p, .int .i64 er] w fun e w' => e = pnc p er ∧ w' = w := by
  go_enter Tryd.func78, Tryd.ntmps78
  go_wp2
  exact ⟨rfl, rfl, rfl⟩
set_option maxHeartbeats 1000000 in
theorem next43 (rb : Nat) (a : Option Addr) (c : Nat) (b : List UInt8) (i : Nat) (w : World) (h : RR rb w a c b i) :
    Calls Tryd.prog 77 #[.pointer (some ⟨rb, 0, none⟩)] w fun e w' => Below w.heap.size w w' ∧ ((i < b.length ∧ e = .returned (.int .u8 ((byt b i).toNat : Int))) ∨ (i = b.length ∧ e = pnc i 21)) := by
  obtain ⟨c0, c1, _⟩ := h.cells
  have hn := h.2.1
  have hl := h.2.2.2.1
  by_cases hlt : i < b.length
  · obtain ⟨g, o, rfl, hg, k0⟩ := h.byte hlt
    have i0 : (0 : Int) ≤ (i : Int) := by omega
    have i1 : (i : Int) < (b.length : Int) := by omega
    have i2 : ((i : Int) == (b.length : Int)) = false := by simp; omega
    generalize ((byt b i).toNat : Int) = z at *
    clear h
    go_enter Tryd.func77, Tryd.ntmps77
    go_wp2
    go_quiet (fail)
    go_wp2
    go_quiet (fail)
    go_wp2
    go_ret
    exact ⟨⟨rfl, rfl, rfl, Nat.le_refl _, fun _ _ => rfl⟩, .inl ⟨hlt, rfl⟩⟩
  · obtain rfl : i = b.length := by omega
    clear h
    go_enter Tryd.func77, Tryd.ntmps77
    go_wp2
    go_quiet (fail)
    go_wp2_with fail
    refine (giveUp44 rb _ _ _).mono ?_
    rintro e w' ⟨rfl, rfl⟩
    exact ⟨rfl, ⟨rfl, rfl, rfl, Nat.le_refl _, fun _ _ => rfl⟩, .inr ⟨trivial, rfl⟩⟩
theorem isDigit46 (c : UInt8) (w : World) : Calls Tryd.prog 80 #[.int .u8 (c.toNat : Int)] w fun e w' => e = .returned (.bool (dig c)) ∧ w' = w := by
  have e : dig c = (decide ((48 : Int) ≤ (c.toNat : Int)) && decide ((c.toNat : Int) ≤ 57)) := by
    unfold dig
    rw [show decide (48 ≤ c) = decide ((48 : Int) ≤ (c.toNat : Int)) from by simp [UInt8.le_iff_toNat_le]; omega, show decide (c ≤ 57) = decide ((c.toNat : Int) ≤ 57) from by simp [UInt8.le_iff_toNat_le]; omega]
  rw [e]
  generalize (c.toNat : Int) = z
  by_cases h1 : 48 ≤ z
  · go_enter Tryd.func80, Tryd.ntmps80
    go_wp2
    go_ret
    exact ⟨by simp [h1], rfl⟩
  · have h2 : ¬ (z ≥ 48) := h1
    go_enter Tryd.func80, Tryd.ntmps80
    go_wp2
    go_ret
    exact ⟨by simp; omega, rfl⟩
theorem conv_cut {g o i j cap : Nat} {b : List UInt8} {w : World} (hj : j ≤ b.length) (hc : ∀ k, k < b.length → w.cell? ⟨g, o + k, none⟩ = some (.int .u8 ((byt b k).toNat : Int))) (ty : TypeId) (hty : Tryd.prog.underlying ty = some .string) :
    (convert 22 ty (.slice (some ⟨g, o + i, none⟩) (j - i) cap)).run Tryd.prog w = .ok (.string ⟨(cut b i j).toArray⟩) w := by
  have hl := cut_length (b := b) (i := i) (j := j) hj
  have h := run_convert_bytes_back (P := Tryd.prog) w 22 ty 5 ⟨g, o + i, none⟩ cap (cut b i j) Tryd.underlying22 Tryd.underlying5 hty (fun k hk => by
    have hadd : (⟨g, o + i, none⟩ : Addr).add k = ⟨g, o + (i + k), none⟩ := by unfold Addr.add; split <;> simp_all <;> omega
    rw [hadd, hc (i + k) (by omega), ← byt_cut (b := b) (j := j) (i := i) (k := k) (by omega)]
    simp [byt, List.getD, List.getElem?_eq_getElem hk])
  rw [hl] at h
  exact h
theorem u8_ne {x y : UInt8} (h : x ≠ y) : (x.toNat : Int) ≠ (y.toNat : Int) := fun e => h (UInt8.toNat_inj.1 (by omega))
/-- where the reader in block rb stands -/
def atOf (w : World) (rb : Nat) : Nat := (intOf ((w.cell? ⟨rb, 1, none⟩).getD .nilIface)).toNat
theorem RR.atOf {rb : Nat} {w : World} {a : Option Addr} {c : Nat} {b : List UInt8} {i : Nat} (h : RR rb w a c b i) : atOf w rb = i := by
  unfold Go.Proofs.YtdlnnnlmlaploaaDoor.atOf
  rw [h.cells.2.1]; simp [intOf]
set_option maxHeartbeats 1000000 in
theorem digits52 (rb : Nat) (a : Option Addr) (c : Nat) (b : List UInt8) (en : UInt8) (i : Nat) (w : World) (h : RR rb w a c b i) :
    Calls Tryd.prog 89 #[.pointer (some ⟨rb, 0, none⟩), .int .u8 (en.toNat : Int)] w fun e w' => pcEnd (digs b en i) rb w w' a c b (fun d => .string ⟨d.toArray⟩) e := by
  obtain ⟨c0, c1, f1⟩ := h.cells
  have HR := Lib.hid h
  have hn := h.2.1
  have hl := h.2.2.2.1
  have hrl := run_le h.2.1
  clear h
  go_enter Tryd.func89, Tryd.ntmps89
  go_wp2
  go_loopw [] (fun wr => ∃ k, k ≤ run b i ∧ Hid (RR rb wr a c b (i + k) ∧ Besides rb w wr)) (fun wr => b.length - atOf wr rb)
  case atStart => exact ⟨0, Nat.zero_le _, HR.out, Besides.refl _ _⟩
  case round =>
    clear c0 c1 f1
    obtain ⟨k, hk, HO⟩ := hrel
    have hk2 : i + k ≤ b.length := by omega
    have hmer := HO.out.1.atOf
    go_wp2_with fail
    refine (next43 rb a c b (i + k) wr HO.out.1).mono ?_
    rintro e w1 ⟨hb1, ⟨hlt, rfl⟩ | ⟨heq, rfl⟩⟩
    case inr =>
      rw [heq]
      exact ⟨rfl, pcEnd.bad (by rw [digs, if_pos (by omega)]) (HO.out.2.trans (Besides.of_below hb1))⟩
    have HO1 : Hid (RR rb w1 a c b (i + k) ∧ Besides rb w w1) := ⟨HO.out.1.heap hb1, HO.out.2.trans (Besides.of_below hb1)⟩
    clear HO hb1
    go_wp2_with fail
    refine (isDigit46 _ _).mono ?_
    rintro e w2 ⟨rfl, rfl⟩
    by_cases hd : dig (byt b (i + k)) = true
    · have hkr : k < run b i := by
        rcases Nat.lt_or_ge k (run b i) with h | h
        · exact h
        · have : run b i = k := by omega
          rw [← this] at hd hlt
          rw [run_end hlt] at hd; cases hd
      obtain ⟨c0, c1, f1⟩ := HO1.out.1.cells
      rw [hd]
      have HN : Hid (RR rb (w2.setCell ⟨rb, 1, none⟩ (.int .i64 ((i : Int) + (k : Int) + 1))) a c b (i + (k + 1)) ∧ Besides rb w (w2.setCell ⟨rb, 1, none⟩ (.int .i64 ((i : Int) + (k : Int) + 1)))) := by
        have h := HO1.out.1.set (i + (k + 1)) (by omega)
        have e : ((i + (k + 1) : Nat) : Int) = (i : Int) + (k : Int) + 1 := by omega
        rw [e] at h
        exact ⟨h, HO1.out.2.set1⟩
      have hme2 := HN.out.1.atOf
      have hm3 : b.length - (i + (k + 1)) < b.length - (i + k) := by omega
      clear HO1
      go_wp2
      go_roundw
      case rel => exact ⟨k + 1, by omega, HN⟩
      case measure => rw [hmer, hme2]; omega
    · have hkr : i + k = i + run b i := by
        rcases Nat.lt_or_ge k (run b i) with h | h
        · exact absurd (run_lt h).2 hd
        · omega
      have hd' : dig (byt b (i + k)) = false := by simpa using hd
      rw [hd']
      have hij : i ≤ i + k := by omega
      clear hd hd' hk2 hmer
      generalize i + k = j at *
      have HD : Hid (digs b en i = if j = i ∨ byt b j ≠ en then .bad j 22 else .ok (cut b i j) (j + 1)) := by
        refine Lib.hid ?_
        rw [digs, if_neg (by omega), ← hkr]
        by_cases h0 : run b i = 0
        · rw [if_pos (.inl h0), if_pos (.inl (by omega))]
        · by_cases h1 : byt b j ≠ en
          · rw [if_pos (.inr h1), if_pos (.inr h1)]
          · rw [if_neg (by simp [h0, h1]), if_neg (by intro h; rcases h with h | h; exact h0 (by omega); exact h1 h)]
      clear hkr hrl HR hk
      obtain ⟨c0, c1, f1⟩ := HO1.out.1.cells
      by_cases hr0 : j = i
      · have HE : Hid (digs b en i = .bad j 22) := Lib.hid (by rw [HD.out, if_pos (.inl hr0)])
        have hz : ((j : Int) == (i : Int)) = true := by simp; omega
        clear hr0
        go_wp2_with fail
        refine (giveUp44 rb _ _ _).mono ?_
        rintro e w' ⟨rfl, rfl⟩
        exact ⟨rfl, pcEnd.bad HE.out HO1.out.2⟩
      · have hz : ((j : Int) == (i : Int)) = false := by simp; omega
        go_wp2_with fail
        refine (next43 rb a c b j w2 HO1.out.1).mono ?_
        rintro e w3 ⟨hb3, ⟨_, rfl⟩ | ⟨heq, rfl⟩⟩
        case inr => omega
        have HO3 : Hid (RR rb w3 a c b j ∧ Besides rb w w3) := ⟨HO1.out.1.heap hb3, HO1.out.2.trans (Besides.of_below hb3)⟩
        clear HO1 hb3 c0 c1 f1
        obtain ⟨c0, c1, f1⟩ := HO3.out.1.cells
        by_cases he : byt b j = en
        · have HE : Hid (digs b en i = .ok (cut b i j) (j + 1)) := Lib.hid (by rw [HD.out, if_neg (by simp [hr0, he])])
          subst he
          obtain ⟨g, o, rfl, hg, _⟩ := HO3.out.1.byte hlt
          have HT : Hid (∀ k, k < b.length → w3.cell? ⟨g, o + k, none⟩ = some (.int .u8 ((byt b k).toNat : Int))) := by
            rcases HO3.out.1.2.2.2.2 with rfl | ⟨g', o', h1, _, _, h4⟩
            · simp at hlt
            · cases h1; exact h4
          have HN : Hid (RR rb (w3.setCell ⟨rb, 1, none⟩ (.int .i64 ((j : Int) + 1))) (some ⟨g, o, none⟩) c b (j + 1) ∧ Besides rb w (w3.setCell ⟨rb, 1, none⟩ (.int .i64 ((j : Int) + 1)))) := by
            have h := HO3.out.1.set (j + 1) (by omega)
            exact ⟨h, HO3.out.2.set1⟩
          have hcap : b.length ≤ c := HO3.out.1.2.2.1
          have HV : Hid (∀ k, k < b.length → (w3.setCell ⟨rb, 1, none⟩ (.int .i64 ((j : Int) + 1))).cell? ⟨g, o + k, none⟩ = some (.int .u8 ((byt b k).toNat : Int))) := Lib.hid fun k hk => (World.cell?_setCell_far _ _ _ _ (Ne.symm hg)).trans (HT.out k hk)
          clear HD HO3
          go_wp2
          obtain ⟨k0, k1, _⟩ := HN.out.1.cells
          rw [show ((j + 1 : Nat) : Int) = (j : Int) + 1 from rfl] at k1
          generalize w3.setCell ⟨rb, 1, none⟩ (.int .i64 ((j : Int) + 1)) = w4 at *
          have hconv : ∀ n, (convert 22 9 (.slice (some ⟨g, o + i, none⟩) (j - i) (c - i))).run Tryd.prog (w4.drewN n) = .ok (.string ⟨(cut b i j).toArray⟩) (w4.drewN n) := fun n => conv_cut (w := w4.drewN n) (by omega) (fun k hk => HV.out k hk) 9 Tryd.underlying9
          have b0 : (0 : Int) ≤ (i : Int) := by omega
          have b1 : (i : Int) ≤ (j : Int) := by omega
          have b2 : (j : Int) ≤ (c : Int) := by omega
          have b3 : (j : Int) + 1 - 1 = (j : Int) := by omega
          have b4 : i ≤ j := hij
          have b5 : j ≤ c := by omega
          clear HT c0 c1 f1 hz hlt hr0
          go_quiet (fail)
          have hB : Below w4.heap.size w4 (w4.drewN nq) := ⟨rfl, rfl, rfl, Nat.le_refl _, fun _ _ => rfl⟩
          have HZ : Hid (Besides rb w (w4.drewN nq) ∧ RR rb (w4.drewN nq) (some ⟨g, o, none⟩) c b (j + 1)) := ⟨HN.out.2.trans (Besides.of_below hB), HN.out.1.heap hB⟩
          clear HN HV k0 k1 hconv hB
          go_wp2
          go_ret
          exact pcEnd.ok HE.out HZ.out.1 HZ.out.2
        · have HE : Hid (digs b en i = .bad j 22) := Lib.hid (by rw [HD.out, if_pos (.inr he)])
          have hz2 := u8_ne he
          clear HD he
          go_wp2_with fail
          refine (giveUp44 rb _ _ _).mono ?_
          rintro e w' ⟨rfl, rfl⟩
          exact ⟨rfl, pcEnd.bad HE.out HO3.out.2⟩
end Go.Proofs.YtdlnnnlmlaploaaDoor
