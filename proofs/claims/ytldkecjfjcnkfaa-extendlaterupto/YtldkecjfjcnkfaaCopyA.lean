import Derived.Test.YtldkecjfjcnkfaaSame
import Derived.Deep.AppendLies
import Derived.OwnWalk
import Derived.Deep.RegionLaw
namespace Go.Proofs.Ytldkecjfjcnkfaa
open Go.RowKit Go.Deep
def CC (t : T) : Prop := ∀ (x y : Value) (w : World), t.ok → t.small → RV (fun _ => True) w t x y →
  Calls Try.prog 28 #[vv t x y] w fun e w' => ∃ x' y', e = .returned (vv t x' y') ∧ RV (fun b => w.heap.size ≤ b) w' t x' y' ∧ Below w.heap.size w w'
/-- the cells of one value -/
def cv (t : T) (x y : Value) : List Value := [.int .i64 t.k, .int .i64 t.n, .string t.s, x, y]
/-- the cells of a row of values -/
def rowL (l : Nat → T) (X Y : Nat → Value) (j : Nat) : List Value := (List.range j).flatMap fun i => cv (l i) (X i) (Y i)
def rowD (ky : Nat → ByteArray) (l : Nat → T) (X Y : Nat → Value) (j : Nat) : List Value := (List.range j).flatMap fun i => .string (ky i) :: cv (l i) (X i) (Y i)
/-- a function turned at one place -/
def upd (X : Nat → Value) (j : Nat) (x : Value) : Nat → Value := fun i => if i = j then x else X i
theorem upd_lt {X : Nat → Value} {j i : Nat} {x : Value} (h : i < j) : upd X j x i = X i := by unfold upd; rw [if_neg (by omega)]
theorem upd_eq {X : Nat → Value} {j : Nat} {x : Value} : upd X j x j = x := by unfold upd; rw [if_pos rfl]
theorem rowL_succ (l : Nat → T) (X Y : Nat → Value) (j : Nat) (x y : Value) : rowL l (upd X j x) (upd Y j y) (j + 1) = rowL l X Y j ++ cv (l j) x y := by
  unfold rowL
  rw [List.range_succ, List.flatMap_append, flatMap_congr_range (g := fun i => cv (l i) (X i) (Y i)) (fun i hi => by rw [upd_lt hi, upd_lt hi])]
  simp [upd_eq]
theorem rowD_succ (ky : Nat → ByteArray) (l : Nat → T) (X Y : Nat → Value) (j : Nat) (x y : Value) : rowD ky l (upd X j x) (upd Y j y) (j + 1) = rowD ky l X Y j ++ (.string (ky j) :: cv (l j) x y) := by
  unfold rowD
  rw [List.range_succ, List.flatMap_append, flatMap_congr_range (g := fun i => .string (ky i) :: cv (l i) (X i) (Y i)) (fun i hi => by rw [upd_lt hi, upd_lt hi])]
  simp [upd_eq]
/-- what a loop of Copy has laid so far -/
def LInv (B : Nat) (wr : World) (l : Nat → T) (j : Nat) (lv : Value) : Prop :=
  ∃ X Y, wr.ownsRow B 56 5 lv j (rowL l X Y j) ∧ ∀ i, i < j → RV (fun b => B ≤ b ∧ lv.ownBlock ≠ some b) wr (l i) (X i) (Y i)
def DInv (B : Nat) (wr : World) (ky : Nat → ByteArray) (l : Nat → T) (j : Nat) (lv : Value) : Prop :=
  ∃ X Y, wr.ownsRow B 59 6 lv j (rowD ky l X Y j) ∧ ∀ i, i < j → RV (fun b => B ≤ b ∧ lv.ownBlock ≠ some b) wr (l i) (X i) (Y i)
/-- a block of five cells -/
def obj (w : World) (b : Nat) (c0 c1 c2 c3 c4 : Value) : Prop := w.heap[b]? = some (.cells #[c0, c1, c2, c3, c4] 56 (0, 0))
theorem obj.cells {w : World} {b : Nat} {c0 c1 c2 c3 c4 : Value} (h : obj w b c0 c1 c2 c3 c4) :
    w.cell? ⟨b, 0, none⟩ = some c0 ∧ w.cell? ⟨b, 1, none⟩ = some c1 ∧ w.cell? ⟨b, 2, none⟩ = some c2 ∧ w.cell? ⟨b, 3, none⟩ = some c3 ∧ w.cell? ⟨b, 4, none⟩ = some c4 := by
  unfold obj at h
  refine ⟨?_, ?_, ?_, ?_, ?_⟩ <;> simp [World.cell?, h]
theorem obj.frozen {w : World} {b : Nat} {c0 c1 c2 c3 c4 : Value} (h : obj w b c0 c1 c2 c3 c4) (i : Nat) : w.frozen? ⟨b, i, none⟩ = false := by
  unfold obj at h
  simp [World.frozen?, h]
theorem obj.set0 {w : World} {b : Nat} {c0 c1 c2 c3 c4 : Value} (h : obj w b c0 c1 c2 c3 c4) (u : Value) : obj (w.setCell ⟨b, 0, none⟩ u) b u c1 c2 c3 c4 := by
  unfold obj at h ⊢
  simp [World.setCell, Array.getElem?_modify, h]
theorem obj.set1 {w : World} {b : Nat} {c0 c1 c2 c3 c4 : Value} (h : obj w b c0 c1 c2 c3 c4) (u : Value) : obj (w.setCell ⟨b, 1, none⟩ u) b c0 u c2 c3 c4 := by
  unfold obj at h ⊢
  simp [World.setCell, Array.getElem?_modify, h]
theorem obj.set2 {w : World} {b : Nat} {c0 c1 c2 c3 c4 : Value} (h : obj w b c0 c1 c2 c3 c4) (u : Value) : obj (w.setCell ⟨b, 2, none⟩ u) b c0 c1 u c3 c4 := by
  unfold obj at h ⊢
  simp [World.setCell, Array.getElem?_modify, h]
theorem obj.set3 {w : World} {b : Nat} {c0 c1 c2 c3 c4 : Value} (h : obj w b c0 c1 c2 c3 c4) (u : Value) : obj (w.setCell ⟨b, 3, none⟩ u) b c0 c1 c2 u c4 := by
  unfold obj at h ⊢
  simp [World.setCell, Array.getElem?_modify, h]
theorem obj.set4 {w : World} {b : Nat} {c0 c1 c2 c3 c4 : Value} (h : obj w b c0 c1 c2 c3 c4) (u : Value) : obj (w.setCell ⟨b, 4, none⟩ u) b c0 c1 c2 c3 u := by
  unfold obj at h ⊢
  simp [World.setCell, Array.getElem?_modify, h]
theorem obj.keep {w w' : World} {b : Nat} {c0 c1 c2 c3 c4 : Value} (h : obj w b c0 c1 c2 c3 c4) (hb : w'.heap[b]? = w.heap[b]?) : obj w' b c0 c1 c2 c3 c4 := hb.trans h
theorem obj.lt {w : World} {b : Nat} {c0 c1 c2 c3 c4 : Value} (h : obj w b c0 c1 c2 c3 c4) : b < w.heap.size := (Array.getElem?_eq_some_iff.1 h).1
theorem info25 : (Try.prog.info? 56).map (fun i => (i.zero, i.size, i.bytes)) = some (some (.agg #[.int .i64 0, .int .i64 0, .string ByteArray.empty, .slice none 0 0, .slice none 0 0]), 5, 80) := by kernel_rfl
theorem grown_of_below {w w' : World} (h : Below w.heap.size w w') : w.grownBy w' .none := ⟨h.os, h.tape, h.output, h.size, fun k hk _ => h.block k hk⟩
theorem grown_setCell (w : World) (p : Addr) (u : Value) : w.grownBy (w.setCell p u) (some p.block) := ⟨rfl, rfl, rfl, by simp [World.setCell], fun k _ hn => Below.heap_setCell _ _ _ _ (fun e => hn (by rw [e]))⟩
theorem owns_ne {w : World} {B : Nat} {e : TypeId} {sz : Nat} {v : Value} {n : Nat} {xs : List Value} (h : w.ownsRow B e sz v n xs) {b : Nat} (hb : b < B) : v.ownBlock = Option.none ∨ v.ownBlock ≠ some b := by
  cases hv : v.ownBlock with
  | none => exact .inl rfl
  | some q =>
    refine .inr fun e => ?_
    have e' : q = b := by simpa using e
    have := (h.lt q hv).1
    omega
/-- the elements so far, behind one more -/
theorem rows_step {B : Nat} {wr w2 W w3 : World} {p : Addr} {u lv : Value} {g n cap : Nat} (hB : B ≤ wr.heap.size) (hlv : ∀ k, lv.ownBlock = some k → k < wr.heap.size) (hb2 : Below wr.heap.size wr w2) (hW : Below w2.heap.size w2 W) (hgrow : W.grownBy w3 lv.ownBlock)
    (hat : lv.ownBlock = some g ∨ g = W.heap.size) (hp : p.block < B) :
    (∀ t x y, RV (fun b => B ≤ b ∧ lv.ownBlock ≠ some b) wr t x y → RV (fun b => B ≤ b ∧ (Value.slice (some ⟨g, 0, none⟩) n cap).ownBlock ≠ some b) (w3.setCell p u) t x y) ∧
    (∀ t x y, RV (fun b => wr.heap.size ≤ b) w2 t x y → RV (fun b => B ≤ b ∧ (Value.slice (some ⟨g, 0, none⟩) n cap).ownBlock ≠ some b) (w3.setCell p u) t x y) := by
  have hsz : w2.heap.size ≤ w3.heap.size := Nat.le_trans hW.size hgrow.size
  have hse : (w3.setCell p u).heap.size = w3.heap.size := by simp [World.setCell]
  have e0 : (Value.slice (some ⟨g, 0, none⟩) n cap).ownBlock = some g := rfl
  have blk : ∀ b, B ≤ b → b < w2.heap.size → lv.ownBlock ≠ some b → (w3.setCell p u).heap[b]? = w2.heap[b]? := by
    intro b h1 h2 h3
    rw [Below.heap_setCell _ _ _ _ (by omega), hgrow.block b (Nat.lt_of_lt_of_le h2 hW.size) (fun e => h3 e.symm), hW.block b h2]
  have gne : ∀ b, b < w2.heap.size → lv.ownBlock ≠ some b → (some g : Option Nat) ≠ some b := by
    intro b h1 h2 e
    cases e
    rcases hat with h | h
    · exact h2 h
    · have := hW.size; omega
  constructor
  · intro t x y h
    refine RV.move (fun b hb hl => ⟨hb.1, e0 ▸ gne b (Nat.lt_of_lt_of_le hl hb2.size) hb.2⟩) (hse ▸ Nat.le_trans hb2.size hsz) (fun b hb hl => ?_) t x y h
    rw [blk b hb.1 (Nat.lt_of_lt_of_le hl hb2.size) hb.2, hb2.block b hl]
  · intro t x y h
    have hne : ∀ b, wr.heap.size ≤ b → lv.ownBlock ≠ some b := fun b h1 e => by have := hlv b e; omega
    exact RV.move (fun b hb hl => ⟨Nat.le_trans hB hb, e0 ▸ gne b hl (hne b hb)⟩) (hse ▸ hsz) (fun b hb hl => blk b (Nat.le_trans hB hb) hl (hne b hb)) t x y h
/-- between the calls nothing of it turns -/
theorem LInv.keep {B : Nat} {wr w' : World} {l : Nat → T} {j : Nat} {lv : Value} (h : LInv B wr l j lv) (hb : Below wr.heap.size wr w') : LInv B w' l j lv := by
  obtain ⟨X, Y, h1, h2⟩ := h
  exact ⟨X, Y, h1.kept (grown_of_below hb) (by cases hv : lv.ownBlock with | none => exact .inl rfl | some k => exact .inr (by simp)), fun i hi => RV.move (fun b h _ => h) hb.size (fun b _ hl => hb.block b hl) _ _ _ (h2 i hi)⟩
theorem ownForm {w : World} {B : Nat} {e : TypeId} {sz : Nat} {v : Value} {n : Nat} {xs : List Value} (h : w.ownsRow B e sz v n xs) : ∃ a c, v = .slice a n c := by
  rcases h.2 with ⟨rfl, rfl⟩ | ⟨g, cap, cur, rfl, _⟩
  · exact ⟨_, _, rfl⟩
  · exact ⟨_, _, rfl⟩
theorem heap_new (w : World) (o : Obj) : (w.alloc o).heap[w.heap.size]? = some o := by show (w.heap.push o)[w.heap.size]? = _; simp
/-- what stands at a round's head in Copy -/
def CInv (H : Nat) (w wr : World) (k n : Int) (s : ByteArray) (x y lv dv : Value) : Prop :=
  Below H w wr ∧ obj wr H (.int .i64 k) (.int .i64 n) (.string s) x y ∧ obj wr (H + 1) (.int .i64 0) (.int .i64 0) (.string { data := #[] }) (.slice .none 0 0) (.slice .none 0 0) ∧ obj wr (H + 1 + 1) (.int .i64 k) (.int .i64 n) (.string s) lv dv
theorem CInv.keep {H : Nat} {w wr w' : World} {k n : Int} {s : ByteArray} {x y lv dv : Value} (h : CInv H w wr k n s x y lv dv) (hH : w.heap.size = H) (hb : Below wr.heap.size wr w') : CInv H w w' k n s x y lv dv := by
  obtain ⟨h1, h2, h3, h4⟩ := h
  exact ⟨h1.trans (hb.mono (hH ▸ h1.size)), h2.keep (hb.block _ h2.lt), h3.keep (hb.block _ h3.lt), h4.keep (hb.block _ h4.lt)⟩
theorem grown_cell {W w4 : World} {row : Option Nat} {p : Addr} {v : Value} (hg : W.grownBy w4 row) (hc : W.cell? p = some v) (hne : some p.block ≠ row) : w4.cell? p = some v :=
  (World.cell?_of_block (w := W) (hg.block p.block (World.block_lt_of_cell? W p hc) hne)).trans hc
theorem grown_frozen {W w4 : World} {row : Option Nat} {p : Addr} {v : Value} (hg : W.grownBy w4 row) (hc : W.cell? p = some v) (hf : W.frozen? p = false) (hne : some p.block ≠ row) : w4.frozen? p = false :=
  (World.frozen?_of_block (w := W) (hg.block p.block (World.block_lt_of_cell? W p hc) hne)).trans hf
theorem info42 : (Try.prog.info? 59).map (fun i => (i.zero, i.size, i.bytes)) = some (some (.agg #[.string ByteArray.empty, .int .i64 0, .int .i64 0, .string ByteArray.empty, .slice none 0 0, .slice none 0 0]), 6, 96) := by kernel_rfl
theorem dict_step {H : Nat} {w w1 wr w2 W w4 : World} {k n : Int} {s : ByteArray} {xx yy lv : Value} {ky : Nat → ByteArray} {dv : Nat → T} {X Y : Nat → Value} {j2 lc g cap : Nat} {la : Option Addr} {x2 y2 : Value}
    (hlt3 : H + 3 ≤ w1.heap.size) (hc2 : CInv H w w2 k n s xx yy lv (.slice la j2 lc)) (hrv : RV (fun b => wr.heap.size ≤ b) w2 (dv j2) x2 y2) (hb2 : Below wr.heap.size wr w2) (hbs : Besides (H + 1 + 1) w1 wr)
    (hel : ∀ i, i < j2 → RV (fun b => w1.heap.size ≤ b ∧ (Value.slice la j2 lc).ownBlock ≠ some b) wr (dv i) (X i) (Y i)) (hown : wr.ownsRow w1.heap.size 59 6 (.slice la j2 lc) j2 (rowD ky dv X Y j2))
    (hWb : Below w2.heap.size w2 W) (hgrow : W.grownBy w4 (Value.slice la j2 lc).ownBlock) (hat : (Value.slice la j2 lc).ownBlock = some g ∨ g = W.heap.size)
    (hown4 : w4.ownsRow w1.heap.size 59 6 (.slice (some ⟨g, 0, none⟩) (j2 + 1) cap) (j2 + 1) (rowD ky dv X Y j2 ++ (.string (ky j2) :: cv (dv j2) x2 y2))) :
    CInv H w (w4.setCell ⟨H + 1 + 1, 4, none⟩ (.slice (some ⟨g, 0, none⟩) (j2 + 1) cap)) k n s xx yy lv (.slice (some ⟨g, 0, none⟩) (j2 + 1) cap) ∧ Besides (H + 1 + 1) w1 (w4.setCell ⟨H + 1 + 1, 4, none⟩ (.slice (some ⟨g, 0, none⟩) (j2 + 1) cap)) ∧ DInv w1.heap.size (w4.setCell ⟨H + 1 + 1, 4, none⟩ (.slice (some ⟨g, 0, none⟩) (j2 + 1) cap)) ky dv (j2 + 1) (.slice (some ⟨g, 0, none⟩) (j2 + 1) cap) := by
  have hlo := fun q (hq : (Value.slice la j2 lc).ownBlock = some q) => (hown.lt q hq)
  have s1 := hbs.size
  have s2 := hb2.size
  have s3 := hWb.size
  have blk : ∀ q, q < w1.heap.size → w4.heap[q]? = w2.heap[q]? := fun q hq =>
    (hgrow.block q (by omega) (fun e => by have := (hlo q e.symm).1; omega)).trans (hWb.block q (by omega))
  have st := rows_step (p := ⟨H + 1 + 1, 4, none⟩) (u := .slice (some ⟨g, 0, none⟩) (j2 + 1) cap) (n := j2 + 1) (cap := cap) s1 (fun q hq => (hlo q hq).2) hb2 hWb hgrow hat (show H + 1 + 1 < w1.heap.size by omega)
  have o4 := hc2.2.2.2.keep (blk _ (by omega))
  refine ⟨⟨?_, ?_, ?_, o4.set4 _⟩, ?_, upd X j2 x2, upd Y j2 y2, ?_, ?_⟩
  · exact ((hc2.1.trans (hWb.mono (by omega))).grown hgrow (by omega) (fun q hq => by have := (hlo q hq).1; omega)).setCell (by show H ≤ H + 1 + 1; omega) _
  · exact (hc2.2.1.keep (blk _ (by omega))).keep (Below.heap_setCell _ _ _ _ (by show H ≠ H + 1 + 1; omega))
  · exact (hc2.2.2.1.keep (blk _ (by omega))).keep (Below.heap_setCell _ _ _ _ (by show H + 1 ≠ H + 1 + 1; omega))
  · refine ⟨((hgrow.os.trans hWb.os).trans hb2.os).trans hbs.os, ((hgrow.tape.trans hWb.tape).trans hb2.tape).trans hbs.tape, ((hgrow.output.trans hWb.output).trans hb2.output).trans hbs.output, ?_, fun q hq hn => ?_⟩
    · have := hgrow.size
      simp [World.setCell]; omega
    · rw [Below.heap_setCell _ _ _ _ hn, blk q hq, hb2.block q (by omega), hbs.block q hq hn]
  · rw [rowD_succ]
    exact hown4.kept (grown_setCell _ _ _) (owns_ne hown4 (show H + 1 + 1 < w1.heap.size by omega))
  · intro i hi
    rcases Nat.lt_succ_iff_lt_or_eq.1 hi with h | rfl
    · rw [upd_lt h, upd_lt h]; exact st.1 _ _ _ (hel i h)
    · rw [upd_eq, upd_eq]; exact st.2 _ _ _ hrv
theorem rowL_len (l : Nat → T) (X Y : Nat → Value) (j : Nat) : (rowL l X Y j).length = j * 5 := by
  unfold rowL
  induction j with
  | zero => rfl
  | succ j ih => rw [List.range_succ, List.flatMap_append, List.length_append, ih]; simp [cv]; omega
theorem rowD_len (ky : Nat → ByteArray) (l : Nat → T) (X Y : Nat → Value) (j : Nat) : (rowD ky l X Y j).length = j * 6 := by
  unfold rowD
  induction j with
  | zero => rfl
  | succ j ih => rw [List.range_succ, List.flatMap_append, List.length_append, ih]; simp [cv]; omega
theorem rowL_get (l : Nat → T) (X Y : Nat → Value) (i r : Nat) (hr : r < 5) : ∀ j, i < j → (rowL l X Y j)[i * 5 + r]? = (cv (l i) (X i) (Y i))[r]? := by
  intro j
  induction j with
  | zero => intro h; omega
  | succ j ih =>
    intro h
    have e : rowL l X Y (j + 1) = rowL l X Y j ++ cv (l j) (X j) (Y j) := by unfold rowL; rw [List.range_succ, List.flatMap_append]; simp
    rw [e]
    by_cases hij : i = j
    · subst hij
      rw [List.getElem?_append_right (by rw [rowL_len]; omega), rowL_len]
      congr 1; omega
    · rw [List.getElem?_append_left (by rw [rowL_len]; omega)]
      exact ih (by omega)
theorem rowD_get (ky : Nat → ByteArray) (l : Nat → T) (X Y : Nat → Value) (i r : Nat) (hr : r < 6) : ∀ j, i < j → (rowD ky l X Y j)[i * 6 + r]? = (.string (ky i) :: cv (l i) (X i) (Y i))[r]? := by
  intro j
  induction j with
  | zero => intro h; omega
  | succ j ih =>
    intro h
    have e : rowD ky l X Y (j + 1) = rowD ky l X Y j ++ (.string (ky j) :: cv (l j) (X j) (Y j)) := by unfold rowD; rw [List.range_succ, List.flatMap_append]; simp
    rw [e]
    by_cases hij : i = j
    · subst hij
      rw [List.getElem?_append_right (by rw [rowD_len]; omega), rowD_len]
      congr 1; omega
    · rw [List.getElem?_append_left (by rw [rowD_len]; omega)]
      exact ih (by omega)
/-- the finished list reads as it should -/
theorem LInv.rl {B : Nat} {w w' : World} {l : Nat → T} {ln : Nat} {lv : Value} {S : Nat → Prop} (h : LInv B w l ln lv) (hs : w.heap.size ≤ w'.heap.size) (hb : ∀ b, B ≤ b → b < w.heap.size → w'.heap[b]? = w.heap[b]?) (hS : ∀ b, B ≤ b → S b) : RL S w' ln l lv := by
  obtain ⟨X, Y, hown, hel⟩ := h
  rcases hown.2 with ⟨rfl, rfl⟩ | ⟨g, cap, cur, rfl, hg1, hg2, _⟩
  · exact ⟨_, _, rfl, .inl rfl⟩
  have hg : g < w.heap.size := (Array.getElem?_eq_some_iff.1 hg2).1
  refine ⟨_, _, rfl, .inr ⟨g, 0, rfl, hS g hg1, Nat.lt_of_lt_of_le hg hs, fun i hi => ⟨X i, Y i, RV.move (fun b hb' _ => hS b hb'.1) hs (fun b hb' hl => hb b hb'.1 hl) _ _ _ (hel i hi), ?_⟩⟩⟩
  have c : ∀ r, r < 5 → w'.cell? ⟨g, i * 5 + r, none⟩ = (cv (l i) (X i) (Y i))[r]? := fun r hr => by
    rw [World.cell?_of_block (w := w) (a := ⟨g, i * 5 + r, none⟩) (hb g hg1 hg), hown.cellAt (i * 5 + r) (by omega), rowL_get _ _ _ _ _ hr _ hi]
  have c0 := c 0 (by omega)
  have c1 := c 1 (by omega)
  have c2 := c 2 (by omega)
  have c3 := c 3 (by omega)
  have c4 := c 4 (by omega)
  simp only [cv, Nat.add_zero] at c0 c1 c2 c3 c4
  simp only [Nat.zero_add]
  exact ⟨c0, c1, c2, c3, c4⟩
theorem DInv.rd {B : Nat} {w w' : World} {ky : Nat → ByteArray} {l : Nat → T} {dn : Nat} {dl : Value} {S : Nat → Prop} (h : DInv B w ky l dn dl) (hs : w.heap.size ≤ w'.heap.size) (hb : ∀ b, B ≤ b → b < w.heap.size → w'.heap[b]? = w.heap[b]?) (hS : ∀ b, B ≤ b → S b) : RD S w' dn ky l dl := by
  obtain ⟨X, Y, hown, hel⟩ := h
  rcases hown.2 with ⟨rfl, rfl⟩ | ⟨g, cap, cur, rfl, hg1, hg2, _⟩
  · exact ⟨_, _, rfl, .inl rfl⟩
  have hg : g < w.heap.size := (Array.getElem?_eq_some_iff.1 hg2).1
  refine ⟨_, _, rfl, .inr ⟨g, 0, rfl, hS g hg1, Nat.lt_of_lt_of_le hg hs, fun i hi => ⟨X i, Y i, RV.move (fun b hb' _ => hS b hb'.1) hs (fun b hb' hl => hb b hb'.1 hl) _ _ _ (hel i hi), ?_⟩⟩⟩
  have c : ∀ r, r < 6 → w'.cell? ⟨g, i * 6 + r, none⟩ = (.string (ky i) :: cv (l i) (X i) (Y i))[r]? := fun r hr => by
    rw [World.cell?_of_block (w := w) (a := ⟨g, i * 6 + r, none⟩) (hb g hg1 hg), hown.cellAt (i * 6 + r) (by omega), rowD_get _ _ _ _ _ _ hr _ hi]
  have c0 := c 0 (by omega)
  have c1 := c 1 (by omega)
  have c2 := c 2 (by omega)
  have c3 := c 3 (by omega)
  have c4 := c 4 (by omega)
  have c5 := c 5 (by omega)
  simp only [cv, Nat.add_zero] at c0 c1 c2 c3 c4 c5
  simp only [Nat.zero_add]
  exact ⟨c0, c1, c2, c3, c4, c5⟩
theorem info25s : (Try.prog.info? 56).map (·.size) = some 5 := by kernel_rfl
theorem besides5 (w : World) (b : Nat) (c0 c1 c2 c3 c4 : Value) : Besides b w (((((w.setCell ⟨b, 0, none⟩ c0).setCell ⟨b, 1, none⟩ c1).setCell ⟨b, 2, none⟩ c2).setCell ⟨b, 3, none⟩ c3).setCell ⟨b, 4, none⟩ c4) :=
  ((((Besides.setCell w ⟨b, 0, none⟩ c0).trans (Besides.setCell _ ⟨b, 1, none⟩ c1)).trans (Besides.setCell _ ⟨b, 2, none⟩ c2)).trans (Besides.setCell _ ⟨b, 3, none⟩ c3)).trans (Besides.setCell _ ⟨b, 4, none⟩ c4)
theorem copy_end {H : Nat} {w w1 w9 wE : World} {k n : Int} {s : ByteArray} {xx yy lv dl : Value} {ln dn : Nat} {l : Nat → T} {ky : Nat → ByteArray} {dv : Nat → T} (hS : w.heap.size = H) (hlt3 : H + 3 ≤ w1.heap.size)
    (hc : CInv H w w9 k n s xx yy lv dl) (hL : LInv (H + 3) w1 l ln lv) (hbs : Besides (H + 1 + 1) w1 w9) (hD : DInv w1.heap.size w9 ky dv dn dl) (hE : Besides (H + 1) w9 wE) :
    RV (fun b => w.heap.size ≤ b) wE (.mk k n s ln l dn ky dv) lv dl ∧ Below w.heap.size w wE := by
  have s1 := hbs.size
  have s2 := hE.size
  refine ⟨⟨hL.rl (Nat.le_trans s1 s2) (fun b h1 h2 => ?_) (fun b h => by omega), hD.rd s2 (fun b h1 h2 => ?_) (fun b h => by omega)⟩, ?_⟩
  · rw [hE.block b (by omega) (by omega), hbs.block b h2 (by omega)]
  · rw [hE.block b h2 (by omega)]
  · have h0 := hc.1
    exact ⟨hE.os.trans h0.os, hE.tape.trans h0.tape, hE.output.trans h0.output, Nat.le_trans h0.size s2, fun q hq => (hE.block q (by have := h0.size; omega) (by omega)).trans (h0.block q (by omega))⟩
end Go.Proofs.Ytldkecjfjcnkfaa
