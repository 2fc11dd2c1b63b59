import Derived.Test.YtnpcbcfjnhjmmaaGreatDoorV33
import Derived.Lib.AppendStr
import Derived.Lib.UnsafeStr
namespace Go.Proofs.YtnpcbcfjnhjmmaaGreatDoor
open Go.Shelf Go.RowKit Go.Deep
/-- a builder at b whose bytes lie from B on -/
def BD (B b : Nat) (l : List UInt8) (w : World) : Prop :=
  ∃ p v, (p = .pointer none ∨ p = .pointer (some ⟨b, 0, none⟩)) ∧ w.heap[b]? = some (.cells #[p, v] 94 (0, 0)) ∧ w.ownsRow B 5 1 v l.length (Lib.byteCells l)
/-- what a write leaves as it was: all but the builder below B, and all that is no row of cells -/
structure KX (B b : Nat) (w w' : World) : Prop where
  os : w'.os = w.os
  tape : w'.tape = w.tape
  output : w'.output = w.output
  size : w.heap.size ≤ w'.heap.size
  low : ∀ k, k < B → k < w.heap.size → k ≠ b → w'.heap[k]? = w.heap[k]?
  same : ∀ (k : Nat) (o : Obj), w.heap[k]? = some o → o.isCells = false → w'.heap[k]? = some o
theorem KX.refl (B b : Nat) (w : World) : KX B b w w := ⟨rfl, rfl, rfl, Nat.le_refl _, fun _ _ _ _ => rfl, fun _ _ h _ => h⟩
theorem KX.trans {B b : Nat} {u v w : World} (h : KX B b u v) (g : KX B b v w) : KX B b u w :=
  ⟨g.os.trans h.os, g.tape.trans h.tape, g.output.trans h.output, Nat.le_trans h.size g.size, fun k hk hl hn => (g.low k hk (Nat.lt_of_lt_of_le hl h.size) hn).trans (h.low k hk hl hn), fun k o hk ho => g.same k o (h.same k o hk ho) ho⟩
theorem KX.below {B b : Nat} {w w' : World} (h : Below w.heap.size w w') : KX B b w w' :=
  ⟨h.os, h.tape, h.output, h.size, fun k _ hl _ => h.block k hl, fun k _ hk _ => (h.block k (Array.getElem?_eq_some_iff.1 hk).1).trans hk⟩
theorem KX.set {B b : Nat} {w : World} {cs : Array Value} {t : TypeId} {f : Nat × Nat} (hb : w.heap[b]? = some (.cells cs t f)) (i : Nat) (u : Value) : KX B b w (w.setCell ⟨b, i, none⟩ u) :=
  ⟨rfl, rfl, rfl, by simp [World.setCell], fun k _ _ hn => Below.heap_setCell _ _ _ _ hn, fun k o hk ho => by
    rw [Below.heap_setCell _ _ _ _ (fun e => by simp only at e; rw [e, hb] at hk; cases hk; cases ho)]; exact hk⟩
theorem KX.grown {B b : Nat} {w w' : World} {v : Value} {n e : Nat} {xs : List Value} (ho : w.ownsRow B e 1 v n xs) (hg : w.grownBy w' v.ownBlock) : KX B b w w' :=
  ⟨hg.os, hg.tape, hg.output, hg.size, fun k hk hl _ => hg.block k hl (fun e => by have := (World.ownsRow.lt ho k e.symm).1; omega), fun k o hk hoo => (hg.block k (Array.getElem?_eq_some_iff.1 hk).1 (fun e => by
    rcases ho.2 with ⟨rfl, _⟩ | ⟨q, cap, cur, rfl, _, h3, _⟩
    · simp [Value.ownBlock] at e
    · obtain rfl : k = q := by simpa [Value.ownBlock] using e
      rw [h3] at hk; cases hk; cases hoo)).trans hk⟩
theorem BD.fresh (B : Nat) (w : World) : BD B w.heap.size [] (w.alloc (.cells #[.pointer none, .slice none 0 0] 94)) :=
  ⟨_, _, .inl rfl, World.alloc_heap_new w _, World.ownsRow_nil _ _ _ _⟩
theorem BD.lt {B b : Nat} {l : List UInt8} {w : World} (h : BD B b l w) : b < w.heap.size := by
  obtain ⟨p, v, _, h1, _⟩ := h
  exact (Array.getElem?_eq_some_iff.1 h1).1
theorem BD.ne {B b : Nat} (hbB : b < B) {w : World} {v : Value} {n e : Nat} {xs : List Value} (h : w.ownsRow B e 1 v n xs) : v.ownBlock ≠ some b := fun e' => by
  have := (World.ownsRow.lt h b e').1
  omega
theorem BD.bi {B b : Nat} {l : List UInt8} {w : World} (h : BD B b l w) (hbB : b < B) : BI b b l w := by
  obtain ⟨p, v, hp, h1, h2⟩ := h
  have h2' : w.ownsRow b 5 1 v (Lib.byteCells l).length (Lib.byteCells l) := by rw [Lib.byteCells_length]; exact rowMono h2 (by omega)
  rcases hp with rfl | rfl
  · exact .inl ⟨Nat.le_refl _, v, h1, h2', BD.ne hbB h2⟩
  · exact .inr ⟨Nat.le_refl _, v, h1, h2', BD.ne hbB h2⟩
theorem BD.kx {B b : Nat} {l : List UInt8} {w w' : World} (h : BD B b l w) (hb : w'.heap[b]? = w.heap[b]?) (hk : ∀ k, B ≤ k → k < w.heap.size → w'.heap[k]? = w.heap[k]?) : BD B b l w' := by
  obtain ⟨p, v, hp, h1, h2⟩ := h
  exact ⟨p, v, hp, hb.trans h1, own_keep h2 fun g e => hk g (World.ownsRow.lt h2 g e).1 (World.ownsRow.lt h2 g e).2⟩
theorem str_cells (s : ByteArray) : Lib.strCells s = Lib.byteCells s.data.toList := rfl
set_option maxHeartbeats 1000000 in
set_option maxRecDepth 100000 in
theorem copyCheck (B b : Nat) (l : List UInt8) (w : World) (h : BD B b l w) (hbB : b < B) :
    Calls Tryz.prog 77 #[.pointer (some ⟨b, 0, none⟩)] w fun e w' => e = .returned (.tuple #[]) ∧ (∃ v, w'.heap[b]? = some (.cells #[.pointer (some ⟨b, 0, none⟩), v] 94 (0, 0)) ∧ w'.ownsRow B 5 1 v l.length (Lib.byteCells l)) ∧ KX B b w w' := by
  obtain ⟨p, v, hp, h1, h2⟩ := h
  rcases hp with rfl | rfl
  · refine (Any.Builder_copyCheck_fresh { laysWB with } bxWB.toX72 b w (by simp [World.cell?, h1]) (by simp [World.shape?, h1]; rfl) (by simp [World.frozen?, h1])).mono ?_
    rintro e w' ⟨rfl, rfl⟩
    refine ⟨rfl, ⟨v, by simp [World.setCell, Array.getElem?_modify, h1], own_keep h2 fun g e => Below.heap_setCell _ _ _ _ (fun e' => BD.ne hbB h2 (by rw [e, e']))⟩, KX.set h1 0 _⟩
  · refine (Any.Builder_copyCheck_used { laysWB with } bxWB.toX72 b w (by simp [World.cell?, h1])).mono ?_
    rintro e w' ⟨rfl, rfl⟩
    exact ⟨rfl, ⟨v, h1, h2⟩, KX.refl _ _ _⟩
theorem ws_done {B b : Nat} (hbB : b < B) {l : List UInt8} {s : ByteArray} {w w1 w2 : World} {v v' : Value} (h1 : w1.heap[b]? = some (.cells #[.pointer (some ⟨b, 0, none⟩), v] 94 (0, 0))) (h2 : w1.ownsRow B 5 1 v l.length (Lib.byteCells l)) (hk : KX B b w w1)
    (hown' : w2.ownsRow B 5 1 v' (l.length + s.size) (Lib.byteCells l ++ Lib.strCells s)) (hgrow : w1.grownBy w2 v.ownBlock) :
    w2.frozen? ⟨b, 1, none⟩ = false ∧ w2.cell? ⟨b, 1, none⟩ = some v ∧ BD B b (l ++ s.data.toList) (w2.setCell ⟨b, 1, none⟩ v') ∧ KX B b w (w2.setCell ⟨b, 1, none⟩ v') := by
  have hb2 : w2.heap[b]? = some (.cells #[.pointer (some ⟨b, 0, none⟩), v] 94 (0, 0)) := by
    rw [hgrow.block b (Array.getElem?_eq_some_iff.1 h1).1 (fun e => BD.ne hbB h2 e.symm)]
    exact h1
  have e1 : Lib.byteCells l ++ Lib.strCells s = Lib.byteCells (l ++ s.data.toList) := by rw [str_cells]; simp [Lib.byteCells]
  have e2 : l.length + s.size = (l ++ s.data.toList).length := by rw [List.length_append, tl_len]
  rw [e1, e2] at hown'
  exact ⟨by simp [World.frozen?, hb2], by simp [World.cell?, hb2], ⟨_, v', .inr rfl, by simp [World.setCell, Array.getElem?_modify, hb2], own_keep hown' fun g e => Below.heap_setCell _ _ _ _ (fun e' => BD.ne hbB hown' (by rw [e, e']))⟩, (hk.trans (KX.grown h2 hgrow)).trans (KX.set hb2 1 _)⟩
set_option maxHeartbeats 2000000 in
set_option maxRecDepth 100000 in
theorem writeStr (B b : Nat) (l : List UInt8) (s : ByteArray) (w : World) (h : BD B b l w) (hbB : b < B) (hB : B ≤ w.heap.size) (hlen : l.length + s.size ≤ 140737488355328) :
    Calls Tryz.prog 52 #[.pointer (some ⟨b, 0, none⟩), .string s] w fun e w' => e = .returned (.tuple #[.int .i64 s.size, .nilIface]) ∧ BD B b (l ++ s.data.toList) w' ∧ KX B b w w' := by
  obtain ⟨i0, hi, hz0, hz1, hz2⟩ := info_parts info5
  have HC := Lib.hid (copyCheck B b l w h hbB)
  clear h
  go_enter Tryz.func52, Tryz.ntmps52
  go_wp2_with fail
  refine HC.out.mono ?_
  rintro e w1 ⟨rfl, ⟨v, h1, h2⟩, hk⟩
  have hHB : B ≤ w1.heap.size := Nat.le_trans hB hk.size
  have HK : Hid (KX B b w w1) := hk
  have c1 : w1.cell? ⟨b, 1, none⟩ = some v := by simp [World.cell?, h1]
  have HH : Hid (w1.heap[b]? = some (.cells #[.pointer (some ⟨b, 0, none⟩), v] 94 (0, 0))) := h1
  clear HC hk h1
  go_wp2_with (at_builtin; refine Lib.wpList_append_own_string _ rfl (.tmp 12) (.tmp 13) 92 9 rfl B 5 i0 Tryz.underlying92 Tryz.underlying9 hi hz0 hz1 hz2 v l.length (Lib.byteCells l) rfl h2 s rfl (by unfold maxLen; omega) hlen hHB ?_; (
    intro v' w2 hown' hgrow _
    have HF := Lib.hid (ws_done hbB HH.out h2 HK.out hown' hgrow)
    have f1 := HF.out.1
    have d1 := HF.out.2.1
    obtain ⟨ao, cap, rfl⟩ := own_form hown'
    clear hown' hgrow))
  go_ret2
  exact ⟨rfl, HF.out.2.2⟩
end Go.Proofs.YtnpcbcfjnhjmmaaGreatDoor
namespace Go.Proofs.YtnpcbcfjnhjmmaaGreatDoor
open Go.Shelf Go.RowKit Go.Deep
theorem BD.gr {B b : Nat} {l : List UInt8} {X Y : World} {row : Option Nat} (h : BD B b l X) (hg : X.grownBy Y row) (hr : ∀ r, row = some r → ∃ o : Obj, X.heap[r]? = some o ∧ o.isCells = false) : BD B b l Y := by
  obtain ⟨p, v, hp, h1, h2⟩ := h
  exact ⟨p, v, hp, (cells_gr h1 hg hr).trans h1, own_gr h2 hg hr⟩
theorem freeze_other (w : World) (p : Addr) (n k : Nat) (h : k ≠ p.block) : (w.freeze p n).heap[k]? = w.heap[k]? := by
  unfold World.freeze
  split
  · rfl
  · simp only [Array.getElem?_modify]
    rw [if_neg (fun e => h e.symm)]
theorem KX.freeze {B b : Nat} {w : World} {g n : Nat} (hg : B ≤ g) {cs : Array Value} {t : TypeId} {f : Nat × Nat} (hc : w.heap[g]? = some (.cells cs t f)) : KX B b w (w.freeze ⟨g, 0, none⟩ n) := by
  have h := Lib.below_freeze (Below.refl B w) (p := ⟨g, 0, none⟩) hg n
  exact ⟨h.os, h.tape, h.output, h.size, fun k hk _ _ => h.block k hk, fun k o hk ho => by
    rw [freeze_other _ _ _ _ (fun e => by simp only at e; rw [e, hc] at hk; cases hk; cases ho)]; exact hk⟩
set_option maxHeartbeats 1000000 in
set_option maxRecDepth 100000 in
theorem bStringK (B b : Nat) (l : List UInt8) (w : World) (h : BD B b l w) (h0 : l ≠ []) :
    Calls Tryz.prog 55 #[.pointer (some ⟨b, 0, none⟩)] w fun e w' => e = .returned (.string ⟨l.toArray⟩) ∧ KX B b w w' := by
  obtain ⟨p, v, hp, h1, hown⟩ := h
  have hl0 : l.length ≠ 0 := by simpa using h0
  obtain ⟨g, cap, cur, rfl, hbg, hg, hnc, hcm, hcs, _⟩ : ∃ g cap cur, v = .slice (some ⟨g, 0, none⟩) l.length cap ∧ B ≤ g ∧ w.heap[g]? = some (.cells cur 5 (0, 0)) ∧ l.length ≤ cap ∧ cap ≤ maxLen ∧ cur.size = cap * 1 ∧ cur.toList.take (l.length * 1) = Lib.byteCells l := by
    rcases hown.2 with ⟨_, hz⟩ | ⟨g, cap, cur, hv, r⟩
    · exact absurd hz hl0
    · exact ⟨g, cap, cur, hv, r⟩
  have c1 : w.drew.cell? ⟨b, 1, none⟩ = some (.slice (some ⟨g, 0, none⟩) l.length cap) := by
    have h9 : w.drew.heap[b]? = some (.cells #[p, .slice (some ⟨g, 0, none⟩) l.length cap] 94 (0, 0)) := h1
    simp [World.cell?, h9]
  have hSD := Lib.run_unsafeSliceData_row (P := Tryz.prog) w.drew #[92] 126 ⟨g, 0, none⟩ l.length cap (by omega)
  have hUS := Lib.run_unsafeString_row (P := Tryz.prog) w.drew 126 3 9 5 Tryz.underlying126 (by kernel_rfl) g cur.size (by have hg' : w.drew.heap[g]? = some (.cells cur 5 (0, 0)) := hg; simp [World.shape?, hg']) l h0 (by omega) (by unfold maxLen at hcm; omega) (fun j x hx => hown.cells (g := g) rfl j (.int .u8 x.toNat) (by simp [Lib.byteCells, hx]))
  have HF : Hid (KX B b w (w.drew.freeze ⟨g, 0, none⟩ l.length)) := KX.trans (show KX B b w w.drew from ⟨rfl, rfl, rfl, Nat.le_refl _, fun _ _ _ _ => rfl, fun _ _ hk _ => hk⟩) (KX.freeze (w := w.drew) hbg hg)
  clear hown h1 hp hg hcm hcs
  go_enter Tryz.func55, Tryz.ntmps55
  go_wp2
  go_region
  all_goals (go_wp2; go_ret; exact ⟨rfl, HF.out⟩)
set_option maxHeartbeats 1000000 in
theorem bLen (B b : Nat) (l : List UInt8) (w : World) (h : BD B b l w) :
    Calls Tryz.prog 54 #[.pointer (some ⟨b, 0, none⟩)] w fun e w' => e = .returned (.int .i64 l.length) ∧ w' = w := by
  obtain ⟨p, v, hp, h1, hown⟩ := h
  obtain ⟨ao, cap, rfl⟩ := own_form hown
  have c1 : w.cell? ⟨b, 1, none⟩ = some (.slice ao l.length cap) := by simp [World.cell?, h1]
  clear hown h1 hp
  go_enter Tryz.func54, Tryz.ntmps54
  go_wp2
  go_ret
  exact ⟨rfl, rfl⟩
theorem parameters (k : Lk) (tr pe on mo : Value) (w : World) :
    Calls Tryz.prog 51 #[.agg (lkC k.l k.nm tr pe on mo)] w fun e w' => e = .returned (.func (.func 74) #[] #[.pointer (some ⟨w.heap.size, 0, none⟩)]) ∧ LB w' w.heap.size k.l k.nm tr pe on mo ∧ Below w.heap.size w w' := by
  have LA : Hid (LB (w.alloc (Obj.cells (lkC k.l k.nm tr pe on mo) 28)) w.heap.size k.l k.nm tr pe on mo ∧ Below w.heap.size w (w.alloc (Obj.cells (lkC k.l k.nm tr pe on mo) 28))) := ⟨heap_new _ _, (Below.refl _ _).alloc (Nat.le_refl _) _⟩
  go_enter Tryz.func51, Tryz.ntmps51
  go_upto_region 1 with fail
  generalize (w.alloc (Obj.cells (lkC k.l k.nm tr pe on mo) 28)) = w0 at *
  go_wp2
  go_ret
  exact ⟨rfl, LA.out⟩
theorem KW.of {w0 : World} {g : Nat} {k : Lk} {tr pe on mo : Value} {W : World} (hb : Below w0.heap.size w0 W) (hg : LB W g k.l k.nm tr pe on mo) : KW w0 g k tr pe on mo W := ⟨hb, hg⟩
end Go.Proofs.YtnpcbcfjnhjmmaaGreatDoor
