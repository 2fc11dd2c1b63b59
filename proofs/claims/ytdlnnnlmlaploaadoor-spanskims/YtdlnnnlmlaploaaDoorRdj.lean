import Derived.Test.YtdlnnnlmlaploaaDoorRdc
namespace Go.Proofs.YtdlnnnlmlaploaaDoor
open Go.RowKit Go.Deep
theorem info73s : (Tryd.prog.info? 109).map (·.size) = some 5 := by kernel_rfl
/-- a frame that is open, in its block -/
def fob (w : World) (b : Nat) (c0 c1 c2 c3 c4 : Value) : Prop := blk w b 109 #[c0, c1, c2, c3, c4]
/-- where a row lies behind an append -/
def At (w : World) (v v' : Value) : Prop := v'.ownBlock = v.ownBlock ∨ ∃ g, v'.ownBlock = some g ∧ w.heap.size ≤ g
theorem fob.cells {w : World} {b : Nat} {c0 c1 c2 c3 c4 : Value} (h : fob w b c0 c1 c2 c3 c4) : (w.cell? ⟨b, 0, none⟩ = some c0 ∧ w.cell? ⟨b, 1, none⟩ = some c1 ∧ w.cell? ⟨b, 2, none⟩ = some c2 ∧ w.cell? ⟨b, 3, none⟩ = some c3 ∧ w.cell? ⟨b, 4, none⟩ = some c4) ∧ w.frozen? ⟨b, 0, none⟩ = false ∧ w.frozen? ⟨b, 1, none⟩ = false ∧ w.frozen? ⟨b, 2, none⟩ = false ∧ w.frozen? ⟨b, 3, none⟩ = false ∧ w.frozen? ⟨b, 4, none⟩ = false :=
  ⟨⟨blk.cell h 0, blk.cell h 1, blk.cell h 2, blk.cell h 3, blk.cell h 4⟩, blk.frozen h 0, blk.frozen h 1, blk.frozen h 2, blk.frozen h 3, blk.frozen h 4⟩
/-- two worlds that differ in blocks P alone -/
structure Diff (P : Nat → Prop) (w w' : World) : Prop where
  os : w'.os = w.os
  tape : w'.tape = w.tape
  output : w'.output = w.output
  size : w'.heap.size = w.heap.size
  block : ∀ k, ¬ P k → w'.heap[k]? = w.heap[k]?
theorem Diff.refl (P : Nat → Prop) (w : World) : Diff P w w := ⟨rfl, rfl, rfl, rfl, fun _ _ => rfl⟩
theorem Diff.set {P : Nat → Prop} {w w' : World} (h : Diff P w w') (b i : Nat) (v : Value) (hb : P b) : Diff P w (w'.setCell ⟨b, i, none⟩ v) :=
  ⟨h.os, h.tape, h.output, by simp [World.setCell, h.size], fun k hk => by rw [Below.heap_setCell _ _ _ _ (fun e => hk (by rw [e]; exact hb))]; exact h.block k hk⟩
theorem jend {w : World} {H b : Nat} {u c0 c1 c2 c3 c4 b0 b1 b2 b3 b4 : Value} (h : fob w b c0 c1 c2 c3 c4) (hn : b ≠ H) : fob ((((((w.setCell ⟨H, 1, none⟩ u).setCell ⟨b, 0, none⟩ b0).setCell ⟨b, 1, none⟩ b1).setCell ⟨b, 2, none⟩ b2).setCell ⟨b, 3, none⟩ b3).setCell ⟨b, 4, none⟩ b4) b b0 b1 b2 b3 b4 := by
  have h1 : fob (w.setCell ⟨H, 1, none⟩ u) b c0 c1 c2 c3 c4 := blk.keep h (Below.heap_setCell _ _ _ _ hn)
  exact ((((blk.set h1 0 b0).set 1 b1).set 2 b2).set 3 b3).set 4 b4
/-- what joined answers, made final -/
theorem joined_end {w w' wf : World} {B e sz n' : Nat} {lv lv' : Value} {xs : List Value} (h1 : w'.ownsRow B e sz lv' n' xs) (h2 : w.grownBy w' lv.ownBlock) (h3 : lv'.ownBlock = lv.ownBlock ∨ ∃ g, lv'.ownBlock = some g ∧ w.heap.size + 4 ≤ g) (hl : ∀ q, w.heap.size ≤ q → some q ≠ lv.ownBlock)
    (hd : Diff (fun k => k = w.heap.size ∨ k = w.heap.size + 1 + 1) w' wf) : wf.ownsRow B e sz lv' n' xs ∧ w.grownBy wf lv.ownBlock ∧ At w lv lv' := by
  refine ⟨⟨h1.1, ?_⟩, ⟨hd.os.trans h2.os, hd.tape.trans h2.tape, hd.output.trans h2.output, by rw [hd.size]; exact h2.size, fun k hk hn => (hd.block k (by omega)).trans (h2.block k hk hn)⟩, ?_⟩
  · rcases h1.2 with h | ⟨g, cap, cur, q1, q2, q3, q4⟩
    · exact .inl h
    · refine .inr ⟨g, cap, cur, q1, q2, (hd.block g ?_).trans q3, q4⟩
      have hg : lv'.ownBlock = some g := by rw [q1]; rfl
      rcases h3 with h | ⟨g', h, h'⟩
      · intro e
        exact hl g (by omega) (by rw [← hg, h])
      · have : g = g' := by rw [hg] at h; exact Option.some.inj h
        omega
  · rcases h3 with h | ⟨g', h, h'⟩
    · exact .inl h
    · exact .inr ⟨g', h, by omega⟩
theorem joined_boxes (K0 : Int) (L D : Value) (s : ByteArray) (m : Bool) (k n : Int) (vs : ByteArray) (x y : Value) (tmp : Obj) (w : World) :
    Below w.heap.size w ((((w.alloc (Obj.cells #[.int .i64 K0, L, D, .string s, .bool m] 109)).alloc (Obj.cells #[.int .i64 k, .int .i64 n, .string vs, x, y] 60)).alloc (Obj.cells #[.int .i64 0, .slice none 0 0, .slice none 0 0, .string { data := #[] }, .bool false] 109)).alloc tmp) ∧
    fob ((((w.alloc (Obj.cells #[.int .i64 K0, L, D, .string s, .bool m] 109)).alloc (Obj.cells #[.int .i64 k, .int .i64 n, .string vs, x, y] 60)).alloc (Obj.cells #[.int .i64 0, .slice none 0 0, .slice none 0 0, .string { data := #[] }, .bool false] 109)).alloc tmp) w.heap.size (.int .i64 K0) L D (.string s) (.bool m) ∧
    fob ((((w.alloc (Obj.cells #[.int .i64 K0, L, D, .string s, .bool m] 109)).alloc (Obj.cells #[.int .i64 k, .int .i64 n, .string vs, x, y] 60)).alloc (Obj.cells #[.int .i64 0, .slice none 0 0, .slice none 0 0, .string { data := #[] }, .bool false] 109)).alloc tmp) (w.heap.size + 1 + 1) (.int .i64 0) (.slice none 0 0) (.slice none 0 0) (.string { data := #[] }) (.bool false) ∧
    ((((w.alloc (Obj.cells #[.int .i64 K0, L, D, .string s, .bool m] 109)).alloc (Obj.cells #[.int .i64 k, .int .i64 n, .string vs, x, y] 60)).alloc (Obj.cells #[.int .i64 0, .slice none 0 0, .slice none 0 0, .string { data := #[] }, .bool false] 109)).alloc tmp).heap[w.heap.size + 1 + 1 + 1]? = some tmp ∧
    ((((w.alloc (Obj.cells #[.int .i64 K0, L, D, .string s, .bool m] 109)).alloc (Obj.cells #[.int .i64 k, .int .i64 n, .string vs, x, y] 60)).alloc (Obj.cells #[.int .i64 0, .slice none 0 0, .slice none 0 0, .string { data := #[] }, .bool false] 109)).alloc tmp).heap.size = w.heap.size + 1 + 1 + 1 + 1 := by
  generalize ha : (w.alloc (Obj.cells #[.int .i64 K0, L, D, .string s, .bool m] 109)) = wa
  have sa : wa.heap.size = w.heap.size + 1 := by rw [← ha]; simp
  have oa : fob wa w.heap.size (.int .i64 K0) L D (.string s) (.bool m) := by rw [← ha]; exact heap_new _ _
  have ba : Below w.heap.size w wa := by rw [← ha]; exact (Below.refl _ _).alloc (Nat.le_refl _) _
  generalize hb : wa.alloc (Obj.cells #[.int .i64 k, .int .i64 n, .string vs, x, y] 60) = wb
  have sb : wb.heap.size = w.heap.size + 1 + 1 := by rw [← hb]; simp [sa]
  have bb : Below wa.heap.size wa wb := by rw [← hb]; exact (Below.refl _ _).alloc (Nat.le_refl _) _
  generalize hcc : wb.alloc (Obj.cells #[.int .i64 0, .slice none 0 0, .slice none 0 0, .string { data := #[] }, .bool false] 109) = wc
  have sc : wc.heap.size = w.heap.size + 1 + 1 + 1 := by rw [← hcc]; simp [sb]
  have oc : fob wc (w.heap.size + 1 + 1) (.int .i64 0) (.slice none 0 0) (.slice none 0 0) (.string { data := #[] }) (.bool false) := by rw [← hcc, ← sb]; exact heap_new _ _
  have bc : Below wb.heap.size wb wc := by rw [← hcc]; exact (Below.refl _ _).alloc (Nat.le_refl _) _
  generalize hd : wc.alloc tmp = wd
  have sd : wd.heap.size = w.heap.size + 1 + 1 + 1 + 1 := by rw [← hd]; simp [sc]
  have od : wd.heap[w.heap.size + 1 + 1 + 1]? = some tmp := by rw [← hd, ← sc]; exact heap_new _ _
  have bd : Below wc.heap.size wc wd := by rw [← hd]; exact (Below.refl _ _).alloc (Nat.le_refl _) _
  exact ⟨((ba.trans (bb.mono (by omega))).trans (bc.mono (by omega))).trans (bd.mono (by omega)), ((oa.keep (bb.block _ oa.lt)).keep (bc.block _ (by omega))).keep (bd.block _ (by omega)), oc.keep (bd.block _ oc.lt), od, sd⟩
theorem jend3 {w : World} {H b : Nat} {u u3 u4 c0 c1 c2 c3 c4 b0 b1 b2 b3 b4 : Value} (h : fob w b c0 c1 c2 c3 c4) (hn : b ≠ H) : fob ((((((((w.setCell ⟨H, 2, none⟩ u).setCell ⟨H, 3, none⟩ u3).setCell ⟨H, 4, none⟩ u4).setCell ⟨b, 0, none⟩ b0).setCell ⟨b, 1, none⟩ b1).setCell ⟨b, 2, none⟩ b2).setCell ⟨b, 3, none⟩ b3).setCell ⟨b, 4, none⟩ b4) b b0 b1 b2 b3 b4 := by
  have h1 : fob (((w.setCell ⟨H, 2, none⟩ u).setCell ⟨H, 3, none⟩ u3).setCell ⟨H, 4, none⟩ u4) b c0 c1 c2 c3 c4 := blk.keep h (by rw [Below.heap_setCell _ _ _ _ hn, Below.heap_setCell _ _ _ _ hn, Below.heap_setCell _ _ _ _ hn])
  exact ((((blk.set h1 0 b0).set 1 b1).set 2 b2).set 3 b3).set 4 b4
set_option maxRecDepth 10000 in
set_option maxHeartbeats 1000000 in
theorem joined39L (s vs : ByteArray) (m : Bool) (k n : Int) (w : World) (da xa ya : Option Addr) (dn dc xn xc yn yc B ln : Nat) (lv : Value) (us : List Value) (hown : w.ownsRow B 60 5 lv ln us) (hB : B ≤ w.heap.size) (hlim : ln ≤ 2097152) :
    Calls Tryd.prog 69 #[.agg #[.int .i64 3, lv, .slice da dn dc, .string s, .bool m], .agg #[.int .i64 k, .int .i64 n, .string vs, .slice xa xn xc, .slice ya yn yc]] w fun e w' => ∃ la' lc', e = .returned (.agg #[.int .i64 3, .slice la' (ln + 1) lc', .slice da dn dc, .string s, .bool m]) ∧
      w'.ownsRow B 60 5 (.slice la' (ln + 1) lc') (ln + 1) (us ++ [.int .i64 k, .int .i64 n, .string vs, .slice xa xn xc, .slice ya yn yc]) ∧ w.grownBy w' lv.ownBlock ∧ At w lv (.slice la' (ln + 1) lc') := by
  obtain ⟨la, lc, rfl⟩ := ownForm hown
  obtain ⟨i0, hi, hz0, hz1, hz2⟩ := info_parts info25
  obtain ⟨jb1, jb2, jb3, jb4, jb5⟩ := joined_boxes 3 (.slice la ln lc) (.slice da dn dc) s m k n vs (.slice xa xn xc) (.slice ya yn yc) (Obj.cells #[.int .i64 k, .int .i64 n, .string vs, .slice xa xn xc, .slice ya yn yc] 60) w
  have jb4' : blk ((((w.alloc (Obj.cells #[.int .i64 3, .slice la ln lc, .slice da dn dc, .string s, .bool m] 109)).alloc (Obj.cells #[.int .i64 k, .int .i64 n, .string vs, .slice xa xn xc, .slice ya yn yc] 60)).alloc (Obj.cells #[.int .i64 0, .slice none 0 0, .slice none 0 0, .string { data := #[] }, .bool false] 109)).alloc (Obj.cells #[.int .i64 k, .int .i64 n, .string vs, .slice xa xn xc, .slice ya yn yc] 60)) (w.heap.size + 1 + 1 + 1) 60 (List.toArray [.int .i64 k, .int .i64 n, .string vs, .slice xa xn xc, .slice ya yn yc]) := jb4
  have hown' := own_keep hown (fun x _ hx => jb1.block x hx)
  obtain ⟨v', w', hr, hown2, hgrow, _, hatb⟩ := run_append_own_at (P := Tryd.prog) ((((w.alloc (Obj.cells #[.int .i64 3, .slice la ln lc, .slice da dn dc, .string s, .bool m] 109)).alloc (Obj.cells #[.int .i64 k, .int .i64 n, .string vs, .slice xa xn xc, .slice ya yn yc] 60)).alloc (Obj.cells #[.int .i64 0, .slice none 0 0, .slice none 0 0, .string { data := #[] }, .bool false] 109)).alloc (Obj.cells #[.int .i64 k, .int .i64 n, .string vs, .slice xa xn xc, .slice ya yn yc] 60)) B 57 57 60 i0 _ 5 80 Tryd.underlying57 hi hz0 hz1 hz2 rfl (by omega) (.slice la ln lc) ln us hown' ⟨w.heap.size + 1 + 1 + 1, 0, none⟩ 1 1 [.int .i64 k, .int .i64 n, .string vs, .slice xa xn xc, .slice ya yn yc] rfl
    (fun j u hu => by
      match j, hu with
      | 0, hu => simp at hu; subst hu; simpa [Addr.add] using jb4'.cell 0
      | 1, hu => simp at hu; subst hu; simpa [Addr.add] using jb4'.cell 1
      | 2, hu => simp at hu; subst hu; simpa [Addr.add] using jb4'.cell 2
      | 3, hu => simp at hu; subst hu; simpa [Addr.add] using jb4'.cell 3
      | 4, hu => simp at hu; subst hu; simpa [Addr.add] using jb4'.cell 4) (fun u hu => by simp at hu; rcases hu with rfl | rfl | rfl | rfl | rfl <;> rfl) (by unfold maxLen; omega) (by omega) (by omega)
  obtain ⟨va, vc, rfl⟩ := ownForm hown2
  have hne : ∀ q, w.heap.size ≤ q → some q ≠ (Value.ownBlock (.slice la ln lc)) := fun q hq e => by
    have := (own_lt hown e.symm).2; omega
  have h2 : fob w' w.heap.size _ _ _ _ _ := jb2.keep (hgrow.block _ (by omega) (hne _ (Nat.le_refl _)))
  have h3 : fob w' (w.heap.size + 1 + 1) _ _ _ _ _ := jb3.keep (hgrow.block _ (by omega) (hne _ (by omega)))
  have HZ : Hid (w'.ownsRow B 60 5 (.slice va (ln + 1) vc) (ln + 1) (us ++ [.int .i64 k, .int .i64 n, .string vs, .slice xa xn xc, .slice ya yn yc]) ∧ w.grownBy w' (Value.ownBlock (.slice la ln lc)) ∧ (Value.ownBlock (.slice va (ln + 1) vc) = Value.ownBlock (.slice la ln lc) ∨ ∃ g, Value.ownBlock (.slice va (ln + 1) vc) = some g ∧ w.heap.size + 4 ≤ g) ∧ (∀ q, w.heap.size ≤ q → some q ≠ (Value.ownBlock (.slice la ln lc))) ∧ fob w' w.heap.size (.int .i64 3) (.slice la ln lc) (.slice da dn dc) (.string s) (.bool m) ∧ fob w' (w.heap.size + 1 + 1) (.int .i64 0) (.slice none 0 0) (.slice none 0 0) (.string { data := #[] }) (.bool false)) := by
    refine ⟨hown2, ⟨hgrow.os.trans jb1.os, hgrow.tape.trans jb1.tape, hgrow.output.trans jb1.output, Nat.le_trans jb1.size hgrow.size, fun q hq hn => (hgrow.block q (by omega) hn).trans (jb1.block q hq)⟩, ?_, hne, h2, h3⟩
    rcases hatb with h | h
    · exact .inl h
    · exact .inr ⟨_, h, by omega⟩
  obtain ⟨⟨a0, a1, a2, a3, a4⟩, g0, g1, g2, g3, g4⟩ := h2.cells
  obtain ⟨⟨b0, b1, b2, b3, b4⟩, f0, f1, f2, f3, f4⟩ := h3.cells
  clear hown hown' hi hz0 hz1 hz2 jb1 jb2 jb3 jb4 jb4' jb5 hown2 hgrow hatb hne h2 h3 i0 hlim hB
  go_enter Tryd.func69, Tryd.ntmps69
  go_wp2_with (at_builtin; refine Lib.wpList_append_run _ rfl _ _ 57 57 rfl _ _ rfl rfl _ _ hr ?_)
  obtain ⟨z1, z2, z3, z4, z5, z6⟩ := HZ.out
  refine bodyPost_ret (v := .agg #[.int .i64 3, .slice va (ln + 1) vc, .slice da dn dc, .string s, .bool m]) (results_cell_row Tryd.results69 _ _ (w.heap.size + 1 + 1) 109 _ (0, 0) _ rfl (jend z6 (by omega)) Tryd.underlying109 rfl info73s) rfl ?_
  exact ⟨va, vc, rfl, joined_end z1 z2 z3 z4 (((((((Diff.refl _ _).set _ _ _ (.inl rfl)).set _ _ _ (.inr rfl)).set _ _ _ (.inr rfl)).set _ _ _ (.inr rfl)).set _ _ _ (.inr rfl)).set _ _ _ (.inr rfl))⟩
set_option maxRecDepth 10000 in
set_option maxHeartbeats 1000000 in
theorem joined39D (s vs : ByteArray) (m : Bool) (k n : Int) (w : World) (la xa ya : Option Addr) (ln lc xn xc yn yc B dn : Nat) (lv : Value) (us : List Value) (hown : w.ownsRow B 84 6 lv dn us) (hB : B ≤ w.heap.size) (hlim : dn ≤ 2097152) :
    Calls Tryd.prog 69 #[.agg #[.int .i64 4, .slice la ln lc, lv, .string s, .bool m], .agg #[.int .i64 k, .int .i64 n, .string vs, .slice xa xn xc, .slice ya yn yc]] w fun e w' => ∃ da' dc', e = .returned (.agg #[.int .i64 4, .slice la ln lc, .slice da' (dn + 1) dc', .string { data := #[] }, .bool false]) ∧
      w'.ownsRow B 84 6 (.slice da' (dn + 1) dc') (dn + 1) (us ++ [.string s, .int .i64 k, .int .i64 n, .string vs, .slice xa xn xc, .slice ya yn yc]) ∧ w.grownBy w' lv.ownBlock ∧ At w lv (.slice da' (dn + 1) dc') := by
  obtain ⟨da, dc, rfl⟩ := ownForm hown
  obtain ⟨i0, hi, hz0, hz1, hz2⟩ := info_parts info42
  obtain ⟨jb1, jb2, jb3, jb4, jb5⟩ := joined_boxes 4 (.slice la ln lc) (.slice da dn dc) s m k n vs (.slice xa xn xc) (.slice ya yn yc) (Obj.cells #[.string s, .int .i64 k, .int .i64 n, .string vs, .slice xa xn xc, .slice ya yn yc] 84) w
  have jb4' : blk ((((w.alloc (Obj.cells #[.int .i64 4, .slice la ln lc, .slice da dn dc, .string s, .bool m] 109)).alloc (Obj.cells #[.int .i64 k, .int .i64 n, .string vs, .slice xa xn xc, .slice ya yn yc] 60)).alloc (Obj.cells #[.int .i64 0, .slice none 0 0, .slice none 0 0, .string { data := #[] }, .bool false] 109)).alloc (Obj.cells #[.string s, .int .i64 k, .int .i64 n, .string vs, .slice xa xn xc, .slice ya yn yc] 84)) (w.heap.size + 1 + 1 + 1) 84 (List.toArray [.string s, .int .i64 k, .int .i64 n, .string vs, .slice xa xn xc, .slice ya yn yc]) := jb4
  have hown' := own_keep hown (fun x _ hx => jb1.block x hx)
  obtain ⟨v', w', hr, hown2, hgrow, _, hatb⟩ := run_append_own_at (P := Tryd.prog) ((((w.alloc (Obj.cells #[.int .i64 4, .slice la ln lc, .slice da dn dc, .string s, .bool m] 109)).alloc (Obj.cells #[.int .i64 k, .int .i64 n, .string vs, .slice xa xn xc, .slice ya yn yc] 60)).alloc (Obj.cells #[.int .i64 0, .slice none 0 0, .slice none 0 0, .string { data := #[] }, .bool false] 109)).alloc (Obj.cells #[.string s, .int .i64 k, .int .i64 n, .string vs, .slice xa xn xc, .slice ya yn yc] 84)) B 58 58 84 i0 _ 6 96 Tryd.underlying58 hi hz0 hz1 hz2 rfl (by omega) (.slice da dn dc) dn us hown' ⟨w.heap.size + 1 + 1 + 1, 0, none⟩ 1 1 [.string s, .int .i64 k, .int .i64 n, .string vs, .slice xa xn xc, .slice ya yn yc] rfl
    (fun j u hu => by
      match j, hu with
      | 0, hu => simp at hu; subst hu; simpa [Addr.add] using jb4'.cell 0
      | 1, hu => simp at hu; subst hu; simpa [Addr.add] using jb4'.cell 1
      | 2, hu => simp at hu; subst hu; simpa [Addr.add] using jb4'.cell 2
      | 3, hu => simp at hu; subst hu; simpa [Addr.add] using jb4'.cell 3
      | 4, hu => simp at hu; subst hu; simpa [Addr.add] using jb4'.cell 4
      | 5, hu => simp at hu; subst hu; simpa [Addr.add] using jb4'.cell 5) (fun u hu => by simp at hu; rcases hu with rfl | rfl | rfl | rfl | rfl | rfl <;> rfl) (by unfold maxLen; omega) (by omega) (by omega)
  obtain ⟨va, vc, rfl⟩ := ownForm hown2
  have hne : ∀ q, w.heap.size ≤ q → some q ≠ (Value.ownBlock (.slice da dn dc)) := fun q hq e => by
    have := (own_lt hown e.symm).2; omega
  have h2 : fob w' w.heap.size _ _ _ _ _ := jb2.keep (hgrow.block _ (by omega) (hne _ (Nat.le_refl _)))
  have h3 : fob w' (w.heap.size + 1 + 1) _ _ _ _ _ := jb3.keep (hgrow.block _ (by omega) (hne _ (by omega)))
  have HZ : Hid (w'.ownsRow B 84 6 (.slice va (dn + 1) vc) (dn + 1) (us ++ [.string s, .int .i64 k, .int .i64 n, .string vs, .slice xa xn xc, .slice ya yn yc]) ∧ w.grownBy w' (Value.ownBlock (.slice da dn dc)) ∧ (Value.ownBlock (.slice va (dn + 1) vc) = Value.ownBlock (.slice da dn dc) ∨ ∃ g, Value.ownBlock (.slice va (dn + 1) vc) = some g ∧ w.heap.size + 4 ≤ g) ∧ (∀ q, w.heap.size ≤ q → some q ≠ (Value.ownBlock (.slice da dn dc))) ∧ fob w' w.heap.size (.int .i64 4) (.slice la ln lc) (.slice da dn dc) (.string s) (.bool m) ∧ fob w' (w.heap.size + 1 + 1) (.int .i64 0) (.slice none 0 0) (.slice none 0 0) (.string { data := #[] }) (.bool false)) := by
    refine ⟨hown2, ⟨hgrow.os.trans jb1.os, hgrow.tape.trans jb1.tape, hgrow.output.trans jb1.output, Nat.le_trans jb1.size hgrow.size, fun q hq hn => (hgrow.block q (by omega) hn).trans (jb1.block q hq)⟩, ?_, hne, h2, h3⟩
    rcases hatb with h | h
    · exact .inl h
    · exact .inr ⟨_, h, by omega⟩
  obtain ⟨⟨a0, a1, a2, a3, a4⟩, g0, g1, g2, g3, g4⟩ := h2.cells
  obtain ⟨⟨b0, b1, b2, b3, b4⟩, f0, f1, f2, f3, f4⟩ := h3.cells
  clear hown hown' hi hz0 hz1 hz2 jb1 jb2 jb3 jb4 jb4' jb5 hown2 hgrow hatb hne h2 h3 i0 hlim hB
  go_enter Tryd.func69, Tryd.ntmps69
  go_wp2_with (at_builtin; refine Lib.wpList_append_run _ rfl _ _ 58 58 rfl _ _ rfl rfl _ _ hr ?_)
  obtain ⟨z1, z2, z3, z4, z5, z6⟩ := HZ.out
  refine bodyPost_ret (v := .agg #[.int .i64 4, .slice la ln lc, .slice va (dn + 1) vc, .string { data := #[] }, .bool false]) (results_cell_row Tryd.results69 _ _ (w.heap.size + 1 + 1) 109 _ (0, 0) _ rfl (jend3 z6 (by omega)) Tryd.underlying109 rfl info73s) rfl ?_
  exact ⟨va, vc, rfl, joined_end z1 z2 z3 z4 (((((((((Diff.refl _ _).set _ _ _ (.inl rfl)).set _ _ _ (.inl rfl)).set _ _ _ (.inl rfl)).set _ _ _ (.inr rfl)).set _ _ _ (.inr rfl)).set _ _ _ (.inr rfl)).set _ _ _ (.inr rfl)).set _ _ _ (.inr rfl))⟩
end Go.Proofs.YtdlnnnlmlaploaaDoor
