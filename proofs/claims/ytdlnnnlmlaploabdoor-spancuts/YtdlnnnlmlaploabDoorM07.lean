import Derived.Test.YtdlnnnlmlaploabDoorM06
import Derived.Test.YtdlnnnlmlaploabDoorM05
import Derived.Test.YtdlnnnlmlaploabDoorM04
namespace Go.Proofs.YtdlnnnlmlaploabDoor
open Go.RowKit Go.Deep
/-! ### Where a leaf ends -/
theorem digs_le {b : List UInt8} {en : UInt8} {i p : Nat} {e : Int} (hi : i ≤ b.length) (h : digs b en i = .bad p e) : p ≤ b.length := by
  have := run_le hi
  unfold digs at h
  split at h
  · cases h; exact Nat.le_refl _
  · split at h
    · cases h; exact this
    · cases h
theorem strg_le {b : List UInt8} {i p : Nat} {e : Int} (hi : i ≤ b.length) (h : strg b i = .bad p e) : p ≤ b.length := by
  unfold strg at h
  cases hd : digs b 58 i with
  | bad p' e' => rw [hd] at h; cases h; exact digs_le hi hd
  | ok d j =>
    rw [hd] at h
    dsimp only at h
    split at h
    · cases h; exact hi
    · split at h
      · split at h
        · cases h; exact Nat.le_refl _
        · cases h
      · cases h; exact Nat.le_refl _
theorem numb_le {b : List UInt8} {i p : Nat} {e : Int} (hi : i ≤ b.length) (h : numb b i = .bad p e) : p ≤ b.length := by
  unfold numb at h
  split at h
  · cases h; exact Nat.le_refl _
  · rename_i hl
    generalize hs : (if byt b (i + 1) = 45 then [45] else ([] : List UInt8)) = sg at h
    have hsl : sg.length ≤ 1 := by rw [← hs]; split <;> simp
    dsimp only at h
    cases hd : digs b 101 (i + 1 + sg.length) with
    | bad p' e' => rw [hd] at h; cases h; exact digs_le (by omega) hd
    | ok d j =>
      rw [hd] at h
      dsimp only at h
      split at h
      · split at h
        · cases h; exact hi
        · cases h
      · cases h; exact hi
theorem leaf_bad {b : List UInt8} {i p : Nat} {e : Int} (hi : i ≤ b.length) (h1 : byt b i ≠ 108) (h2 : byt b i ≠ 100) (h : leafO b i = .bad p e) : i + p ≤ b.length := by
  by_cases hl : i < b.length
  · rw [leaf_eq hl h1 h2] at h
    have hk : p ≤ (b.drop i).length := by
      unfold scal at h
      split at h
      · cases hn : numb (b.drop i) 0 with
        | bad p' e' => rw [hn] at h; cases h; exact numb_le (Nat.zero_le _) hn
        | ok n j => rw [hn] at h; cases h
      · split at h
        · cases hn : strg (b.drop i) 0 with
          | bad p' e' => rw [hn] at h; cases h; exact strg_le (Nat.zero_le _) hn
          | ok n j => rw [hn] at h; cases h
        · cases h; exact Nat.zero_le _
    rw [List.length_drop] at hk; omega
  · rw [leaf_end (by omega)] at h; cases h; omega
/-- a leaf: one span, and its text is what is read -/
theorem leaf_val {b : List UInt8} {i k : Nat} {t : T} (hi : i ≤ b.length) (hlim : b.length ≤ 1048576) (h1 : byt b i ≠ 108) (h2 : byt b i ≠ 100) (h : leafO b i = .val t k) :
    i + k ≤ b.length ∧ (txt t).length = k ∧ (t = tNum t.n ∨ t = tStr t.s) := by
  have hr : Run (b.drop i) (.go [] 0) (.val t k) := Run.one h
  obtain ⟨q1, q2, _⟩ := run_txt (by rw [List.length_drop]; omega) hr
  refine ⟨by rw [List.length_drop] at q1; omega, by rw [← q2, List.length_take]; omega, ?_⟩
  by_cases hl : i < b.length
  · rw [leaf_eq hl h1 h2] at h
    unfold scal at h
    split at h
    · cases hn : numb (b.drop i) 0 with
      | bad p' e' => rw [hn] at h; cases h
      | ok n j => rw [hn] at h; injection h with h; subst h; exact .inl rfl
    · split at h
      · cases hn : strg (b.drop i) 0 with
        | bad p' e' => rw [hn] at h; cases h
        | ok s j => rw [hn] at h; injection h with h; subst h; exact .inr rfl
      · cases h
  · rw [leaf_end (by omega)] at h; cases h
theorem leaf_walk {t : T} (h : t = tNum t.n ∨ t = tStr t.s) (here : Nat) (sp : Sp) : walkT t here sp = [{ sp with kind := t.k, to := sp.fr + (txt t).length }] := by
  rcases h with h | h
  · rw [h]; rfl
  · rw [h]; rfl
/-- what Prefix answers at a leaf -/
theorem leaf_out {b : List UInt8} {i k : Nat} {t : T} {er : Int} (hlim : b.length ≤ 1048576) (h1 : byt b i ≠ 108) (h2 : byt b i ≠ 100) (h : OUT (b.drop i) t k er) :
    (er = 0 ∧ leafO b i = .val t k) ∨ (er ≠ 0 ∧ leafO b i = .bad k er) := by
  rcases h with ⟨rfl, h, _⟩ | ⟨_, ⟨h, _⟩ | ⟨h, _⟩⟩
  · exact .inl ⟨rfl, (leaf_run h1 h2 h trivial).symm⟩
  · refine .inr ⟨?_, (leaf_run h1 h2 h trivial).symm⟩
    have := run_er h; omega
  · rw [List.length_drop] at h; omega
end Go.Proofs.YtdlnnnlmlaploabDoor
namespace Go.Proofs.YtdlnnnlmlaploabDoor
open Go.RowKit Go.Deep
theorem info73s : (Tryd.prog.info? 144).map (·.size) = some 5 := by kernel_rfl
/-- a frame that is open, in its block -/
def fob (w : World) (b : Nat) (c0 c1 c2 c3 c4 : Value) : Prop := blk w b 144 #[c0, c1, c2, c3, c4]
/-- where a row lies behind an append -/
def At (w : World) (v v' : Value) : Prop := v'.ownBlock = v.ownBlock ∨ ∃ g, v'.ownBlock = some g ∧ w.heap.size ≤ g
theorem fob.cells {w : World} {b : Nat} {c0 c1 c2 c3 c4 : Value} (h : fob w b c0 c1 c2 c3 c4) : (w.cell? ⟨b, 0, none⟩ = some c0 ∧ w.cell? ⟨b, 1, none⟩ = some c1 ∧ w.cell? ⟨b, 2, none⟩ = some c2 ∧ w.cell? ⟨b, 3, none⟩ = some c3 ∧ w.cell? ⟨b, 4, none⟩ = some c4) ∧ w.frozen? ⟨b, 0, none⟩ = false ∧ w.frozen? ⟨b, 1, none⟩ = false ∧ w.frozen? ⟨b, 2, none⟩ = false ∧ w.frozen? ⟨b, 3, none⟩ = false ∧ w.frozen? ⟨b, 4, none⟩ = false :=
  ⟨⟨blk.cell h 0, blk.cell h 1, blk.cell h 2, blk.cell h 3, blk.cell h 4⟩, blk.frozen h 0, blk.frozen h 1, blk.frozen h 2, blk.frozen h 3, blk.frozen h 4⟩
/-- two worlds that differ in blocks P alone -/
structure Diff (P : Nat → Prop) (w w' : World) : Prop where
  os : w'.os = w.os
  tape : w'.tape = w.tape
  output : w'.output = w.output
  size : w'.heap.size = w.heap.size
  block : ∀ k, ¬ P k → w'.heap[k]? = w.heap[k]?
theorem Diff.refl (P : Nat → Prop) (w : World) : Diff P w w := ⟨rfl, rfl, rfl, rfl, fun _ _ => rfl⟩
theorem Diff.set {P : Nat → Prop} {w w' : World} (h : Diff P w w') (b i : Nat) (v : Value) (hb : P b) : Diff P w (w'.setCell ⟨b, i, none⟩ v) :=
  ⟨h.os, h.tape, h.output, by simp [World.setCell, h.size], fun k hk => by rw [Below.heap_setCell _ _ _ _ (fun e => hk (by rw [e]; exact hb))]; exact h.block k hk⟩
theorem jend {w : World} {H b : Nat} {u c0 c1 c2 c3 c4 b0 b1 b2 b3 b4 : Value} (h : fob w b c0 c1 c2 c3 c4) (hn : b ≠ H) : fob ((((((w.setCell ⟨H, 1, none⟩ u).setCell ⟨b, 0, none⟩ b0).setCell ⟨b, 1, none⟩ b1).setCell ⟨b, 2, none⟩ b2).setCell ⟨b, 3, none⟩ b3).setCell ⟨b, 4, none⟩ b4) b b0 b1 b2 b3 b4 := by
  have h1 : fob (w.setCell ⟨H, 1, none⟩ u) b c0 c1 c2 c3 c4 := blk.keep h (Below.heap_setCell _ _ _ _ hn)
  exact ((((blk.set h1 0 b0).set 1 b1).set 2 b2).set 3 b3).set 4 b4
/-- what joined answers, made final -/
theorem joined_end {w w' wf : World} {B e sz n' : Nat} {lv lv' : Value} {xs : List Value} (h1 : w'.ownsRow B e sz lv' n' xs) (h2 : w.grownBy w' lv.ownBlock) (h3 : lv'.ownBlock = lv.ownBlock ∨ ∃ g, lv'.ownBlock = some g ∧ w.heap.size + 4 ≤ g) (hl : ∀ q, w.heap.size ≤ q → some q ≠ lv.ownBlock)
    (hd : Diff (fun k => k = w.heap.size ∨ k = w.heap.size + 1 + 1) w' wf) : wf.ownsRow B e sz lv' n' xs ∧ w.grownBy wf lv.ownBlock ∧ At w lv lv' := by
  refine ⟨⟨h1.1, ?_⟩, ⟨hd.os.trans h2.os, hd.tape.trans h2.tape, hd.output.trans h2.output, by rw [hd.size]; exact h2.size, fun k hk hn => (hd.block k (by omega)).trans (h2.block k hk hn)⟩, ?_⟩
  · rcases h1.2 with h | ⟨g, cap, cur, q1, q2, q3, q4⟩
    · exact .inl h
    · refine .inr ⟨g, cap, cur, q1, q2, (hd.block g ?_).trans q3, q4⟩
      have hg : lv'.ownBlock = some g := by rw [q1]; rfl
      rcases h3 with h | ⟨g', h, h'⟩
      · intro e
        exact hl g (by omega) (by rw [← hg, h])
      · have : g = g' := by rw [hg] at h; exact Option.some.inj h
        omega
  · rcases h3 with h | ⟨g', h, h'⟩
    · exact .inl h
    · exact .inr ⟨g', h, by omega⟩
theorem joined_boxes (K0 : Int) (L D : Value) (s : ByteArray) (m : Bool) (k n : Int) (vs : ByteArray) (x y : Value) (tmp : Obj) (w : World) :
    Below w.heap.size w ((((w.alloc (Obj.cells #[.int .i64 K0, L, D, .string s, .bool m] 144)).alloc (Obj.cells #[.int .i64 k, .int .i64 n, .string vs, x, y] 31)).alloc (Obj.cells #[.int .i64 0, .slice none 0 0, .slice none 0 0, .string { data := #[] }, .bool false] 144)).alloc tmp) ∧
    fob ((((w.alloc (Obj.cells #[.int .i64 K0, L, D, .string s, .bool m] 144)).alloc (Obj.cells #[.int .i64 k, .int .i64 n, .string vs, x, y] 31)).alloc (Obj.cells #[.int .i64 0, .slice none 0 0, .slice none 0 0, .string { data := #[] }, .bool false] 144)).alloc tmp) w.heap.size (.int .i64 K0) L D (.string s) (.bool m) ∧
    fob ((((w.alloc (Obj.cells #[.int .i64 K0, L, D, .string s, .bool m] 144)).alloc (Obj.cells #[.int .i64 k, .int .i64 n, .string vs, x, y] 31)).alloc (Obj.cells #[.int .i64 0, .slice none 0 0, .slice none 0 0, .string { data := #[] }, .bool false] 144)).alloc tmp) (w.heap.size + 1 + 1) (.int .i64 0) (.slice none 0 0) (.slice none 0 0) (.string { data := #[] }) (.bool false) ∧
    ((((w.alloc (Obj.cells #[.int .i64 K0, L, D, .string s, .bool m] 144)).alloc (Obj.cells #[.int .i64 k, .int .i64 n, .string vs, x, y] 31)).alloc (Obj.cells #[.int .i64 0, .slice none 0 0, .slice none 0 0, .string { data := #[] }, .bool false] 144)).alloc tmp).heap[w.heap.size + 1 + 1 + 1]? = some tmp ∧
    ((((w.alloc (Obj.cells #[.int .i64 K0, L, D, .string s, .bool m] 144)).alloc (Obj.cells #[.int .i64 k, .int .i64 n, .string vs, x, y] 31)).alloc (Obj.cells #[.int .i64 0, .slice none 0 0, .slice none 0 0, .string { data := #[] }, .bool false] 144)).alloc tmp).heap.size = w.heap.size + 1 + 1 + 1 + 1 := by
  generalize ha : (w.alloc (Obj.cells #[.int .i64 K0, L, D, .string s, .bool m] 144)) = wa
  have sa : wa.heap.size = w.heap.size + 1 := by rw [← ha]; simp
  have oa : fob wa w.heap.size (.int .i64 K0) L D (.string s) (.bool m) := by rw [← ha]; exact heap_new _ _
  have ba : Below w.heap.size w wa := by rw [← ha]; exact (Below.refl _ _).alloc (Nat.le_refl _) _
  generalize hb : wa.alloc (Obj.cells #[.int .i64 k, .int .i64 n, .string vs, x, y] 31) = wb
  have sb : wb.heap.size = w.heap.size + 1 + 1 := by rw [← hb]; simp [sa]
  have bb : Below wa.heap.size wa wb := by rw [← hb]; exact (Below.refl _ _).alloc (Nat.le_refl _) _
  generalize hcc : wb.alloc (Obj.cells #[.int .i64 0, .slice none 0 0, .slice none 0 0, .string { data := #[] }, .bool false] 144) = wc
  have sc : wc.heap.size = w.heap.size + 1 + 1 + 1 := by rw [← hcc]; simp [sb]
  have oc : fob wc (w.heap.size + 1 + 1) (.int .i64 0) (.slice none 0 0) (.slice none 0 0) (.string { data := #[] }) (.bool false) := by rw [← hcc, ← sb]; exact heap_new _ _
  have bc : Below wb.heap.size wb wc := by rw [← hcc]; exact (Below.refl _ _).alloc (Nat.le_refl _) _
  generalize hd : wc.alloc tmp = wd
  have sd : wd.heap.size = w.heap.size + 1 + 1 + 1 + 1 := by rw [← hd]; simp [sc]
  have od : wd.heap[w.heap.size + 1 + 1 + 1]? = some tmp := by rw [← hd, ← sc]; exact heap_new _ _
  have bd : Below wc.heap.size wc wd := by rw [← hd]; exact (Below.refl _ _).alloc (Nat.le_refl _) _
  exact ⟨((ba.trans (bb.mono (by omega))).trans (bc.mono (by omega))).trans (bd.mono (by omega)), ((oa.keep (bb.block _ oa.lt)).keep (bc.block _ (by omega))).keep (bd.block _ (by omega)), oc.keep (bd.block _ oc.lt), od, sd⟩
theorem jend3 {w : World} {H b : Nat} {u u3 u4 c0 c1 c2 c3 c4 b0 b1 b2 b3 b4 : Value} (h : fob w b c0 c1 c2 c3 c4) (hn : b ≠ H) : fob ((((((((w.setCell ⟨H, 2, none⟩ u).setCell ⟨H, 3, none⟩ u3).setCell ⟨H, 4, none⟩ u4).setCell ⟨b, 0, none⟩ b0).setCell ⟨b, 1, none⟩ b1).setCell ⟨b, 2, none⟩ b2).setCell ⟨b, 3, none⟩ b3).setCell ⟨b, 4, none⟩ b4) b b0 b1 b2 b3 b4 := by
  have h1 : fob (((w.setCell ⟨H, 2, none⟩ u).setCell ⟨H, 3, none⟩ u3).setCell ⟨H, 4, none⟩ u4) b c0 c1 c2 c3 c4 := blk.keep h (by rw [Below.heap_setCell _ _ _ _ hn, Below.heap_setCell _ _ _ _ hn, Below.heap_setCell _ _ _ _ hn])
  exact ((((blk.set h1 0 b0).set 1 b1).set 2 b2).set 3 b3).set 4 b4
set_option maxRecDepth 10000 in
set_option maxHeartbeats 1000000 in
theorem joined39L (s vs : ByteArray) (m : Bool) (k n : Int) (w : World) (da xa ya : Option Addr) (dn dc xn xc yn yc B ln : Nat) (lv : Value) (us : List Value) (hown : w.ownsRow B 31 5 lv ln us) (hB : B ≤ w.heap.size) (hlim : ln ≤ 2097152) :
    Calls Tryd.prog 99 #[.agg #[.int .i64 3, lv, .slice da dn dc, .string s, .bool m], .agg #[.int .i64 k, .int .i64 n, .string vs, .slice xa xn xc, .slice ya yn yc]] w fun e w' => ∃ la' lc', e = .returned (.agg #[.int .i64 3, .slice la' (ln + 1) lc', .slice da dn dc, .string s, .bool m]) ∧
      w'.ownsRow B 31 5 (.slice la' (ln + 1) lc') (ln + 1) (us ++ [.int .i64 k, .int .i64 n, .string vs, .slice xa xn xc, .slice ya yn yc]) ∧ w.grownBy w' lv.ownBlock ∧ At w lv (.slice la' (ln + 1) lc') := by
  obtain ⟨la, lc, rfl⟩ := ownForm hown
  obtain ⟨i0, hi, hz0, hz1, hz2⟩ := info_parts info25
  obtain ⟨jb1, jb2, jb3, jb4, jb5⟩ := joined_boxes 3 (.slice la ln lc) (.slice da dn dc) s m k n vs (.slice xa xn xc) (.slice ya yn yc) (Obj.cells #[.int .i64 k, .int .i64 n, .string vs, .slice xa xn xc, .slice ya yn yc] 31) w
  have jb4' : blk ((((w.alloc (Obj.cells #[.int .i64 3, .slice la ln lc, .slice da dn dc, .string s, .bool m] 144)).alloc (Obj.cells #[.int .i64 k, .int .i64 n, .string vs, .slice xa xn xc, .slice ya yn yc] 31)).alloc (Obj.cells #[.int .i64 0, .slice none 0 0, .slice none 0 0, .string { data := #[] }, .bool false] 144)).alloc (Obj.cells #[.int .i64 k, .int .i64 n, .string vs, .slice xa xn xc, .slice ya yn yc] 31)) (w.heap.size + 1 + 1 + 1) 31 (List.toArray [.int .i64 k, .int .i64 n, .string vs, .slice xa xn xc, .slice ya yn yc]) := jb4
  have hown' := own_keep hown (fun x _ hx => jb1.block x hx)
  obtain ⟨v', w', hr, hown2, hgrow, _, hatb⟩ := run_append_own_at (P := Tryd.prog) ((((w.alloc (Obj.cells #[.int .i64 3, .slice la ln lc, .slice da dn dc, .string s, .bool m] 144)).alloc (Obj.cells #[.int .i64 k, .int .i64 n, .string vs, .slice xa xn xc, .slice ya yn yc] 31)).alloc (Obj.cells #[.int .i64 0, .slice none 0 0, .slice none 0 0, .string { data := #[] }, .bool false] 144)).alloc (Obj.cells #[.int .i64 k, .int .i64 n, .string vs, .slice xa xn xc, .slice ya yn yc] 31)) B 28 28 31 i0 _ 5 80 Tryd.underlying28 hi hz0 hz1 hz2 rfl (by omega) (.slice la ln lc) ln us hown' ⟨w.heap.size + 1 + 1 + 1, 0, none⟩ 1 1 [.int .i64 k, .int .i64 n, .string vs, .slice xa xn xc, .slice ya yn yc] rfl
    (fun j u hu => by
      match j, hu with
      | 0, hu => simp at hu; subst hu; simpa [Addr.add] using jb4'.cell 0
      | 1, hu => simp at hu; subst hu; simpa [Addr.add] using jb4'.cell 1
      | 2, hu => simp at hu; subst hu; simpa [Addr.add] using jb4'.cell 2
      | 3, hu => simp at hu; subst hu; simpa [Addr.add] using jb4'.cell 3
      | 4, hu => simp at hu; subst hu; simpa [Addr.add] using jb4'.cell 4) (fun u hu => by simp at hu; rcases hu with rfl | rfl | rfl | rfl | rfl <;> rfl) (by unfold maxLen; omega) (by omega) (by omega)
  obtain ⟨va, vc, rfl⟩ := ownForm hown2
  have hne : ∀ q, w.heap.size ≤ q → some q ≠ (Value.ownBlock (.slice la ln lc)) := fun q hq e => by
    have := (own_lt hown e.symm).2; omega
  have h2 : fob w' w.heap.size _ _ _ _ _ := jb2.keep (hgrow.block _ (by omega) (hne _ (Nat.le_refl _)))
  have h3 : fob w' (w.heap.size + 1 + 1) _ _ _ _ _ := jb3.keep (hgrow.block _ (by omega) (hne _ (by omega)))
  have HZ : Hid (w'.ownsRow B 31 5 (.slice va (ln + 1) vc) (ln + 1) (us ++ [.int .i64 k, .int .i64 n, .string vs, .slice xa xn xc, .slice ya yn yc]) ∧ w.grownBy w' (Value.ownBlock (.slice la ln lc)) ∧ (Value.ownBlock (.slice va (ln + 1) vc) = Value.ownBlock (.slice la ln lc) ∨ ∃ g, Value.ownBlock (.slice va (ln + 1) vc) = some g ∧ w.heap.size + 4 ≤ g) ∧ (∀ q, w.heap.size ≤ q → some q ≠ (Value.ownBlock (.slice la ln lc))) ∧ fob w' w.heap.size (.int .i64 3) (.slice la ln lc) (.slice da dn dc) (.string s) (.bool m) ∧ fob w' (w.heap.size + 1 + 1) (.int .i64 0) (.slice none 0 0) (.slice none 0 0) (.string { data := #[] }) (.bool false)) := by
    refine ⟨hown2, ⟨hgrow.os.trans jb1.os, hgrow.tape.trans jb1.tape, hgrow.output.trans jb1.output, Nat.le_trans jb1.size hgrow.size, fun q hq hn => (hgrow.block q (by omega) hn).trans (jb1.block q hq)⟩, ?_, hne, h2, h3⟩
    rcases hatb with h | h
    · exact .inl h
    · exact .inr ⟨_, h, by omega⟩
  obtain ⟨⟨a0, a1, a2, a3, a4⟩, g0, g1, g2, g3, g4⟩ := h2.cells
  obtain ⟨⟨b0, b1, b2, b3, b4⟩, f0, f1, f2, f3, f4⟩ := h3.cells
  clear hown hown' hi hz0 hz1 hz2 jb1 jb2 jb3 jb4 jb4' jb5 hown2 hgrow hatb hne h2 h3 i0 hlim hB
  go_enter Tryd.func99, Tryd.ntmps99
  go_wp2_with (at_builtin; refine Lib.wpList_append_run _ rfl _ _ 28 28 rfl _ _ rfl rfl _ _ hr ?_)
  obtain ⟨z1, z2, z3, z4, z5, z6⟩ := HZ.out
  refine bodyPost_ret (v := .agg #[.int .i64 3, .slice va (ln + 1) vc, .slice da dn dc, .string s, .bool m]) (results_cell_row Tryd.results99 _ _ (w.heap.size + 1 + 1) 144 _ (0, 0) _ rfl (jend z6 (by omega)) Tryd.underlying144 rfl info73s) rfl ?_
  exact ⟨va, vc, rfl, joined_end z1 z2 z3 z4 (((((((Diff.refl _ _).set _ _ _ (.inl rfl)).set _ _ _ (.inr rfl)).set _ _ _ (.inr rfl)).set _ _ _ (.inr rfl)).set _ _ _ (.inr rfl)).set _ _ _ (.inr rfl))⟩
set_option maxRecDepth 10000 in
set_option maxHeartbeats 1000000 in
theorem joined39D (s vs : ByteArray) (m : Bool) (k n : Int) (w : World) (la xa ya : Option Addr) (ln lc xn xc yn yc B dn : Nat) (lv : Value) (us : List Value) (hown : w.ownsRow B 74 6 lv dn us) (hB : B ≤ w.heap.size) (hlim : dn ≤ 2097152) :
    Calls Tryd.prog 99 #[.agg #[.int .i64 4, .slice la ln lc, lv, .string s, .bool m], .agg #[.int .i64 k, .int .i64 n, .string vs, .slice xa xn xc, .slice ya yn yc]] w fun e w' => ∃ da' dc', e = .returned (.agg #[.int .i64 4, .slice la ln lc, .slice da' (dn + 1) dc', .string { data := #[] }, .bool false]) ∧
      w'.ownsRow B 74 6 (.slice da' (dn + 1) dc') (dn + 1) (us ++ [.string s, .int .i64 k, .int .i64 n, .string vs, .slice xa xn xc, .slice ya yn yc]) ∧ w.grownBy w' lv.ownBlock ∧ At w lv (.slice da' (dn + 1) dc') := by
  obtain ⟨da, dc, rfl⟩ := ownForm hown
  obtain ⟨i0, hi, hz0, hz1, hz2⟩ := info_parts info42
  obtain ⟨jb1, jb2, jb3, jb4, jb5⟩ := joined_boxes 4 (.slice la ln lc) (.slice da dn dc) s m k n vs (.slice xa xn xc) (.slice ya yn yc) (Obj.cells #[.string s, .int .i64 k, .int .i64 n, .string vs, .slice xa xn xc, .slice ya yn yc] 74) w
  have jb4' : blk ((((w.alloc (Obj.cells #[.int .i64 4, .slice la ln lc, .slice da dn dc, .string s, .bool m] 144)).alloc (Obj.cells #[.int .i64 k, .int .i64 n, .string vs, .slice xa xn xc, .slice ya yn yc] 31)).alloc (Obj.cells #[.int .i64 0, .slice none 0 0, .slice none 0 0, .string { data := #[] }, .bool false] 144)).alloc (Obj.cells #[.string s, .int .i64 k, .int .i64 n, .string vs, .slice xa xn xc, .slice ya yn yc] 74)) (w.heap.size + 1 + 1 + 1) 74 (List.toArray [.string s, .int .i64 k, .int .i64 n, .string vs, .slice xa xn xc, .slice ya yn yc]) := jb4
  have hown' := own_keep hown (fun x _ hx => jb1.block x hx)
  obtain ⟨v', w', hr, hown2, hgrow, _, hatb⟩ := run_append_own_at (P := Tryd.prog) ((((w.alloc (Obj.cells #[.int .i64 4, .slice la ln lc, .slice da dn dc, .string s, .bool m] 144)).alloc (Obj.cells #[.int .i64 k, .int .i64 n, .string vs, .slice xa xn xc, .slice ya yn yc] 31)).alloc (Obj.cells #[.int .i64 0, .slice none 0 0, .slice none 0 0, .string { data := #[] }, .bool false] 144)).alloc (Obj.cells #[.string s, .int .i64 k, .int .i64 n, .string vs, .slice xa xn xc, .slice ya yn yc] 74)) B 29 29 74 i0 _ 6 96 Tryd.underlying29 hi hz0 hz1 hz2 rfl (by omega) (.slice da dn dc) dn us hown' ⟨w.heap.size + 1 + 1 + 1, 0, none⟩ 1 1 [.string s, .int .i64 k, .int .i64 n, .string vs, .slice xa xn xc, .slice ya yn yc] rfl
    (fun j u hu => by
      match j, hu with
      | 0, hu => simp at hu; subst hu; simpa [Addr.add] using jb4'.cell 0
      | 1, hu => simp at hu; subst hu; simpa [Addr.add] using jb4'.cell 1
      | 2, hu => simp at hu; subst hu; simpa [Addr.add] using jb4'.cell 2
      | 3, hu => simp at hu; subst hu; simpa [Addr.add] using jb4'.cell 3
      | 4, hu => simp at hu; subst hu; simpa [Addr.add] using jb4'.cell 4
      | 5, hu => simp at hu; subst hu; simpa [Addr.add] using jb4'.cell 5) (fun u hu => by simp at hu; rcases hu with rfl | rfl | rfl | rfl | rfl | rfl <;> rfl) (by unfold maxLen; omega) (by omega) (by omega)
  obtain ⟨va, vc, rfl⟩ := ownForm hown2
  have hne : ∀ q, w.heap.size ≤ q → some q ≠ (Value.ownBlock (.slice da dn dc)) := fun q hq e => by
    have := (own_lt hown e.symm).2; omega
  have h2 : fob w' w.heap.size _ _ _ _ _ := jb2.keep (hgrow.block _ (by omega) (hne _ (Nat.le_refl _)))
  have h3 : fob w' (w.heap.size + 1 + 1) _ _ _ _ _ := jb3.keep (hgrow.block _ (by omega) (hne _ (by omega)))
  have HZ : Hid (w'.ownsRow B 74 6 (.slice va (dn + 1) vc) (dn + 1) (us ++ [.string s, .int .i64 k, .int .i64 n, .string vs, .slice xa xn xc, .slice ya yn yc]) ∧ w.grownBy w' (Value.ownBlock (.slice da dn dc)) ∧ (Value.ownBlock (.slice va (dn + 1) vc) = Value.ownBlock (.slice da dn dc) ∨ ∃ g, Value.ownBlock (.slice va (dn + 1) vc) = some g ∧ w.heap.size + 4 ≤ g) ∧ (∀ q, w.heap.size ≤ q → some q ≠ (Value.ownBlock (.slice da dn dc))) ∧ fob w' w.heap.size (.int .i64 4) (.slice la ln lc) (.slice da dn dc) (.string s) (.bool m) ∧ fob w' (w.heap.size + 1 + 1) (.int .i64 0) (.slice none 0 0) (.slice none 0 0) (.string { data := #[] }) (.bool false)) := by
    refine ⟨hown2, ⟨hgrow.os.trans jb1.os, hgrow.tape.trans jb1.tape, hgrow.output.trans jb1.output, Nat.le_trans jb1.size hgrow.size, fun q hq hn => (hgrow.block q (by omega) hn).trans (jb1.block q hq)⟩, ?_, hne, h2, h3⟩
    rcases hatb with h | h
    · exact .inl h
    · exact .inr ⟨_, h, by omega⟩
  obtain ⟨⟨a0, a1, a2, a3, a4⟩, g0, g1, g2, g3, g4⟩ := h2.cells
  obtain ⟨⟨b0, b1, b2, b3, b4⟩, f0, f1, f2, f3, f4⟩ := h3.cells
  clear hown hown' hi hz0 hz1 hz2 jb1 jb2 jb3 jb4 jb4' jb5 hown2 hgrow hatb hne h2 h3 i0 hlim hB
  go_enter Tryd.func99, Tryd.ntmps99
  go_wp2_with (at_builtin; refine Lib.wpList_append_run _ rfl _ _ 29 29 rfl _ _ rfl rfl _ _ hr ?_)
  obtain ⟨z1, z2, z3, z4, z5, z6⟩ := HZ.out
  refine bodyPost_ret (v := .agg #[.int .i64 4, .slice la ln lc, .slice va (dn + 1) vc, .string { data := #[] }, .bool false]) (results_cell_row Tryd.results99 _ _ (w.heap.size + 1 + 1) 144 _ (0, 0) _ rfl (jend3 z6 (by omega)) Tryd.underlying144 rfl info73s) rfl ?_
  exact ⟨va, vc, rfl, joined_end z1 z2 z3 z4 (((((((((Diff.refl _ _).set _ _ _ (.inl rfl)).set _ _ _ (.inl rfl)).set _ _ _ (.inl rfl)).set _ _ _ (.inr rfl)).set _ _ _ (.inr rfl)).set _ _ _ (.inr rfl)).set _ _ _ (.inr rfl)).set _ _ _ (.inr rfl))⟩
end Go.Proofs.YtdlnnnlmlaploabDoor
namespace Go.Proofs.YtdlnnnlmlaploabDoor
open Go.RowKit Go.Deep
/-! ### The reference's stack in memory -/
instance : Inhabited Fr := ⟨{ d := false }⟩
/-- a row of values -/
def VRow (B : Nat) (S : Nat → Prop) (w : World) (v : Value) (l : List T) : Prop := ∃ us, w.ownsRow B 31 5 v l.length us ∧ ∀ k, k < l.length → ∃ x y, RV S w (l.getD k .no) x y ∧ ∀ r, r < 5 → us[k * 5 + r]? = (cv (l.getD k .no) x y)[r]?
/-- a row of pairs -/
def PRow (B : Nat) (S : Nat → Prop) (w : World) (v : Value) (l : List (ByteArray × T)) : Prop := ∃ us, w.ownsRow B 74 6 v l.length us ∧ ∀ k, k < l.length → ∃ x y, RV S w (l.getD k (ByteArray.empty, .no)).2 x y ∧ ∀ r, r < 6 → us[k * 6 + r]? = (.string (l.getD k (ByteArray.empty, .no)).1 :: cv (l.getD k (ByteArray.empty, .no)).2 x y)[r]?
/-- a frame's two rows -/
def FRow (B : Nat) (S : Nat → Prop) (w : World) (f : Fr) (L D : Value) : Prop :=
  (f.d = true ∧ L = .slice none 0 0 ∧ f.ls = [] ∧ PRow B S w D f.ps) ∨ (f.d = false ∧ D = .slice none 0 0 ∧ f.ps = [] ∧ f.key = ByteArray.empty ∧ f.has = false ∧ VRow B S w L f.ls)
def rowOf (f : Fr) (L D : Value) : Value := if f.d = true then D else L
/-- the blocks that matter to a row -/
theorem VRow.keep {B : Nat} {S S' : Nat → Prop} {w w' : World} {v : Value} {l : List T} (h : VRow B S w v l) (hz : w.heap.size ≤ w'.heap.size) (hv : ∀ g, v.ownBlock = some g → g < w.heap.size → w'.heap[g]? = w.heap[g]?) (hS : ∀ x, S x → x < w.heap.size → S' x ∧ w'.heap[x]? = w.heap[x]?) : VRow B S' w' v l := by
  obtain ⟨us, h1, h2⟩ := h
  refine ⟨us, ⟨h1.1, ?_⟩, fun k hk => ?_⟩
  · rcases h1.2 with h | ⟨g, cap, cur, q1, q2, q3, q4⟩
    · exact .inl h
    · exact .inr ⟨g, cap, cur, q1, q2, (hv g (by rw [q1]; rfl) (Array.getElem?_eq_some_iff.1 q3).1).trans q3, q4⟩
  · obtain ⟨x, y, q1, q2⟩ := h2 k hk
    exact ⟨x, y, RV.move (fun b hb hl => (hS b hb hl).1) hz (fun b hb hl => (hS b hb hl).2) _ _ _ q1, q2⟩
theorem PRow.keep {B : Nat} {S S' : Nat → Prop} {w w' : World} {v : Value} {l : List (ByteArray × T)} (h : PRow B S w v l) (hz : w.heap.size ≤ w'.heap.size) (hv : ∀ g, v.ownBlock = some g → g < w.heap.size → w'.heap[g]? = w.heap[g]?) (hS : ∀ x, S x → x < w.heap.size → S' x ∧ w'.heap[x]? = w.heap[x]?) : PRow B S' w' v l := by
  obtain ⟨us, h1, h2⟩ := h
  refine ⟨us, ⟨h1.1, ?_⟩, fun k hk => ?_⟩
  · rcases h1.2 with h | ⟨g, cap, cur, q1, q2, q3, q4⟩
    · exact .inl h
    · exact .inr ⟨g, cap, cur, q1, q2, (hv g (by rw [q1]; rfl) (Array.getElem?_eq_some_iff.1 q3).1).trans q3, q4⟩
  · obtain ⟨x, y, q1, q2⟩ := h2 k hk
    exact ⟨x, y, RV.move (fun b hb hl => (hS b hb hl).1) hz (fun b hb hl => (hS b hb hl).2) _ _ _ q1, q2⟩
theorem FRow.keep {B : Nat} {S S' : Nat → Prop} {w w' : World} {f : Fr} {L D : Value} (h : FRow B S w f L D) (hz : w.heap.size ≤ w'.heap.size) (hv : ∀ g, (rowOf f L D).ownBlock = some g → g < w.heap.size → w'.heap[g]? = w.heap[g]?) (hS : ∀ x, S x → x < w.heap.size → S' x ∧ w'.heap[x]? = w.heap[x]?) : FRow B S' w' f L D := by
  unfold rowOf at hv
  rcases h with ⟨h1, h2, h2', h3⟩ | ⟨h1, h2, h2', h2'', h2''', h3⟩
  · rw [if_pos h1] at hv
    exact .inl ⟨h1, h2, h2', h3.keep hz hv hS⟩
  · rw [if_neg (by rw [h1]; decide)] at hv
    exact .inr ⟨h1, h2, h2', h2'', h2''', h3.keep hz hv hS⟩
def kd (f : Fr) : Value := .int .i64 (if f.d = true then 4 else 3)
/-- one frame of the stack, in the row and in its own rows -/
def One (B : Nat) (S : Nat → Prop) (w : World) (sv : Value) (n : Nat) (us : List Value) (L D : Nat → Value) (F : Nat → Fr) (k : Nat) : Prop :=
  (us[k * 5]? = some (kd (F k)) ∧ us[k * 5 + 1]? = some (L k) ∧ us[k * 5 + 2]? = some (D k) ∧ us[k * 5 + 3]? = some (.string (F k).key) ∧ us[k * 5 + 4]? = some (.bool (F k).has)) ∧ FRow B S w (F k) (L k) (D k) ∧
  ∀ g, (rowOf (F k) (L k) (D k)).ownBlock = some g → sv.ownBlock ≠ some g ∧ ¬ S g ∧ g < w.heap.size ∧ ∀ k', k' < n → k' ≠ k → (rowOf (F k') (L k') (D k')).ownBlock ≠ some g
/-- the stack -/
def SIx (B : Nat) (S : Nat → Prop) (w : World) (sv : Value) (fs : List Fr) (us : List Value) (L D : Nat → Value) : Prop :=
  w.ownsRow B 144 5 sv fs.length us ∧ (∀ k, k < fs.length → One B S w sv fs.length us L D (fun k => fs.getD k default) k) ∧ ∀ x, S x → B ≤ x ∧ x < w.heap.size ∧ sv.ownBlock ≠ some x
def SI (B : Nat) (S : Nat → Prop) (w : World) (sv : Value) (fs : List Fr) : Prop := ∃ us L D, SIx B S w sv fs us L D
theorem FRow.low {B : Nat} {S : Nat → Prop} {w : World} {f : Fr} {L D : Value} (h : FRow B S w f L D) {g : Nat} (hg : (rowOf f L D).ownBlock = some g) : B ≤ g ∧ g < w.heap.size := by
  unfold rowOf at hg
  rcases h with ⟨h1, h2, h2', us, h3, _⟩ | ⟨h1, h2, h2', _, _, us, h3, _⟩
  · rw [if_pos h1] at hg; exact own_lt h3 hg
  · rw [if_neg (by rw [h1]; decide)] at hg; exact own_lt h3 hg
theorem SI.keep {B : Nat} {S : Nat → Prop} {w w' : World} {sv : Value} {fs : List Fr} (h : SI B S w sv fs) (hz : w.heap.size ≤ w'.heap.size) (hs : ∀ x, B ≤ x → x < w.heap.size → w'.heap[x]? = w.heap[x]?) : SI B S w' sv fs := by
  obtain ⟨us, L, D, h1, h2, h3⟩ := h
  refine ⟨us, L, D, own_keep h1 hs, fun k hk => ?_, fun x hx => ⟨(h3 x hx).1, Nat.lt_of_lt_of_le (h3 x hx).2.1 hz, (h3 x hx).2.2⟩⟩
  obtain ⟨q1, q2, q3⟩ := h2 k hk
  exact ⟨q1, q2.keep hz (fun g hg hl => hs g (q2.low hg).1 hl) (fun x hx hl => ⟨hx, hs x (h3 x hx).1 hl⟩), fun g hg => ⟨(q3 g hg).1, (q3 g hg).2.1, Nat.lt_of_lt_of_le (q3 g hg).2.2.1 hz, (q3 g hg).2.2.2⟩⟩
theorem SI.nil (B : Nat) (w : World) : SI B (fun _ => False) w (.slice none 0 0) [] := ⟨[], fun _ => .nilIface, fun _ => .nilIface, ⟨rfl, .inl ⟨rfl, rfl⟩⟩, fun _k hk => absurd hk (Nat.not_lt_zero _), fun _x hx => hx.elim⟩
theorem own_set {w : World} {B e s n g i : Nat} {v u : Value} {us : List Value} (h : w.ownsRow B e s v n us) (hg : v.ownBlock = some g) (_hi : i < n * s) : (w.setCell ⟨g, i, none⟩ u).ownsRow B e s v n (us.set i u) := by
  refine ⟨by rw [List.length_set]; exact h.1, ?_⟩
  rcases h.2 with ⟨rfl, _⟩ | ⟨g', cap, cur, rfl, h2, h3, h4, h5, h6, h7⟩
  · cases hg
  · cases hg
    refine .inr ⟨_, cap, cur.setIfInBounds i u, rfl, h2, blk.set (show blk w _ e cur from h3) i u, h4, h5, by simpa using h6, ?_⟩
    rw [← h7]
    simp [List.take_set]
/-- the stack with another frame on top -/
theorem SIx.retop {B : Nat} {S : Nat → Prop} {w w2 : World} {sv : Value} {r : List Fr} {f f' : Fr} {us us2 : List Value} {L D : Nat → Value} {L' D' : Value} (h : SIx B S w sv (r ++ [f]) us L D) (hown2 : w2.ownsRow B 144 5 sv (r.length + 1) us2) (hlow : ∀ j, j < r.length * 5 → us2[j]? = us[j]?)
    (htop : us2[r.length * 5]? = some (kd f') ∧ us2[r.length * 5 + 1]? = some L' ∧ us2[r.length * 5 + 2]? = some D' ∧ us2[r.length * 5 + 3]? = some (.string f'.key) ∧ us2[r.length * 5 + 4]? = some (.bool f'.has)) (hF : FRow B S w2 f' L' D') (hz : w.heap.size ≤ w2.heap.size)
    (hk : ∀ x, B ≤ x → x < w.heap.size → sv.ownBlock ≠ some x → (rowOf f (L r.length) (D r.length)).ownBlock ≠ some x → w2.heap[x]? = w.heap[x]?) (hrow : ∀ g, (rowOf f' L' D').ownBlock = some g → (rowOf f (L r.length) (D r.length)).ownBlock = some g ∨ w.heap.size ≤ g) (hsv : ∀ g, sv.ownBlock = some g → g < w.heap.size) :
    SIx B S w2 sv (r ++ [f']) us2 (upd L r.length L') (upd D r.length D') := by
  obtain ⟨h1, h2, h3⟩ := h
  have hlen : (r ++ [f]).length = r.length + 1 := by simp
  have htf : (r ++ [f]).getD r.length default = f := getD_snoc_eq r f default
  obtain ⟨t1, t2, t3⟩ := h2 r.length (by simp)
  simp only [htf] at t1 t2 t3
  refine ⟨by simpa using hown2, fun k hkl => ?_, fun x hx => ⟨(h3 x hx).1, Nat.lt_of_lt_of_le (h3 x hx).2.1 hz, (h3 x hx).2.2⟩⟩
  have hr' : ∀ k', k' < r.length → rowOf ((r ++ [f']).getD k' default) (upd L r.length L' k') (upd D r.length D' k') = rowOf ((r ++ [f]).getD k' default) (L k') (D k') := fun k' hk' => by
    rw [getD_snoc_lt _ _ _ hk', getD_snoc_lt _ _ _ hk', upd_lt hk', upd_lt hk']
  by_cases hkr : k < r.length
  · obtain ⟨q1, q2, q3⟩ := h2 k (by simp; omega)
    have e1 : (r ++ [f']).getD k default = (r ++ [f]).getD k default := by rw [getD_snoc_lt _ _ _ hkr, getD_snoc_lt _ _ _ hkr]
    have nb : ∀ g, (rowOf ((r ++ [f]).getD k default) (L k) (D k)).ownBlock = some g → g < w.heap.size → w2.heap[g]? = w.heap[g]? := fun g hg hl => hk g (q2.low hg).1 hl (q3 g hg).1 (fun e => by
      have := (q3 g hg).2.2.2 r.length (by simp) (by omega)
      simp only [htf] at this
      exact this e)
    have nS : ∀ x, S x → x < w.heap.size → S x ∧ w2.heap[x]? = w.heap[x]? := fun x hx hl => ⟨hx, hk x (h3 x hx).1 hl (h3 x hx).2.2 (fun e => (t3 x e).2.1 hx)⟩
    refine ⟨?_, ?_, ?_⟩
    · simp only [e1, upd_lt hkr]
      exact ⟨(hlow _ (by omega)).trans q1.1, (hlow _ (by omega)).trans q1.2.1, (hlow _ (by omega)).trans q1.2.2.1, (hlow _ (by omega)).trans q1.2.2.2.1, (hlow _ (by omega)).trans q1.2.2.2.2⟩
    · simp only [e1, upd_lt hkr]
      exact q2.keep hz nb nS
    · intro g hg
      simp only [hr' k hkr] at hg
      obtain ⟨p1, p2, p3, p4⟩ := q3 g hg
      refine ⟨p1, p2, Nat.lt_of_lt_of_le p3 hz, fun k' hk' hne => ?_⟩
      by_cases hk'r : k' < r.length
      · simp only [hr' k' hk'r]; exact p4 k' (by simp; omega) hne
      · obtain rfl : k' = r.length := by simp at hk'; omega
        simp only [getD_snoc_eq, upd_eq]
        intro e
        rcases hrow g e with e' | e'
        · have := p4 r.length (by simp) hne
          simp only [htf] at this
          exact this e'
        · omega
  · obtain rfl : k = r.length := by simp at hkl; omega
    refine ⟨?_, ?_, ?_⟩
    · simp only [getD_snoc_eq, upd_eq]; exact htop
    · simp only [getD_snoc_eq, upd_eq]; exact hF
    · intro g hg
      simp only [getD_snoc_eq, upd_eq] at hg
      have hlt := (hF.low hg).2
      rcases hrow g hg with e' | e'
      · obtain ⟨p1, p2, p3, p4⟩ := t3 g e'
        refine ⟨p1, p2, hlt, fun k' hk' hne => ?_⟩
        have hk'r : k' < r.length := by simp at hk'; omega
        simp only [hr' k' hk'r]; exact p4 k' (by simp; omega) hne
      · refine ⟨fun e => by have := hsv g e; omega, fun hx => by have := (h3 g hx).2.1; omega, hlt, fun k' hk' hne => ?_⟩
        have hk'r : k' < r.length := by simp at hk'; omega
        simp only [hr' k' hk'r]
        intro e
        have := ((h2 k' (by simp; omega)).2.1.low e).2
        omega
theorem SIx.top {B : Nat} {S : Nat → Prop} {w : World} {sv : Value} {r : List Fr} {f : Fr} {us : List Value} {L D : Nat → Value} (h : SIx B S w sv (r ++ [f]) us L D) : ∃ g cap, sv = .slice (some ⟨g, 0, none⟩) (r.length + 1) cap ∧ r.length + 1 ≤ cap ∧ B ≤ g ∧ g < w.heap.size ∧
    (w.cell? ⟨g, r.length * 5, none⟩ = some (kd f) ∧ w.cell? ⟨g, r.length * 5 + 1, none⟩ = some (L r.length) ∧ w.cell? ⟨g, r.length * 5 + 2, none⟩ = some (D r.length) ∧ w.cell? ⟨g, r.length * 5 + 3, none⟩ = some (.string f.key) ∧ w.cell? ⟨g, r.length * 5 + 4, none⟩ = some (.bool f.has)) ∧ (∀ i, w.frozen? ⟨g, i, none⟩ = false) ∧ FRow B S w f (L r.length) (D r.length) := by
  obtain ⟨h1, h2, h3⟩ := h
  obtain ⟨t1, t2, t3⟩ := h2 r.length (by simp)
  simp only [getD_snoc_eq] at t1 t2 t3
  rcases h1.2 with ⟨_, h0⟩ | ⟨g, cap, cur, e1, e2, e3, e4, _⟩
  · simp at h0
  · have hg : sv.ownBlock = some g := by rw [e1]; rfl
    obtain ⟨cap', e5, hc⟩ := own_form h1 hg
    exact ⟨g, cap, by simpa using e1, by simpa using e4, e2, (own_lt h1 hg).2, ⟨hc _ _ t1.1, hc _ _ t1.2.1, hc _ _ t1.2.2.1, hc _ _ t1.2.2.2.1, hc _ _ t1.2.2.2.2⟩, fun i => blk.frozen (show blk w g 144 cur from e3) i, t2⟩
theorem VRow.nil (B : Nat) (S : Nat → Prop) (w : World) : VRow B S w (.slice none 0 0) [] := ⟨[], ⟨rfl, .inl ⟨rfl, rfl⟩⟩, fun _k hk => absurd hk (Nat.not_lt_zero _)⟩
theorem PRow.nil (B : Nat) (S : Nat → Prop) (w : World) : PRow B S w (.slice none 0 0) [] := ⟨[], ⟨rfl, .inl ⟨rfl, rfl⟩⟩, fun _k hk => absurd hk (Nat.not_lt_zero _)⟩
theorem SI.push {B : Nat} {S : Nat → Prop} {w w2 : World} {sv sv' : Value} {fs : List Fr} {us : List Value} {L D : Nat → Value} (dd : Bool) (h : SIx B S w sv fs us L D) (hown2 : w2.ownsRow B 144 5 sv' (fs.length + 1) (us ++ [kd { d := dd }, .slice none 0 0, .slice none 0 0, .string ByteArray.empty, .bool false])) (hg : w.grownBy w2 sv.ownBlock) (hat : At w sv sv') : SI B S w2 sv' (fs ++ [{ d := dd }]) := by
  obtain ⟨h1, h2, h3⟩ := h
  have hul : us.length = fs.length * 5 := h1.1
  have hsv : ∀ g, g < w.heap.size → sv.ownBlock ≠ some g → sv'.ownBlock ≠ some g := fun g hl hn e => by
    rcases hat with h | ⟨g', h, h'⟩
    · exact hn (h ▸ e)
    · rw [h] at e; cases e; omega
  refine ⟨_, upd L fs.length (.slice none 0 0), upd D fs.length (.slice none 0 0), by simpa using hown2, fun k hkl => ?_, fun x hx => ⟨(h3 x hx).1, Nat.lt_of_lt_of_le (h3 x hx).2.1 hg.size, hsv x (h3 x hx).2.1 (h3 x hx).2.2⟩⟩
  have hr' : ∀ k', k' < fs.length → rowOf ((fs ++ [({ d := dd } : Fr)]).getD k' default) (upd L fs.length (.slice none 0 0) k') (upd D fs.length (.slice none 0 0) k') = rowOf (fs.getD k' default) (L k') (D k') := fun k' hk' => by
    rw [getD_snoc_lt _ _ _ hk', upd_lt hk', upd_lt hk']
  have ht : (rowOf ({ d := dd } : Fr) (.slice none 0 0) (.slice none 0 0)).ownBlock = none := by unfold rowOf; split <;> rfl
  by_cases hkr : k < fs.length
  · obtain ⟨q1, q2, q3⟩ := h2 k hkr
    have hm : ∀ j v, j < fs.length * 5 → us[j]? = some v → (us ++ [kd { d := dd }, .slice none 0 0, .slice none 0 0, .string ByteArray.empty, .bool false])[j]? = some v := fun j v hj e => by rw [List.getElem?_append_left (by omega)]; exact e
    refine ⟨?_, ?_, ?_⟩
    · simp only [getD_snoc_lt _ _ _ hkr, upd_lt hkr]
      exact ⟨hm _ _ (by omega) q1.1, hm _ _ (by omega) q1.2.1, hm _ _ (by omega) q1.2.2.1, hm _ _ (by omega) q1.2.2.2.1, hm _ _ (by omega) q1.2.2.2.2⟩
    · simp only [getD_snoc_lt _ _ _ hkr, upd_lt hkr]
      exact q2.keep hg.size (fun g hg' hl => hg.block g hl (fun e => (q3 g hg').1 e.symm)) (fun x hx hl => ⟨hx, hg.block x hl (fun e => (h3 x hx).2.2 e.symm)⟩)
    · intro g hg'
      simp only [hr' k hkr] at hg'
      obtain ⟨p1, p2, p3, p4⟩ := q3 g hg'
      refine ⟨hsv g p3 p1, p2, Nat.lt_of_lt_of_le p3 hg.size, fun k' hk' hne => ?_⟩
      by_cases hk'r : k' < fs.length
      · simp only [hr' k' hk'r]; exact p4 k' hk'r hne
      · obtain rfl : k' = fs.length := by simp at hk'; omega
        simp only [getD_snoc_eq, upd_eq, ht]
        intro e; cases e
  · obtain rfl : k = fs.length := by simp at hkl; omega
    refine ⟨?_, ?_, ?_⟩
    · simp only [getD_snoc_eq, upd_eq]
      have hm : ∀ j, j < 5 → (us ++ [kd { d := dd }, .slice none 0 0, .slice none 0 0, .string ByteArray.empty, .bool false])[fs.length * 5 + j]? = [kd { d := dd }, .slice none 0 0, .slice none 0 0, .string ByteArray.empty, .bool false][j]? := fun j hj => by
        rw [List.getElem?_append_right (by omega), hul, Nat.add_sub_cancel_left]
      exact ⟨hm 0 (by omega), hm 1 (by omega), hm 2 (by omega), hm 3 (by omega), hm 4 (by omega)⟩
    · simp only [getD_snoc_eq, upd_eq]
      cases dd with
      | true => exact .inl ⟨rfl, rfl, rfl, PRow.nil B S w2⟩
      | false => exact .inr ⟨rfl, rfl, rfl, rfl, rfl, VRow.nil B S w2⟩
    · intro g hg'
      simp only [getD_snoc_eq, upd_eq, ht] at hg'
      cases hg'
theorem VRow.rl {B : Nat} {S S' : Nat → Prop} {w : World} {v : Value} {l : List T} (h : VRow B S w v l) (hS : ∀ x, S x → S' x) (hv : ∀ g, v.ownBlock = some g → S' g) : RL S' w l.length (fun i => l.getD i .no) v := by
  obtain ⟨us, h1, h2⟩ := h
  rcases h1.2 with ⟨rfl, h0⟩ | ⟨g, cap, cur, rfl, q2, q3, _⟩
  · exact ⟨none, 0, by rw [h0], .inl h0⟩
  · obtain ⟨cap', e5, hc⟩ := own_form h1 (g := g) rfl
    refine ⟨_, cap, rfl, .inr ⟨g, 0, rfl, hv g rfl, (own_lt h1 (g := g) rfl).2, fun i hi => ?_⟩⟩
    obtain ⟨x, y, g1, g2⟩ := h2 i hi
    rw [Nat.zero_add]
    exact ⟨x, y, RV.keep hS (Nat.le_refl _) (fun _ _ _ => rfl) _ _ _ g1, hc _ _ (g2 0 (by omega)), hc _ _ (g2 1 (by omega)), hc _ _ (g2 2 (by omega)), hc _ _ (g2 3 (by omega)), hc _ _ (g2 4 (by omega))⟩
theorem PRow.rd {B : Nat} {S S' : Nat → Prop} {w : World} {v : Value} {l : List (ByteArray × T)} (h : PRow B S w v l) (hS : ∀ x, S x → S' x) (hv : ∀ g, v.ownBlock = some g → S' g) : RD S' w l.length (fun i => (l.getD i (ByteArray.empty, .no)).1) (fun i => (l.getD i (ByteArray.empty, .no)).2) v := by
  obtain ⟨us, h1, h2⟩ := h
  rcases h1.2 with ⟨rfl, h0⟩ | ⟨g, cap, cur, rfl, q2, q3, _⟩
  · exact ⟨none, 0, by rw [h0], .inl h0⟩
  · obtain ⟨cap', e5, hc⟩ := own_form h1 (g := g) rfl
    refine ⟨_, cap, rfl, .inr ⟨g, 0, rfl, hv g rfl, (own_lt h1 (g := g) rfl).2, fun i hi => ?_⟩⟩
    obtain ⟨x, y, g1, g2⟩ := h2 i hi
    rw [Nat.zero_add]
    exact ⟨x, y, RV.keep hS (Nat.le_refl _) (fun _ _ _ => rfl) _ _ _ g1, hc _ _ (g2 0 (by omega)), hc _ _ (g2 1 (by omega)), hc _ _ (g2 2 (by omega)), hc _ _ (g2 3 (by omega)), hc _ _ (g2 4 (by omega)), hc _ _ (g2 5 (by omega))⟩
theorem SIx.pop {B : Nat} {S : Nat → Prop} {w : World} {g cap : Nat} {r : List Fr} {f : Fr} {us : List Value} {L D : Nat → Value} (h : SIx B S w (.slice (some ⟨g, 0, none⟩) (r.length + 1) cap) (r ++ [f]) us L D) :
    ∃ S', SI B S' w (.slice (some ⟨g, 0, none⟩) r.length cap) r ∧ (f.d = true → L r.length = .slice none 0 0 ∧ RV S' w (tDict f.ps) (.slice none 0 0) (D r.length)) ∧ (f.d = false → D r.length = .slice none 0 0 ∧ RV S' w (tList f.ls) (L r.length) (.slice none 0 0)) := by
  obtain ⟨h1, h2, h3⟩ := h
  obtain ⟨t1, t2, t3⟩ := h2 r.length (by simp)
  simp only [getD_snoc_eq] at t1 t2 t3
  refine ⟨fun x => S x ∨ (rowOf f (L r.length) (D r.length)).ownBlock = some x, ⟨us.take (r.length * 5), L, D, ?_, fun k hk => ?_, fun x hx => ?_⟩, fun hd => ?_, fun hd => ?_⟩
  · have hul := h1.1
    refine ⟨by rw [List.length_take, hul]; simp, ?_⟩
    rcases h1.2 with ⟨e, _⟩ | ⟨g', cap', cur, e1, q2, q3, q4, q5, q6, q7⟩
    · cases e
    · rw [show (r ++ [f]).length = r.length + 1 from by simp] at e1 q4 q7
      cases e1
      refine .inr ⟨_, _, cur, rfl, q2, q3, by omega, q5, q6, ?_⟩
      rw [← q7, List.take_take, Nat.min_eq_left (by omega)]
  · obtain ⟨q1, q2, q3⟩ := h2 k (by simp; omega)
    simp only [getD_snoc_lt _ _ _ hk] at q1 q2 q3
    have hm : ∀ j v, j < r.length * 5 → us[j]? = some v → (us.take (r.length * 5))[j]? = some v := fun j v hj e => by rw [List.getElem?_take_of_lt hj]; exact e
    refine ⟨⟨hm _ _ (by omega) q1.1, hm _ _ (by omega) q1.2.1, hm _ _ (by omega) q1.2.2.1, hm _ _ (by omega) q1.2.2.2.1, hm _ _ (by omega) q1.2.2.2.2⟩, q2.keep (Nat.le_refl _) (fun _ _ _ => rfl) (fun x hx _ => ⟨.inl hx, rfl⟩), fun g' hg' => ?_⟩
    obtain ⟨p1, p2, p3, p4⟩ := q3 g' hg'
    refine ⟨p1, fun hx => ?_, p3, fun k' hk' hne => ?_⟩
    · rcases hx with hx | hx
      · exact p2 hx
      · have := p4 r.length (by simp) (by omega)
        simp only [getD_snoc_eq] at this
        exact this hx
    · have := p4 k' (by simp; omega) hne
      simp only [getD_snoc_lt _ _ _ hk'] at this
      exact this
  · rcases hx with hx | hx
    · exact h3 x hx
    · exact ⟨(t2.low hx).1, (t2.low hx).2, (t3 x hx).1⟩
  · rcases t2 with ⟨e1, e2, e2', e3⟩ | ⟨e1, _⟩
    · exact ⟨e2, ⟨_, _, rfl, .inl rfl⟩, e3.rd (fun x hx => .inl hx) (fun g' hg' => .inr (by unfold rowOf; rw [if_pos hd]; exact hg'))⟩
    · rw [hd] at e1; cases e1
  · rcases t2 with ⟨e1, _⟩ | ⟨e1, e2, e2', _, _, e3⟩
    · rw [hd] at e1; cases e1
    · exact ⟨e2, e3.rl (fun x hx => .inl hx) (fun g' hg' => .inr (by unfold rowOf; rw [if_neg (by rw [hd]; decide)]; exact hg')), ⟨_, _, rfl, .inl rfl⟩⟩
theorem set_ne {us : List Value} {i j : Nat} {v : Value} (h : i ≠ j) : (us.set i v)[j]? = us[j]? := List.getElem?_set_ne h
theorem set_at {us : List Value} {i : Nat} {v : Value} (h : i < us.length) : (us.set i v)[i]? = some v := by simp [h]
theorem SIx.keyed {B : Nat} {S : Nat → Prop} {w : World} {g cap : Nat} {r : List Fr} {f : Fr} {us : List Value} {L D : Nat → Value} (h : SIx B S w (.slice (some ⟨g, 0, none⟩) (r.length + 1) cap) (r ++ [f]) us L D) (hd : f.d = true) (s : ByteArray) :
    SI B S ((w.setCell ⟨g, r.length * 5 + 3, none⟩ (.string s)).setCell ⟨g, r.length * 5 + 4, none⟩ (.bool true)) (.slice (some ⟨g, 0, none⟩) (r.length + 1) cap) (r ++ [{ f with key := s, has := true }]) := by
  have h0 := h
  obtain ⟨h1, h2, h3⟩ := h
  obtain ⟨t1, t2, t3⟩ := h2 r.length (by simp)
  simp only [getD_snoc_eq] at t1 t2 t3
  rw [show (r ++ [f]).length = r.length + 1 from by simp] at h1
  have hul : us.length = (r.length + 1) * 5 := h1.1
  have o2 := own_set (i := r.length * 5 + 4) (u := .bool true) (own_set (i := r.length * 5 + 3) (u := .string s) h1 (g := g) rfl (by omega)) (g := g) rfl (by omega)
  have hkeep : ∀ x, x ≠ g → ((w.setCell ⟨g, r.length * 5 + 3, none⟩ (.string s)).setCell ⟨g, r.length * 5 + 4, none⟩ (.bool true)).heap[x]? = w.heap[x]? := fun x hx => by rw [Below.heap_setCell _ _ _ _ hx, Below.heap_setCell _ _ _ _ hx]
  have hz : w.heap.size ≤ ((w.setCell ⟨g, r.length * 5 + 3, none⟩ (.string s)).setCell ⟨g, r.length * 5 + 4, none⟩ (.bool true)).heap.size := by simp [World.setCell]
  refine ⟨_, _, _, SIx.retop (L' := L r.length) (D' := D r.length) h0 o2 (fun j hj => by rw [set_ne (by omega), set_ne (by omega)]) ⟨?_, ?_, ?_, ?_, ?_⟩ ?_ hz (fun x _ _ hx _ => hkeep x (fun e => hx (by rw [e]; rfl))) (fun g' hg' => ?_) (fun g' hg' => (own_lt h1 hg').2)⟩
  · rw [set_ne (by omega), set_ne (by omega)]; exact t1.1
  · rw [set_ne (by omega), set_ne (by omega)]; exact t1.2.1
  · rw [set_ne (by omega), set_ne (by omega)]; exact t1.2.2.1
  · rw [set_ne (by omega), set_at (by omega)]
  · rw [set_at (by rw [List.length_set]; omega)]
  · have hF : FRow B S ((w.setCell ⟨g, r.length * 5 + 3, none⟩ (.string s)).setCell ⟨g, r.length * 5 + 4, none⟩ (.bool true)) f (L r.length) (D r.length) := t2.keep hz (fun g' hg' _ => hkeep g' (fun e => (t3 g' hg').1 (by rw [e]; rfl))) (fun x hx _ => ⟨hx, hkeep x (fun e => (h3 x hx).2.2 (by rw [e]; rfl))⟩)
    rcases hF with ⟨e1, e2, e3, e4⟩ | ⟨e1, _⟩
    · exact .inl ⟨e1, e2, e3, e4⟩
    · rw [hd] at e1; cases e1
  · exact .inl hg'
theorem SIx.joined {B : Nat} {S : Nat → Prop} {w w1 : World} {g cap : Nat} {r : List Fr} {f f' : Fr} {us : List Value} {L D : Nat → Value} {L' D' : Value} (h : SIx B S w (.slice (some ⟨g, 0, none⟩) (r.length + 1) cap) (r ++ [f]) us L D) (hg : w.grownBy w1 (rowOf f (L r.length) (D r.length)).ownBlock) (hF : FRow B S w1 f' L' D') (hat : At w (rowOf f (L r.length) (D r.length)) (rowOf f' L' D')) :
    SI B S (((((w1.setCell ⟨g, r.length * 5, none⟩ (kd f')).setCell ⟨g, r.length * 5 + 1, none⟩ L').setCell ⟨g, r.length * 5 + 2, none⟩ D').setCell ⟨g, r.length * 5 + 3, none⟩ (.string f'.key)).setCell ⟨g, r.length * 5 + 4, none⟩ (.bool f'.has)) (.slice (some ⟨g, 0, none⟩) (r.length + 1) cap) (r ++ [f']) := by
  have h0 := h
  obtain ⟨h1, h2, h3⟩ := h
  obtain ⟨t1, t2, t3⟩ := h2 r.length (by simp)
  simp only [getD_snoc_eq] at t1 t2 t3
  rw [show (r ++ [f]).length = r.length + 1 from by simp] at h1
  have hul : us.length = (r.length + 1) * 5 := h1.1
  have hgl := (own_lt h1 (g := g) rfl).2
  have hgn : (rowOf f (L r.length) (D r.length)).ownBlock ≠ some g := fun e => (t3 g e).1 rfl
  have h1' : w1.ownsRow B 144 5 (.slice (some ⟨g, 0, none⟩) (r.length + 1) cap) (r.length + 1) us := by
    refine ⟨h1.1, ?_⟩
    rcases h1.2 with h | ⟨g', cap', cur, q1, q2, q3, q4⟩
    · exact .inl h
    · cases q1
      exact .inr ⟨_, _, cur, rfl, q2, (hg.block _ hgl (fun e => hgn e.symm)).trans q3, q4⟩
  have o2 := own_set (i := r.length * 5 + 4) (u := .bool f'.has) (own_set (i := r.length * 5 + 3) (u := .string f'.key) (own_set (i := r.length * 5 + 2) (u := D') (own_set (i := r.length * 5 + 1) (u := L') (own_set (i := r.length * 5) (u := kd f') h1' (g := g) rfl (by omega)) (g := g) rfl (by omega)) (g := g) rfl (by omega)) (g := g) rfl (by omega)) (g := g) rfl (by omega)
  have hkeep : ∀ x, x ≠ g → (((((w1.setCell ⟨g, r.length * 5, none⟩ (kd f')).setCell ⟨g, r.length * 5 + 1, none⟩ L').setCell ⟨g, r.length * 5 + 2, none⟩ D').setCell ⟨g, r.length * 5 + 3, none⟩ (.string f'.key)).setCell ⟨g, r.length * 5 + 4, none⟩ (.bool f'.has)).heap[x]? = w1.heap[x]? := fun x hx => by
    rw [Below.heap_setCell _ _ _ _ hx, Below.heap_setCell _ _ _ _ hx, Below.heap_setCell _ _ _ _ hx, Below.heap_setCell _ _ _ _ hx, Below.heap_setCell _ _ _ _ hx]
  have hz : w1.heap.size ≤ (((((w1.setCell ⟨g, r.length * 5, none⟩ (kd f')).setCell ⟨g, r.length * 5 + 1, none⟩ L').setCell ⟨g, r.length * 5 + 2, none⟩ D').setCell ⟨g, r.length * 5 + 3, none⟩ (.string f'.key)).setCell ⟨g, r.length * 5 + 4, none⟩ (.bool f'.has)).heap.size := by simp [World.setCell]
  have hrow : ∀ g', (rowOf f' L' D').ownBlock = some g' → (rowOf f (L r.length) (D r.length)).ownBlock = some g' ∨ w.heap.size ≤ g' := fun g' hg' => by
    rcases hat with h | ⟨g2, h, h'⟩
    · exact .inl (h ▸ hg')
    · rw [h] at hg'; cases hg'; exact .inr h'
  refine ⟨_, _, _, SIx.retop (L' := L') (D' := D') h0 o2 (fun j hj => by rw [set_ne (by omega), set_ne (by omega), set_ne (by omega), set_ne (by omega), set_ne (by omega)]) ⟨?_, ?_, ?_, ?_, ?_⟩ ?_ (Nat.le_trans hg.size hz) (fun x _ hl hx hx2 => (hkeep x (fun e => hx (by rw [e]; rfl))).trans (hg.block x hl (fun e => hx2 e.symm))) hrow (fun g' hg' => (own_lt h1 hg').2)⟩
  · rw [set_ne (by omega), set_ne (by omega), set_ne (by omega), set_ne (by omega), set_at (by omega)]
  · rw [set_ne (by omega), set_ne (by omega), set_ne (by omega), set_at (by rw [List.length_set]; omega)]
  · rw [set_ne (by omega), set_ne (by omega), set_at (by rw [List.length_set, List.length_set]; omega)]
  · rw [set_ne (by omega), set_at (by rw [List.length_set, List.length_set, List.length_set]; omega)]
  · rw [set_at (by rw [List.length_set, List.length_set, List.length_set, List.length_set]; omega)]
  · refine hF.keep hz (fun g' hg' _ => hkeep g' (fun e => ?_)) (fun x hx _ => ⟨hx, hkeep x (fun e => (h3 x hx).2.2 (by rw [e]; rfl))⟩)
    subst e
    rcases hrow _ hg' with h | h
    · exact hgn h
    · omega
theorem VRow.snoc {B : Nat} {S : Nat → Prop} {w w1 : World} {v v' : Value} {l : List T} {us : List Value} {t : T} {x y : Value} (h2 : ∀ k, k < l.length → ∃ x y, RV S w (l.getD k .no) x y ∧ ∀ r, r < 5 → us[k * 5 + r]? = (cv (l.getD k .no) x y)[r]?) (hl : us.length = l.length * 5) (hg : w.grownBy w1 v.ownBlock)
    (hS : ∀ x, S x → x < w.heap.size → v.ownBlock ≠ some x) (h3 : w1.ownsRow B 31 5 v' (l.length + 1) (us ++ [.int .i64 t.k, .int .i64 t.n, .string t.s, x, y])) (hrv : RV S w t x y) : VRow B S w1 v' (l ++ [t]) := by
  have mv : ∀ t x y, RV S w t x y → RV S w1 t x y := RV.keep (fun _ h => h) hg.size (fun b hb hl => hg.block b hl (fun e => hS b hb hl e.symm))
  refine ⟨_, by simpa using h3, fun k hk => ?_⟩
  by_cases e : k < l.length
  · obtain ⟨x', y', q1, q2⟩ := h2 k e
    rw [getD_snoc_lt _ _ _ e]
    exact ⟨x', y', mv _ _ _ q1, fun r hr => by rw [List.getElem?_append_left (by omega)]; exact q2 r hr⟩
  · obtain rfl : k = l.length := by simp at hk; omega
    rw [getD_snoc_eq]
    refine ⟨x, y, mv _ _ _ hrv, fun r hr => ?_⟩
    rw [List.getElem?_append_right (by omega), hl, Nat.add_sub_cancel_left]
    rfl
theorem PRow.snoc {B : Nat} {S : Nat → Prop} {w w1 : World} {v v' : Value} {l : List (ByteArray × T)} {us : List Value} {t : T} {key : ByteArray} {x y : Value} (h2 : ∀ k, k < l.length → ∃ x y, RV S w (l.getD k (ByteArray.empty, .no)).2 x y ∧ ∀ r, r < 6 → us[k * 6 + r]? = (.string (l.getD k (ByteArray.empty, .no)).1 :: cv (l.getD k (ByteArray.empty, .no)).2 x y)[r]?) (hl : us.length = l.length * 6) (hg : w.grownBy w1 v.ownBlock)
    (hS : ∀ x, S x → x < w.heap.size → v.ownBlock ≠ some x) (h3 : w1.ownsRow B 74 6 v' (l.length + 1) (us ++ [.string key, .int .i64 t.k, .int .i64 t.n, .string t.s, x, y])) (hrv : RV S w t x y) : PRow B S w1 v' (l ++ [(key, t)]) := by
  have mv : ∀ t x y, RV S w t x y → RV S w1 t x y := RV.keep (fun _ h => h) hg.size (fun b hb hl => hg.block b hl (fun e => hS b hb hl e.symm))
  refine ⟨_, by simpa using h3, fun k hk => ?_⟩
  by_cases e : k < l.length
  · obtain ⟨x', y', q1, q2⟩ := h2 k e
    rw [getD_snoc_lt _ _ _ e]
    exact ⟨x', y', mv _ _ _ q1, fun r hr => by rw [List.getElem?_append_left (by omega)]; exact q2 r hr⟩
  · obtain rfl : k = l.length := by simp at hk; omega
    rw [getD_snoc_eq]
    refine ⟨x, y, mv _ _ _ hrv, fun r hr => ?_⟩
    rw [List.getElem?_append_right (by omega), hl, Nat.add_sub_cancel_left]
    rfl
end Go.Proofs.YtdlnnnlmlaploabDoor
namespace Go.Proofs.YtdlnnnlmlaploabDoor
open Go.RowKit Go.Deep
theorem joined39F {B : Nat} {S : Nat → Prop} {w : World} {sv : Value} {r : List Fr} {f : Fr} {us : List Value} {L D : Nat → Value} (h : SIx B S w sv (r ++ [f]) us L D) (hB : B ≤ w.heap.size) (h1 : f.ls.length ≤ 2097152) (h2 : f.ps.length ≤ 2097152) (t : T) (xa ya : Option Addr) (xn xc yn yc : Nat) (hrv : RV S w t (.slice xa xn xc) (.slice ya yn yc)) :
    Calls Tryd.prog 99 #[.agg #[kd f, L r.length, D r.length, .string f.key, .bool f.has], .agg #[.int .i64 t.k, .int .i64 t.n, .string t.s, .slice xa xn xc, .slice ya yn yc]] w fun e w1 => ∃ L' D', e = .returned (.agg #[kd (f.join t), L', D', .string (f.join t).key, .bool (f.join t).has]) ∧ w.grownBy w1 (rowOf f (L r.length) (D r.length)).ownBlock ∧ FRow B S w1 (f.join t) L' D' ∧ At w (rowOf f (L r.length) (D r.length)) (rowOf (f.join t) L' D') ∧ (∃ a n c, L' = .slice a n c) ∧ ∃ a n c, D' = .slice a n c := by
  obtain ⟨g1, g2, g3⟩ := h
  obtain ⟨t1, t2, t3⟩ := g2 r.length (by simp)
  simp only [getD_snoc_eq] at t1 t2 t3
  rcases t2 with ⟨e1, e2, e2', vs, e3, e4⟩ | ⟨e1, e2, e2', e2'', e2''', vs, e3, e4⟩
  · have hro : rowOf f (L r.length) (D r.length) = D r.length := by unfold rowOf; rw [if_pos e1]
    have hj : f.join t = { d := true, ps := f.ps ++ [(f.key, t)] } := by unfold Fr.join; rw [if_pos e1]
    rw [hro] at t3 ⊢
    rw [hj, e2, show kd f = .int .i64 4 from by unfold kd; rw [if_pos e1]]
    refine (joined39D f.key t.s f.has t.k t.n w none xa ya 0 0 xn xc yn yc B f.ps.length (D r.length) vs e3 hB h2).mono ?_
    rintro e w1 ⟨da, dc, rfl, q1, q2, q3⟩
    refine ⟨_, _, rfl, q2, .inl ⟨rfl, rfl, rfl, PRow.snoc e4 e3.1 q2 (fun x hx _ e => (t3 x e).2.1 hx) q1 hrv⟩, q3, ⟨_, _, _, rfl⟩, ⟨_, _, _, rfl⟩⟩
  · have hro : rowOf f (L r.length) (D r.length) = L r.length := by unfold rowOf; rw [if_neg (by rw [e1]; decide)]
    have hj : f.join t = { d := false, ls := f.ls ++ [t] } := by unfold Fr.join; rw [if_neg (by rw [e1]; decide)]
    rw [hro] at t3 ⊢
    rw [hj, e2, e2'', e2''', show kd f = .int .i64 3 from by unfold kd; rw [if_neg (by rw [e1]; decide)]]
    refine (joined39L ByteArray.empty t.s false t.k t.n w none xa ya 0 0 xn xc yn yc B f.ls.length (L r.length) vs e3 hB h1).mono ?_
    rintro e w1 ⟨da, dc, rfl, q1, q2, q3⟩
    refine ⟨_, _, rfl, q2, .inr ⟨rfl, rfl, rfl, rfl, rfl, VRow.snoc e4 e3.1 q2 (fun x hx _ e => (t3 x e).2.1 hx) q1 hrv⟩, q3, ⟨_, _, _, rfl⟩, ⟨_, _, _, rfl⟩⟩
/-- what the reference answers -/
def RQ (b : List UInt8) (w w' : World) (e : Ending) : Prop := Below w.heap.size w w' ∧ ((∃ t x y j, e = .returned (.tuple #[vv t x y, .int .i64 (j : Nat), .int .i64 0]) ∧ RV (fun x => w.heap.size ≤ x) w' t x y ∧ Run b (.go [] 0) (.val t j)) ∨
  ∃ (p : Nat) (er : Int), e = .returned (.tuple #[.agg #[.int .i64 0, .int .i64 0, .string { data := #[] }, .slice none 0 0, .slice none 0 0], .int .i64 p, .int .i64 er]) ∧ Run b (.go [] 0) (.bad p er))
theorem scal_rv {b : List UInt8} {i j : Nat} {t : T} (h : scP b i = .ok t j) (S : Nat → Prop) (w : World) : RV S w t (.slice none 0 0) (.slice none 0 0) := by
  unfold scP at h
  by_cases h105 : byt b i = 105
  · rw [if_pos h105] at h
    cases hn : numb b i with
    | bad p' e' => rw [hn] at h; cases h
    | ok n j => rw [hn] at h; cases h; exact ⟨⟨_, _, rfl, .inl rfl⟩, ⟨_, _, rfl, .inl rfl⟩⟩
  · rw [if_neg h105] at h
    cases hn : strg b i with
    | bad p' e' => rw [hn] at h; cases h
    | ok n j => rw [hn] at h; cases h; exact ⟨⟨_, _, rfl, .inl rfl⟩, ⟨_, _, rfl, .inl rfl⟩⟩
theorem scP_le {b : List UInt8} {i j : Nat} {t : T} (h : scP b i = .ok t j) : j ≤ b.length := by
  unfold scP at h
  by_cases h105 : byt b i = 105
  · rw [if_pos h105] at h
    cases hn : numb b i with
    | bad p' e' => rw [hn] at h; cases h
    | ok n j =>
      rw [hn] at h; cases h
      by_cases hl : i + 1 < b.length
      · rw [numb_sg hl] at hn
        generalize (if byt b (i + 1) = 45 then [45] else [] : List UInt8) = sg at hn
        cases hd : digs b 101 (i + 1 + sg.length) with
        | bad p e => rw [hd] at hn; cases hn
        | ok d k =>
          rw [hd] at hn
          dsimp only at hn
          obtain ⟨_, h2, _, h4, _⟩ := digs_ok hd
          cases ha : Lib.atoiAll (sg ++ d) with
          | ok v =>
            rw [ha] at hn
            dsimp only at hn
            by_cases hc : padd d = true ∨ sg ++ d = [45, 48]
            · rw [if_pos hc] at hn; cases hn
            · rw [if_neg hc] at hn; cases hn; omega
          | «syntax» => rw [ha] at hn; cases hn
          | range => rw [ha] at hn; cases hn
      · rw [numb, if_pos (by omega)] at hn; cases hn
  · rw [if_neg h105] at h
    cases hn : strg b i with
    | bad p' e' => rw [hn] at h; cases h
    | ok n j => rw [hn] at h; cases h; exact (strg_lt hn).2.2
/-- where the reference's reader stands -/
def RI (b : List UInt8) (w : World) (H : Nat) (wr : World) (sv : Value) (fs : List Fr) (S : Nat → Prop) (j : Nat) : Prop :=
  SI (H + 1) S wr sv fs ∧ Below H w wr ∧ obj wr H (.int .i64 0) (.int .i64 0) (.string { data := #[] }) (.slice none 0 0) (.slice none 0 0) ∧ j ≤ b.length ∧ Run b (.go [] 0) (.go fs.reverse j) ∧ (∀ f, f ∈ fs → f.ls.length ≤ j ∧ f.ps.length ≤ j) ∧ fs.length ≤ 32 ∧ H + 1 ≤ wr.heap.size
theorem RI.next {b : List UInt8} {w : World} {H : Nat} {wr w2 : World} {sv sv' : Value} {fs fs' : List Fr} {S S' : Nat → Prop} {j j' : Nat} (h : RI b w H wr sv fs S j) (hb : Below (H + 1) wr w2) (hsi : SI (H + 1) S' w2 sv' fs') (hrun : Run b (.go fs.reverse j) (.go fs'.reverse j')) (hj : j' ≤ b.length) (hlen : ∀ f, f ∈ fs' → f.ls.length ≤ j' ∧ f.ps.length ≤ j') (h32 : fs'.length ≤ 32) : RI b w H w2 sv' fs' S' j' :=
  ⟨hsi, h.2.1.trans (hb.mono (Nat.le_succ _)), h.2.2.1.keep (hb.block H (Nat.lt_succ_self _)), hj, h.2.2.2.2.1.trans hrun, hlen, h32, Nat.le_trans h.2.2.2.2.2.2.2 hb.size⟩
theorem RI.grow {b : List UInt8} {w : World} {H : Nat} {wr w2 : World} {sv : Value} {fs : List Fr} {S : Nat → Prop} {j : Nat} (h : RI b w H wr sv fs S j) (hb : Below wr.heap.size wr w2) : RI b w H w2 sv fs S j :=
  h.next (hb.mono h.2.2.2.2.2.2.2) (h.1.keep hb.size (fun x _ hx => hb.block x hx)) (.refl _) h.2.2.2.1 h.2.2.2.2.2.1 h.2.2.2.2.2.2.1
theorem info73 : (Tryd.prog.info? 144).map (fun i => (i.zero, i.size, i.bytes)) = some (some (.agg #[.int .i64 0, .slice none 0 0, .slice none 0 0, .string ByteArray.empty, .bool false]), 5, 80) := by kernel_rfl
theorem append_open {ops : Array Oper} {rest : List Oper} {o : Oper} {a : Act} {Q : Exit → Act → World → Prop} {w : World} {B : Nat} {S : Nat → Prop} {sv : Value} {fs : List Fr} {dd : Bool} (hgd : o.guard = none) (s x : Operand)
    (ho : o.op = .call { callee := .builtin .append, args := #[s, x], argTypes := #[142, 142] }) (hs : a.eval s = sv) (h : SI B S w sv fs) (b : Nat) (hx : a.eval x = .slice (some ⟨b, 0, none⟩) 1 1) (hc : blk w b 144 #[kd { d := dd }, .slice none 0 0, .slice none 0 0, .string ByteArray.empty, .bool false]) (hB : B ≤ w.heap.size) (hlim : fs.length ≤ 32)
    (hcont : ∀ sa sc w', SI B S w' (.slice sa (fs.length + 1) sc) (fs ++ [{ d := dd }]) → Below B w w' → wpList Tryd.prog ops Q rest (a.put o.dst (.slice sa (fs.length + 1) sc)) w') : wpList Tryd.prog ops Q (o :: rest) a w := by
  obtain ⟨i0, hi, hz0, hz1, hz2⟩ := info_parts info73
  obtain ⟨us, L, D, hsi⟩ := h
  obtain ⟨v', w', hr, hown', hgrow, _, hatb⟩ := run_append_own_at (P := Tryd.prog) w B 142 o.type 144 i0 _ 5 80 Tryd.underlying142 hi hz0 hz1 hz2 rfl (by omega) sv fs.length us hsi.1 ⟨b, 0, none⟩ 1 1 [kd { d := dd }, .slice none 0 0, .slice none 0 0, .string ByteArray.empty, .bool false] rfl
    (fun j u hu => by
      match j, hu with
      | 0, hu => simp at hu; subst hu; simpa [Addr.add] using hc.cell 0
      | 1, hu => simp at hu; subst hu; simpa [Addr.add] using hc.cell 1
      | 2, hu => simp at hu; subst hu; simpa [Addr.add] using hc.cell 2
      | 3, hu => simp at hu; subst hu; simpa [Addr.add] using hc.cell 3
      | 4, hu => simp at hu; subst hu; simpa [Addr.add] using hc.cell 4) (fun u hu => by simp at hu; rcases hu with rfl | rfl | rfl | rfl <;> rfl) (by unfold maxLen; omega) (by omega) hB
  obtain ⟨sa, sc, rfl⟩ := ownForm hown'
  refine Lib.wpList_append_run w hgd s x 142 142 ho sv _ hs hx _ w' hr (hcont sa sc w' (SI.push dd hsi hown' hgrow ?_) ((Below.refl B w).grown hgrow hB (fun k hk => (own_lt hsi.1 hk).1)))
  rcases hatb with h | h
  · exact .inl h
  · exact .inr ⟨_, h, Nat.le_refl _⟩
theorem scP_er {b : List UInt8} {i p : Nat} {e : Int} (h : scP b i = .bad p e) : (e != 0) = true := by
  unfold scP at h
  have : e = 21 ∨ e = 22 ∨ e = 23 := by
    by_cases h105 : byt b i = 105
    · rw [if_pos h105] at h
      cases hn : numb b i with
      | bad p' e' => rw [hn] at h; cases h; exact numb_er hn
      | ok n j => rw [hn] at h; cases h
    · rw [if_neg h105] at h
      cases hn : strg b i with
      | bad p' e' => rw [hn] at h; cases h; exact strg_er hn
      | ok n j => rw [hn] at h; cases h
  rcases this with h | h | h <;> subst h <;> rfl
theorem obj_set5 {W : World} {H v : Nat} {c0 c1 c2 c3 c4 b0 b1 b2 b3 b4 : Value} (hn : H ≠ v) (h : obj W H c0 c1 c2 c3 c4) : obj (((((W.setCell ⟨v, 0, none⟩ b0).setCell ⟨v, 1, none⟩ b1).setCell ⟨v, 2, none⟩ b2).setCell ⟨v, 3, none⟩ b3).setCell ⟨v, 4, none⟩ b4) H c0 c1 c2 c3 c4 :=
  h.keep (by rw [Below.heap_setCell _ _ _ _ hn, Below.heap_setCell _ _ _ _ hn, Below.heap_setCell _ _ _ _ hn, Below.heap_setCell _ _ _ _ hn, Below.heap_setCell _ _ _ _ hn])
theorem below_set5v {B v : Nat} {w w1 : World} {b0 b1 b2 b3 b4 : Value} (hv : B ≤ v) (h : Below B w w1) : Below B w (((((w1.setCell ⟨v, 0, none⟩ b0).setCell ⟨v, 1, none⟩ b1).setCell ⟨v, 2, none⟩ b2).setCell ⟨v, 3, none⟩ b3).setCell ⟨v, 4, none⟩ b4) :=
  ((((h.setCell hv _).setCell hv _).setCell hv _).setCell hv _).setCell hv _
theorem join_len {n : Nat} (f : Fr) (t : T) (h1 : f.ls.length < n) (h2 : f.ps.length < n) : (f.join t).ls.length ≤ n ∧ (f.join t).ps.length ≤ n := by
  unfold Fr.join
  split
  · simp; omega
  · simp; omega
theorem frow_L {B : Nat} {S : Nat → Prop} {w : World} {f : Fr} {L D : Value} (h : FRow B S w f L D) : ∃ a n c, L = .slice a n c := by
  rcases h with ⟨_, h, _⟩ | ⟨_, _, _, _, _, us, h, _⟩
  · exact ⟨_, _, _, h⟩
  · obtain ⟨a, c, e⟩ := ownForm h; exact ⟨a, _, c, e⟩
theorem frow_D {B : Nat} {S : Nat → Prop} {w : World} {f : Fr} {L D : Value} (h : FRow B S w f L D) : ∃ a n c, D = .slice a n c := by
  rcases h with ⟨_, _, _, us, h, _⟩ | ⟨_, h, _⟩
  · obtain ⟨a, c, e⟩ := ownForm h; exact ⟨a, _, c, e⟩
  · exact ⟨_, _, _, h⟩
theorem SI.S {B : Nat} {S : Nat → Prop} {w : World} {sv : Value} {fs : List Fr} (h : SI B S w sv fs) : ∀ x, S x → B ≤ x ∧ x < w.heap.size := by
  obtain ⟨_, _, _, _, _, h3⟩ := h
  exact fun x hx => ⟨(h3 x hx).1, (h3 x hx).2.1⟩
theorem PRow.last {B : Nat} {S : Nat → Prop} {w : World} {a : Option Addr} {n c : Nat} {l : List (ByteArray × T)} (h : PRow B S w (.slice a n c) l) (hn : l ≠ []) : ∃ gd, a = some ⟨gd, 0, none⟩ ∧ n = l.length ∧ B ≤ gd ∧ gd < w.heap.size ∧ w.cell? ⟨gd, (l.length - 1) * 6, none⟩ = some (.string (lastK l)) := by
  obtain ⟨us, q1, q2⟩ := h
  have hl : 0 < l.length := List.length_pos_iff.2 hn
  obtain ⟨gd, ha⟩ : ∃ gd, (Value.slice a n c).ownBlock = some gd := by
    rcases q1.2 with ⟨_, e⟩ | ⟨g, cap, cur, e, _⟩
    · omega
    · exact ⟨g, by rw [e]; rfl⟩
  obtain ⟨cap, e, hc⟩ := own_form q1 ha
  have hlt := own_lt q1 ha
  injection e with e1 e2 e3
  refine ⟨gd, e1, e2, hlt.1, hlt.2, ?_⟩
  obtain ⟨x, y, _, hu⟩ := q2 (l.length - 1) (by omega)
  have h0 := hu 0 (by omega)
  have := hc _ _ h0
  rw [Nat.add_zero] at this
  rw [this]
  unfold lastK
  rw [List.getLastD_eq_getLast?, List.getLast?_eq_getElem?]
  rfl
theorem RI.keyed {b : List UInt8} {w : World} {H : Nat} {wr : World} {gs sc : Nat} {r : List Fr} {f : Fr} {S : Nat → Prop} {j j2 : Nat} {us : List Value} {L D : Nat → Value} (h : RI b w H wr (.slice (some ⟨gs, 0, none⟩) (r.length + 1) sc) (r ++ [f]) S j) (hx : SIx (H + 1) S wr (.slice (some ⟨gs, 0, none⟩) (r.length + 1) sc) (r ++ [f]) us L D) (hd : f.d = true) (hg : H + 1 ≤ gs) (s : ByteArray) (A O : Obj) (hlt : j < j2) (hle : j2 ≤ b.length) (hs : step b (f :: r.reverse) j = .go ({ f with key := s, has := true } :: r.reverse) j2) :
    RI b w H ((((wr.setCell ⟨gs, r.length * 5 + 3, none⟩ (.string s)).setCell ⟨gs, r.length * 5 + 4, none⟩ (.bool true)).alloc A).alloc O) (.slice (some ⟨gs, 0, none⟩) (r.length + 1) sc) (r ++ [{ f with key := s, has := true }]) S j2 := by
  have hb : Below (H + 1) wr ((wr.setCell ⟨gs, r.length * 5 + 3, none⟩ (.string s)).setCell ⟨gs, r.length * 5 + 4, none⟩ (.bool true)) := ((Below.refl _ _).setCell hg _).setCell hg _
  refine RI.grow (h.next hb (hx.keyed hd s) (by simpa using Run.one hs) hle (fun f' hf' => ?_) (by have := h.2.2.2.2.2.2.1; simpa using this)) (((Below.refl _ _).alloc (Nat.le_refl _) _).alloc (by simp) _)
  rcases List.mem_append.1 hf' with q | q
  · have := h.2.2.2.2.2.1 f' (List.mem_append_left _ q); omega
  · simp at q
    subst q
    have := h.2.2.2.2.2.1 f (by simp)
    exact ⟨by dsimp only; omega, by dsimp only; omega⟩
theorem vv_close {t : T} {k : Int} {x y : Value} {j : Nat} (h : t.k = k ∧ t.n = 0 ∧ t.s = ByteArray.empty) : Ending.returned (.tuple #[.agg #[.int .i64 k, .int .i64 0, .string { data := #[] }, x, y], .int .i64 ((j : Int) + 1), .int .i64 0]) = .returned (.tuple #[vv t x y, .int .i64 ((j + 1 : Nat) : Int), .int .i64 0]) := by
  unfold vv
  rw [h.1, h.2.1, h.2.2]
  rfl
theorem rv_end {S : Nat → Prop} {wr w2 : World} {H VB : Nat} {t : T} {x y a0 a1 a2 a3 a4 b0 b1 b2 b3 b4 : Value} (h : RV S wr t x y) (hS : ∀ x, S x → H + 1 ≤ x ∧ x < wr.heap.size) (hb : Below VB wr w2) (hV : wr.heap.size = VB) :
    RV (fun x => H ≤ x) ((((((((((w2.setCell ⟨VB, 0, none⟩ a0).setCell ⟨VB, 1, none⟩ a1).setCell ⟨VB, 2, none⟩ a2).setCell ⟨VB, 3, none⟩ a3).setCell ⟨VB, 4, none⟩ a4).setCell ⟨H, 0, none⟩ b0).setCell ⟨H, 1, none⟩ b1).setCell ⟨H, 2, none⟩ b2).setCell ⟨H, 3, none⟩ b3).setCell ⟨H, 4, none⟩ b4) t x y := by
  refine RV.keep (w := wr) (fun x hx => by have := (hS x hx).1; show H ≤ x; omega) (by simpa using hb.size) (fun k hk hl => ?_) _ _ _ h
  have hn1 : k ≠ H := by have := (hS k hk).1; omega
  have hn2 : k ≠ VB := by omega
  rw [Below.heap_setCell _ _ _ _ hn1, Below.heap_setCell _ _ _ _ hn1, Below.heap_setCell _ _ _ _ hn1, Below.heap_setCell _ _ _ _ hn1, Below.heap_setCell _ _ _ _ hn1, Below.heap_setCell _ _ _ _ hn2, Below.heap_setCell _ _ _ _ hn2, Below.heap_setCell _ _ _ _ hn2, Below.heap_setCell _ _ _ _ hn2, Below.heap_setCell _ _ _ _ hn2]
  exact hb.block k (by omega)
theorem SIx.keep {B : Nat} {S : Nat → Prop} {w w' : World} {sv : Value} {fs : List Fr} {us : List Value} {L D : Nat → Value} (h : SIx B S w sv fs us L D) (hz : w.heap.size ≤ w'.heap.size) (hs : ∀ x, B ≤ x → x < w.heap.size → w'.heap[x]? = w.heap[x]?) : SIx B S w' sv fs us L D := by
  obtain ⟨h1, h2, h3⟩ := h
  refine ⟨own_keep h1 hs, fun k hk => ?_, fun x hx => ⟨(h3 x hx).1, Nat.lt_of_lt_of_le (h3 x hx).2.1 hz, (h3 x hx).2.2⟩⟩
  obtain ⟨q1, q2, q3⟩ := h2 k hk
  exact ⟨q1, q2.keep hz (fun g hg hl => hs g (q2.low hg).1 hl) (fun x hx hl => ⟨hx, hs x (h3 x hx).1 hl⟩), fun g hg => ⟨(q3 g hg).1, (q3 g hg).2.1, Nat.lt_of_lt_of_le (q3 g hg).2.2.1 hz, (q3 g hg).2.2.2⟩⟩
/-- what a store into the top frame and the value's box wants to know -/
def TCV (w : World) (gs n VB : Nat) (c0 c1 c2 c3 c4 v0 v1 v2 v3 v4 : Value) : Prop :=
  w.cell? ⟨gs, n * 5, none⟩ = some c0 ∧ w.cell? ⟨gs, n * 5 + 1, none⟩ = some c1 ∧ w.cell? ⟨gs, n * 5 + 2, none⟩ = some c2 ∧ w.cell? ⟨gs, n * 5 + 3, none⟩ = some c3 ∧ w.cell? ⟨gs, n * 5 + 4, none⟩ = some c4 ∧
  w.frozen? ⟨gs, n * 5, none⟩ = false ∧ w.frozen? ⟨gs, n * 5 + 1, none⟩ = false ∧ w.frozen? ⟨gs, n * 5 + 2, none⟩ = false ∧ w.frozen? ⟨gs, n * 5 + 3, none⟩ = false ∧ w.frozen? ⟨gs, n * 5 + 4, none⟩ = false ∧
  w.cell? ⟨VB, 0, none⟩ = some v0 ∧ w.cell? ⟨VB, 1, none⟩ = some v1 ∧ w.cell? ⟨VB, 2, none⟩ = some v2 ∧ w.cell? ⟨VB, 3, none⟩ = some v3 ∧ w.cell? ⟨VB, 4, none⟩ = some v4
theorem join_call {H : Nat} {S : Nat → Prop} {w3 : World} {gs sc VB : Nat} {r : List Fr} {f : Fr} {us : List Value} {L D : Nat → Value} {t : T} {xa ya : Option Addr} {xn xc yn yc : Nat} (h : SIx (H + 1) S w3 (.slice (some ⟨gs, 0, none⟩) (r.length + 1) sc) (r ++ [f]) us L D) (hv : obj w3 VB (.int .i64 t.k) (.int .i64 t.n) (.string t.s) (.slice xa xn xc) (.slice ya yn yc)) (hVB : ∀ g, (rowOf f (L r.length) (D r.length)).ownBlock = some g → g ≠ VB) (hB : H + 1 ≤ w3.heap.size) (h1 : f.ls.length ≤ 2097152) (h2 : f.ps.length ≤ 2097152) (hrv : RV S w3 t (.slice xa xn xc) (.slice ya yn yc)) :
    TCV w3 gs r.length VB (kd f) (L r.length) (D r.length) (.string f.key) (.bool f.has) (.int .i64 t.k) (.int .i64 t.n) (.string t.s) (.slice xa xn xc) (.slice ya yn yc) ∧
    Calls Tryd.prog 99 #[.agg #[kd f, L r.length, D r.length, .string f.key, .bool f.has], .agg #[.int .i64 t.k, .int .i64 t.n, .string t.s, .slice xa xn xc, .slice ya yn yc]] w3.drew fun e w4 => ∃ la ln lc da dn dc, e = .returned (.agg #[kd (f.join t), .slice la ln lc, .slice da dn dc, .string (f.join t).key, .bool (f.join t).has]) ∧
      TCV w4 gs r.length VB (kd f) (L r.length) (D r.length) (.string f.key) (.bool f.has) (.int .i64 t.k) (.int .i64 t.n) (.string t.s) (.slice xa xn xc) (.slice ya yn yc) ∧
      Hid (SI (H + 1) S (((((w4.setCell ⟨gs, r.length * 5, none⟩ (kd (f.join t))).setCell ⟨gs, r.length * 5 + 1, none⟩ (.slice la ln lc)).setCell ⟨gs, r.length * 5 + 2, none⟩ (.slice da dn dc)).setCell ⟨gs, r.length * 5 + 3, none⟩ (.string (f.join t).key)).setCell ⟨gs, r.length * 5 + 4, none⟩ (.bool (f.join t).has)) (.slice (some ⟨gs, 0, none⟩) (r.length + 1) sc) (r ++ [f.join t]) ∧
        Below (H + 1) w3 (((((w4.setCell ⟨gs, r.length * 5, none⟩ (kd (f.join t))).setCell ⟨gs, r.length * 5 + 1, none⟩ (.slice la ln lc)).setCell ⟨gs, r.length * 5 + 2, none⟩ (.slice da dn dc)).setCell ⟨gs, r.length * 5 + 3, none⟩ (.string (f.join t).key)).setCell ⟨gs, r.length * 5 + 4, none⟩ (.bool (f.join t).has))) := by
  obtain ⟨gs', cap, hsv, _, hgB, hgl, ⟨k0, k1, k2, k3, k4⟩, kfr, hF⟩ := h.top
  injection hsv with e1 e2 e3
  injection e1 with e1
  injection e1 with e1
  subst e1
  obtain ⟨v0, v1, v2, v3, v4⟩ := hv.cells
  have hgn : (rowOf f (L r.length) (D r.length)).ownBlock ≠ some gs := fun e => by
    have := (h.2.1 r.length (by simp)).2.2 gs (by simpa only [getD_snoc_eq] using e)
    exact this.1 rfl
  refine ⟨⟨k0, k1, k2, k3, k4, kfr _, kfr _, kfr _, kfr _, kfr _, v0, v1, v2, v3, v4⟩, ?_⟩
  have hd : SIx (H + 1) S w3.drew (.slice (some ⟨gs, 0, none⟩) (r.length + 1) sc) (r ++ [f]) us L D := h.keep (Nat.le_refl _) (fun _ _ _ => rfl)
  refine (joined39F hd hB h1 h2 t xa ya xn xc yn yc (RV.keep (w := w3) (w' := w3.drew) (fun _ h => h) (Nat.le_refl _) (fun _ _ _ => rfl) _ _ _ hrv)).mono ?_
  rintro e w4 ⟨L', D', rfl, q1, q2, q3, ⟨la, ln, lc, rfl⟩, ⟨da, dn, dc, rfl⟩⟩
  have kb : ∀ x, x < w3.heap.size → (rowOf f (L r.length) (D r.length)).ownBlock ≠ some x → w4.heap[x]? = w3.heap[x]? := fun x hx hn => q1.block x hx (fun e => hn e.symm)
  have c1 : ∀ i, w4.cell? ⟨gs, i, none⟩ = w3.cell? ⟨gs, i, none⟩ := fun i => World.cell?_of_block (w := w3) (kb gs hgl hgn)
  have c2 : ∀ i, w4.frozen? ⟨gs, i, none⟩ = w3.frozen? ⟨gs, i, none⟩ := fun i => World.frozen?_of_block (w := w3) (kb gs hgl hgn)
  have c3 : ∀ i, w4.cell? ⟨VB, i, none⟩ = w3.cell? ⟨VB, i, none⟩ := fun i => World.cell?_of_block (w := w3) (kb VB hv.lt (fun e => hVB VB e rfl))
  refine ⟨la, ln, lc, da, dn, dc, rfl, ⟨(c1 _).trans k0, (c1 _).trans k1, (c1 _).trans k2, (c1 _).trans k3, (c1 _).trans k4, (c2 _).trans (kfr _), (c2 _).trans (kfr _), (c2 _).trans (kfr _), (c2 _).trans (kfr _), (c2 _).trans (kfr _), (c3 _).trans v0, (c3 _).trans v1, (c3 _).trans v2, (c3 _).trans v3, (c3 _).trans v4⟩, SIx.joined hd q1 q2 q3, ?_⟩
  have hb : Below (H + 1) w3 w4 := ⟨q1.os, q1.tape, q1.output, q1.size, fun k hk => kb k (by omega) (fun e => by have := (hF.low e).1; omega)⟩
  exact ((((hb.setCell hgB _).setCell hgB _).setCell hgB _).setCell hgB _).setCell hgB _
theorem push_boxes (K0 : Value) (wr : World) (A : Obj) (O : Obj) (_hO : O = Obj.cells #[K0, .slice none 0 0, .slice none 0 0, .string ByteArray.empty, .bool false] 144) :
    Below wr.heap.size wr (((wr.alloc A).alloc O).alloc (Obj.cells #[K0, .slice none 0 0, .slice none 0 0, .string ByteArray.empty, .bool false] 144)) ∧ blk (((wr.alloc A).alloc O).alloc (Obj.cells #[K0, .slice none 0 0, .slice none 0 0, .string ByteArray.empty, .bool false] 144)) (wr.heap.size + 1 + 1) 144 #[K0, .slice none 0 0, .slice none 0 0, .string ByteArray.empty, .bool false] := by
  refine ⟨(((Below.refl _ _).alloc (Nat.le_refl _) _).alloc (by simp) _).alloc (by simp; omega) _, ?_⟩
  have := heap_new ((wr.alloc A).alloc O) (Obj.cells #[K0, .slice none 0 0, .slice none 0 0, .string ByteArray.empty, .bool false] 144)
  simpa [blk] using this
/-- the body of a function's first loop -/
def firstLoop : Code → Option Code
  | .loop c => some c
  | .seq a b => match firstLoop a with
    | some c => some c
    | none => firstLoop b
  | .block _ c => firstLoop c
  | .scope c => firstLoop c
  | .cond _ a b => match firstLoop a with
    | some c => some c
    | none => firstLoop b
  | _ => none
def loopOf (f : Func) : Code := (f.body.bind firstLoop).getD .skip
end Go.Proofs.YtdlnnnlmlaploabDoor
