import Derived.Test.YtmfbhihjiebagaaDoorPe
namespace Go.Proofs.YtmfbhihjiebagaaDoor
open Go.Shelf Go.RowKit Go.Deep
/-- what has been read of a link -/
structure Ps where
  h : List UInt8
  nm : ByteArray
  ts : List ByteArray
  ps : List ByteArray
  rs : List (Int × Int)
  mo : List (ByteArray × ByteArray)
/-- the cells of pairs -/
def moC (l : List (ByteArray × ByteArray)) : List Value := l.flatMap fun x => [.string x.1, .int .i64 2, .int .i64 0, .string x.2, .slice none 0 0, .slice none 0 0]
def OS (B : Nat) (w : World) (v : Value) (ts : List ByteArray) : Prop := w.ownsRow B 9 1 v ts.length (tsC ts)
def OM (B : Nat) (w : World) (v : Value) (l : List (ByteArray × ByteArray)) : Prop := w.ownsRow B 68 6 v l.length (moC l)
theorem own_keep {w w' : World} {B e sz n : Nat} {v : Value} {xs : List Value} (h : w.ownsRow B e sz v n xs) (hb : ∀ g, v.ownBlock = some g → w'.heap[g]? = w.heap[g]?) : w'.ownsRow B e sz v n xs := by
  refine ⟨h.1, ?_⟩
  rcases h.2 with h1 | ⟨g, cap, cur, h1, h2, h3, h4⟩
  · exact .inl h1
  · exact .inr ⟨g, cap, cur, h1, h2, (hb g (by rw [h1]; rfl)).trans h3, h4⟩
/-- two lists lie in unlike blocks -/
def Dj (a b : Value) : Prop := ∀ g, a.ownBlock = some g → b.ownBlock ≠ some g
theorem Dj.symm {a b : Value} (h : Dj a b) : Dj b a := fun g h1 h2 => h g h2 h1
/-- the lists of a link that is being read: each its reader's own, in unlike blocks -/
structure LO (B : Nat) (w : World) (p : Ps) (tr pe on mo : Value) : Prop where
  o1 : OS B w tr p.ts
  o2 : OS B w pe p.ps
  o3 : OR B w on p.rs
  o4 : OM B w mo p.mo
  d1 : Dj tr pe
  d2 : Dj tr on
  d3 : Dj tr mo
  d4 : Dj pe on
  d5 : Dj pe mo
  d6 : Dj on mo
/-- none of the four lies in this block -/
def NoB (g : Nat) (tr pe on mo : Value) : Prop := tr.ownBlock ≠ some g ∧ pe.ownBlock ≠ some g ∧ on.ownBlock ≠ some g ∧ mo.ownBlock ≠ some g
theorem LO.nob {B : Nat} {w : World} {p : Ps} {tr pe on mo : Value} (h : LO B w p tr pe on mo) {g : Nat} (hg : w.heap.size ≤ g) : NoB g tr pe on mo :=
  ⟨fun e => by have := (World.ownsRow.lt h.o1 g e).2; omega, fun e => by have := (World.ownsRow.lt h.o2 g e).2; omega, fun e => by have := (World.ownsRow.lt h.o3 g e).2; omega, fun e => by have := (World.ownsRow.lt h.o4 g e).2; omega⟩
theorem LO.keep {B : Nat} {w w' : World} {p : Ps} {tr pe on mo : Value} (h : LO B w p tr pe on mo) (hb : ∀ g, ¬ NoB g tr pe on mo → w'.heap[g]? = w.heap[g]?) : LO B w' p tr pe on mo :=
  ⟨own_keep h.o1 fun g e => hb g fun n => n.1 e, own_keep h.o2 fun g e => hb g fun n => n.2.1 e, own_keep h.o3 fun g e => hb g fun n => n.2.2.1 e, own_keep h.o4 fun g e => hb g fun n => n.2.2.2 e, h.d1, h.d2, h.d3, h.d4, h.d5, h.d6⟩
theorem LO.below {B : Nat} {w w' : World} {p : Ps} {tr pe on mo : Value} (h : LO B w p tr pe on mo) (hb : Below w.heap.size w w') : LO B w' p tr pe on mo :=
  h.keep fun g hn => hb.block g (by
    rcases Nat.lt_or_ge g w.heap.size with h1 | h1
    · exact h1
    · exact absurd (h.nob h1) hn)
theorem LO.nil (B : Nat) (w : World) (h : List UInt8) : LO B w ⟨h, ⟨#[]⟩, [], [], [], []⟩ (.slice none 0 0) (.slice none 0 0) (.slice none 0 0) (.slice none 0 0) := by
  refine ⟨World.ownsRow_nil _ _ _ _, World.ownsRow_nil _ _ _ _, World.ownsRow_nil _ _ _ _, World.ownsRow_nil _ _ _ _, ?_, ?_, ?_, ?_, ?_, ?_⟩ <;> (intro g hg; simp [Value.ownBlock] at hg)
theorem info68 : (Tryd.prog.info? 68).map (fun i => (i.zero, i.size, i.bytes)) = some (some (.agg #[.string ByteArray.empty, .int .i64 0, .int .i64 0, .string ByteArray.empty, .slice none 0 0, .slice none 0 0]), 6, 96) := by kernel_rfl
/-- one more string onto an own list -/
theorem append_strO {ops : Array Oper} {rest : List Oper} {o : Oper} {a : Act} {Q : Exit → Act → World → Prop} {w : World} {B : Nat} {sv : Value} {ts : List ByteArray} (hgd : o.guard = none) (s x : Operand)
    (ho : o.op = .call { callee := .builtin .append, args := #[s, x], argTypes := #[24, 24] }) (hs : a.eval s = sv) (hown : OS B w sv ts) (b : Nat) (y : ByteArray) (hx : a.eval x = .slice (some ⟨b, 0, none⟩) 1 1)
    (hc : w.cell? ⟨b, 0, none⟩ = some (.string y)) (hB : B ≤ w.heap.size) (hlim : ts.length < 2147483647)
    (h : ∀ g cap w', OS B w' (.slice (some ⟨g, 0, none⟩) (ts.length + 1) cap) (ts ++ [y]) → w.grownBy w' sv.ownBlock → (sv.ownBlock = some g ∨ g = w.heap.size) → wpList Tryd.prog ops Q rest (a.put o.dst (.slice (some ⟨g, 0, none⟩) (ts.length + 1) cap)) w') : wpList Tryd.prog ops Q (o :: rest) a w := by
  obtain ⟨i0, hi, hz0, hz1, hz2⟩ := info_parts info9
  refine wpList_append_lies w hgd s x 24 ho B 9 i0 _ 1 16 Tryd.underlying24 hi hz0 hz1 hz2 rfl (by omega) sv ts.length (tsC ts) hs hown ⟨b, 0, none⟩ 1 1 [.string y] hx rfl (fun j u hu => ?_) (fun u hu => ?_) (by omega) (by unfold maxLen; omega) (by omega) hB w.heap.size rfl (fun g cap w' h1 h2 h3 _ => ?_)
  · match j, hu with
    | 0, hu => simp at hu; subst hu; simpa [Addr.add] using hc
  · simp at hu; subst hu; rfl
  · refine h g cap w' ?_ h2 h3
    have e : tsC ts ++ [Value.string y] = tsC (ts ++ [y]) := by simp [tsC]
    rw [e] at h1
    show w'.ownsRow B 9 1 _ (ts ++ [y]).length _
    rw [List.length_append]
    exact h1
theorem append_pairO {ops : Array Oper} {rest : List Oper} {o : Oper} {a : Act} {Q : Exit → Act → World → Prop} {w : World} {B : Nat} {sv : Value} {l : List (ByteArray × ByteArray)} (hgd : o.guard = none) (s x : Operand)
    (ho : o.op = .call { callee := .builtin .append, args := #[s, x], argTypes := #[26, 26] }) (hs : a.eval s = sv) (hown : OM B w sv l) (b : Nat) (y : ByteArray × ByteArray) (hx : a.eval x = .slice (some ⟨b, 0, none⟩) 1 1)
    (hc : w.heap[b]? = some (.cells #[.string y.1, .int .i64 2, .int .i64 0, .string y.2, .slice none 0 0, .slice none 0 0] 68 (0, 0))) (hB : B ≤ w.heap.size) (hlim : l.length < 16777216)
    (h : ∀ g cap w', OM B w' (.slice (some ⟨g, 0, none⟩) (l.length + 1) cap) (l ++ [y]) → w.grownBy w' sv.ownBlock → (sv.ownBlock = some g ∨ g = w.heap.size) → wpList Tryd.prog ops Q rest (a.put o.dst (.slice (some ⟨g, 0, none⟩) (l.length + 1) cap)) w') : wpList Tryd.prog ops Q (o :: rest) a w := by
  obtain ⟨i0, hi, hz0, hz1, hz2⟩ := info_parts info68
  refine wpList_append_lies w hgd s x 26 ho B 68 i0 _ 6 96 Tryd.underlying26 hi hz0 hz1 hz2 rfl (by omega) sv l.length (moC l) hs hown ⟨b, 0, none⟩ 1 1 [.string y.1, .int .i64 2, .int .i64 0, .string y.2, .slice none 0 0, .slice none 0 0] hx rfl (World.news_of_block (B := b) hc) (fun u hu => ?_) (by omega) (by unfold maxLen; omega) (by omega) hB w.heap.size rfl (fun g cap w' h1 h2 h3 _ => ?_)
  · simp at hu; rcases hu with rfl | rfl | rfl | rfl | rfl | rfl <;> rfl
  · refine h g cap w' ?_ h2 h3
    have e : moC l ++ [.string y.1, .int .i64 2, .int .i64 0, .string y.2, .slice none 0 0, .slice none 0 0] = moC (l ++ [y]) := by simp [moC]
    rw [e] at h1
    show w'.ownsRow B 68 6 _ (l ++ [y]).length _
    rw [List.length_append]
    exact h1
/-- a link's block stands behind an append onto one of its lists -/
theorem grown_block {w w' : World} {row : Option Nat} (hg : w.grownBy w' row) {q : Nat} (hq : q < w.heap.size) (hne : row ≠ some q) : w'.heap[q]? = w.heap[q]? := hg.block q hq (fun e => hne e.symm)
theorem dj_new {sv a : Value} {g n c hs : Nat} (hat : sv.ownBlock = some g ∨ g = hs) (hd : Dj sv a) (hn : ∀ q, a.ownBlock = some q → q < hs) : Dj (.slice (some ⟨g, 0, none⟩) n c) a := fun q h1 h2 => by
  have h1' : g = q := by simpa [Value.ownBlock] using h1
  subst h1'
  rcases hat with h | h
  · exact hd g h h2
  · have := hn g h2; omega
theorem LO.putTs {B : Nat} {w w' : World} {p : Ps} {tr pe on mo : Value} {y : ByteArray} {g cap : Nat} (h : LO B w p tr pe on mo) (h1 : OS B w' (.slice (some ⟨g, 0, none⟩) (p.ts.length + 1) cap) (p.ts ++ [y])) (h2 : w.grownBy w' tr.ownBlock) (h3 : tr.ownBlock = some g ∨ g = w.heap.size) :
    LO B w' { p with ts := p.ts ++ [y] } (.slice (some ⟨g, 0, none⟩) (p.ts.length + 1) cap) pe on mo := by
  have lt := fun {e sz n : Nat} {v : Value} {xs : List Value} (ho : w.ownsRow B e sz v n xs) (q : Nat) (hq : v.ownBlock = some q) => (World.ownsRow.lt ho q hq).2
  exact ⟨h1, own_keep h.o2 fun q e => grown_block h2 (lt h.o2 q e) (h.d1.symm q e), own_keep h.o3 fun q e => grown_block h2 (lt h.o3 q e) (h.d2.symm q e), own_keep h.o4 fun q e => grown_block h2 (lt h.o4 q e) (h.d3.symm q e),
    dj_new h3 h.d1 (lt h.o2), dj_new h3 h.d2 (lt h.o3), dj_new h3 h.d3 (lt h.o4), h.d4, h.d5, h.d6⟩
theorem LO.putPs {B : Nat} {w w' : World} {p : Ps} {tr pe on mo : Value} {y : ByteArray} {g cap : Nat} (h : LO B w p tr pe on mo) (h1 : OS B w' (.slice (some ⟨g, 0, none⟩) (p.ps.length + 1) cap) (p.ps ++ [y])) (h2 : w.grownBy w' pe.ownBlock) (h3 : pe.ownBlock = some g ∨ g = w.heap.size) :
    LO B w' { p with ps := p.ps ++ [y] } tr (.slice (some ⟨g, 0, none⟩) (p.ps.length + 1) cap) on mo := by
  have lt := fun {e sz n : Nat} {v : Value} {xs : List Value} (ho : w.ownsRow B e sz v n xs) (q : Nat) (hq : v.ownBlock = some q) => (World.ownsRow.lt ho q hq).2
  exact ⟨own_keep h.o1 fun q e => grown_block h2 (lt h.o1 q e) (h.d1 q e), h1, own_keep h.o3 fun q e => grown_block h2 (lt h.o3 q e) (h.d4.symm q e), own_keep h.o4 fun q e => grown_block h2 (lt h.o4 q e) (h.d5.symm q e),
    (dj_new h3 h.d1.symm (lt h.o1)).symm, h.d2, h.d3, dj_new h3 h.d4 (lt h.o3), dj_new h3 h.d5 (lt h.o4), h.d6⟩
theorem LO.putMo {B : Nat} {w w' : World} {p : Ps} {tr pe on mo : Value} {y : ByteArray × ByteArray} {g cap : Nat} (h : LO B w p tr pe on mo) (h1 : OM B w' (.slice (some ⟨g, 0, none⟩) (p.mo.length + 1) cap) (p.mo ++ [y])) (h2 : w.grownBy w' mo.ownBlock) (h3 : mo.ownBlock = some g ∨ g = w.heap.size) :
    LO B w' { p with mo := p.mo ++ [y] } tr pe on (.slice (some ⟨g, 0, none⟩) (p.mo.length + 1) cap) := by
  have lt := fun {e sz n : Nat} {v : Value} {xs : List Value} (ho : w.ownsRow B e sz v n xs) (q : Nat) (hq : v.ownBlock = some q) => (World.ownsRow.lt ho q hq).2
  exact ⟨own_keep h.o1 fun q e => grown_block h2 (lt h.o1 q e) (h.d3 q e), own_keep h.o2 fun q e => grown_block h2 (lt h.o2 q e) (h.d5 q e), own_keep h.o3 fun q e => grown_block h2 (lt h.o3 q e) (h.d6 q e), h1,
    h.d1, h.d2, (dj_new h3 h.d3.symm (lt h.o1)).symm, h.d4, (dj_new h3 h.d5.symm (lt h.o2)).symm, (dj_new h3 h.d6.symm (lt h.o3)).symm⟩
/-- runs out of new memory take the place of those that were there -/
theorem LO.putRs {B : Nat} {w w' : World} {p : Ps} {tr pe on mo v : Value} {rs : List (Int × Int)} (h : LO B w p tr pe on mo) (hb : Below w.heap.size w w') (h1 : OR w.heap.size w' v rs) (hB : B ≤ w.heap.size) :
    LO B w' { p with rs := rs } tr pe v mo := by
  have h0 := h.below hb
  have nv : ∀ q, v.ownBlock = some q → w.heap.size ≤ q := fun q e => (World.ownsRow.lt h1 q e).1
  have h2 : OR B w' v rs := by
    refine ⟨h1.1, ?_⟩
    rcases h1.2 with h2 | ⟨g, cap, cur, e1, e2, e3, e4⟩
    · exact .inl h2
    · exact .inr ⟨g, cap, cur, e1, by omega, e3, e4⟩
  refine ⟨h0.o1, h0.o2, h2, h0.o4, h0.d1, fun q e1 e2 => ?_, h0.d3, fun q e1 e2 => ?_, h0.d5, fun q e1 e2 => ?_⟩
  · have := (World.ownsRow.lt h.o1 q e1).2; have := nv q e2; omega
  · have := (World.ownsRow.lt h.o2 q e1).2; have := nv q e2; omega
  · have := (World.ownsRow.lt h.o4 q e2).2; have := nv q e1; omega
end Go.Proofs.YtmfbhihjiebagaaDoor
