import Derived.Test.YtnpcbcfjnhjmmaaGreatDoorV09
import Derived.Laws.CopyOwn
namespace Go.Proofs.YtnpcbcfjnhjmmaaGreatDoor
open Go.Shelf Go.RowKit Go.Deep
theorem results_ct {fn : Func} {p q : Tmp} {ty : TypeId} (h : fn.results = #[.cell p ty, .tmp q]) (tmps : Array Value) (w : World) (g : Nat) (t : TypeId) (cs : Array Value) (fr : Nat × Nat) (d : TypeDesc)
    (hp : tmps.getD p undef = .pointer (some ⟨g, 0, none⟩)) (hg : w.heap[g]? = some (.cells cs t fr)) (hd : d.isRow = true) (hu : Tryz.prog.underlying ty = some d) (hi : (Tryz.prog.info? ty).map (·.size) = some cs.size) :
    (results fn tmps).run Tryz.prog w = .ok (.tuple #[.agg cs, tmps.getD q undef]) w := by
  have hp' : tmps[p]?.getD undef = .pointer (some ⟨g, 0, none⟩) := by simpa using hp
  have hc : w.rangeAt g 0 cs.toList := fun j v hj => by
    rw [Nat.zero_add]
    simp only [World.cell?, hg]
    rw [Array.getElem?_toList] at hj
    rw [hj]; rfl
  have h9 := run_loadVar_mid (P := Tryz.prog) w g 0 ty cs.toList d hc hu hd (by simpa using hi)
  simp [results, h, hp', asAddr, h9]
/-- bytes out of numbers -/
def byL (xs : List Int) : List UInt8 := xs.map fun x => UInt8.ofNat x.toNat
/-- the infohash that the value of xt tells -/
def fstR (l : List UInt8) : Option (List UInt8) :=
  if l.length = 77 ∧ Lib.hasPrefix l [117, 114, 110, 58, 98, 116, 109, 104, 58, 49, 50, 50, 48] = true ∧ Hx.goodB ⟨(l.drop 13).toArray⟩ = true then some (byL (Hx.resL ⟨(l.drop 13).toArray⟩)) else none
def fsH (l : List UInt8) : List UInt8 := (fstR l).getD (List.replicate 32 0)
def fsE (l : List UInt8) : Int := if (fstR l).isSome then 0 else 223
theorem zhs : (#[.int .u8 0, .int .u8 0, .int .u8 0, .int .u8 0, .int .u8 0, .int .u8 0, .int .u8 0, .int .u8 0, .int .u8 0, .int .u8 0, .int .u8 0, .int .u8 0, .int .u8 0, .int .u8 0, .int .u8 0, .int .u8 0, .int .u8 0, .int .u8 0, .int .u8 0, .int .u8 0, .int .u8 0, .int .u8 0, .int .u8 0, .int .u8 0, .int .u8 0, .int .u8 0, .int .u8 0, .int .u8 0, .int .u8 0, .int .u8 0, .int .u8 0, .int .u8 0] : Array Value) = bc (List.replicate 32 0) := rfl
theorem bc_size (l : List UInt8) : (bc l).size = l.length := by simp [bc, Lib.byteCells]
theorem infoHb {l : List UInt8} (hl : l.length = 32) : (Tryz.prog.info? 23).map (·.size) = some (bc l).size := by
  rw [bc_size, hl]; kernel_rfl
theorem bc_one (l : List UInt8) : (bc l).all (·.oneCell') = true := by
  unfold bc
  rw [List.all_toArray, List.all_eq_true]
  intro u hu
  simp only [Lib.byteCells, List.mem_map] at hu
  obtain ⟨x, _, rfl⟩ := hu
  rfl
/-- the first j bytes laid -/
def hfill (xs : List UInt8) (j : Nat) : List UInt8 := xs.take j ++ List.replicate (32 - j) 0
theorem hfill_len {xs : List UInt8} (h : xs.length = 32) (j : Nat) (hj : j ≤ 32) : (hfill xs j).length = 32 := by
  unfold hfill; rw [List.length_append, List.length_take, List.length_replicate]; omega
theorem hfill_set {xs : List UInt8} (h : xs.length = 32) (j : Nat) (hj : j < 32) : (bc (hfill xs j)).setIfInBounds j (.int .u8 ((xs.getD j 0).toNat : Int)) = bc (hfill xs (j + 1)) := by
  obtain ⟨x0, x1, x2, x3, x4, x5, x6, x7, x8, x9, x10, x11, x12, x13, x14, x15, x16, x17, x18, x19, x20, x21, x22, x23, x24, x25, x26, x27, x28, x29, x30, x31, rfl⟩ := len32 h
  match j, hj with
  | 0, _ => rfl
  | 1, _ => rfl
  | 2, _ => rfl
  | 3, _ => rfl
  | 4, _ => rfl
  | 5, _ => rfl
  | 6, _ => rfl
  | 7, _ => rfl
  | 8, _ => rfl
  | 9, _ => rfl
  | 10, _ => rfl
  | 11, _ => rfl
  | 12, _ => rfl
  | 13, _ => rfl
  | 14, _ => rfl
  | 15, _ => rfl
  | 16, _ => rfl
  | 17, _ => rfl
  | 18, _ => rfl
  | 19, _ => rfl
  | 20, _ => rfl
  | 21, _ => rfl
  | 22, _ => rfl
  | 23, _ => rfl
  | 24, _ => rfl
  | 25, _ => rfl
  | 26, _ => rfl
  | 27, _ => rfl
  | 28, _ => rfl
  | 29, _ => rfl
  | 30, _ => rfl
  | 31, _ => rfl
  | n + 32, hn => omega
theorem good_len {s : ByteArray} (h : Hx.goodB s = true) : (Hx.resL s).length = s.size / 2 := by
  rw [Hx.resL, if_pos h, Hx.unL_len]
theorem res_by {s : ByteArray} (h : Hx.goodB s = true) (i : Nat) (hi : i < (Hx.resL s).length) : (Hx.resL s).getD i 0 = (((byL (Hx.resL s)).getD i 0).toNat : Int) := by
  have hg := Hx.goodB_iff.1 h
  have h1 : ∃ y, (Hx.resL s)[i]? = some y ∧ 0 ≤ y ∧ y ≤ 255 := by
    rw [Hx.resL, if_pos h] at hi ⊢
    rw [Hx.unL_len] at hi
    refine ⟨16 * Hx.dv (Hx.bt s (2 * i)) + Hx.dv (Hx.bt s (2 * i + 1)), by simp [Hx.unL, hi], ?_⟩
    have a1 := hg.2 (2 * i) (by omega)
    have a2 := hg.2 (2 * i + 1) (by omega)
    have b1 := Hx.dv_bd (Hx.bt s (2 * i))
    have b2 := Hx.dv_bd (Hx.bt s (2 * i + 1))
    omega
  obtain ⟨y, hy, h2, h3⟩ := h1
  unfold byL
  simp only [List.getD, List.getElem?_map, hy, Option.map_some, Option.getD_some]
  rw [UInt8.toNat_ofNat']
  omega
theorem ret_t {cs ds : Array Value} {a b : Int} (h1 : cs = ds) (h2 : a = b) : Ending.returned (.tuple #[.agg cs, .int .i64 a]) = .returned (.tuple #[.agg ds, .int .i64 b]) := by rw [h1, h2]
end Go.Proofs.YtnpcbcfjnhjmmaaGreatDoor
namespace Go.Proofs.YtnpcbcfjnhjmmaaGreatDoor
open Go.Shelf Go.RowKit Go.Deep
/-- the one string is greater (where they are not the same) -/
def strGt (a b : ByteArray) : Bool := !Op.bytesLess a.toList b.toList
/-- the rules of order and of parameters twice -/
def ordR (ts ps : List ByteArray) (ahead key value : ByteArray) (gt : Bool) : Int :=
  if kdR key < kdR ahead then 227
  else if ((kdR key = 1 ∨ kdR key = 2) ∧ kdR ahead = kdR key) ∨ (kdR key = 3 ∧ winB ts value = true) ∨ (kdR key = 4 ∧ winB ps value = true) ∨ (kdR key = 5 ∧ (ahead.toList == key.toList) = true) then 225
  else if kdR key = 5 ∧ kdR ahead = 5 ∧ gt = true then 227 else 0
theorem kdR_le (k : ByteArray) : kdR k ≤ 5 := by
  unfold kdR
  repeat' split
  all_goals omega
end Go.Proofs.YtnpcbcfjnhjmmaaGreatDoor
namespace Go.Proofs.YtnpcbcfjnhjmmaaGreatDoor
open Go.Shelf Go.RowKit Go.Deep
/-- what has been read of a link -/
structure Ps where
  h : List UInt8
  nm : ByteArray
  ts : List ByteArray
  ps : List ByteArray
  rs : List (Int × Int)
  mo : List (ByteArray × ByteArray)
/-- the cells of pairs -/
def moC (l : List (ByteArray × ByteArray)) : List Value := l.flatMap fun x => [.string x.1, .int .i64 2, .int .i64 0, .string x.2, .slice none 0 0, .slice none 0 0]
def OS (B : Nat) (w : World) (v : Value) (ts : List ByteArray) : Prop := w.ownsRow B 9 1 v ts.length (tsC ts)
def OM (B : Nat) (w : World) (v : Value) (l : List (ByteArray × ByteArray)) : Prop := w.ownsRow B 41 6 v l.length (moC l)
theorem own_keep {w w' : World} {B e sz n : Nat} {v : Value} {xs : List Value} (h : w.ownsRow B e sz v n xs) (hb : ∀ g, v.ownBlock = some g → w'.heap[g]? = w.heap[g]?) : w'.ownsRow B e sz v n xs := by
  refine ⟨h.1, ?_⟩
  rcases h.2 with h1 | ⟨g, cap, cur, h1, h2, h3, h4⟩
  · exact .inl h1
  · exact .inr ⟨g, cap, cur, h1, h2, (hb g (by rw [h1]; rfl)).trans h3, h4⟩
/-- two lists lie in unlike blocks -/
def Dj (a b : Value) : Prop := ∀ g, a.ownBlock = some g → b.ownBlock ≠ some g
theorem Dj.symm {a b : Value} (h : Dj a b) : Dj b a := fun g h1 h2 => h g h2 h1
/-- the lists of a link that is being read: each its reader's own, in unlike blocks -/
structure LO (B : Nat) (w : World) (p : Ps) (tr pe on mo : Value) : Prop where
  o1 : OS B w tr p.ts
  o2 : OS B w pe p.ps
  o3 : OR B w on p.rs
  o4 : OM B w mo p.mo
  d1 : Dj tr pe
  d2 : Dj tr on
  d3 : Dj tr mo
  d4 : Dj pe on
  d5 : Dj pe mo
  d6 : Dj on mo
/-- none of the four lies in this block -/
def NoB (g : Nat) (tr pe on mo : Value) : Prop := tr.ownBlock ≠ some g ∧ pe.ownBlock ≠ some g ∧ on.ownBlock ≠ some g ∧ mo.ownBlock ≠ some g
theorem LO.nob {B : Nat} {w : World} {p : Ps} {tr pe on mo : Value} (h : LO B w p tr pe on mo) {g : Nat} (hg : w.heap.size ≤ g) : NoB g tr pe on mo :=
  ⟨fun e => by have := (World.ownsRow.lt h.o1 g e).2; omega, fun e => by have := (World.ownsRow.lt h.o2 g e).2; omega, fun e => by have := (World.ownsRow.lt h.o3 g e).2; omega, fun e => by have := (World.ownsRow.lt h.o4 g e).2; omega⟩
theorem LO.keep {B : Nat} {w w' : World} {p : Ps} {tr pe on mo : Value} (h : LO B w p tr pe on mo) (hb : ∀ g, ¬ NoB g tr pe on mo → w'.heap[g]? = w.heap[g]?) : LO B w' p tr pe on mo :=
  ⟨own_keep h.o1 fun g e => hb g fun n => n.1 e, own_keep h.o2 fun g e => hb g fun n => n.2.1 e, own_keep h.o3 fun g e => hb g fun n => n.2.2.1 e, own_keep h.o4 fun g e => hb g fun n => n.2.2.2 e, h.d1, h.d2, h.d3, h.d4, h.d5, h.d6⟩
theorem LO.below {B : Nat} {w w' : World} {p : Ps} {tr pe on mo : Value} (h : LO B w p tr pe on mo) (hb : Below w.heap.size w w') : LO B w' p tr pe on mo :=
  h.keep fun g hn => hb.block g (by
    rcases Nat.lt_or_ge g w.heap.size with h1 | h1
    · exact h1
    · exact absurd (h.nob h1) hn)
theorem LO.nil (B : Nat) (w : World) (h : List UInt8) : LO B w ⟨h, ⟨#[]⟩, [], [], [], []⟩ (.slice none 0 0) (.slice none 0 0) (.slice none 0 0) (.slice none 0 0) := by
  refine ⟨World.ownsRow_nil _ _ _ _, World.ownsRow_nil _ _ _ _, World.ownsRow_nil _ _ _ _, World.ownsRow_nil _ _ _ _, ?_, ?_, ?_, ?_, ?_, ?_⟩ <;> (intro g hg; simp [Value.ownBlock] at hg)
theorem info68 : (Tryz.prog.info? 41).map (fun i => (i.zero, i.size, i.bytes)) = some (some (.agg #[.string ByteArray.empty, .int .i64 0, .int .i64 0, .string ByteArray.empty, .slice none 0 0, .slice none 0 0]), 6, 96) := by kernel_rfl
/-- one more string onto an own list -/
theorem append_strO {ops : Array Oper} {rest : List Oper} {o : Oper} {a : Act} {Q : Exit → Act → World → Prop} {w : World} {B : Nat} {sv : Value} {ts : List ByteArray} (hgd : o.guard = none) (s x : Operand)
    (ho : o.op = .call { callee := .builtin .append, args := #[s, x], argTypes := #[24, 24] }) (hs : a.eval s = sv) (hown : OS B w sv ts) (b : Nat) (y : ByteArray) (hx : a.eval x = .slice (some ⟨b, 0, none⟩) 1 1)
    (hc : w.cell? ⟨b, 0, none⟩ = some (.string y)) (hB : B ≤ w.heap.size) (hlim : ts.length < 2147483647)
    (h : ∀ g cap w', OS B w' (.slice (some ⟨g, 0, none⟩) (ts.length + 1) cap) (ts ++ [y]) → w.grownBy w' sv.ownBlock → (sv.ownBlock = some g ∨ g = w.heap.size) → wpList Tryz.prog ops Q rest (a.put o.dst (.slice (some ⟨g, 0, none⟩) (ts.length + 1) cap)) w') : wpList Tryz.prog ops Q (o :: rest) a w := by
  obtain ⟨i0, hi, hz0, hz1, hz2⟩ := info_parts info9
  refine wpList_append_lies w hgd s x 24 ho B 9 i0 _ 1 16 Tryz.underlying24 hi hz0 hz1 hz2 rfl (by omega) sv ts.length (tsC ts) hs hown ⟨b, 0, none⟩ 1 1 [.string y] hx rfl (fun j u hu => ?_) (fun u hu => ?_) (by omega) (by unfold maxLen; omega) (by omega) hB w.heap.size rfl (fun g cap w' h1 h2 h3 _ => ?_)
  · match j, hu with
    | 0, hu => simp at hu; subst hu; simpa [Addr.add] using hc
  · simp at hu; subst hu; rfl
  · refine h g cap w' ?_ h2 h3
    have e : tsC ts ++ [Value.string y] = tsC (ts ++ [y]) := by simp [tsC]
    rw [e] at h1
    show w'.ownsRow B 9 1 _ (ts ++ [y]).length _
    rw [List.length_append]
    exact h1
theorem append_pairO {ops : Array Oper} {rest : List Oper} {o : Oper} {a : Act} {Q : Exit → Act → World → Prop} {w : World} {B : Nat} {sv : Value} {l : List (ByteArray × ByteArray)} (hgd : o.guard = none) (s x : Operand)
    (ho : o.op = .call { callee := .builtin .append, args := #[s, x], argTypes := #[26, 26] }) (hs : a.eval s = sv) (hown : OM B w sv l) (b : Nat) (y : ByteArray × ByteArray) (hx : a.eval x = .slice (some ⟨b, 0, none⟩) 1 1)
    (hc : w.heap[b]? = some (.cells #[.string y.1, .int .i64 2, .int .i64 0, .string y.2, .slice none 0 0, .slice none 0 0] 41 (0, 0))) (hB : B ≤ w.heap.size) (hlim : l.length < 16777216)
    (h : ∀ g cap w', OM B w' (.slice (some ⟨g, 0, none⟩) (l.length + 1) cap) (l ++ [y]) → w.grownBy w' sv.ownBlock → (sv.ownBlock = some g ∨ g = w.heap.size) → wpList Tryz.prog ops Q rest (a.put o.dst (.slice (some ⟨g, 0, none⟩) (l.length + 1) cap)) w') : wpList Tryz.prog ops Q (o :: rest) a w := by
  obtain ⟨i0, hi, hz0, hz1, hz2⟩ := info_parts info68
  refine wpList_append_lies w hgd s x 26 ho B 41 i0 _ 6 96 Tryz.underlying26 hi hz0 hz1 hz2 rfl (by omega) sv l.length (moC l) hs hown ⟨b, 0, none⟩ 1 1 [.string y.1, .int .i64 2, .int .i64 0, .string y.2, .slice none 0 0, .slice none 0 0] hx rfl (World.news_of_block (B := b) hc) (fun u hu => ?_) (by omega) (by unfold maxLen; omega) (by omega) hB w.heap.size rfl (fun g cap w' h1 h2 h3 _ => ?_)
  · simp at hu; rcases hu with rfl | rfl | rfl | rfl | rfl | rfl <;> rfl
  · refine h g cap w' ?_ h2 h3
    have e : moC l ++ [.string y.1, .int .i64 2, .int .i64 0, .string y.2, .slice none 0 0, .slice none 0 0] = moC (l ++ [y]) := by simp [moC]
    rw [e] at h1
    show w'.ownsRow B 41 6 _ (l ++ [y]).length _
    rw [List.length_append]
    exact h1
/-- a link's block stands behind an append onto one of its lists -/
theorem grown_block {w w' : World} {row : Option Nat} (hg : w.grownBy w' row) {q : Nat} (hq : q < w.heap.size) (hne : row ≠ some q) : w'.heap[q]? = w.heap[q]? := hg.block q hq (fun e => hne e.symm)
theorem dj_new {sv a : Value} {g n c hs : Nat} (hat : sv.ownBlock = some g ∨ g = hs) (hd : Dj sv a) (hn : ∀ q, a.ownBlock = some q → q < hs) : Dj (.slice (some ⟨g, 0, none⟩) n c) a := fun q h1 h2 => by
  have h1' : g = q := by simpa [Value.ownBlock] using h1
  subst h1'
  rcases hat with h | h
  · exact hd g h h2
  · have := hn g h2; omega
theorem LO.putTs {B : Nat} {w w' : World} {p : Ps} {tr pe on mo : Value} {y : ByteArray} {g cap : Nat} (h : LO B w p tr pe on mo) (h1 : OS B w' (.slice (some ⟨g, 0, none⟩) (p.ts.length + 1) cap) (p.ts ++ [y])) (h2 : w.grownBy w' tr.ownBlock) (h3 : tr.ownBlock = some g ∨ g = w.heap.size) :
    LO B w' { p with ts := p.ts ++ [y] } (.slice (some ⟨g, 0, none⟩) (p.ts.length + 1) cap) pe on mo := by
  have lt := fun {e sz n : Nat} {v : Value} {xs : List Value} (ho : w.ownsRow B e sz v n xs) (q : Nat) (hq : v.ownBlock = some q) => (World.ownsRow.lt ho q hq).2
  exact ⟨h1, own_keep h.o2 fun q e => grown_block h2 (lt h.o2 q e) (h.d1.symm q e), own_keep h.o3 fun q e => grown_block h2 (lt h.o3 q e) (h.d2.symm q e), own_keep h.o4 fun q e => grown_block h2 (lt h.o4 q e) (h.d3.symm q e),
    dj_new h3 h.d1 (lt h.o2), dj_new h3 h.d2 (lt h.o3), dj_new h3 h.d3 (lt h.o4), h.d4, h.d5, h.d6⟩
theorem LO.putPs {B : Nat} {w w' : World} {p : Ps} {tr pe on mo : Value} {y : ByteArray} {g cap : Nat} (h : LO B w p tr pe on mo) (h1 : OS B w' (.slice (some ⟨g, 0, none⟩) (p.ps.length + 1) cap) (p.ps ++ [y])) (h2 : w.grownBy w' pe.ownBlock) (h3 : pe.ownBlock = some g ∨ g = w.heap.size) :
    LO B w' { p with ps := p.ps ++ [y] } tr (.slice (some ⟨g, 0, none⟩) (p.ps.length + 1) cap) on mo := by
  have lt := fun {e sz n : Nat} {v : Value} {xs : List Value} (ho : w.ownsRow B e sz v n xs) (q : Nat) (hq : v.ownBlock = some q) => (World.ownsRow.lt ho q hq).2
  exact ⟨own_keep h.o1 fun q e => grown_block h2 (lt h.o1 q e) (h.d1 q e), h1, own_keep h.o3 fun q e => grown_block h2 (lt h.o3 q e) (h.d4.symm q e), own_keep h.o4 fun q e => grown_block h2 (lt h.o4 q e) (h.d5.symm q e),
    (dj_new h3 h.d1.symm (lt h.o1)).symm, h.d2, h.d3, dj_new h3 h.d4 (lt h.o3), dj_new h3 h.d5 (lt h.o4), h.d6⟩
theorem LO.putMo {B : Nat} {w w' : World} {p : Ps} {tr pe on mo : Value} {y : ByteArray × ByteArray} {g cap : Nat} (h : LO B w p tr pe on mo) (h1 : OM B w' (.slice (some ⟨g, 0, none⟩) (p.mo.length + 1) cap) (p.mo ++ [y])) (h2 : w.grownBy w' mo.ownBlock) (h3 : mo.ownBlock = some g ∨ g = w.heap.size) :
    LO B w' { p with mo := p.mo ++ [y] } tr pe on (.slice (some ⟨g, 0, none⟩) (p.mo.length + 1) cap) := by
  have lt := fun {e sz n : Nat} {v : Value} {xs : List Value} (ho : w.ownsRow B e sz v n xs) (q : Nat) (hq : v.ownBlock = some q) => (World.ownsRow.lt ho q hq).2
  exact ⟨own_keep h.o1 fun q e => grown_block h2 (lt h.o1 q e) (h.d3 q e), own_keep h.o2 fun q e => grown_block h2 (lt h.o2 q e) (h.d5 q e), own_keep h.o3 fun q e => grown_block h2 (lt h.o3 q e) (h.d6 q e), h1,
    h.d1, h.d2, (dj_new h3 h.d3.symm (lt h.o1)).symm, h.d4, (dj_new h3 h.d5.symm (lt h.o2)).symm, (dj_new h3 h.d6.symm (lt h.o3)).symm⟩
/-- runs out of new memory take the place of those that were there -/
theorem LO.putRs {B : Nat} {w w' : World} {p : Ps} {tr pe on mo v : Value} {rs : List (Int × Int)} (h : LO B w p tr pe on mo) (hb : Below w.heap.size w w') (h1 : OR w.heap.size w' v rs) (hB : B ≤ w.heap.size) :
    LO B w' { p with rs := rs } tr pe v mo := by
  have h0 := h.below hb
  have nv : ∀ q, v.ownBlock = some q → w.heap.size ≤ q := fun q e => (World.ownsRow.lt h1 q e).1
  have h2 : OR B w' v rs := by
    refine ⟨h1.1, ?_⟩
    rcases h1.2 with h2 | ⟨g, cap, cur, e1, e2, e3, e4⟩
    · exact .inl h2
    · exact .inr ⟨g, cap, cur, e1, by omega, e3, e4⟩
  refine ⟨h0.o1, h0.o2, h2, h0.o4, h0.d1, fun q e1 e2 => ?_, h0.d3, fun q e1 e2 => ?_, h0.d5, fun q e1 e2 => ?_⟩
  · have := (World.ownsRow.lt h.o1 q e1).2; have := nv q e2; omega
  · have := (World.ownsRow.lt h.o2 q e1).2; have := nv q e2; omega
  · have := (World.ownsRow.lt h.o4 q e2).2; have := nv q e1; omega
end Go.Proofs.YtnpcbcfjnhjmmaaGreatDoor
