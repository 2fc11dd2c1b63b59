import Derived.Test.YtnpcbcfjnhjmmaaGreatDoorRows
import Derived.WalkKit
import Derived.BigQuiet
import Derived.Deep.QuietTactic
import Derived.WalkLawsBesides
import Derived.Lib.Hide
import Derived.Laws.OwnMore
import Derived.Below
import Derived.Laws.IdiomStrings
import Derived.Laws.BytesString
import Derived.Deep.RegionLaw
import Derived.Shelf.Lay
import Derived.Shelf.Strings.Builder1
import Derived.Shelf.Strings.Search1
import Derived.Ground.NamesProg
import Derived.Lib.IndexLaws
import Derived.Lib.OwnKind
namespace Go.Proofs.YtnpcbcfjnhjmmaaGreatDoor
open Go.Shelf Go.RowKit
/-- the bytes that stand for themselves -/
def barL : List UInt8 := [65, 66, 67, 68, 69, 70, 71, 72, 73, 74, 75, 76, 77, 78, 79, 80, 81, 82, 83, 84, 85, 86, 87, 88, 89, 90, 97, 98, 99, 100, 101, 102, 103, 104, 105, 106, 107, 108, 109, 110, 111, 112, 113, 114, 115, 116, 117, 118, 119, 120, 121, 122, 48, 49, 50, 51, 52, 53, 54, 55, 56, 57, 45, 46, 95, 126, 33, 36, 39, 40, 41, 42, 44, 59, 58, 64, 47, 63]
def isB (x : UInt8) : Bool := barL.contains x
/-- the table of the bytes below 128 -/
def tabB : List Bool := (List.range 128).map fun n => isB (UInt8.ofNat n)
def dgL : List UInt8 := [48, 49, 50, 51, 52, 53, 54, 55, 56, 57, 65, 66, 67, 68, 69, 70]
def dg (k : Nat) : UInt8 := dgL.getD k 0
/-- how a byte is written -/
def sg (x : UInt8) : List UInt8 := if isB x then [x] else [37, dg (x.toNat / 16), dg (x.toNat % 16)]
def esc (l : List UInt8) : List UInt8 := l.flatMap sg
theorem isB_low : ∀ n : Fin 256, 128 ≤ n.val → isB (UInt8.ofNat n.val) = false := by decide +kernel
theorem isB_hi {x : UInt8} (h : 128 ≤ x.toNat) : isB x = false := by
  have := isB_low ⟨x.toNat, x.toNat_lt⟩ h
  simpa using this
/-- the table lies in memory -/
def BT (w : World) : Prop := 0 < w.heap.size ∧ ∀ j, j < 128 → w.cell? ⟨0, j, none⟩ = some (.bool (isB (UInt8.ofNat j)))
theorem BT.keep {w w' : World} (h : BT w) (hb : Below w.heap.size w w') : BT w' :=
  ⟨Nat.lt_of_lt_of_le h.1 hb.size, fun j hj => (World.cell?_of_block (w := w) (hb.block 0 h.1)).trans (h.2 j hj)⟩
theorem BT.drew {w : World} (h : BT w) (n : Nat) : BT (w.drewN n) := h
theorem belowDrew (w : World) (n : Nat) : Below w.heap.size w (w.drewN n) := ⟨rfl, rfl, rfl, Nat.le_refl _, fun _ _ => rfl⟩
theorem belowN {B : Nat} {a w : World} (h : Below B a w) (n : Nat) : Below B a (w.drewN n) := ⟨h.os, h.tape, h.output, h.size, h.block⟩
theorem info5 : (Tryz.prog.info? 5).map (fun i => (i.zero, i.size, i.bytes)) = some (some (.int .u8 0), 1, 1) := by kernel_rfl
theorem ret_b {a b : Bool} (h : a = b) : Ending.returned (.bool a) = .returned (.bool b) := by rw [h]
theorem ret_i {a b : Int} (h : a = b) : Ending.returned (.int .i64 a) = .returned (.int .i64 b) := by rw [h]
set_option maxRecDepth 100000 in
theorem isBare (x : UInt8) (w : World) (hT : BT w) :
    Calls Tryz.prog 78 #[.int .u8 (x.toNat : Int)] w fun e w' => e = .returned (.bool (isB x)) ∧ w' = w := by
  by_cases h : x.toNat < 128
  · have hc := hT.2 x.toNat h
    have e1 : UInt8.ofNat x.toNat = x := by simp
    rw [e1] at hc
    have hx : (x.toNat : Int) < 128 := by omega
    generalize isB x = b at *
    clear hT
    go_enter Tryz.func78, Tryz.ntmps78
    go_wp2
    go_ret
    exact ⟨rfl, rfl⟩
  · have hw : wrap64 (x.toNat : Int) = (x.toNat : Int) := by have := x.toNat_lt; unfold wrap64; omega
    have hx : ¬ (x.toNat : Int) < 128 := by omega
    have hx2 : ¬ wrap64 (x.toNat : Int) < 128 := by rw [hw]; exact hx
    rw [isB_hi (by omega)]
    clear h
    clear hT
    go_enter Tryz.func78, Tryz.ntmps78
    go_wp2
    go_ret
    exact ⟨rfl, rfl⟩
theorem index_s (s : ByteArray) (p : Nat) (h : p < s.size) (i : Int) (hi : i = (p : Int)) (w : World) : (Instr.index 9 (.string s) (.int .i64 i)).run Tryz.prog w = .ok (.int .u8 (s[p].toNat : Int)) w := by
  subst hi
  have h2 : (p : Int) < (s.size : Int) := by omega
  simp [go_sem, Tryz.underlying9, h2]
theorem ib_of {l : List UInt8} {c : UInt8} {o : Nat} (h : l[o]? = some c) (hn : ∀ k, k < o → l[k]? ≠ some c) : Lib.indexByte l c = o := by
  have hge := Lib.indexByte_ge l c
  by_cases h1 : Lib.indexByte l c = -1
  · exact absurd h (Lib.indexByte_none h1 o)
  · obtain ⟨p, hp⟩ : ∃ p : Nat, Lib.indexByte l c = p := ⟨(Lib.indexByte l c).toNat, by omega⟩
    have h2 := Lib.indexByte_some hp
    rcases Nat.lt_trichotomy p o with h3 | h3 | h3
    · exact absurd h2.1 (hn p h3)
    · rw [hp, h3]
    · exact absurd h (h2.2 o h3)
theorem ib_no {l : List UInt8} {c : UInt8} (hn : ∀ k, k < l.length → l[k]? ≠ some c) : Lib.indexByte l c = -1 := by
  have hge := Lib.indexByte_ge l c
  by_cases h1 : Lib.indexByte l c = -1
  · exact h1
  · obtain ⟨p, hp⟩ : ∃ p : Nat, Lib.indexByte l c = p := ⟨(Lib.indexByte l c).toNat, by omega⟩
    have h2 := (Lib.indexByte_some hp).1
    obtain ⟨h3, _⟩ := List.getElem?_eq_some_iff.1 h2
    exact absurd h2 (hn p h3)
theorem bget (s : ByteArray) (k : Nat) (h : k < s.size) : s.data.toList[k]? = some s[k] := by
  rw [Array.getElem?_toList]; exact Array.getElem?_eq_getElem (show k < s.data.size from h)
theorem con_ib (x : UInt8) : isB x = decide (0 ≤ Lib.indexByte barL x) := by
  unfold isB
  have hge := Lib.indexByte_ge barL x
  rw [Bool.eq_iff_iff, decide_eq_true_eq, List.contains_iff_mem]
  constructor
  · intro h
    by_cases h1 : Lib.indexByte barL x = -1
    · obtain ⟨k, hk⟩ := List.mem_iff_getElem?.1 h
      exact absurd hk (Lib.indexByte_none h1 k)
    · omega
  · intro h
    obtain ⟨p, hp⟩ : ∃ p : Nat, Lib.indexByte barL x = p := ⟨(Lib.indexByte barL x).toNat, by omega⟩
    exact List.mem_of_getElem? (Lib.indexByte_some hp).1
end Go.Proofs.YtnpcbcfjnhjmmaaGreatDoor
namespace Go.Proofs.YtnpcbcfjnhjmmaaGreatDoor
open Go.Shelf Go.RowKit
/-- a list's byte -/
def byt (l : List UInt8) (i : Nat) : UInt8 := l.getD i 0
/-- the slice v of bytes reads as the list l -/
def RB (w : World) (v : Value) (l : List UInt8) : Prop :=
  ∃ a c, v = .slice a l.length c ∧ l.length ≤ c ∧ (l = [] ∨ ∃ g o, a = some ⟨g, o, none⟩ ∧ g < w.heap.size ∧ ∀ i, i < l.length → w.cell? ⟨g, o + i, none⟩ = some (.int .u8 ((byt l i).toNat : Int)))
theorem RB.keep {w w' : World} {v : Value} {l : List UInt8} (h : RB w v l) (hb : Below w.heap.size w w') : RB w' v l := by
  obtain ⟨a, c, rfl, hle, h⟩ := h
  refine ⟨a, c, rfl, hle, ?_⟩
  rcases h with h | ⟨g, o, h1, h2, h3⟩
  · exact .inl h
  · exact .inr ⟨g, o, h1, Nat.lt_of_lt_of_le h2 hb.size, fun i hi => (World.cell?_of_block (w := w) (hb.block g h2)).trans (h3 i hi)⟩
/-- a list of bytes that the call owns -/
def OW (B : Nat) (w : World) (v : Value) (l : List UInt8) : Prop := w.ownsRow B 5 1 v l.length (Lib.byteCells l)
theorem getD_byt (l : List UInt8) (i : Nat) (hi : i < l.length) : byt l i = l[i] := by unfold byt; simp [List.getD, List.getElem?_eq_getElem hi]
theorem OW.rb {B : Nat} {w : World} {v : Value} {l : List UInt8} (h : OW B w v l) : RB w v l := by
  have h' := h
  rcases h.2 with ⟨rfl, h0⟩ | ⟨g, cap, cur, rfl, _, hg, hle, _⟩
  · have : l = [] := List.length_eq_zero_iff.1 h0
    subst this; exact ⟨none, 0, rfl, Nat.le_refl _, .inl rfl⟩
  · refine ⟨_, cap, rfl, hle, .inr ⟨g, 0, rfl, (Array.getElem?_eq_some_iff.1 hg).1, fun i hi => ?_⟩⟩
    have := World.ownsRow.cellAt h' i (by omega)
    rw [Nat.zero_add, this, getD_byt l i hi]
    simp [Lib.byteCells, List.getElem?_eq_getElem hi]
theorem OW.form {B : Nat} {w : World} {v : Value} {l : List UInt8} (h : OW B w v l) : ∃ a c, v = .slice a l.length c := by
  obtain ⟨a, c, h, _⟩ := h.rb
  exact ⟨a, c, h⟩
theorem OW.grow {B : Nat} {w w' : World} {v : Value} {l : List UInt8} (h : OW B w v l) (hb : Below w.heap.size w w') : OW B w' v l := by
  refine ⟨h.1, ?_⟩
  rcases h.2 with h1 | ⟨g, cap, cur, h1, h2, h3, h4⟩
  · exact .inl h1
  · exact .inr ⟨g, cap, cur, h1, h2, (hb.block g (Array.getElem?_eq_some_iff.1 h3).1).trans h3, h4⟩
theorem OW.alloc {B : Nat} {w : World} {v : Value} {l : List UInt8} (h : OW B w v l) (o : Obj) : OW B (w.alloc o) v l := h.grow ((Below.refl _ _).alloc (Nat.le_refl _) _)
theorem append_byte {ops : Array Oper} {rest : List Oper} {o : Oper} {a : Act} {Q : Exit → Act → World → Prop} {w : World} {B : Nat} {sv : Value} {l : List UInt8} (hgd : o.guard = none) (s x : Operand)
    (ho : o.op = .call { callee := .builtin .append, args := #[s, x], argTypes := #[92, 92] }) (hs : a.eval s = sv) (hown : OW B w sv l) (b : Nat) (c : UInt8) (hx : a.eval x = .slice (some ⟨b, 0, none⟩) 1 1)
    (hc : w.cell? ⟨b, 0, none⟩ = some (.int .u8 c.toNat)) (hB : B ≤ w.heap.size) (hlim : l.length < 140737488351232)
    (h : ∀ v' w', OW B w' v' (l ++ [c]) → Below B w w' → wpList Tryz.prog ops Q rest (a.put o.dst v') w') : wpList Tryz.prog ops Q (o :: rest) a w := by
  obtain ⟨i0, hi, hz0, hz1, hz2⟩ := info_parts info5
  refine wpList_append_own w hgd s x 92 ho B 5 i0 _ 1 1 Tryz.underlying92 hi hz0 hz1 hz2 rfl (by omega) sv l.length (Lib.byteCells l) hs hown ⟨b, 0, none⟩ 1 1 [.int .u8 c.toNat] hx rfl (fun j u hu => ?_) (fun u hu => ?_) (by unfold maxLen; omega) (by omega) hB (fun v' w' h1 h2 _ => ?_)
  · match j, hu with
    | 0, hu => simp at hu; subst hu; simpa [Addr.add] using hc
  · simp at hu; subst hu; rfl
  · refine h v' w' ?_ ((Below.refl B w).grown h2 hB (fun k hk => (World.ownsRow.lt hown k hk).1))
    have e : Lib.byteCells l ++ [Value.int .u8 c.toNat] = Lib.byteCells (l ++ [c]) := by simp [Lib.byteCells]
    rw [e] at h1
    simpa [OW] using h1
theorem bcl_len (l : List UInt8) : (Lib.byteCells l).length = l.length := Lib.byteCells_length l
theorem foldl_push (ns : List UInt8) (s : ByteArray) : (ns.map fun x => (x.toNat : Int)).foldl (fun r n => r.push (UInt8.ofNat n.toNat)) s = ⟨s.data ++ ns.toArray⟩ := by
  induction ns generalizing s with
  | nil => simp
  | cons x ns ih =>
    rw [List.map_cons, List.foldl_cons, ih]
    simp [ByteArray.push]
theorem conv_rb {w : World} {v : Value} {l : List UInt8} (h : RB w v l) : (convert 92 9 v).run Tryz.prog w = .ok (.string ⟨l.toArray⟩) w := by
  obtain ⟨a, cap, rfl, _, h⟩ := h
  rw [run_convert_bytes_string w 92 9 5 a _ cap Tryz.underlying92 Tryz.underlying5 Tryz.underlying9]
  cases a with
  | none =>
    rcases h with rfl | ⟨b, o, h, _⟩
    · rfl
    · cases h
  | some a =>
    have hl := run_loadCells_list (P := Tryz.prog) w a (Lib.byteCells l) (fun j v hj => by
      have hj' : j < l.length := by
        have := (List.getElem?_eq_some_iff.1 hj).1
        rwa [bcl_len] at this
      rcases h with rfl | ⟨b, o, h, _, hc⟩
      · simp at hj'
      · simp only [Option.some.injEq] at h
        subst h
        have hadd : (⟨b, o, none⟩ : Addr).add j = ⟨b, o + j, none⟩ := by unfold Addr.add; split <;> simp_all
        rw [hadd, hc j hj', getD_byt l j hj']
        simpa [Lib.byteCells, List.getElem?_eq_getElem hj'] using hj)
    have e : Lib.byteCells l = (l.map fun x => (x.toNat : Int)).map (Value.int .u8) := by simp [Lib.byteCells]
    rw [bcl_len, e] at hl
    rw [run_bytesToString w a l.length cap _ hl, foldl_push]
    simp

/-- the library's command does not find a type that no body names here: so by hand -/
def laysWB_ren : Ren where
  f := fun | 167 => 62 | 240 => 77 | 276 => 89 | n => n
  t := fun | 37 => 92 | 70 => 91 | 72 => 94 | 75 => 99 | 80 => 104 | 164 => 135 | 20 => 20 | n => n
  g := fun n => n
theorem laysWB : Lays.n167 Tryz.prog laysWB_ren where
  f167 := Tryz.func62.trans (congrArg some (by kernel_rfl))
  f240 := Tryz.func77.trans (congrArg some (by kernel_rfl))
  f276 := Tryz.func89.trans (congrArg some (by kernel_rfl))
  mixed := by kernel_rfl
  t0 := Tryz.underlying0
  a0 := Tryz.isAgg0
  z0 := Tryz.sizeOf0
  v0 := Tryz.zeroValue0
  t4 := Tryz.underlying4
  a4 := Tryz.isAgg4
  z4 := Tryz.sizeOf4
  v4 := Tryz.zeroValue4
  t5 := Tryz.underlying5
  a5 := Tryz.isAgg5
  z5 := Tryz.sizeOf5
  v5 := Tryz.zeroValue5
  t9 := Tryz.underlying9
  a9 := Tryz.isAgg9
  z9 := Tryz.sizeOf9
  v9 := Tryz.zeroValue9
  t20 := Tryz.underlying20
  a20 := Tryz.isAgg20
  z20 := Tryz.sizeOf20
  v20 := Tryz.zeroValue20
  t37 := Tryz.underlying92
  a37 := Tryz.isAgg92
  z37 := Tryz.sizeOf92
  v37 := Tryz.zeroValue92
  t70 := Tryz.underlying91
  a70 := Tryz.isAgg91
  z70 := Tryz.sizeOf91
  v70 := Tryz.zeroValue91
  t72 := Tryz.underlying94
  a72 := Tryz.isAgg94
  z72 := Tryz.sizeOf94
  v72 := Tryz.zeroValue94
  t75 := Tryz.underlying99
  a75 := Tryz.isAgg99
  z75 := Tryz.sizeOf99
  v75 := Tryz.zeroValue99
  t164 := Tryz.underlying135
  a164 := Tryz.isAgg135
  z164 := Tryz.sizeOf135
  v164 := Tryz.zeroValue135
theorem bxWB : Builder.Extra Tryz.prog laysWB_ren where
  sizeBuilder := by kernel_rfl
  liesBuilder := by kernel_rfl
  t5 := Tryz.underlying5
  a5 := Tryz.isAgg5
  z5 := Tryz.sizeOf5
  v5 := Tryz.zeroValue5
  infoByte := by kernel_rfl
  cellsByte := by kernel_rfl
  sizeByte := by kernel_rfl
  neB5 := by decide
shelf_lay Lays.n169 Nm 169 at Tryz as laysSt
theorem bxSt : Builder.Extra Tryz.prog laysSt_ren where
  sizeBuilder := by kernel_rfl
  liesBuilder := by kernel_rfl
  t5 := Tryz.underlying5
  a5 := Tryz.isAgg5
  z5 := Tryz.sizeOf5
  v5 := Tryz.zeroValue5
  infoByte := by kernel_rfl
  cellsByte := by kernel_rfl
  sizeByte := by kernel_rfl
  neB5 := by decide
/-- a builder that holds these bytes -/
def BI (B b : Nat) (l : List UInt8) (w : World) : Prop := Lib.IsBuilder 94 5 B b (Lib.byteCells l) w
theorem writeByte (B b : Nat) (l : List UInt8) (x : UInt8) (w : World) (h : BI B b l w) (hlen : l.length + 1 ≤ 140737488355328) (hB : B ≤ w.heap.size) :
    Calls Tryz.prog 62 #[.pointer (some ⟨b, 0, none⟩), .int .u8 (x.toNat : Int)] w fun e w' => e = .returned .nilIface ∧ BI B b (l ++ [x]) w' ∧ Below B w w' :=
  (Any.Builder_WriteByte laysWB bxWB B b (Lib.byteCells l) x.toNat w h (by rw [Lib.byteCells_length]; exact hlen) hB).mono fun e w' ⟨h1, h2, h3⟩ => ⟨h1, .inr (by rw [Lib.byteCells_append]; exact h2), h3⟩
theorem bString (B b : Nat) (l : List UInt8) (w : World) (h : BI B b l w) (hB : B ≤ w.heap.size) :
    Calls Tryz.prog 55 #[.pointer (some ⟨b, 0, none⟩)] w fun e w' => e = .returned (.string ⟨l.toArray⟩) ∧ Below B w w' :=
  Any.Builder_String_any laysSt bxSt B b l w h hB
theorem BI.drew {B b : Nat} {l : List UInt8} {w : World} (h : BI B b l w) : BI B b l w.drew := h
end Go.Proofs.YtnpcbcfjnhjmmaaGreatDoor
namespace Go.Proofs.YtnpcbcfjnhjmmaaGreatDoor
open Go.Shelf Go.RowKit
shelf_lay Lays.n217 Nm 217 at Tryz as laysIB
theorem slIndexByte (s : ByteArray) (x : UInt8) (w : World) :
    Calls Tryz.prog 59 #[.string s, .int .u8 (x.toNat : Int)] w fun e w' => e = .returned (.int .i64 (Lib.indexByte s.data.toList x)) ∧ w' = w :=
  (Any.stringslite_IndexByte laysIB s (x.toNat : Int) w).mono fun e w' ⟨h1, h2⟩ => ⟨by rw [h1]; simp, h2⟩
theorem indexByte (s : ByteArray) (x : UInt8) (w : World) :
    Calls Tryz.prog 36 #[.string s, .int .u8 (x.toNat : Int)] w fun e w' => e = .returned (.int .i64 (Lib.indexByte s.data.toList x)) ∧ w' = w := by
  have HC := slIndexByte s x
  generalize Lib.indexByte s.data.toList x = p at *
  go_enter Tryz.func36, Tryz.ntmps36
  go_wp2_with fail
  refine (HC _).mono ?_
  rintro e w1 ⟨rfl, rfl⟩
  go_wp2
  go_ret
  exact ⟨rfl, rfl⟩
/-- the value of a digit, -1 if it is none -/
def ix (x : UInt8) : Int := Lib.indexByte dgL x
theorem ix_hi : ∀ n : Fin 256, -1 ≤ ix (UInt8.ofNat n.val) ∧ ix (UInt8.ofNat n.val) ≤ 15 := by decide +kernel
theorem ix_bd (x : UInt8) : -1 ≤ ix x ∧ ix x ≤ 15 := by
  have := ix_hi ⟨x.toNat, x.toNat_lt⟩
  simpa using this
def cod (a b : Int) : UInt8 := UInt8.ofNat (16 * a + b).toNat
/-- the byte that a text begins with, and how many bytes stand for it -/
def stp (l : List UInt8) : Option (UInt8 × Nat) :=
  if isB (l.getD 0 0) then some (l.getD 0 0, 1)
  else if l.getD 0 0 ≠ 37 ∨ l.length < 3 then none
  else if ix (l.getD 1 0) < 0 ∨ ix (l.getD 2 0) < 0 then none
  else if isB (cod (ix (l.getD 1 0)) (ix (l.getD 2 0))) then none else some (cod (ix (l.getD 1 0)) (ix (l.getD 2 0)), 3)
def stC (l : List UInt8) : UInt8 := match stp l with | some (c, _) => c | none => 0
def stN (l : List UInt8) : Nat := match stp l with | some (_, n) => n | none => 0
theorem or_256_0 : ∀ a b : Fin 16, bits .or .i64 ((a.val : Int) * 16) (b.val : Int) % 256 = 16 * (a.val : Int) + (b.val : Int) := by decide +kernel
theorem or_256 {a b : Int} (ha : 0 ≤ a) (ha' : a ≤ 15) (hb : 0 ≤ b) (hb' : b ≤ 15) : bits .or .i64 (a * 16) b % 256 = ((cod a b).toNat : Int) := by
  have := or_256_0 ⟨a.toNat, by omega⟩ ⟨b.toNat, by omega⟩
  rw [Int.toNat_of_nonneg ha, Int.toNat_of_nonneg hb] at this
  rw [this, cod, UInt8.toNat_ofNat']
  omega
theorem bgetD (s : ByteArray) (k : Nat) (h : k < s.size) : s.data.toList.getD k 0 = s[k] := by
  rw [List.getD, bget s k h]; rfl
theorem ret_un {a b : UInt8} {m n : Nat} (h1 : a = b) (h2 : m = n) : Ending.returned (.tuple #[.int .u8 (a.toNat : Int), .int .i64 (m : Int)]) = .returned (.tuple #[.int .u8 (b.toNat : Int), .int .i64 (n : Int)]) := by rw [h1, h2]
theorem digD : (({ data := #[48, 49, 50, 51, 52, 53, 54, 55, 56, 57, 65, 66, 67, 68, 69, 70] } : ByteArray)).data.toList = dgL := rfl
set_option maxHeartbeats 1000000 in
set_option maxRecDepth 100000 in
theorem firstByte (t : ByteArray) (w : World) (hT : BT w) (h0 : 0 < t.size) (hs : t.size ≤ 140737488355328) :
    Calls Tryz.prog 61 #[.string t] w fun e w' => e = .returned (.tuple #[.int .u8 ((stC t.data.toList).toNat : Int), .int .i64 (stN t.data.toList : Int)]) ∧ ∃ n, w' = w.drewN n := by
  have HT : Hid (BT w) := hT
  clear hT
  have hx0 := index_s t 0 h0 0 rfl
  have e0 := bgetD t 0 h0
  have hl : t.data.toList.length = t.size := by simp
  cases hb : isB t[0]
  · by_cases h37 : t[0] = 37
    · by_cases h3 : 2 < t.size
      · have h1s : 1 < t.size := by omega
        have hx1 := index_s t 1 h1s 1 rfl
        have hx2 := index_s t 2 h3 2 rfl
        have e1 := bgetD t 1 h1s
        have e2 := bgetD t 2 h3
        have b1 := ix_bd t[1]
        have b2 := ix_bd t[2]
        have hc1 : ∀ w, Calls Tryz.prog 36 #[.string { data := #[48, 49, 50, 51, 52, 53, 54, 55, 56, 57, 65, 66, 67, 68, 69, 70] }, .int .u8 (t[1].toNat : Int)] w fun e w' => e = .returned (.int .i64 (ix t[1])) ∧ w' = w := fun w => indexByte { data := #[48, 49, 50, 51, 52, 53, 54, 55, 56, 57, 65, 66, 67, 68, 69, 70] } t[1] w
        have hc2 : ∀ w, Calls Tryz.prog 36 #[.string { data := #[48, 49, 50, 51, 52, 53, 54, 55, 56, 57, 65, 66, 67, 68, 69, 70] }, .int .u8 (t[2].toNat : Int)] w fun e w' => e = .returned (.int .i64 (ix t[2])) ∧ w' = w := fun w => indexByte { data := #[48, 49, 50, 51, 52, 53, 54, 55, 56, 57, 65, 66, 67, 68, 69, 70] } t[2] w
        have HS : Hid (stp t.data.toList = if ix t[1] < 0 ∨ ix t[2] < 0 then none else if isB (cod (ix t[1]) (ix t[2])) then none else some (cod (ix t[1]) (ix t[2]), 3)) := by
          have h4 : ¬ (t[0] ≠ 37 ∨ t.data.toList.length < 3) := by
            rw [hl]
            rintro (h | h)
            · exact h h37
            · omega
          have h5 : stp t.data.toList = if ix t[1] < 0 ∨ ix t[2] < 0 then none else if isB (cod (ix t[1]) (ix t[2])) then none else some (cod (ix t[1]) (ix t[2]), 3) := by
            unfold stp; rw [e0, e1, e2, hb, if_neg (by simp), if_neg h4]
          exact h5
        clear e0 e1 e2 hl
        rw [h37] at hx0 hb
        generalize ix t[1] = a at *
        generalize ix t[2] = b at *
        generalize t[1] = y1 at *
        generalize t[2] = y2 at *
        clear h37
        have hz : ¬ (t.size : Int) < 3 := by omega
        obtain ⟨b11, b12⟩ := b1
        obtain ⟨b21, b22⟩ := b2
        go_enter Tryz.func61, Tryz.ntmps61
        go_wp2_with fail
        refine (isBare 37 _ HT.out).mono ?_
        rintro e w1 ⟨rfl, rfl⟩
        rw [hb]
        go_wp2
        go_quiet ((go_at_call 36; first | exact Calls.quiet_of_same (hc1 _) | exact Calls.quiet_of_same (hc2 _)))
        by_cases ha : a < 0
        · have HR : Hid ((0 : UInt8) = stC t.data.toList ∧ 0 = stN t.data.toList) := by
            have := HS.out; rw [if_pos (.inl ha)] at this
            exact (⟨by rw [stC, this], by rw [stN, this]⟩ : (0 : UInt8) = stC t.data.toList ∧ 0 = stN t.data.toList)
          clear HS hc1 hc2
          go_wp2
          go_ret2
          exact ⟨ret_un HR.out.1 HR.out.2, _, rfl⟩
        · by_cases hb2 : b < 0
          · have HR : Hid ((0 : UInt8) = stC t.data.toList ∧ 0 = stN t.data.toList) := by
              have := HS.out; rw [if_pos (.inr hb2)] at this
              exact (⟨by rw [stC, this], by rw [stN, this]⟩ : (0 : UInt8) = stC t.data.toList ∧ 0 = stN t.data.toList)
            clear HS hc1 hc2
            go_wp2
            go_ret2
            exact ⟨ret_un HR.out.1 HR.out.2, _, rfl⟩
          · have HS2 : Hid (stp t.data.toList = if isB (cod a b) then none else some (cod a b, 3)) := by
              have := HS.out; rw [if_neg (by omega)] at this; exact this
            have hor := or_256 (by omega) b12 (by omega) b22
            clear HS hc1 hc2
            generalize cod a b = c at *
            go_wp2_with fail
            refine (isBare c _ (HT.out.drew _)).mono ?_
            rintro e w2 ⟨rfl, rfl⟩
            cases hbc : isB c
            · have HR : Hid (c = stC t.data.toList ∧ 3 = stN t.data.toList) := by
                have := HS2.out; rw [hbc, if_neg (by simp)] at this
                exact (⟨by rw [stC, this], by rw [stN, this]⟩ : c = stC t.data.toList ∧ 3 = stN t.data.toList)
              clear HS2
              go_wp2
              go_ret2
              exact ⟨ret_un HR.out.1 HR.out.2, _, rfl⟩
            · have HR : Hid ((0 : UInt8) = stC t.data.toList ∧ 0 = stN t.data.toList) := by
                have := HS2.out; rw [hbc, if_pos rfl] at this
                exact (⟨by rw [stC, this], by rw [stN, this]⟩ : (0 : UInt8) = stC t.data.toList ∧ 0 = stN t.data.toList)
              clear HS2
              go_wp2
              go_ret2
              exact ⟨ret_un HR.out.1 HR.out.2, _, rfl⟩
      · have HR : Hid ((0 : UInt8) = stC t.data.toList ∧ 0 = stN t.data.toList) := by
          have h5 : stp t.data.toList = none := by unfold stp; rw [e0, hb, if_neg (by simp), if_pos (.inr (by rw [hl]; omega))]
          exact (⟨by rw [stC, h5], by rw [stN, h5]⟩ : (0 : UInt8) = stC t.data.toList ∧ 0 = stN t.data.toList)
        have hz : (t.size : Int) < 3 := by omega
        clear e0 hl
        rw [h37] at hx0 hb
        clear h37
        go_enter Tryz.func61, Tryz.ntmps61
        go_wp2_with fail
        refine (isBare 37 _ HT.out).mono ?_
        rintro e w1 ⟨rfl, rfl⟩
        rw [hb]
        go_wp2
        go_ret2
        exact ⟨ret_un HR.out.1 HR.out.2, 0, rfl⟩
    · have HR : Hid ((0 : UInt8) = stC t.data.toList ∧ 0 = stN t.data.toList) := by
        have h5 : stp t.data.toList = none := by unfold stp; rw [e0, hb, if_neg (by simp), if_pos (.inl h37)]
        exact (⟨by rw [stC, h5], by rw [stN, h5]⟩ : (0 : UInt8) = stC t.data.toList ∧ 0 = stN t.data.toList)
      clear e0 hl
      generalize t[0] = y at *
      have hne : ¬ (y.toNat : Int) = 37 := by
        intro h
        exact h37 (UInt8.toNat_inj.1 (by show y.toNat = 37; omega))
      clear h37
      go_enter Tryz.func61, Tryz.ntmps61
      go_wp2_with fail
      refine (isBare y _ HT.out).mono ?_
      rintro e w1 ⟨rfl, rfl⟩
      rw [hb]
      go_wp2
      go_ret2
      exact ⟨ret_un HR.out.1 HR.out.2, 0, rfl⟩
  · have HR : Hid (t[0] = stC t.data.toList ∧ 1 = stN t.data.toList) := by
      have h5 : stp t.data.toList = some (t[0], 1) := by unfold stp; rw [e0, hb, if_pos rfl]
      exact (⟨by rw [stC, h5], by rw [stN, h5]⟩ : t[0] = stC t.data.toList ∧ 1 = stN t.data.toList)
    clear e0 hl
    generalize t[0] = y at *
    go_enter Tryz.func61, Tryz.ntmps61
    go_wp2_with fail
    refine (isBare y _ HT.out).mono ?_
    rintro e w1 ⟨rfl, rfl⟩
    rw [hb]
    go_wp2
    go_ret2
    exact ⟨ret_un HR.out.1 HR.out.2, 0, rfl⟩
end Go.Proofs.YtnpcbcfjnhjmmaaGreatDoor
namespace Go.Proofs.YtnpcbcfjnhjmmaaGreatDoor
open Go.Shelf Go.RowKit
/-- what the bytes from a place on stand for: the text, or the place of the first fault -/
def une : Nat → List UInt8 → Nat → List UInt8 → List UInt8 × Int
  | 0, _, _, acc => (acc, -1)
  | f + 1, l, k, acc => if l.length ≤ k then (acc, -1) else if stN (l.drop k) = 0 then ([], (k : Int)) else une f l (k + stN (l.drop k)) (acc ++ [stC (l.drop k)])
def uneL (l : List UInt8) : List UInt8 × Int := une (l.length + 1) l 0 []
theorem stN_le {l : List UInt8} (h : l ≠ []) : stN l ≤ l.length := by
  have h1 : 1 ≤ l.length := List.length_pos_iff.2 h
  unfold stN stp
  split
  · rename_i c n e
    split at e
    · cases e; exact h1
    · split at e
      · cases e
      · rename_i h3
        split at e
        · cases e
        · split at e
          · cases e
          · cases e; omega
  · omega
theorem stN_drop {l : List UInt8} {k : Nat} (h : k < l.length) : k + stN (l.drop k) ≤ l.length := by
  have := stN_le (l := l.drop k) (by intro e; have := congrArg List.length e; simp at this; omega)
  rw [List.length_drop] at this; omega
theorem extD (s : ByteArray) (k : Nat) : (s.extract k s.size).data.toList = s.data.toList.drop k := by
  rw [ByteArray.data_extract, Array.toList_extract]; simp
  exact List.take_of_length_le (by simp)
theorem ret_si {a b : ByteArray} {m n : Int} (h1 : a = b) (h2 : m = n) : Ending.returned (.tuple #[.string a, .int .i64 m]) = .returned (.tuple #[.string b, .int .i64 n]) := by rw [h1, h2]
set_option maxHeartbeats 1000000 in
set_option maxRecDepth 100000 in
theorem plain (s : ByteArray) (w : World) (hT : BT w) (hs : s.size ≤ 140737488351232) :
    Calls Tryz.prog 38 #[.string s] w fun e w' => e = .returned (.tuple #[.string ⟨(uneL s.data.toList).1.toArray⟩, .int .i64 (uneL s.data.toList).2]) ∧ Below w.heap.size w w' := by
  have HT : Hid (BT w) := hT
  clear hT
  have HZ : Hid (s.data.toList.length = s.size) := (by simp : s.data.toList.length = s.size)
  go_enter Tryz.func38, Tryz.ntmps38
  go_wp2
  go_loopw [5] (fun t wr => ∃ k : Nat, k ≤ s.size ∧ t = .int .i64 k ∧ Hid (∃ acc f, acc.length ≤ k ∧ s.size - k < f ∧ uneL s.data.toList = une f s.data.toList k acc ∧ BI w.heap.size w.heap.size acc wr) ∧ Hid (Below w.heap.size w wr)) (fun t _ => s.size - (intOf t).toNat)
  case atStart => exact ⟨0, Nat.zero_le _, rfl, (⟨[], s.data.toList.length + 1, Nat.le_refl _, by have := HZ.out; omega, rfl, Lib.fresh_isBuilder 94 5 w⟩ : ∃ (acc : List UInt8) (f : Nat), acc.length ≤ 0 ∧ s.size - 0 < f ∧ uneL s.data.toList = une f s.data.toList 0 acc ∧ BI w.heap.size w.heap.size acc _), ((Below.refl _ _).alloc (Nat.le_refl _) _ : Below w.heap.size w _)⟩
  case round =>
    obtain ⟨k, hk, rfl, hh, hbel⟩ := hrel
    obtain ⟨acc, f, ha, hf, hu, hbi⟩ := hh.out
    obtain ⟨g, rfl⟩ : ∃ g, f = g + 1 := ⟨f - 1, by omega⟩
    have HI : Hid (acc.length ≤ k ∧ s.size - k < g + 1 ∧ uneL s.data.toList = une (g + 1) s.data.toList k acc ∧ BI w.heap.size w.heap.size acc wr) := ⟨ha, hf, hu, hbi⟩
    clear hh ha hf hu hbi
    by_cases hlt : k < s.size
    · have hlt' : (k : Int) < (s.size : Int) := by omega
      have hsl : ∀ w : World, (Instr.slice 9 (.string s) (some (.int .i64 (k : Int))) none none).run Tryz.prog w = .ok (.string (s.extract k s.size)) w := fun w => by
        simp [go_sem, Tryz.underlying9]; omega
      have HX : Hid ((s.extract k s.size).data.toList = s.data.toList.drop k ∧ 0 < (s.extract k s.size).size ∧ (s.extract k s.size).size ≤ s.size) := (⟨extD s k, by simp; omega, by simp⟩ : (s.extract k s.size).data.toList = s.data.toList.drop k ∧ 0 < (s.extract k s.size).size ∧ (s.extract k s.size).size ≤ s.size)
      generalize s.extract k s.size = t at *
      go_wp2_with fail
      refine (firstByte t _ (HT.out.keep hbel.out) HX.out.2.1 (by have := HX.out.2.2; omega)).mono ?_
      rintro e w1 ⟨rfl, nq, rfl⟩
      rw [HX.out.1]
      have HN : Hid (k + stN (s.data.toList.drop k) ≤ s.size) := by have := HZ.out; have h2 := stN_drop (l := s.data.toList) (k := k) (by omega); rw [this] at h2; exact h2
      have HU : Hid (uneL s.data.toList = if stN (s.data.toList.drop k) = 0 then ([], (k : Int)) else une g s.data.toList (k + stN (s.data.toList.drop k)) (acc ++ [stC (s.data.toList.drop k)])) := by
        have h2 := HI.out.2.2.1
        have h3 := HZ.out
        rw [une, if_neg (by omega)] at h2
        exact h2
      clear HX hsl
      generalize stN (s.data.toList.drop k) = n at *
      generalize stC (s.data.toList.drop k) = c at *
      by_cases hn : n = 0
      · have HR : Hid ((⟨#[]⟩ : ByteArray) = ⟨(uneL s.data.toList).1.toArray⟩ ∧ (k : Int) = (uneL s.data.toList).2) := by
          have h2 := HU.out
          rw [if_pos hn] at h2
          exact (⟨by rw [h2], by rw [h2]⟩ : (⟨#[]⟩ : ByteArray) = ⟨(uneL s.data.toList).1.toArray⟩ ∧ (k : Int) = (uneL s.data.toList).2)
        subst hn
        clear HU HI HN
        go_wp2
        go_ret2
        exact ⟨ret_si HR.out.1 HR.out.2, belowN hbel.out _⟩
      · have hn' : ¬ (n : Int) = 0 := by omega
        have HB1 : Hid (Below w.heap.size w (wr.drewN nq)) := belowN hbel.out nq
        have HI1 : Hid (BI w.heap.size w.heap.size acc (wr.drewN nq)) := HI.out.2.2.2
        have HA : Hid (acc.length ≤ k) := HI.out.1
        have HF : Hid (s.size - k < g + 1) := HI.out.2.1
        clear HI hbel
        generalize wr.drewN nq = w1 at *
        go_wp2_with fail
        refine (writeByte _ _ acc c _ HI1.out (by have := HA.out; omega) HB1.out.size).mono ?_
        rintro e w2 ⟨rfl, h2, b2⟩
        have HI2 : Hid (∃ (acc' : List UInt8) (f : Nat), acc'.length ≤ k + n ∧ s.size - (k + n) < f ∧ uneL s.data.toList = une f s.data.toList (k + n) acc' ∧ BI w.heap.size w.heap.size acc' w2) := by
          have h3 := HU.out
          rw [if_neg hn] at h3
          have h4 := HA.out
          have h5 := HF.out
          exact (⟨acc ++ [c], g, by simp; omega, by omega, h3, h2⟩ : ∃ (acc' : List UInt8) (f : Nat), acc'.length ≤ k + n ∧ s.size - (k + n) < f ∧ uneL s.data.toList = une f s.data.toList (k + n) acc' ∧ BI w.heap.size w.heap.size acc' w2)
        have HB2 : Hid (Below w.heap.size w w2) := HB1.out.trans b2
        have hkn : k + n ≤ s.size := HN.out
        clear h2 b2 HI1 HB1 HU HA HF HN
        go_wp2
        go_roundw
        case rel => exact ⟨k + n, by omega, by go_num, HI2, HB2⟩
        case measure => simp [intOf]; omega
    · have hkl : k = s.size := by omega
      subst hkl
      have HR : Hid ((⟨acc.toArray⟩ : ByteArray) = ⟨(uneL s.data.toList).1.toArray⟩ ∧ -1 = (uneL s.data.toList).2) := by
        have h2 := HI.out.2.2.1
        have h3 := HZ.out
        rw [une, if_pos (by omega)] at h2
        exact (⟨by rw [h2], by rw [h2]⟩ : (⟨acc.toArray⟩ : ByteArray) = ⟨(uneL s.data.toList).1.toArray⟩ ∧ -1 = (uneL s.data.toList).2)
      have HI1 : Hid (BI w.heap.size w.heap.size acc wr) := HI.out.2.2.2
      clear HI
      go_wp2_with fail
      refine (bString _ _ _ _ HI1.out hbel.out.size).mono ?_
      rintro e w2 ⟨rfl, b2⟩
      have HB : Hid (Below w.heap.size w w2) := hbel.out.trans b2
      clear b2 hbel
      go_wp2
      go_ret2
      exact ⟨ret_si HR.out.1 HR.out.2, HB.out⟩
end Go.Proofs.YtnpcbcfjnhjmmaaGreatDoor
namespace Go.Proofs.YtnpcbcfjnhjmmaaGreatDoor
open Go.Shelf Go.RowKit
theorem drop_getD (l : List UInt8) (k j : Nat) : (l.drop k).getD j 0 = l.getD (k + j) 0 := by simp [List.getD]
theorem stN_of {l : List UInt8} {c : UInt8} {n : Nat} (h : stp l = some (c, n)) : stN l = n ∧ stC l = c := by rw [stN, stC, h]; exact ⟨rfl, rfl⟩
theorem stN_no {l : List UInt8} (h : stp l = none) : stN l = 0 := by rw [stN, h]
theorem cod16 {a b : Int} (ha : 0 ≤ a) (ha' : a ≤ 15) (hb : 0 ≤ b) (hb' : b ≤ 15) : IntKind.u8.wrap (16 * a + b) = ((cod a b).toNat : Int) := by
  rw [IntKind.wrap_u8, cod, UInt8.toNat_ofNat']; omega
end Go.Proofs.YtnpcbcfjnhjmmaaGreatDoor
namespace Go.Proofs.YtnpcbcfjnhjmmaaGreatDoor
open Go.Shelf Go.RowKit
/-- what Unescape answers -/
def unT (l : List UInt8) : ByteArray := if 0 ≤ (uneL l).2 then ⟨#[]⟩ else ⟨(uneL l).1.toArray⟩
def unE (l : List UInt8) : Int := if 0 ≤ (uneL l).2 then 222 else 0
end Go.Proofs.YtnpcbcfjnhjmmaaGreatDoor
