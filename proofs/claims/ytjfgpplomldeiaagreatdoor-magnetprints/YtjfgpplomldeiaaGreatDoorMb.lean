import Derived.Test.YtjfgpplomldeiaaGreatDoorMa
import Derived.Lib.OwnKind
namespace Go.Proofs.YtjfgpplomldeiaaGreatDoor
open Go.Shelf Go.RowKit
/-- a list's byte -/
def byt (l : List UInt8) (i : Nat) : UInt8 := l.getD i 0
/-- the slice v of bytes reads as the list l -/
def RB (w : World) (v : Value) (l : List UInt8) : Prop :=
  ∃ a c, v = .slice a l.length c ∧ l.length ≤ c ∧ (l = [] ∨ ∃ g o, a = some ⟨g, o, none⟩ ∧ g < w.heap.size ∧ ∀ i, i < l.length → w.cell? ⟨g, o + i, none⟩ = some (.int .u8 ((byt l i).toNat : Int)))
theorem RB.keep {w w' : World} {v : Value} {l : List UInt8} (h : RB w v l) (hb : Below w.heap.size w w') : RB w' v l := by
  obtain ⟨a, c, rfl, hle, h⟩ := h
  refine ⟨a, c, rfl, hle, ?_⟩
  rcases h with h | ⟨g, o, h1, h2, h3⟩
  · exact .inl h
  · exact .inr ⟨g, o, h1, Nat.lt_of_lt_of_le h2 hb.size, fun i hi => (World.cell?_of_block (w := w) (hb.block g h2)).trans (h3 i hi)⟩
/-- a list of bytes that the call owns -/
def OW (B : Nat) (w : World) (v : Value) (l : List UInt8) : Prop := w.ownsRow B 5 1 v l.length (Lib.byteCells l)
theorem getD_byt (l : List UInt8) (i : Nat) (hi : i < l.length) : byt l i = l[i] := by unfold byt; simp [List.getD, List.getElem?_eq_getElem hi]
theorem OW.rb {B : Nat} {w : World} {v : Value} {l : List UInt8} (h : OW B w v l) : RB w v l := by
  have h' := h
  rcases h.2 with ⟨rfl, h0⟩ | ⟨g, cap, cur, rfl, _, hg, hle, _⟩
  · have : l = [] := List.length_eq_zero_iff.1 h0
    subst this; exact ⟨none, 0, rfl, Nat.le_refl _, .inl rfl⟩
  · refine ⟨_, cap, rfl, hle, .inr ⟨g, 0, rfl, (Array.getElem?_eq_some_iff.1 hg).1, fun i hi => ?_⟩⟩
    have := World.ownsRow.cellAt h' i (by omega)
    rw [Nat.zero_add, this, getD_byt l i hi]
    simp [Lib.byteCells, List.getElem?_eq_getElem hi]
theorem OW.form {B : Nat} {w : World} {v : Value} {l : List UInt8} (h : OW B w v l) : ∃ a c, v = .slice a l.length c := by
  obtain ⟨a, c, h, _⟩ := h.rb
  exact ⟨a, c, h⟩
theorem OW.grow {B : Nat} {w w' : World} {v : Value} {l : List UInt8} (h : OW B w v l) (hb : Below w.heap.size w w') : OW B w' v l := by
  refine ⟨h.1, ?_⟩
  rcases h.2 with h1 | ⟨g, cap, cur, h1, h2, h3, h4⟩
  · exact .inl h1
  · exact .inr ⟨g, cap, cur, h1, h2, (hb.block g (Array.getElem?_eq_some_iff.1 h3).1).trans h3, h4⟩
theorem OW.alloc {B : Nat} {w : World} {v : Value} {l : List UInt8} (h : OW B w v l) (o : Obj) : OW B (w.alloc o) v l := h.grow ((Below.refl _ _).alloc (Nat.le_refl _) _)
theorem append_byte {ops : Array Oper} {rest : List Oper} {o : Oper} {a : Act} {Q : Exit → Act → World → Prop} {w : World} {B : Nat} {sv : Value} {l : List UInt8} (hgd : o.guard = none) (s x : Operand)
    (ho : o.op = .call { callee := .builtin .append, args := #[s, x], argTypes := #[60, 60] }) (hs : a.eval s = sv) (hown : OW B w sv l) (b : Nat) (c : UInt8) (hx : a.eval x = .slice (some ⟨b, 0, none⟩) 1 1)
    (hc : w.cell? ⟨b, 0, none⟩ = some (.int .u8 c.toNat)) (hB : B ≤ w.heap.size) (hlim : l.length < 140737488351232)
    (h : ∀ v' w', OW B w' v' (l ++ [c]) → Below B w w' → wpList Tryz.prog ops Q rest (a.put o.dst v') w') : wpList Tryz.prog ops Q (o :: rest) a w := by
  obtain ⟨i0, hi, hz0, hz1, hz2⟩ := info_parts info5
  refine wpList_append_own w hgd s x 60 ho B 5 i0 _ 1 1 Tryz.underlying60 hi hz0 hz1 hz2 rfl (by omega) sv l.length (Lib.byteCells l) hs hown ⟨b, 0, none⟩ 1 1 [.int .u8 c.toNat] hx rfl (fun j u hu => ?_) (fun u hu => ?_) (by unfold maxLen; omega) (by omega) hB (fun v' w' h1 h2 _ => ?_)
  · match j, hu with
    | 0, hu => simp at hu; subst hu; simpa [Addr.add] using hc
  · simp at hu; subst hu; rfl
  · refine h v' w' ?_ ((Below.refl B w).grown h2 hB (fun k hk => (World.ownsRow.lt hown k hk).1))
    have e : Lib.byteCells l ++ [Value.int .u8 c.toNat] = Lib.byteCells (l ++ [c]) := by simp [Lib.byteCells]
    rw [e] at h1
    simpa [OW] using h1
theorem bcl_len (l : List UInt8) : (Lib.byteCells l).length = l.length := Lib.byteCells_length l
theorem foldl_push (ns : List UInt8) (s : ByteArray) : (ns.map fun x => (x.toNat : Int)).foldl (fun r n => r.push (UInt8.ofNat n.toNat)) s = ⟨s.data ++ ns.toArray⟩ := by
  induction ns generalizing s with
  | nil => simp
  | cons x ns ih =>
    rw [List.map_cons, List.foldl_cons, ih]
    simp [ByteArray.push]
theorem conv_rb {w : World} {v : Value} {l : List UInt8} (h : RB w v l) : (convert 60 9 v).run Tryz.prog w = .ok (.string ⟨l.toArray⟩) w := by
  obtain ⟨a, cap, rfl, _, h⟩ := h
  rw [run_convert_bytes_string w 60 9 5 a _ cap Tryz.underlying60 Tryz.underlying5 Tryz.underlying9]
  cases a with
  | none =>
    rcases h with rfl | ⟨b, o, h, _⟩
    · rfl
    · cases h
  | some a =>
    have hl := run_loadCells_list (P := Tryz.prog) w a (Lib.byteCells l) (fun j v hj => by
      have hj' : j < l.length := by
        have := (List.getElem?_eq_some_iff.1 hj).1
        rwa [bcl_len] at this
      rcases h with rfl | ⟨b, o, h, _, hc⟩
      · simp at hj'
      · simp only [Option.some.injEq] at h
        subst h
        have hadd : (⟨b, o, none⟩ : Addr).add j = ⟨b, o + j, none⟩ := by unfold Addr.add; split <;> simp_all
        rw [hadd, hc j hj', getD_byt l j hj']
        simpa [Lib.byteCells, List.getElem?_eq_getElem hj'] using hj)
    have e : Lib.byteCells l = (l.map fun x => (x.toNat : Int)).map (Value.int .u8) := by simp [Lib.byteCells]
    rw [bcl_len, e] at hl
    rw [run_bytesToString w a l.length cap _ hl, foldl_push]
    simp

/-- the library's command does not find a type that no body names here: so by hand -/
def laysWB_ren : Ren where
  f := fun | 167 => 63 | 240 => 61 | 276 => 72 | n => n
  t := fun | 37 => 60 | 70 => 71 | 72 => 73 | 75 => 78 | 80 => 82 | 164 => 104 | 20 => 20 | n => n
  g := fun n => n
theorem laysWB : Lays.n167 Tryz.prog laysWB_ren where
  f167 := Tryz.func63.trans (congrArg some (by kernel_rfl))
  f240 := Tryz.func61.trans (congrArg some (by kernel_rfl))
  f276 := Tryz.func72.trans (congrArg some (by kernel_rfl))
  mixed := by kernel_rfl
  t0 := Tryz.underlying0
  a0 := Tryz.isAgg0
  z0 := Tryz.sizeOf0
  v0 := Tryz.zeroValue0
  t4 := Tryz.underlying4
  a4 := Tryz.isAgg4
  z4 := Tryz.sizeOf4
  v4 := Tryz.zeroValue4
  t5 := Tryz.underlying5
  a5 := Tryz.isAgg5
  z5 := Tryz.sizeOf5
  v5 := Tryz.zeroValue5
  t9 := Tryz.underlying9
  a9 := Tryz.isAgg9
  z9 := Tryz.sizeOf9
  v9 := Tryz.zeroValue9
  t20 := Tryz.underlying20
  a20 := Tryz.isAgg20
  z20 := Tryz.sizeOf20
  v20 := Tryz.zeroValue20
  t37 := Tryz.underlying60
  a37 := Tryz.isAgg60
  z37 := Tryz.sizeOf60
  v37 := Tryz.zeroValue60
  t70 := Tryz.underlying71
  a70 := Tryz.isAgg71
  z70 := Tryz.sizeOf71
  v70 := Tryz.zeroValue71
  t72 := Tryz.underlying73
  a72 := Tryz.isAgg73
  z72 := Tryz.sizeOf73
  v72 := Tryz.zeroValue73
  t75 := Tryz.underlying78
  a75 := Tryz.isAgg78
  z75 := Tryz.sizeOf78
  v75 := Tryz.zeroValue78
  t164 := Tryz.underlying104
  a164 := Tryz.isAgg104
  z164 := Tryz.sizeOf104
  v164 := Tryz.zeroValue104
theorem bxWB : Builder.Extra Tryz.prog laysWB_ren where
  sizeBuilder := by kernel_rfl
  liesBuilder := by kernel_rfl
  t5 := Tryz.underlying5
  a5 := Tryz.isAgg5
  z5 := Tryz.sizeOf5
  v5 := Tryz.zeroValue5
  infoByte := by kernel_rfl
  cellsByte := by kernel_rfl
  sizeByte := by kernel_rfl
  neB5 := by decide
shelf_lay Lays.n169 Nm 169 at Tryz as laysSt
theorem bxSt : Builder.Extra Tryz.prog laysSt_ren where
  sizeBuilder := by kernel_rfl
  liesBuilder := by kernel_rfl
  t5 := Tryz.underlying5
  a5 := Tryz.isAgg5
  z5 := Tryz.sizeOf5
  v5 := Tryz.zeroValue5
  infoByte := by kernel_rfl
  cellsByte := by kernel_rfl
  sizeByte := by kernel_rfl
  neB5 := by decide
/-- a builder that holds these bytes -/
def BI (B b : Nat) (l : List UInt8) (w : World) : Prop := Lib.IsBuilder 73 5 B b (Lib.byteCells l) w
theorem writeByte (B b : Nat) (l : List UInt8) (x : UInt8) (w : World) (h : BI B b l w) (hlen : l.length + 1 ≤ 140737488355328) (hB : B ≤ w.heap.size) :
    Calls Tryz.prog 63 #[.pointer (some ⟨b, 0, none⟩), .int .u8 (x.toNat : Int)] w fun e w' => e = .returned .nilIface ∧ BI B b (l ++ [x]) w' ∧ Below B w w' :=
  (Any.Builder_WriteByte laysWB bxWB B b (Lib.byteCells l) x.toNat w h (by rw [Lib.byteCells_length]; exact hlen) hB).mono fun e w' ⟨h1, h2, h3⟩ => ⟨h1, .inr (by rw [Lib.byteCells_append]; exact h2), h3⟩
theorem bString (B b : Nat) (l : List UInt8) (w : World) (h : BI B b l w) (hB : B ≤ w.heap.size) :
    Calls Tryz.prog 48 #[.pointer (some ⟨b, 0, none⟩)] w fun e w' => e = .returned (.string ⟨l.toArray⟩) ∧ Below B w w' :=
  Any.Builder_String_any laysSt bxSt B b l w h hB
theorem BI.drew {B b : Nat} {l : List UInt8} {w : World} (h : BI B b l w) : BI B b l w.drew := h
end Go.Proofs.YtjfgpplomldeiaaGreatDoor
