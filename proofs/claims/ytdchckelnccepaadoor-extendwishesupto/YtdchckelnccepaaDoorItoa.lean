import Derived.Shelf.Strconv.AppendIntPublic10
import Derived.Shelf.Strconv.Itoa3
import Derived.Shelf.Lay
import Derived.Ground.NamesProg
import Derived.Lib.ItoaLen
import Derived.Lib.OwnKind
import Derived.Lib.AppendStr
import Derived.Test.YtdchckelnccepaaDoorTree
namespace Go.Proofs.YtdchckelnccepaaDoor
open Go.Shelf Go.RowKit Go.Deep
shelf_lay LaysM.n176 Nm 176 at Tryd as lays176
shelf_lay LaysM.n171 Nm 171 at Tryd as lays171
/-- the frame of what adds to a text: all below B, and all that is no row of bytes -/
def BW (B : Nat) (w w' : World) : Prop := Below B w w' ∧ Lib.OthersKept 5 none w w'
theorem BW.refl (B : Nat) (w : World) : BW B w w := ⟨Below.refl _ _, Lib.OthersKept.refl _ _ _⟩
theorem BW.trans {B : Nat} {a b c : World} (h : BW B a b) (k : BW B b c) : BW B a c := ⟨h.1.trans k.1, h.2.trans k.2⟩
theorem BW.alloc {B : Nat} {a w : World} (h : BW B a w) (hB : B ≤ w.heap.size) (o : Obj) : BW B a (w.alloc o) := ⟨h.1.alloc hB o, h.2.alloc o⟩
theorem BW.below {B : Nat} {a w w' : World} (h : BW B a w) (hB : B ≤ w.heap.size) (hb : Below w.heap.size w w') : BW B a w' := ⟨h.1.trans (hb.mono hB), fun k o hk hn hx => by
  have h1 := h.2 k o hk hn hx
  rw [hb.block k (Array.getElem?_eq_some_iff.1 h1).1]; exact h1⟩
/-- a text that the call owns -/
def OW (B : Nat) (w : World) (v : Value) (l : List UInt8) : Prop := w.ownsRow B 5 1 v l.length (Lib.byteCells l)
theorem info5 : (Tryd.prog.info? 5).map (fun i => (i.zero, i.size, i.bytes)) = some (some (.int .u8 0), 1, 1) := by kernel_rfl
theorem bc_append (a b : List UInt8) : Lib.byteCells a ++ Lib.byteCells b = Lib.byteCells (a ++ b) := by simp [Lib.byteCells]
theorem append_byte {ops : Array Oper} {rest : List Oper} {o : Oper} {a : Act} {Q : Exit → Act → World → Prop} {w : World} {B : Nat} {sv : Value} {l : List UInt8} (hgd : o.guard = none) (s x : Operand)
    (ho : o.op = .call { callee := .builtin .append, args := #[s, x], argTypes := #[28, 28] }) (hs : a.eval s = sv) (hown : OW B w sv l) (b : Nat) (c : UInt8) (hx : a.eval x = .slice (some ⟨b, 0, none⟩) 1 1)
    (hc : w.cell? ⟨b, 0, none⟩ = some (.int .u8 c.toNat)) (hB : B ≤ w.heap.size) (hlim : l.length ≤ 140000000000000)
    (h : ∀ v' w', OW B w' v' (l ++ [c]) → BW B w w' → wpList Tryd.prog ops Q rest (a.put o.dst v') w') : wpList Tryd.prog ops Q (o :: rest) a w := by
  obtain ⟨i0, hi, hz0, hz1, hz2⟩ := info_parts info5
  refine wpList_append_own w hgd s x 28 ho B 5 i0 _ 1 1 Tryd.underlying28 hi hz0 hz1 hz2 rfl (by omega) sv l.length (Lib.byteCells l) hs hown ⟨b, 0, none⟩ 1 1 [.int .u8 c.toNat] hx rfl (fun j u hu => ?_) (fun u hu => ?_) (by unfold maxLen; omega) (by omega) hB (fun v' w' h1 h2 _ => ?_)
  · match j, hu with
    | 0, hu => simp at hu; subst hu; simpa [Addr.add] using hc
  · simp at hu; subst hu; rfl
  · refine h v' w' ?_ ⟨(Below.refl B w).grown h2 hB (fun k hk => (World.ownsRow.lt hown k hk).1), (Lib.OthersKept.refl _ _ _).grown h2 (Lib.ownsRow_kind hown)⟩
    have e : Lib.byteCells l ++ [Value.int .u8 c.toNat] = Lib.byteCells (l ++ [c]) := by simp [Lib.byteCells]
    rw [e] at h1
    simpa [OW] using h1
theorem append_str {ops : Array Oper} {rest : List Oper} {o : Oper} {a : Act} {Q : Exit → Act → World → Prop} {w : World} {B : Nat} {sv : Value} {l : List UInt8} (hgd : o.guard = none) (s x : Operand)
    (ho : o.op = .call { callee := .builtin .append, args := #[s, x], argTypes := #[28, 82] }) (hs : a.eval s = sv) (hown : OW B w sv l) (c : ByteArray) (hx : a.eval x = .string c)
    (hB : B ≤ w.heap.size) (hlim : l.length + c.size ≤ 140000000000000)
    (h : ∀ v' w', OW B w' v' (l ++ c.data.toList) → BW B w w' → wpList Tryd.prog ops Q rest (a.put o.dst v') w') : wpList Tryd.prog ops Q (o :: rest) a w := by
  obtain ⟨i0, hi, hz0, hz1, hz2⟩ := info_parts info5
  refine Lib.wpList_append_own_string w hgd s x 28 82 ho B 5 i0 Tryd.underlying28 Tryd.underlying82 hi hz0 hz1 hz2 sv l.length (Lib.byteCells l) hs hown c hx (by unfold maxLen; omega) (by omega) hB (fun v' w' h1 h2 _ => ?_)
  refine h v' w' ?_ ⟨(Below.refl B w).grown h2 hB (fun k hk => (World.ownsRow.lt hown k hk).1), (Lib.OthersKept.refl _ _ _).grown h2 (Lib.ownsRow_kind hown)⟩
  have e : Lib.strCells c = Lib.byteCells c.data.toList := by simp [Lib.strCells, Lib.byteCells]
  rw [e, bc_append] at h1
  have e2 : l.length + c.size = (l ++ c.data.toList).length := by rw [List.length_append, Array.length_toList]; rfl
  rw [e2] at h1
  exact h1
def TB (B : Nat) (w : World) : Prop := Lib.TabBelow Tryd.prog B w "internal/strconv.uint64pow10" .u64 Lib.pow10Tab
theorem appendInt97 (B : Nat) (i : Int) (h0 : -9223372036854775808 ≤ i) (h1 : i ≤ 9223372036854775807) (sv : Value) (l : List UInt8) (w : World) (hown : OW B w sv l) (hBw : B ≤ w.heap.size) (hlim : l.length ≤ 140000000000000) (htab : TB B w) :
    Calls Tryd.prog 92 #[sv, .int .i64 i, .int .i64 10] w fun e w' => ∃ v', e = .returned v' ∧ OW B w' v' (l ++ Lib.itoa i) ∧ BW B w w' := by
  refine (Any.strconv_AppendInt_10 lays176 B l.length i h0 h1 sv (Lib.byteCells l) w hown hBw (by omega) htab).mono ?_
  rintro e w' ⟨v', rfl, h2, h3, h4⟩
  refine ⟨v', rfl, ?_, h3, h4⟩
  rw [bc_append, ← List.length_append] at h2
  exact h2
theorem itoa25 (n : Int) (h0 : -9223372036854775808 ≤ n) (h1 : n ≤ 9223372036854775807) (w : World) (htab : TB w.heap.size w) :
    Calls Tryd.prog 45 #[.int .i64 n] w fun e w' => e = .returned (.string ⟨(Lib.itoa n).toArray⟩) ∧ Below w.heap.size w w' := by
  refine (Any.strconv_Itoa lays171 n h0 h1 w htab.here).mono ?_
  rintro e w' ⟨rfl, k, os, rfl⟩
  refine ⟨rfl, rfl, rfl, rfl, ?_, fun j hj => ?_⟩
  · show w.heap.size ≤ (w.heap ++ os).size
    simp
  · show (w.heap ++ os)[j]? = w.heap[j]?
    rw [Array.getElem?_append_left hj]
end Go.Proofs.YtdchckelnccepaaDoor
