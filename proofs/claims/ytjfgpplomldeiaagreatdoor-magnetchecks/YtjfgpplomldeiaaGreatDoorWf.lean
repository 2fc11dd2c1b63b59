import Derived.Test.YtjfgpplomldeiaaGreatDoorWe
import Derived.Laws.Tables
import Derived.Deep.Cut
namespace Go.Proofs.YtjfgpplomldeiaaGreatDoor
open Go.RowKit Go.Deep
theorem len32 {α : Type} {l : List α} (h : l.length = 32) : ∃ x0 x1 x2 x3 x4 x5 x6 x7 x8 x9 x10 x11 x12 x13 x14 x15 x16 x17 x18 x19 x20 x21 x22 x23 x24 x25 x26 x27 x28 x29 x30 x31, l = [x0, x1, x2, x3, x4, x5, x6, x7, x8, x9, x10, x11, x12, x13, x14, x15, x16, x17, x18, x19, x20, x21, x22, x23, x24, x25, x26, x27, x28, x29, x30, x31] := by
  match l, h with
  | [x0, x1, x2, x3, x4, x5, x6, x7, x8, x9, x10, x11, x12, x13, x14, x15, x16, x17, x18, x19, x20, x21, x22, x23, x24, x25, x26, x27, x28, x29, x30, x31], _ => exact ⟨x0, x1, x2, x3, x4, x5, x6, x7, x8, x9, x10, x11, x12, x13, x14, x15, x16, x17, x18, x19, x20, x21, x22, x23, x24, x25, x26, x27, x28, x29, x30, x31, rfl⟩
theorem built_link {l : List UInt8} (hl : l.length = 32) (nm : ByteArray) (a : Option Addr) (n c : Nat) :
    Tryz.prog.built 28 [(0, .agg (Lib.byteCells l).toArray), (1, .string nm), (5, .slice a n c)] = some (lkC l nm (.slice none 0 0) (.slice none 0 0) (.slice none 0 0) (.slice a n c)) := by
  obtain ⟨x0, x1, x2, x3, x4, x5, x6, x7, x8, x9, x10, x11, x12, x13, x14, x15, x16, x17, x18, x19, x20, x21, x22, x23, x24, x25, x26, x27, x28, x29, x30, x31, rfl⟩ := len32 hl
  kernel_rfl
theorem yields_build {ops : Array Oper} {S : World → Prop} {op : Oper} {a : Act} (hw : Region.wanted op (yielded ops a.tmps) = true) (t : TypeId) (parts : Array (Nat × Operand)) (ho : op.op = .build t parts)
    (cells : Array Value) (hc : Tryz.prog.built t (parts.map fun (i, x) => (i, a.eval x)).toList = some cells) : YieldsIf Tryz.prog ops S op (.agg cells) a :=
  .inl ⟨hw, fun w _ => by
    unfold execOp
    simp only [ho, Sem.run_bind, run_build w t _ cells hc, Result.andThen_ok]
    rfl⟩
theorem yields_link {ops : Array Oper} {S : World → Prop} {op : Oper} {act : Act} (hw : Region.wanted op (yielded ops act.tmps) = true) (x0 x1 x2 : Operand) (ho : op.op = .build 28 #[(0, x0), (1, x1), (5, x2)]) {l : List UInt8} (hl : l.length = 32) (nm : ByteArray) (a : Option Addr) (n c : Nat)
    (h0 : act.eval x0 = .agg (Lib.byteCells l).toArray) (h1 : act.eval x1 = .string nm) (h2 : act.eval x2 = .slice a n c) : YieldsIf Tryz.prog ops S op (.agg (lkC l nm (.slice none 0 0) (.slice none 0 0) (.slice none 0 0) (.slice a n c))) act :=
  yields_build hw _ _ ho _ (by
    have e : (#[(0, x0), (1, x1), (5, x2)].map fun (i, y) => (i, act.eval y)).toList = [(0, .agg (Lib.byteCells l).toArray), (1, .string nm), (5, .slice a n c)] := by simp [h0, h1, h2]
    rw [e]
    exact built_link hl nm a n c)
end Go.Proofs.YtjfgpplomldeiaaGreatDoor
