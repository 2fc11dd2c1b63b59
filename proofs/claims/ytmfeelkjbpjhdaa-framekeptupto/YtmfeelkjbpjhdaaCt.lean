import Derived.Test.YtmfeelkjbpjhdaaQa
import Derived.Test.YtmfeelkjbpjhdaaHelloEq
import Derived.Deep.MidRow
namespace Go.Proofs.Ytmfeelkjbpjhdaa
open Go.RowKit
/-- the one handshake of a list -/
theorem OM.one {B : Nat} {w : World} {v : Value} {h : List UInt8} (hm : OM B w v [h]) : ∃ g c, v = .slice (some ⟨g, 0, none⟩) 1 c ∧ h.length = 48 ∧ g < w.heap.size ∧ w.rangeAt g 0 (Lib.byteCells h) := by
  have hl := hm.2 h (by simp)
  have h1 := hm.1
  rcases hm.1.2 with ⟨_, h0⟩ | ⟨g, cap, cur, rfl, _, hg, _⟩
  · simp at h0
  · refine ⟨g, cap, rfl, hl, (Array.getElem?_eq_some_iff.1 hg).1, fun j y hj => ?_⟩
    have hj' : j < 48 := by
      have := (List.getElem?_eq_some_iff.1 hj).1
      rw [bcl_len] at this; omega
    have := World.ownsRow.cellAt h1 j (by simp; omega)
    rw [Nat.zero_add, this]
    simpa using hj
theorem load_hello {w : World} {g o : Nat} {h : List UInt8} (hr : w.rangeAt g o (Lib.byteCells h)) (hl : h.length = 48) : (Instr.loadAt 25 (.pointer (some ⟨g, o, none⟩))).run Try.prog w = .ok (.agg (bc h)) w ∧ (loadVar 25 ⟨g, o, none⟩).run Try.prog w = .ok (.agg (bc h)) w := by
  have hi : (Try.prog.info? 25).map (·.size) = some (Lib.byteCells h).length := by rw [bcl_len, hl]; kernel_rfl
  exact ⟨run_loadAt_mid w g o 25 _ _ hr Try.underlying25 rfl hi, run_loadVar_mid w g o 25 _ _ hr Try.underlying25 rfl hi⟩
theorem wpQuiet_load {ops : Array Oper} {C : World → Prop} {Q : Act → Prop} {a : Act} {o : Oper} {rest : List Oper} (hw : Region.wanted o (yielded ops a.tmps) = true) (x : Operand) (ho : o.op = .load 25 x) (g k : Nat) (hx : a.eval x = .pointer (some ⟨g, k, none⟩)) (h : List UInt8) (hr : ∀ w', C w' → w'.rangeAt g k (Lib.byteCells h)) (hl : h.length = 48)
    (hn : wpQuiet Try.prog ops C Q rest (a.put o.dst (.agg (bc h)))) : wpQuiet Try.prog ops C Q (o :: rest) a := by
  refine wpQuiet_step (fun K hK => ?_)
  rw [if_pos hw]
  refine ⟨.agg (bc h), fun w' hC => ?_, hK _ hn⟩
  unfold Oper.quietAt
  have := (load_hello (hr w' hC) hl).1
  unfold execOp
  simp only [ho, hx, Sem.run_bind, this, Result.andThen_ok, Sem.run_pure]
  exact ⟨rfl, rfl⟩
end Go.Proofs.Ytmfeelkjbpjhdaa
