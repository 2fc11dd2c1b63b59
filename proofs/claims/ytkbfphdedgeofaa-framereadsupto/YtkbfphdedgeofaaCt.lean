import Derived.Test.YtkbfphdedgeofaaQa
import Derived.Test.YtkbfphdedgeofaaHelloEq
import Derived.Deep.MidRow
namespace Go.Proofs.Ytkbfphdedgeofaa
open Go.RowKit
set_option maxHeartbeats 1000000 in
theorem heldT (w : World) (R p s : Nat) (f : Int) (a : Option Addr) (n c : Nat) (hk : RK w R p s (.slice a n c) f) (hp : p ≤ 2) (hn : n ≤ 65536) :
    Calls Try.prog 20 #[.pointer (some ⟨R, 0, none⟩)] w fun e w' => e = .returned (.int .i64 ((if p = 1 then 4 + n else n : Nat) : Int)) ∧ w = w' := by
  have c0 := hk.c0
  have c2 := hk.c2
  clear hk
  have hp3 : p = 0 ∨ p = 1 ∨ p = 2 := by omega
  rcases hp3 with rfl | rfl | rfl
  · go_enter Try.func20, Try.ntmps20
    go_wp2
    go_ret
    exact ⟨rfl, rfl⟩
  · go_enter Try.func20, Try.ntmps20
    go_wp2
    go_ret
    exact ⟨rfl, rfl⟩
  · go_enter Try.func20, Try.ntmps20
    go_wp2
    go_ret
    exact ⟨rfl, rfl⟩
set_option maxHeartbeats 1000000 in
theorem faultT (w : World) (R p s : Nat) (f : Int) (hv : Value) (hk : RK w R p s hv f) :
    Calls Try.prog 22 #[.pointer (some ⟨R, 0, none⟩)] w fun e w' => e = .returned (.int .i64 f) ∧ w = w' := by
  have c3 := hk.c3
  clear hk
  go_enter Try.func22, Try.ntmps22
  go_wp2
  go_ret
  exact ⟨rfl, rfl⟩
/-- the one handshake of a list -/
theorem OM.one {B : Nat} {w : World} {v : Value} {h : List UInt8} (hm : OM B w v [h]) : ∃ g c, v = .slice (some ⟨g, 0, none⟩) 1 c ∧ h.length = 48 ∧ g < w.heap.size ∧ w.rangeAt g 0 (Lib.byteCells h) := by
  have hl := hm.2 h (by simp)
  have h1 := hm.1
  rcases hm.1.2 with ⟨_, h0⟩ | ⟨g, cap, cur, rfl, _, hg, _⟩
  · simp at h0
  · refine ⟨g, cap, rfl, hl, (Array.getElem?_eq_some_iff.1 hg).1, fun j y hj => ?_⟩
    have hj' : j < 48 := by
      have := (List.getElem?_eq_some_iff.1 hj).1
      rw [bcl_len] at this; omega
    have := World.ownsRow.cellAt h1 j (by simp; omega)
    rw [Nat.zero_add, this]
    simpa using hj
theorem load_hello {w : World} {g o : Nat} {h : List UInt8} (hr : w.rangeAt g o (Lib.byteCells h)) (hl : h.length = 48) : (Instr.loadAt 25 (.pointer (some ⟨g, o, none⟩))).run Try.prog w = .ok (.agg (bc h)) w ∧ (loadVar 25 ⟨g, o, none⟩).run Try.prog w = .ok (.agg (bc h)) w := by
  have hi : (Try.prog.info? 25).map (·.size) = some (Lib.byteCells h).length := by rw [bcl_len, hl]; kernel_rfl
  exact ⟨run_loadAt_mid w g o 25 _ _ hr Try.underlying25 rfl hi, run_loadVar_mid w g o 25 _ _ hr Try.underlying25 rfl hi⟩
theorem wpQuiet_load {ops : Array Oper} {C : World → Prop} {Q : Act → Prop} {a : Act} {o : Oper} {rest : List Oper} (hw : Region.wanted o (yielded ops a.tmps) = true) (x : Operand) (ho : o.op = .load 25 x) (g k : Nat) (hx : a.eval x = .pointer (some ⟨g, k, none⟩)) (h : List UInt8) (hr : ∀ w', C w' → w'.rangeAt g k (Lib.byteCells h)) (hl : h.length = 48)
    (hn : wpQuiet Try.prog ops C Q rest (a.put o.dst (.agg (bc h)))) : wpQuiet Try.prog ops C Q (o :: rest) a := by
  refine wpQuiet_step (fun K hK => ?_)
  rw [if_pos hw]
  refine ⟨.agg (bc h), fun w' hC => ?_, hK _ hn⟩
  unfold Oper.quietAt
  have := (load_hello (hr w' hC) hl).1
  unfold execOp
  simp only [ho, hx, Sem.run_bind, this, Result.andThen_ok, Sem.run_pure]
  exact ⟨rfl, rfl⟩
set_option maxHeartbeats 2000000 in
set_option maxRecDepth 100000 in
theorem sameHellos (v1 v2 : Value) (met : List (List UInt8)) (B1 B2 : Nat) (w : World) (h1 : OM B1 w v1 met) (h2 : OM B2 w v2 met) (hm : met.length ≤ 1) :
    Calls Try.prog 18 #[v1, v2] w fun e w' => e = .returned (.bool true) ∧ ∃ n, w' = w.drewN n := by
  match met, hm with
  | [], _ =>
    obtain ⟨a1, c1, rfl⟩ := h1.form
    obtain ⟨a2, c2, rfl⟩ := h2.form
    clear h1 h2
    go_enter Try.func18, Try.ntmps18
    go_wp2
    go_loop [5] (fun i => i = .int .i64 0) (fun _ => 0)
    case atStart => rfl
    case round =>
      obtain rfl := hrel
      go_wp2
      go_ret
      exact ⟨rfl, 0, rfl⟩
  | [h], _ =>
    obtain ⟨g1, c1, rfl, hl, _, r1⟩ := h1.one
    obtain ⟨g2, c2, rfl, _, _, r2⟩ := h2.one
    have hgd : Try.prog.eqGuardType Try.prog.depth 25 = false := by kernel_rfl
    have heq := fun u => neq_hello u h hl
    have R1 : Hid (∀ n, (w.drewN n).rangeAt g1 0 (Lib.byteCells h)) := fun n => r1
    have R2 : Hid (∀ n, (w.drewN n).rangeAt g2 0 (Lib.byteCells h)) := fun n => r2
    have HL : Hid (h.length = 48) := hl
    clear h1 h2 r1 r2 hl
    go_enter Try.func18, Try.ntmps18
    go_wp2
    go_loopw [5] (fun i wr => ∃ k n : Nat, k ≤ 1 ∧ i = .int .i64 k ∧ wr = w.drewN n) (fun i _ => 1 - (intOf i).toNat)
    case atStart => exact ⟨0, 0, by omega, rfl, rfl⟩
    case round =>
      obtain ⟨k, n, hk, rfl, rfl⟩ := hrel
      by_cases hk0 : k = 0
      · subst hk0
        go_wp2
        refine wp_region_quiet_lit (by kernel_rfl) (by kernel_rfl) ?_
        quiet_step (fail)
        quiet_step (fail)
        quiet_step (fail)
        refine wpQuiet_load rfl _ rfl g1 0 rfl h (fun w' hw' => by obtain ⟨m, rfl⟩ := hw'; rw [drewN2]; exact R1.out _) HL.out ?_
        quiet_step (fail)
        quiet_step (fail)
        quiet_step (fail)
        refine wpQuiet_load rfl _ rfl g2 0 rfl h (fun w' hw' => by obtain ⟨m, rfl⟩ := hw'; rw [drewN2]; exact R2.out _) HL.out ?_
        quiet_step (fail)
        refine wpQuiet_nil ?_
        intro _ hw'
        obtain ⟨nq, hw''⟩ := hw'
        subst hw''
        go_wp2
        go_roundw
        case rel => exact ⟨1, _, by omega, by go_num, rfl⟩
        case measure => simp [intOf]
      · obtain rfl : k = 1 := by omega
        go_wp2
        go_ret
        exact ⟨rfl, n, rfl⟩
end Go.Proofs.Ytkbfphdedgeofaa
