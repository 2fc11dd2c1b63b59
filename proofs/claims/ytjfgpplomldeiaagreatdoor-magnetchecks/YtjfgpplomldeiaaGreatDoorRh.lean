import Derived.RangeFuncNested
import Derived.RangeFuncBound
import Derived.RangeFuncCalls
import Derived.RangeFuncLeaves
import Derived.RangeFuncFrom
import Derived.Shelf.Abstract
import Derived.Shelf.RegionOpen
import Derived.Stop.RegionWithIn
import Derived.Sort.QuietIn
import Derived.OwnWalkIn
import Derived.TacticsInMore
import Derived.LoopNIn
import Derived.LoopIn
import Derived.Test.YtjfgpplomldeiaaGreatDoorRf
namespace Go.Proofs.YtjfgpplomldeiaaGreatDoor
open Go.Shelf Go.RowKit Go.Deep
attribute [local go_sem] Oper.semAt_some
/-- what lies below B stays as it is -/
def KB (B : Nat) (W W' : World) : Prop := W.heap.size ≤ W'.heap.size ∧ ∀ k, k < B → k < W.heap.size → W'.heap[k]? = W.heap[k]?
theorem KB.refl (B : Nat) (W : World) : KB B W W := ⟨Nat.le_refl _, fun _ _ _ => rfl⟩
theorem KB.trans {B : Nat} {A C D : World} (h : KB B A C) (k : KB B C D) : KB B A D := ⟨Nat.le_trans h.1 k.1, fun x hx hl => (k.2 x hx (Nat.lt_of_lt_of_le hl h.1)).trans (h.2 x hx hl)⟩
theorem KB.cell {B : Nat} {A C : World} (h : KB B A C) {x o : Nat} {v : Value} (hx : x < B) (hc : A.cell? ⟨x, o, none⟩ = some v) : C.cell? ⟨x, o, none⟩ = some v :=
  (World.cell?_of_block (w := A) (h.2 x hx (World.block_lt_of_cell? A _ hc))).trans hc
theorem KB.put {B : Nat} {w : World} (hg : B ≤ w.heap.size) (W : World) (l : Nat) (o o' : Obj) (hl : w.heap.size ≤ l) (_ : W.heap[l]? = some o) (_ : o.isCells = false) (_ : o.isWalk = false) : KB B W (W.putObj l o') :=
  ⟨by simp, fun k hk _ => World.putObj_heap_other (by omega)⟩
theorem RS.kb {B : Nat} {A C : World} (h : KB B A C) {v : Value} {ts : List ByteArray} (hr : RS (fun b => b < B) A v ts) : RS (fun b => b < B) C v ts :=
  hr.move (fun _ h _ => h) h.1 (fun b hb hl => h.2 b hb hl)
abbrev stV (x : ByteArray) : Array Value := #[.string x]
set_option maxRecDepth 100000 in
set_option maxHeartbeats 2000000 in
theorem iter69 (n : Nat) (hn : 1 ≤ n) (lp g B : Nat) (v : Value) (l : List ByteArray) (hl : l.length ≤ 140737488351232) (J Jx : List ByteArray → World → Prop) (W : World)
    (hY : ∀ pre x W, J pre W → pre.length < l.length → YieldAt Fence.wide (n - 1) Tryz.prog lp (stV x) W fun e W' =>
      (e = .returned (.bool true) ∧ J (pre ++ [x]) W' ∧ KB B W W') ∨ (e = .returned (.bool false) ∧ Jx (pre ++ [x]) W'))
    (h1 : W.cell? ⟨g, 0, none⟩ = some v) (h2 : RS (fun b => b < B) W v l) (h0 : J [] W) :
    CallsIn Fence.wide n Tryz.prog 69 #[.func (.yield lp) #[] #[], .pointer (some ⟨g, 0, none⟩)] W fun e W' => (∃ v, e = .returned v) ∧
      ((∃ ys, ys = l ∧ J ys W') ∨ (∃ pre, pre <+: l ∧ Jx pre W')) := by
  refine callsIn_of_wp Tryz.func69 rfl trivial ?_ rfl
  simp only [Tryz.ntmps69, List.size_toArray, List.length_cons, List.length_nil, Nat.reduceAdd, Nat.reduceSub, Array.replicate_succ, Array.replicate_zero, List.push_toArray, List.append_toArray, List.nil_append, List.cons_append]
  obtain ⟨a, c, rfl, hx⟩ := h2
  have HX := Lib.hid hx
  clear hx
  generalize hnn : l.length = m at *
  have HNN : Hid (l.length = m) := hnn
  clear hnn
  gi_wp2
  gi_loopw [7] (fun i wr => ∃ k : Nat, k ≤ m ∧ i = .int .i64 k ∧ Hid (J (l.take k) wr ∧ KB B W wr)) (fun i _ => m - (intOf i).toNat)
  case atStart => exact ⟨0, Nat.zero_le _, rfl, ⟨h0, KB.refl _ _⟩⟩
  case round =>
    obtain ⟨k, hk, rfl, HI⟩ := hrel
    by_cases hlt : k < m
    · obtain ⟨x, hx⟩ : ∃ x, l[k]? = some x := ⟨_, List.getElem?_eq_getElem (by rw [HNN.out]; exact hlt)⟩
      obtain ⟨b, o, rfl, hbB, hbl, hc⟩ := HX.out.resolve_left (fun e => by omega)
      have g0 := HI.out.2.cell hbB (hc k x hx)
      have htk : l.take (k + 1) = l.take k ++ [x] := by
        rw [List.take_add_one, hx]; rfl
      have HTK := Lib.hid htk
      obtain ⟨fn, tmps, assign, body, hy, hR⟩ := hY (l.take k) x wr HI.out.1 (by rw [List.length_take]; have := HNN.out; omega)
      simp only [stV] at hy
      clear hY hx htk hc
      gi_wp2
      refine hR.mono ?_
      rintro e W3 (⟨rfl, hJ3, hk3⟩ | ⟨rfl, hJx3⟩)
      · have HN : Hid (J (l.take (k + 1)) W3 ∧ KB B W W3) := (⟨by rw [HTK.out]; exact hJ3, HI.out.2.trans hk3⟩ : J (l.take (k + 1)) W3 ∧ KB B W W3)
        clear HI hJ3 hk3 g0
        gi_wp2
        go_roundw
        case rel => exact ⟨k + 1, by omega, by go_num, HN⟩
        case measure => simp [intOf]; omega
      · gi_wp2
        refine bodyPost_ret (results_none rfl _ _ _) rfl ?_
        exact ⟨⟨_, rfl⟩, .inr ⟨_, by rw [← HTK.out]; exact List.take_prefix _ _, hJx3⟩⟩
    · obtain rfl : k = m := by omega
      have HJ : Hid (J l wr) := by
        have h9 := HI.out.1
        rw [List.take_of_length_le (by rw [HNN.out]; exact Nat.le_refl _)] at h9
        exact h9
      clear HI hY
      gi_wp2
      refine bodyPost_end (results_none rfl _ _ _) rfl ?_
      exact ⟨⟨_, rfl⟩, .inl ⟨_, rfl, HJ.out⟩⟩
theorem iter69_stops (n : Nat) (hn : 1 ≤ n) (g B : Nat) (hgB : g < B) (v : Value) (l : List ByteArray) (hl : l.length ≤ 140737488351232) (w : World) (hB : B ≤ w.heap.size) (h1 : w.cell? ⟨g, 0, none⟩ = some v) (h2 : RS (fun b => b < B) w v l) :
    SeqStopsK Fence.wide n Tryz.prog 69 #[.pointer (some ⟨g, 0, none⟩)] stV (KB B) (fun ys => ys = l) (fun pre => pre <+: l) l.length w := fun lp J Jx W hW _ _ hY h0 =>
  iter69 n hn lp g B v l hl J Jx W hY ((hW.cell (p := ⟨g, 0, none⟩) (by show g < _; omega)).trans h1) (h2.move (fun _ h _ => h) hW.size (fun b _ hl => hW.block b hl)) h0
end Go.Proofs.YtjfgpplomldeiaaGreatDoor
