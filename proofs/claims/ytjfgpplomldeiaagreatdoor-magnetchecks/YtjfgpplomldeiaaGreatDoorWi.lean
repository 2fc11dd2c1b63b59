import Derived.Test.YtjfgpplomldeiaaGreatDoorWh
import Derived.Laws.StructEq
import Derived.BigQuiet
import Derived.Deep.QuietTactic
namespace Go.Proofs.YtjfgpplomldeiaaGreatDoor
open Go.RowKit Go.Deep
def bc (l : List UInt8) : Array Value := (Lib.byteCells l).toArray
theorem eqItems_bytes (w : World) (d : Nat) (l : List UInt8) : ∀ js : List Nat, (∀ j ∈ js, j < l.length) → (Op.eqItems (d + 1) 5 1 (bc l) (bc l) js).run Tryz.prog w = .ok true w
  | [], _ => by simp [Op.eqItems]
  | j :: js, h => by
    have hj : j < l.length := h j (by simp)
    have hv : (bc l)[j]? = some (.int .u8 (l[j].toNat : Int)) := by simp [bc, Lib.byteCells, hj]
    have ih := eqItems_bytes w d l js (fun i hi => h i (by simp [hi]))
    simp [Op.eqItems, part, isAgg, run_underlying Tryz.underlying5, hv, Op.equalIn, ih]
theorem info5' : ∃ i, Tryz.prog.info? 5 = some i ∧ Tryz.prog.cellsOf 5 = 1 := by
  have h : (Tryz.prog.info? 5).isSome = true := by kernel_rfl
  obtain ⟨i, hi⟩ := Option.isSome_iff_exists.1 h
  exact ⟨i, hi, by kernel_rfl⟩
theorem equal_arr (w : World) (d : Nat) (t : TypeId) (n : Nat) (l : List UInt8) (ht : Tryz.prog.underlying t = some (.array n 5)) (hl : l.length = n) : (Op.equalIn (d + 2) t (.agg (bc l)) (.agg (bc l))).run Tryz.prog w = .ok true w := by
  obtain ⟨i, hi, hc⟩ := info5'
  rw [run_equalIn_array w (d + 1) _ _ ht hi, hc, eqItems_bytes w d l _ (fun j hj => by rw [hl]; exact List.mem_range.1 hj)]
theorem neq_hash (w : World) (l : List UInt8) (hl : l.length = 32) : (binOp .neq 23 (.agg (Lib.byteCells l).toArray) (.agg (Lib.byteCells l).toArray)).run Tryz.prog w = .ok (.bool false) w := by
  have h := equal_arr w 9998 23 32 l Tryz.underlying23 hl
  unfold bc at h
  rw [run_neq_struct, h]
  rfl
theorem load_mid_if {ops : Array Oper} {rest : List Oper} {o : Oper} {a : Act} {w : World} {Q : Exit → Act → World → Prop} (hw : Region.wanted o (yielded ops a.tmps) = true) (ty : TypeId) (x : Operand) (ho : o.op = .load ty x)
    (b off : Nat) (hx : a.eval x = .pointer (some ⟨b, off, none⟩)) (cs : List Value) (d : TypeDesc) (hc : w.rangeAt b off cs) (hu : Tryz.prog.underlying ty = some d) (hd : d.isRow = true) (hi : (Tryz.prog.info? ty).map (·.size) = some cs.length)
    (h : wpList Tryz.prog ops Q rest (a.put o.dst (.agg cs.toArray)) w) : wpList Tryz.prog ops Q (o :: rest) a w := by
  unfold wpList
  rw [if_pos hw]
  exact .inl (wp_load_mid ty x ho b off hx cs d hc hu hd hi h)
set_option maxHeartbeats 400000 in
theorem textsSame (v1 v2 : Value) (ts : List ByteArray) (w : World) (hl : ts.length ≤ 140737488351232) (h1 : RS (fun _ => True) w v1 ts) (h2 : RS (fun _ => True) w v2 ts) :
    Calls Tryz.prog 21 #[v1, v2] w fun e w' => e = .returned (.bool true) ∧ ∃ n, w' = w.drewN n := by
  obtain ⟨a1, c1, rfl, h1⟩ := h1
  obtain ⟨a2, c2, rfl, h2⟩ := h2
  have HH : Hid ((ts.length = 0 ∨ ∃ b o, a1 = some ⟨b, o, none⟩ ∧ True ∧ b < w.heap.size ∧ ∀ i x, ts[i]? = some x → w.cell? ⟨b, o + i, none⟩ = some (.string x)) ∧
     (ts.length = 0 ∨ ∃ b o, a2 = some ⟨b, o, none⟩ ∧ True ∧ b < w.heap.size ∧ ∀ i x, ts[i]? = some x → w.cell? ⟨b, o + i, none⟩ = some (.string x))) := ⟨h1, h2⟩
  clear h1 h2
  generalize hn : ts.length = n at *
  have HN : Hid (ts.length = n) := hn
  clear hn
  go_enter Tryz.func21, Tryz.ntmps21
  go_wp2
  go_loopw [5] (fun i wr => ∃ k nq : Nat, k ≤ n ∧ i = .int .i64 k ∧ wr = w.drewN nq) (fun i _ => n - (intOf i).toNat)
  case atStart => exact ⟨0, 0, Nat.zero_le _, rfl, rfl⟩
  case round =>
    obtain ⟨k, nq, hk, rfl, rfl⟩ := hrel
    by_cases hlt : k < n
    · rcases HH.out.1 with h | ⟨b1, o1, rfl, _, _, h1⟩
      · omega
      rcases HH.out.2 with h | ⟨b2, o2, rfl, _, _, h2⟩
      · omega
      obtain ⟨x, hx⟩ : ∃ x, ts[k]? = some x := ⟨_, List.getElem?_eq_getElem (by have := HN.out; omega)⟩
      have g1 := h1 k x hx
      have g2 := h2 k x hx
      clear h1 h2 HH HN hx
      go_wp2
      go_quiet (fail)
      go_wp2
      go_roundw
      case rel => exact ⟨k + 1, _, by omega, by go_num, rfl⟩
      case measure => simp [intOf]; omega
    · obtain rfl : k = n := by omega
      go_wp2
      go_ret
      exact ⟨rfl, nq, rfl⟩
end Go.Proofs.YtjfgpplomldeiaaGreatDoor
