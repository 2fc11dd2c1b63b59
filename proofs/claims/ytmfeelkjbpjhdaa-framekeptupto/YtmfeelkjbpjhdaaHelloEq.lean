import Derived.Test.YtmfeelkjbpjhdaaMeetR
import Derived.Test.YtmfeelkjbpjhdaaOpen
import Derived.Laws.StructEq
namespace Go.Proofs.Ytmfeelkjbpjhdaa
open Go.ChangeShapes Go.WideShapes Go.ChangeAt Go.RowKit
theorem wpList_load_g {ops : Array Oper} {rest : List Oper} {o : Oper} {a : Act} {w : World} {Q : Exit → Act → World → Prop} (hw : Region.wanted o (yielded ops a.tmps) = true) (x : Operand) (ho : o.op = .load 25 x)
    (g : Nat) (hx : a.eval x = .pointer (some ⟨g, 0, none⟩)) (hb : List UInt8) (hg : w.heap[g]? = some (.cells (bc hb) 25 (0, 0))) (hl : hb.length = 48)
    (h : wpList Try.prog ops Q rest (a.put o.dst (.agg (bc hb))) w) : wpList Try.prog ops Q (o :: rest) a w :=
  wpList_step fun K hK => by
    rw [if_pos hw]
    exact wp_load_row 25 x ho g hx 25 (bc hb) (0, 0) _ hg Try.underlying25 rfl (info_hello hl) (hK _ _ h)
theorem eqItems_bytes (w : World) (d : Nat) (l : List UInt8) : ∀ js : List Nat, (∀ j ∈ js, j < l.length) → (Op.eqItems (d + 1) 5 1 (bc l) (bc l) js).run Try.prog w = .ok true w
  | [], _ => by simp [Op.eqItems]
  | j :: js, h => by
    have hj : j < l.length := h j (by simp)
    have hv : (bc l)[j]? = some (.int .u8 ((byt l j).toNat : Int)) := by simp [bc, Lib.byteCells, hj, getD_byt l j hj]
    have ih := eqItems_bytes w d l js (fun i hi => h i (by simp [hi]))
    simp [Op.eqItems, part, isAgg, run_underlying Try.underlying5, hv, Op.equalIn, ih]
theorem info5' : ∃ i, Try.prog.info? 5 = some i ∧ Try.prog.cellsOf 5 = 1 := by
  have h : (Try.prog.info? 5).isSome = true := by kernel_rfl
  obtain ⟨i, hi⟩ := Option.isSome_iff_exists.1 h
  exact ⟨i, hi, by kernel_rfl⟩
theorem equal_arr (w : World) (d : Nat) (t : TypeId) (n : Nat) (l : List UInt8) (ht : Try.prog.underlying t = some (.array n 5)) (hl : l.length = n) : (Op.equalIn (d + 2) t (.agg (bc l)) (.agg (bc l))).run Try.prog w = .ok true w := by
  obtain ⟨i, hi, hc⟩ := info5'
  rw [run_equalIn_array w (d + 1) _ _ ht hi, hc, eqItems_bytes w d l _ (fun j hj => by rw [hl]; exact List.mem_range.1 hj)]
theorem part_arr (w : World) (t : TypeId) (n o : Nat) (l : List UInt8) (ht : Try.prog.underlying t = some (.array n 5)) (hi : (Try.prog.info? t).map (·.size) = some n) : (part t (bc l) o).run Try.prog w = .ok (.agg (bc ((l.drop o).take n))) w := by
  cases hq : Try.prog.info? t with
  | none => simp [hq] at hi
  | some i =>
    have hs : i.size = n := by simpa [hq] using hi
    simp [part, isAgg, run_underlying ht, sizeOf, typeInfo, hq, hs]
    apply Array.ext'
    rw [Array.toList_extract, bc_list, bc_list]
    simp only [List.extract_eq_take_drop, bcl_drop, bcl_take]
    rw [Nat.add_sub_cancel_left]
theorem fields_hello : Try.prog.underlying 25 = some (.struct (Try.prog.fieldsOf 25)) ∧ Try.prog.stoodInHeld 25 = false ∧ (Try.prog.fieldsOf 25).toList.map (fun f => (f.name == "_", f.type, f.offset)) = [(false, 22, 0), (false, 23, 8), (false, 23, 28)] := by
  refine ⟨?_, by kernel_rfl, by kernel_rfl⟩
  kernel_rfl
theorem eqf_cons (w : World) (d : Nat) (l : List UInt8) (t : TypeId) (n o : Nat) (f : Field) (fs : List Field) (hn : (f.name == "_") = false) (hf : f.type = t) (ho : f.offset = o) (ht : Try.prog.underlying t = some (.array n 5)) (hi : (Try.prog.info? t).map (·.size) = some n) (hl : o + n ≤ l.length) :
    (Op.eqFields (d + 2) (bc l) (bc l) (f :: fs)).run Try.prog w = (Op.eqFields (d + 2) (bc l) (bc l) fs).run Try.prog w := by
  have p := part_arr w t n o l ht hi
  have q := equal_arr w d t n _ ht (cut_len l o n hl)
  have hn' : f.name ≠ "_" := beq_eq_false_iff_ne.1 hn
  rw [Op.eqFields, if_pos hn', hf, ho]
  simp only [Sem.run_bind, p, q, Result.andThen_ok, Bool.not_true, Bool.false_eq_true, if_false]
theorem eqFields_hello (w : World) (d : Nat) (hb : List UInt8) (hl : hb.length = 48) (fs : List Field) (h3 : fs.map (fun f => (f.name == "_", f.type, f.offset)) = [(false, 22, 0), (false, 23, 8), (false, 23, 28)]) : (Op.eqFields (d + 2) (bc hb) (bc hb) fs).run Try.prog w = .ok true w := by
  cases fs with
  | nil => cases h3
  | cons f1 fs =>
    rw [List.map_cons, List.cons.injEq, Prod.mk.injEq, Prod.mk.injEq] at h3
    obtain ⟨⟨a1, a2, a3⟩, h3⟩ := h3
    cases fs with
    | nil => cases h3
    | cons f2 fs =>
      rw [List.map_cons, List.cons.injEq, Prod.mk.injEq, Prod.mk.injEq] at h3
      obtain ⟨⟨b1, b2, b3⟩, h3⟩ := h3
      cases fs with
      | nil => cases h3
      | cons f3 fs =>
        rw [List.map_cons, List.cons.injEq, Prod.mk.injEq, Prod.mk.injEq] at h3
        obtain ⟨⟨c1, c2, c3⟩, h3⟩ := h3
        cases fs with
        | cons f4 fs => cases h3
        | nil =>
          rw [eqf_cons w d hb 22 8 0 f1 _ a1 a2 a3 Try.underlying22 (by kernel_rfl) (by omega), eqf_cons w d hb 23 20 8 f2 _ b1 b2 b3 Try.underlying23 (by kernel_rfl) (by omega), eqf_cons w d hb 23 20 28 f3 _ c1 c2 c3 Try.underlying23 (by kernel_rfl) (by omega)]
          rfl
theorem eq_hello (w : World) (hb : List UInt8) (hl : hb.length = 48) : (binOp .eql 25 (.agg (bc hb)) (.agg (bc hb))).run Try.prog w = .ok (.bool true) w := by
  obtain ⟨h1, h2, h3⟩ := fields_hello
  rw [run_eql_struct, run_equalIn_struct w 9999 _ _ _ h1 h2, eqFields_hello w 9997 hb hl _ h3]
  rfl
theorem neq_hello (w : World) (hb : List UInt8) (hl : hb.length = 48) : (binOp .neq 25 (.agg (bc hb)) (.agg (bc hb))).run Try.prog w = .ok (.bool false) w := by
  obtain ⟨h1, h2, h3⟩ := fields_hello
  rw [run_neq_struct, run_equalIn_struct w 9999 _ _ _ h1 h2, eqFields_hello w 9997 hb hl _ h3]
  rfl
end Go.Proofs.Ytmfeelkjbpjhdaa
