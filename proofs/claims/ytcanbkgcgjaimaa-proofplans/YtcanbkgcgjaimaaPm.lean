import Derived.Test.YtcanbkgcgjaimaaPo
import Derived.OwnWalk
import Derived.Great.BuildSlice
import Derived.ChangeKeysEq
import Derived.Laws.StructEq
namespace Go.Proofs.Ytcanbkgcgjaimaa
open Go.Shelf Go.RowKit
/-! ### A query's cells -/
def hl (z : Nat → Int) : List Value := (List.range 32).map fun i => Value.int .u8 (z i)
def hs (z : Nat → Int) : Array Value := (hl z).toArray
def ql (z : Nat → Int) (b i l p : Int) : List Value := hl z ++ [.int .i64 b, .int .i64 i, .int .i64 l, .int .i64 p]
def qc (z : Nat → Int) (b i l p : Int) : Array Value := (ql z b i l p).toArray
theorem hs_size (z : Nat → Int) : (hs z).size = 32 := rfl
theorem qc_size (z : Nat → Int) (b i l p : Int) : (qc z b i l p).size = 36 := rfl
theorem qc_list (z : Nat → Int) (b i l p : Int) : (qc z b i l p).toList = ql z b i l p := rfl
theorem ql_len (z : Nat → Int) (b i l p : Int) : (ql z b i l p).length = 36 := rfl
theorem built4 (z : Nat → Int) (b l p : Int) : Try.prog.built 31 [(0, .agg (hs z)), (1, .int .i64 b), (3, .int .i64 l), (4, .int .i64 p)] = some (qc z b 0 l p) := by kernel_rfl
theorem built5 (z : Nat → Int) (b i l p : Int) : Try.prog.built 31 [(0, .agg (hs z)), (1, .int .i64 b), (2, .int .i64 i), (3, .int .i64 l), (4, .int .i64 p)] = some (qc z b i l p) := by kernel_rfl
theorem info31 : (Try.prog.info? 31).map (fun i => (i.zero, i.size, i.bytes)) = some (some (.agg (qc (fun _ => 0) 0 0 0 0)), 36, 64) := by kernel_rfl
theorem info31q (z : Nat → Int) (b i l p : Int) : (Try.prog.info? 31).map (·.size) = some (qc z b i l p).size := by kernel_rfl
theorem info23 (z : Nat → Int) : (Try.prog.info? 23).map (·.size) = some (hs z).size := by kernel_rfl
theorem qc_one (z : Nat → Int) (b i l p : Int) : (qc z b i l p).all (·.oneCell') = true := by kernel_rfl
theorem fill1 (z : Nat → Int) (b i l p : Int) : Instr.fill (fun i => some (i * 36, 36)) ((Array.range (1 * 36)).map ((Value.agg (qc (fun _ => 0) 0 0 0 0)).cells[· % (Value.agg (qc (fun _ => 0) 0 0 0 0)).cells.size]!)) [(0, .agg (qc z b i l p))] = some (qc z b i l p) := by kernel_rfl
theorem info_parts {P : Program} {t : TypeId} {z : Value} {n m : Nat} (h : (P.info? t).map (fun i => (i.zero, i.size, i.bytes)) = some (some z, n, m)) : ∃ i, P.info? t = some i ∧ i.zero = some z ∧ i.size = n ∧ i.bytes = m := by
  cases hq : P.info? t with
  | none => rw [hq] at h; cases h
  | some i =>
    rw [hq] at h
    simp only [Option.map_some, Option.some.injEq, Prod.mk.injEq] at h
    exact ⟨i, rfl, h.1, h.2.1, h.2.2⟩
/-- one query more on the row -/
theorem append_q {ops : Array Oper} {rest : List Oper} {o : Oper} {a : Act} {Q : Exit → Act → World → Prop} {w : World} {B k : Nat} {sv : Value} {us : List Value} (hgd : o.guard = none) (s x : Operand)
    (ho : o.op = .call { callee := .builtin .append, args := #[s, x], argTypes := #[24, 24] }) (hs : a.eval s = sv) (hown : w.ownsRow B 31 36 sv k us) (g : Nat) (z : Nat → Int) (b i l p : Int) (hx : a.eval x = .slice (some ⟨g, 0, none⟩) 1 1)
    (hc : w.heap[g]? = some (.cells (qc z b i l p) 31 (0, 0))) (hB : B ≤ w.heap.size) (hlim : k < 1048577)
    (h : ∀ v' w', w'.ownsRow B 31 36 v' (k + 1) (us ++ ql z b i l p) → Below B w w' → wpList Try.prog ops Q rest (a.put o.dst v') w') : wpList Try.prog ops Q (o :: rest) a w := by
  obtain ⟨i0, hi, hz0, hz1, hz2⟩ := info_parts info31
  refine wpList_append_own w hgd s x 24 ho B 31 i0 _ 36 64 Try.underlying24 hi hz0 hz1 hz2 rfl (by omega) sv k us hs hown ⟨g, 0, none⟩ 1 1 (ql z b i l p) hx (ql_len ..) (fun j u hu => ?_) (fun u hu => ?_) (by unfold maxLen; omega) (by omega) hB (fun v' w' h1 h2 _ => ?_)
  · have hadd : (⟨g, 0, none⟩ : Addr).add j = ⟨g, j, none⟩ := by unfold Addr.add; split <;> simp_all
    rw [hadd, cell_of_row w g j _ 31 (0, 0) hc]
    show (ql z b i l p).toArray[j]? = some u
    rw [List.getElem?_toArray]
    exact hu
  · have := Array.all_eq_true.1 (qc_one z b i l p)
    obtain ⟨j, hj, rfl⟩ := List.mem_iff_getElem.1 hu
    exact this j hj
  · exact h v' w' h1 ((Below.refl B w).grown h2 hB (fun k hk => (World.ownsRow.lt hown k hk).1))
theorem part_hash (z : Nat → Int) (b i l p : Int) (w : World) : (part 23 (qc z b i l p) 0).run Try.prog w = .ok (.agg (hs z)) w := by kernel_rfl
theorem part_int (z : Nat → Int) (b i l p : Int) (w : World) : (part 3 (qc z b i l p) 32).run Try.prog w = .ok (.int .i64 b) w ∧ (part 3 (qc z b i l p) 33).run Try.prog w = .ok (.int .i64 i) w ∧ (part 3 (qc z b i l p) 34).run Try.prog w = .ok (.int .i64 l) w ∧ (part 3 (qc z b i l p) 35).run Try.prog w = .ok (.int .i64 p) w := ⟨by kernel_rfl, by kernel_rfl, by kernel_rfl, by kernel_rfl⟩
theorem part_byte (z : Nat → Int) (w : World) (i : Nat) (hi : i < 32) : (part 5 (hs z) (i * 1)).run Try.prog w = .ok (.int .u8 (z i)) w :=
  match i, hi with
  | 0, _ => by show (part 5 (hs z) (0 * 1)).run Try.prog w = .ok (.int .u8 (z 0)) w; kernel_rfl
  | 1, _ => by show (part 5 (hs z) (1 * 1)).run Try.prog w = .ok (.int .u8 (z 1)) w; kernel_rfl
  | 2, _ => by show (part 5 (hs z) (2 * 1)).run Try.prog w = .ok (.int .u8 (z 2)) w; kernel_rfl
  | 3, _ => by show (part 5 (hs z) (3 * 1)).run Try.prog w = .ok (.int .u8 (z 3)) w; kernel_rfl
  | 4, _ => by show (part 5 (hs z) (4 * 1)).run Try.prog w = .ok (.int .u8 (z 4)) w; kernel_rfl
  | 5, _ => by show (part 5 (hs z) (5 * 1)).run Try.prog w = .ok (.int .u8 (z 5)) w; kernel_rfl
  | 6, _ => by show (part 5 (hs z) (6 * 1)).run Try.prog w = .ok (.int .u8 (z 6)) w; kernel_rfl
  | 7, _ => by show (part 5 (hs z) (7 * 1)).run Try.prog w = .ok (.int .u8 (z 7)) w; kernel_rfl
  | 8, _ => by show (part 5 (hs z) (8 * 1)).run Try.prog w = .ok (.int .u8 (z 8)) w; kernel_rfl
  | 9, _ => by show (part 5 (hs z) (9 * 1)).run Try.prog w = .ok (.int .u8 (z 9)) w; kernel_rfl
  | 10, _ => by show (part 5 (hs z) (10 * 1)).run Try.prog w = .ok (.int .u8 (z 10)) w; kernel_rfl
  | 11, _ => by show (part 5 (hs z) (11 * 1)).run Try.prog w = .ok (.int .u8 (z 11)) w; kernel_rfl
  | 12, _ => by show (part 5 (hs z) (12 * 1)).run Try.prog w = .ok (.int .u8 (z 12)) w; kernel_rfl
  | 13, _ => by show (part 5 (hs z) (13 * 1)).run Try.prog w = .ok (.int .u8 (z 13)) w; kernel_rfl
  | 14, _ => by show (part 5 (hs z) (14 * 1)).run Try.prog w = .ok (.int .u8 (z 14)) w; kernel_rfl
  | 15, _ => by show (part 5 (hs z) (15 * 1)).run Try.prog w = .ok (.int .u8 (z 15)) w; kernel_rfl
  | 16, _ => by show (part 5 (hs z) (16 * 1)).run Try.prog w = .ok (.int .u8 (z 16)) w; kernel_rfl
  | 17, _ => by show (part 5 (hs z) (17 * 1)).run Try.prog w = .ok (.int .u8 (z 17)) w; kernel_rfl
  | 18, _ => by show (part 5 (hs z) (18 * 1)).run Try.prog w = .ok (.int .u8 (z 18)) w; kernel_rfl
  | 19, _ => by show (part 5 (hs z) (19 * 1)).run Try.prog w = .ok (.int .u8 (z 19)) w; kernel_rfl
  | 20, _ => by show (part 5 (hs z) (20 * 1)).run Try.prog w = .ok (.int .u8 (z 20)) w; kernel_rfl
  | 21, _ => by show (part 5 (hs z) (21 * 1)).run Try.prog w = .ok (.int .u8 (z 21)) w; kernel_rfl
  | 22, _ => by show (part 5 (hs z) (22 * 1)).run Try.prog w = .ok (.int .u8 (z 22)) w; kernel_rfl
  | 23, _ => by show (part 5 (hs z) (23 * 1)).run Try.prog w = .ok (.int .u8 (z 23)) w; kernel_rfl
  | 24, _ => by show (part 5 (hs z) (24 * 1)).run Try.prog w = .ok (.int .u8 (z 24)) w; kernel_rfl
  | 25, _ => by show (part 5 (hs z) (25 * 1)).run Try.prog w = .ok (.int .u8 (z 25)) w; kernel_rfl
  | 26, _ => by show (part 5 (hs z) (26 * 1)).run Try.prog w = .ok (.int .u8 (z 26)) w; kernel_rfl
  | 27, _ => by show (part 5 (hs z) (27 * 1)).run Try.prog w = .ok (.int .u8 (z 27)) w; kernel_rfl
  | 28, _ => by show (part 5 (hs z) (28 * 1)).run Try.prog w = .ok (.int .u8 (z 28)) w; kernel_rfl
  | 29, _ => by show (part 5 (hs z) (29 * 1)).run Try.prog w = .ok (.int .u8 (z 29)) w; kernel_rfl
  | 30, _ => by show (part 5 (hs z) (30 * 1)).run Try.prog w = .ok (.int .u8 (z 30)) w; kernel_rfl
  | 31, _ => by show (part 5 (hs z) (31 * 1)).run Try.prog w = .ok (.int .u8 (z 31)) w; kernel_rfl
  | n + 32, h => absurd h (by omega)
theorem eq_bytes (z : Nat → Int) (d : Nat) (w : World) : ∀ is : List Nat, (∀ i ∈ is, i < 32) → (Op.eqItems (d + 1) 5 1 (hs z) (hs z) is).run Try.prog w = .ok true w
  | [], _ => by simp [Op.eqItems]
  | i :: is, h => by
    have p := part_byte z w i (h i (by simp))
    have e := run_equalIn_int w d 5 .u8 .u8 (z i) (z i) Try.underlying5
    simp only [Op.eqItems, Sem.run_bind, p, e, Result.andThen_ok, beq_self_eq_true, Bool.not_true, Bool.false_eq_true, if_false]
    exact eq_bytes z d w is (fun j hj => h j (by simp [hj]))
theorem eq_q (z : Nat → Int) (b i l p : Int) (w : World) : (Op.equalIn 10000 31 (.agg (qc z b i l p)) (.agg (qc z b i l p))).run Try.prog w = .ok true w := by
  rw [show (10000 : Nat) = 9999 + 1 from rfl, run_equalIn_struct w 9999 31 _ _ (by kernel_rfl) (by kernel_rfl)]
  obtain ⟨i1, i2, i3, i4⟩ := part_int z b i l p w
  have f : (Try.prog.fieldsOf 31).toList = [{ name := "Root", type := 23, offset := 0, embedded := false, tag := "", pkgPath := "", byteOffset := 0 }, { name := "Base", type := 3, offset := 32, embedded := false, tag := "", pkgPath := "", byteOffset := 32 }, { name := "Index", type := 3, offset := 33, embedded := false, tag := "", pkgPath := "", byteOffset := 40 }, { name := "Length", type := 3, offset := 34, embedded := false, tag := "", pkgPath := "", byteOffset := 48 }, { name := "Proofs", type := 3, offset := 35, embedded := false, tag := "", pkgPath := "", byteOffset := 56 }] := by kernel_rfl
  have e0 : (Op.equalIn 9999 23 (.agg (hs z)) (.agg (hs z))).run Try.prog w = .ok true w := by
    cases hi : Try.prog.info? 5 with
    | none => exact absurd hi (by intro h; have : (Try.prog.info? 5).isSome = true := by kernel_rfl
                                  rw [h] at this; cases this)
    | some i5 =>
      rw [show (9999 : Nat) = 9998 + 1 from rfl, run_equalIn_array w 9998 (hs z) (hs z) (n := 32) (e := 5) (by kernel_rfl) hi, show Try.prog.cellsOf 5 = 1 from by kernel_rfl]
      exact eq_bytes z 9997 w _ (fun i hi => by simpa using hi)
  have e1 := fun n => run_equalIn_int w 9998 3 .i64 .i64 n n Try.underlying3
  rw [f]
  simp [Op.eqFields, part_hash, i1, i2, i3, i4, e0, e1]
end Go.Proofs.Ytcanbkgcgjaimaa
