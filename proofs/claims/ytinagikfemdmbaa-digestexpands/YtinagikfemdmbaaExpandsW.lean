import Derived.Test.YtinagikfemdmbaaExpandRef
import Derived.ChangeKeysEq
namespace Go.Proofs.Ytinagikfemdmbaa
open Go.RowKit
theorem info36 : ∃ i, Try.prog.info? 36 = some i ∧ Try.prog.cellsOf 36 = 1 := by
  have h : (Try.prog.info? 36).isSome = true := by kernel_rfl
  obtain ⟨i, hi⟩ := Option.isSome_iff_exists.1 h
  exact ⟨i, hi, by kernel_rfl⟩
theorem eqItems_same (w : World) (d : Nat) (xs : Array Value) : ∀ js : List Nat, (∀ j ∈ js, ∃ v : Int, xs[j]? = some (.int .u32 v)) → (Op.eqItems (d + 1) 36 1 xs xs js).run Try.prog w = .ok true w
  | [], _ => by simp [Op.eqItems]
  | j :: js, h => by
    obtain ⟨v, hv⟩ := h j (by simp)
    have ih := eqItems_same w d xs js (fun i hi => h i (by simp [hi]))
    simp [Op.eqItems, part, isAgg, run_underlying Try.underlying36, hv, Op.equalIn, ih]
theorem eql_same (bs : List Int) (w : World) : (binOp .eql 37 (.agg (stA bs 64)) (.agg (stA bs 64))).run Try.prog w = .ok (.bool true) w := by
  obtain ⟨i, hi, hc⟩ := info36
  rw [run_eql_struct, run_equalIn_array w 9999 _ _ Try.underlying37 hi, hc, eqItems_same w 9998 _ _ (fun j hj => ⟨_, stA_get bs 64 j (List.mem_range.1 hj)⟩)]
  rfl
theorem bsA_size {bs : List Int} (hl : bs.length = 64) : (bsA bs).size = 64 := by simp [bsA, hl]
theorem info35' : (Try.prog.info? 35).map (·.size) = some 64 := by kernel_rfl
theorem laid {w1 : World} {cs z : Array Value} (hz : z.size = cs.size) : ((w1.alloc (.cells z 37)).setCells w1.heap.size 0 cs.toList).heap[w1.heap.size]? = some (.cells cs 37 (0, 0)) := by
  have := setCells_row w1.heap.size 37 cs.toList [] z.toList (w1.alloc (.cells z 37)) (by simp [hz]) (by simpa using heap_alloc_new w1 (.cells z 37))
  simpa using this
theorem laid_below {w1 : World} {cs z : Array Value} : Below w1.heap.size w1 ((w1.alloc (.cells z 37)).setCells w1.heap.size 0 cs.toList) :=
  setCells_below _ (Nat.le_refl _) _ _ _ ((Below.refl _ _).alloc (Nat.le_refl _) _)
theorem laid_there {w1 : World} {cs z : Array Value} (hz : z.size = cs.size) : (w1.alloc (.cells z 37)).there w1.heap.size 0 cs.size := by
  intro i hi
  have h : (w1.alloc (.cells z 37)).heap[w1.heap.size]? = some (.cells z 37 (0, 0)) := heap_alloc_new w1 (.cells z 37)
  refine ⟨?_, frozen_of_row _ w1.heap.size _ _ _ h⟩
  rw [cell_of_row _ w1.heap.size _ _ _ _ h, Array.getElem?_eq_getElem (by omega)]
  rfl
theorem setCells_size (g : Nat) : ∀ (vs : List Value) (o : Nat) (w : World), (w.setCells g o vs).heap.size = w.heap.size
  | [], _, _ => rfl
  | v :: vs, o, w => (setCells_size g vs (o + 1) (w.setCell ⟨g, o, none⟩ v)).trans (by simp)
theorem laid_size {w1 : World} {cs z : Array Value} : ((w1.alloc (.cells z 37)).setCells w1.heap.size 0 cs.toList).heap.size = w1.heap.size + 1 := by
  rw [setCells_size]; simp
theorem after_laid {w w1 w3 : World} {cs z : Array Value} (hz : z.size = cs.size) (hB : Below w.heap.size w w1) (hs : w.heap.size ≤ w1.heap.size)
    (h3 : Below ((w1.alloc (.cells z 37)).setCells w1.heap.size 0 cs.toList).heap.size ((w1.alloc (.cells z 37)).setCells w1.heap.size 0 cs.toList) w3) :
    w1.heap.size + 1 ≤ w3.heap.size ∧ w3.heap[w1.heap.size]? = some (.cells cs 37 (0, 0)) ∧ Below w.heap.size w w3 := by
  have hsz := laid_size (w1 := w1) (cs := cs) (z := z)
  refine ⟨?_, ?_, ?_⟩
  · have := h3.size; omega
  · rw [h3.block w1.heap.size (by omega)]; exact laid hz
  · exact (hB.trans (laid_below.mono hs)).trans (h3.mono (by omega))
set_option maxRecDepth 100000 in
set_option maxHeartbeats 2000000 in
theorem expands_core (ay cs : Array Value) (w : World) (has : ay.size = 64) (hcs : cs.size = 64) (hone : cs.all (·.oneCell') = true)
    (heq : ∀ u, (binOp .eql 37 (.agg cs) (.agg cs)).run Try.prog u = .ok (.bool true) u)
    (h15 : ∀ u : World, Calls Try.prog 15 #[.agg ay] u fun e w' => e = .returned (.agg cs) ∧ Below u.heap.size u w')
    (h16 : ∀ u : World, Calls Try.prog 16 #[.agg ay] u fun e w' => e = .returned (.agg cs) ∧ Below u.heap.size u w') :
    Calls Try.prog 6 #[.agg ay] w fun e w' => e = .returned (.bool true) ∧ Below w.heap.size w w' := by
  have hgd : Try.prog.eqGuardType Try.prog.depth 37 = false := by kernel_rfl
  have H15 : Hid (∀ u : World, Calls Try.prog 15 #[.agg ay] u fun e w' => e = .returned (.agg cs) ∧ Below u.heap.size u w') := h15
  have H16 : Hid (∀ u : World, Calls Try.prog 16 #[.agg ay] u fun e w' => e = .returned (.agg cs) ∧ Below u.heap.size u w') := h16
  have I35 : Hid ((Try.prog.info? 35).map (·.size) = some ay.size) := by rw [has]; exact info35'
  have I37 : Hid ((Try.prog.info? 37).map (·.size) = some cs.size) := by rw [hcs]; exact info37'
  have HC : Hid (cs.size = 64) := hcs
  have HO : Hid (cs.all (·.oneCell') = true) := hone
  clear h15 h16 has hcs hone
  have A0 : Hid ((w.alloc (.cells ay 35)).heap[w.heap.size]? = some (.cells ay 35 (0, 0))) := heap_alloc_new w _
  go_enter Try.func6, Try.ntmps6
  go_wp2_with (refine wpList_load_row rfl 35 (.tmp 1) rfl w.heap.size rfl 35 ay (0, 0) _ A0.out Try.underlying35 rfl I35.out ?_)
  refine (H15.out _).mono ?_
  rintro e w1 ⟨rfl, hb1⟩
  have hs1 : w.heap.size + 1 ≤ w1.heap.size := by have := hb1.size; simpa using this
  have A1 : w1.heap[w.heap.size]? = some (.cells ay 35 (0, 0)) := (hb1.block w.heap.size (by simp)).trans A0.out
  have B1 : Below w.heap.size w w1 := ((Below.refl _ _).alloc (Nat.le_refl _) _).trans (hb1.mono (by simp))
  have A2 : Hid (∀ z, ((w1.alloc (.cells z 37)).setCells w1.heap.size 0 cs.toList).heap[w.heap.size]? = some (.cells ay 35 (0, 0))) := fun z => by
    rw [laid_below.block w.heap.size (by omega)]; exact A1
  have HB1 : Hid (Below w.heap.size w w1) := B1
  clear A1 A0 hb1 B1
  go_wp2_with (first
    | (refine wpList_store_mid rfl 37 (.tmp 3) (.tmp 6) rfl w1.heap.size 0 cs rfl rfl (laid_there (by rw [HC.out]; rfl)) I37.out HO.out ?_)
    | (refine wpList_load_row rfl 35 (.tmp 1) rfl w.heap.size rfl 35 ay (0, 0) _ (A2.out _) Try.underlying35 rfl I35.out ?_))
  refine (H16.out _).mono ?_
  rintro e w3 ⟨rfl, hb3⟩
  obtain ⟨hs3, L3, B3⟩ := after_laid (by rw [HC.out]; rfl) HB1.out (Nat.le_trans (Nat.le_succ _) hs1) hb3
  clear hb3 A2 HB1 H15 H16 I35
  have L4 : Hid (∀ z, ((w3.alloc (.cells z 37)).setCells w3.heap.size 0 cs.toList).heap[w1.heap.size]? = some (.cells cs 37 (0, 0))) := fun z => by
    rw [laid_below.block w1.heap.size (by omega)]; exact L3
  have B4 : Hid (∀ z, Below w.heap.size w ((w3.alloc (.cells z 37)).setCells w3.heap.size 0 cs.toList)) := fun z => B3.trans (laid_below.mono (by omega))
  clear L3 B3
  go_wp2_with (first
    | (refine wpList_store_mid rfl 37 (.tmp 4) (.tmp 8) rfl w3.heap.size 0 cs rfl rfl (laid_there (by rw [HC.out]; rfl)) I37.out HO.out ?_)
    | (refine wpList_load_row rfl 37 (.tmp 3) rfl w1.heap.size rfl 37 cs (0, 0) _ (L4.out _) Try.underlying37 rfl I37.out ?_)
    | (refine wpList_load_row rfl 37 (.tmp 4) rfl w3.heap.size rfl 37 cs (0, 0) _ (laid (by rw [HC.out]; rfl)) Try.underlying37 rfl I37.out ?_))
  go_ret
  exact ⟨rfl, B4.out _⟩
theorem expands6 (bs : List Int) (hl : bs.length = 64) (hb : ∀ x ∈ bs, 0 ≤ x ∧ x ≤ 255) (w : World) :
    Calls Try.prog 6 #[.agg (bsA bs)] w fun e w' => e = .returned (.bool true) ∧ Below w.heap.size w w' :=
  expands_core (bsA bs) (stA bs 64) w (bsA_size hl) (stA_size bs 64) (one64 64) (eql_same bs) (expand15 bs hl hb) (expand16 bs hl hb)
end Go.Proofs.Ytinagikfemdmbaa
