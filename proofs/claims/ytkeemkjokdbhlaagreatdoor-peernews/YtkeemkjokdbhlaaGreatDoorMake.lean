import Derived.Test.YtkeemkjokdbhlaaGreatDoorOwn
import Derived.Deep.RegionHeld3
namespace Go.Proofs.YtkeemkjokdbhlaaGreatDoor
open Go.RowKit
theorem byteCells_zeros (m : Nat) : Lib.byteCells (List.replicate m 0) = (madeCells #[Value.int .u8 0] m).toList := by
  rw [toList_madeCells_one]
  simp [Lib.byteCells]
theorem OW.zeros (w : World) (m : Nat) (hm : m ≤ 1000000) : OW w.heap.size (w.alloc (.cells (madeCells #[.int .u8 0] m) 5)) (.slice (some ⟨w.heap.size, 0, none⟩) m m) (List.replicate m 0) := by
  unfold OW
  rw [byteCells_zeros, List.length_replicate]
  exact World.ownsRow_lit w _ m (Nat.le_refl _) (by unfold maxLen; omega) (by simp [size_madeCells])
theorem make13_no (n : Int) (h : n < 0 ∨ 65536 < n) (w : World) :
    Calls Tryz.prog 11 #[.int .i64 n] w fun e w' => e = .returned (.tuple #[.slice none 0 0, .int .i64 40]) ∧ w = w' := by
  rcases h with h | h
  · go_enter Tryz.func11, Tryz.ntmps11
    go_wp2
    go_ret2
    exact ⟨rfl, rfl⟩
  · go_enter Tryz.func11, Tryz.ntmps11
    go_wp2
    go_ret2
    exact ⟨rfl, rfl⟩
theorem make13 (n : Nat) (h : n ≤ 65536) (w : World) :
    Calls Tryz.prog 11 #[.int .i64 n] w fun e w' => e = .returned (.tuple #[.slice (some ⟨w.heap.size, 0, none⟩) ((n + 7) / 8) ((n + 7) / 8), .int .i64 0]) ∧ w' = w.alloc (.cells (madeCells #[.int .u8 0] ((n + 7) / 8)) 5) := by
  obtain ⟨i0, hi, hz0, hz1, hz2⟩ := info_parts info5
  have hmk : ∀ u : World, (Instr.makeSlice 37 (.int .i64 (((n + 7) / 8 : Nat) : Int)) (.int .i64 (((n + 7) / 8 : Nat) : Int))).run Tryz.prog u =
      .ok (.slice (some ⟨u.heap.size, 0, none⟩) ((n + 7) / 8) ((n + 7) / 8)) (u.alloc (.cells (madeCells #[.int .u8 0] ((n + 7) / 8)) 5)) := fun u => by
    have h := run_make (P := Tryz.prog) u 37 5 i0 (.int .u8 0) Tryz.underlying37 hi hz0 .i64 .i64 (((n + 7) / 8 : Nat) : Int) (((n + 7) / 8 : Nat) : Int) (by omega) (by omega) (by rw [hz2]; omega) (by omega)
    rw [hz1] at h
    simpa only [Value.cells, Int.toNat_natCast, Nat.mul_one] using h
  have HN : Hid (∀ w, Calls Tryz.prog 34 #[.int .i64 n] w fun e w' => e = .returned (.int .i64 (((n + 7) / 8 : Nat) : Int)) ∧ w = w') := fun w => need27 n h w
  clear hi hz0 hz1 hz2
  generalize (n + 7) / 8 = m at *
  go_enter Tryz.func11, Tryz.ntmps11
  go_wp2_with (go_at_call 34; refine (HN.out _).mono ?_; rintro e w1 ⟨rfl, rfl⟩)
  go_ret2
  exact ⟨rfl, rfl⟩
/-- what Make answers -/
theorem make13_ow (n : Nat) (h : n ≤ 65536) (w : World) :
    Calls Tryz.prog 11 #[.int .i64 n] w fun e w' => ∃ v, e = .returned (.tuple #[v, .int .i64 0]) ∧ OW w.heap.size w' v (List.replicate ((n + 7) / 8) 0) ∧ Below w.heap.size w w' := by
  refine (make13 n h w).mono ?_
  rintro e w1 ⟨rfl, rfl⟩
  exact ⟨_, rfl, OW.zeros w _ (by omega), (Below.refl _ _).alloc (Nat.le_refl _) _⟩
theorem BF.zeros (n : Nat) : BF n (fun _ => false) (List.replicate ((n + 7) / 8) 0) := ⟨by simp, fun i => by rw [bit_zeros]; simp⟩
/-- a store into a list that the call owns -/
theorem OW.stored {B g c : Nat} {w : World} {l : List UInt8} {n : Nat} (h : OW B w (.slice (some ⟨g, 0, none⟩) n c) l) (j : Nat) (y : UInt8) :
    OW B (w.setCell ⟨g, j, none⟩ (.int .u8 (y.toNat : Int))) (.slice (some ⟨g, 0, none⟩) n c) (l.set j y) := by
  have hn : n = l.length := by
    obtain ⟨_, _, h, _⟩ := h.rb
    simp at h; exact h.2.1
  subst hn
  have := (World.ownsRow.stored h j (.int .u8 (y.toNat : Int))).1
  unfold OW
  rw [List.length_set]
  have e : Lib.byteCells (l.set j y) = (Lib.byteCells l).set j (.int .u8 (y.toNat : Int)) := by simp [Lib.byteCells, List.map_set]
  rw [e]; exact this
/-- at a place of a list that the call owns: its block, its byte, the room to store -/
theorem OW.at {B : Nat} {w : World} {a : Option Addr} {n c : Nat} {l : List UInt8} (h : OW B w (.slice a n c) l) (q : Nat) (hq : q < n) :
    ∃ g, a = some ⟨g, 0, none⟩ ∧ B ≤ g ∧ w.cell? ⟨g, q, none⟩ = some (.int .u8 ((byt l q).toNat : Int)) ∧ w.frozen? ⟨g, q, none⟩ = false := by
  have hn : n = l.length := by
    obtain ⟨_, _, h, _⟩ := h.rb
    simp at h; exact h.2.1
  subst hn
  rcases h.2 with ⟨h1, h2⟩ | ⟨g, cap, cur, h1, h2, h3, _⟩
  · omega
  · simp only [Value.slice.injEq] at h1
    obtain ⟨rfl, _, rfl⟩ := h1
    refine ⟨g, rfl, h2, ?_, World.ownsRow.frozenAt h q⟩
    have := World.ownsRow.cellAt h q (by omega)
    rw [this, getD_byt l q hq]
    simp [Lib.byteCells, List.getElem?_eq_getElem hq]
theorem OW.drew {B : Nat} {w : World} {v : Value} {l : List UInt8} (h : OW B w v l) (n : Nat) : OW B (w.drewN n) v l := h.grow (belowDrew _ _)
theorem or_on (c : UInt8) (j : Nat) : bits .or .u8 (c.toNat : Int) (mk j : Int) = ((on c j).toNat : Int) := by
  rw [u8_or_nat _ _ (UInt8.toNat_lt _) (mk_lt _), on_toNat]
end Go.Proofs.YtkeemkjokdbhlaaGreatDoor
