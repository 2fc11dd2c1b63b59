import Derived.Test.YtjhnkdhbjpddcaaDoorOwn
import Derived.Deep.RegionHeld3
namespace Go.Proofs.YtjhnkdhbjpddcaaDoor
open Go.RowKit
theorem byteCells_zeros (m : Nat) : Lib.byteCells (List.replicate m 0) = (madeCells #[Value.int .u8 0] m).toList := by
  rw [toList_madeCells_one]
  simp [Lib.byteCells]
theorem OW.zeros (w : World) (m : Nat) (hm : m ≤ 1000000) : OW w.heap.size (w.alloc (.cells (madeCells #[.int .u8 0] m) 5)) (.slice (some ⟨w.heap.size, 0, none⟩) m m) (List.replicate m 0) := by
  unfold OW
  rw [byteCells_zeros, List.length_replicate]
  exact World.ownsRow_lit w _ m (Nat.le_refl _) (by unfold maxLen; omega) (by simp [size_madeCells])
theorem make13_no (n : Int) (h : n < 0 ∨ 65536 < n) (w : World) :
    Calls Tryd.prog 15 #[.int .i64 n] w fun e w' => e = .returned (.tuple #[.slice none 0 0, .int .i64 40]) ∧ w = w' := by
  rcases h with h | h
  · go_enter Tryd.func15, Tryd.ntmps15
    go_wp2
    go_ret2
    exact ⟨rfl, rfl⟩
  · go_enter Tryd.func15, Tryd.ntmps15
    go_wp2
    go_ret2
    exact ⟨rfl, rfl⟩
theorem make13 (n : Nat) (h : n ≤ 65536) (w : World) :
    Calls Tryd.prog 15 #[.int .i64 n] w fun e w' => e = .returned (.tuple #[.slice (some ⟨w.heap.size, 0, none⟩) ((n + 7) / 8) ((n + 7) / 8), .int .i64 0]) ∧ w' = w.alloc (.cells (madeCells #[.int .u8 0] ((n + 7) / 8)) 5) := by
  obtain ⟨i0, hi, hz0, hz1, hz2⟩ := info_parts info5
  have hmk : ∀ u : World, (Instr.makeSlice 22 (.int .i64 (((n + 7) / 8 : Nat) : Int)) (.int .i64 (((n + 7) / 8 : Nat) : Int))).run Tryd.prog u =
      .ok (.slice (some ⟨u.heap.size, 0, none⟩) ((n + 7) / 8) ((n + 7) / 8)) (u.alloc (.cells (madeCells #[.int .u8 0] ((n + 7) / 8)) 5)) := fun u => by
    have h := run_make (P := Tryd.prog) u 22 5 i0 (.int .u8 0) Tryd.underlying22 hi hz0 .i64 .i64 (((n + 7) / 8 : Nat) : Int) (((n + 7) / 8 : Nat) : Int) (by omega) (by omega) (by rw [hz2]; omega) (by omega)
    rw [hz1] at h
    simpa only [Value.cells, Int.toNat_natCast, Nat.mul_one] using h
  have HN : Hid (∀ w, Calls Tryd.prog 17 #[.int .i64 n] w fun e w' => e = .returned (.int .i64 (((n + 7) / 8 : Nat) : Int)) ∧ w = w') := fun w => need27 n h w
  clear hi hz0 hz1 hz2
  generalize (n + 7) / 8 = m at *
  go_enter Tryd.func15, Tryd.ntmps15
  go_wp2_with (go_at_call 17; refine (HN.out _).mono ?_; rintro e w1 ⟨rfl, rfl⟩)
  go_ret2
  exact ⟨rfl, rfl⟩
/-- what Make answers -/
theorem make13_ow (n : Nat) (h : n ≤ 65536) (w : World) :
    Calls Tryd.prog 15 #[.int .i64 n] w fun e w' => ∃ v, e = .returned (.tuple #[v, .int .i64 0]) ∧ OW w.heap.size w' v (List.replicate ((n + 7) / 8) 0) ∧ Below w.heap.size w w' := by
  refine (make13 n h w).mono ?_
  rintro e w1 ⟨rfl, rfl⟩
  exact ⟨_, rfl, OW.zeros w _ (by omega), (Below.refl _ _).alloc (Nat.le_refl _) _⟩
theorem BF.zeros (n : Nat) : BF n (fun _ => false) (List.replicate ((n + 7) / 8) 0) := ⟨by simp, fun i => by rw [bit_zeros]; simp⟩
/-- a store into a list that the call owns -/
theorem OW.stored {B g c : Nat} {w : World} {l : List UInt8} {n : Nat} (h : OW B w (.slice (some ⟨g, 0, none⟩) n c) l) (j : Nat) (y : UInt8) :
    OW B (w.setCell ⟨g, j, none⟩ (.int .u8 (y.toNat : Int))) (.slice (some ⟨g, 0, none⟩) n c) (l.set j y) := by
  have hn : n = l.length := by
    obtain ⟨_, _, h, _⟩ := h.rb
    simp at h; exact h.2.1
  subst hn
  have := (World.ownsRow.stored h j (.int .u8 (y.toNat : Int))).1
  unfold OW
  rw [List.length_set]
  have e : Lib.byteCells (l.set j y) = (Lib.byteCells l).set j (.int .u8 (y.toNat : Int)) := by simp [Lib.byteCells, List.map_set]
  rw [e]; exact this
/-- at a place of a list that the call owns: its block, its byte, the room to store -/
theorem OW.at {B : Nat} {w : World} {a : Option Addr} {n c : Nat} {l : List UInt8} (h : OW B w (.slice a n c) l) (q : Nat) (hq : q < n) :
    ∃ g, a = some ⟨g, 0, none⟩ ∧ B ≤ g ∧ w.cell? ⟨g, q, none⟩ = some (.int .u8 ((byt l q).toNat : Int)) ∧ w.frozen? ⟨g, q, none⟩ = false := by
  have hn : n = l.length := by
    obtain ⟨_, _, h, _⟩ := h.rb
    simp at h; exact h.2.1
  subst hn
  rcases h.2 with ⟨h1, h2⟩ | ⟨g, cap, cur, h1, h2, h3, _⟩
  · omega
  · simp only [Value.slice.injEq] at h1
    obtain ⟨rfl, _, rfl⟩ := h1
    refine ⟨g, rfl, h2, ?_, World.ownsRow.frozenAt h q⟩
    have := World.ownsRow.cellAt h q (by omega)
    rw [this, getD_byt l q hq]
    simp [Lib.byteCells, List.getElem?_eq_getElem hq]
theorem OW.drew {B : Nat} {w : World} {v : Value} {l : List UInt8} (h : OW B w v l) (n : Nat) : OW B (w.drewN n) v l := h.grow (belowDrew _ _)
theorem or_on (c : UInt8) (j : Nat) : bits .or .u8 (c.toNat : Int) (mk j : Int) = ((on c j).toNat : Int) := by
  rw [u8_or_nat _ _ (UInt8.toNat_lt _) (mk_lt _), on_toNat]
set_option maxHeartbeats 1000000 in
theorem full15 (n : Nat) (h : n ≤ 65536) (w : World) (hm : MT w) :
    Calls Tryd.prog 25 #[.int .i64 n] w fun e w' => ∃ v l, e = .returned (.tuple #[v, .int .i64 0]) ∧ OW w.heap.size w' v l ∧ BF n (fun _ => true) l ∧ Below w.heap.size w w' := by
  have HM : Hid (MT w) := hm
  clear hm
  go_enter Tryd.func25, Tryd.ntmps25
  go_wp2_with (go_at_call 15; refine (make13_ow n h _).mono ?_; rintro e w1 ⟨v, rfl, ho, hb⟩)
  obtain ⟨a, c, rfl⟩ := ho.form
  rw [List.length_replicate] at *
  go_wp2
  go_loopw [16] (fun t wr => ∃ (k : Nat) (l : List UInt8), k ≤ n ∧ t = .int .i64 k ∧ OW w.heap.size wr (.slice a ((n + 7) / 8) c) l ∧ l.length = (n + 7) / 8 ∧ (∀ i, bit l i = decide (i < k)) ∧ Below w.heap.size w wr) (fun t _ => n - (intOf t).toNat)
  case atStart => exact ⟨0, _, Nat.zero_le _, rfl, ho, by simp, fun i => by rw [bit_zeros]; simp, hb⟩
  case round =>
    clear ho hb
    obtain ⟨k, l, hk, rfl, ho, hlen, hbit, hb⟩ := hrel
    by_cases hlt : k < n
    · obtain ⟨g, rfl, hg, h1, h2⟩ := ho.at (k / 8) (by omega)
      have h3 := (HM.out.keep hb).2 (k % 8) (Nat.mod_lt _ (by omega))
      have h4 := or_on (byt l (k / 8)) (k % 8)
      have HO : Hid (OW w.heap.size wr (.slice (some ⟨g, 0, none⟩) ((n + 7) / 8) c) l ∧ l.length = (n + 7) / 8 ∧ (∀ i, bit l i = decide (i < k)) ∧ Below w.heap.size w wr) := ⟨ho, hlen, hbit, hb⟩
      have HS := fun j => bit_set_on l k j (by omega)
      have HS' : Hid (∀ j, bit (l.set (k / 8) (on (byt l (k / 8)) (k % 8))) j = (decide (j = k) || bit l j)) := HS
      clear ho hlen hbit hb HS
      generalize on (byt l (k / 8)) (k % 8) = y at *
      generalize (byt l (k / 8)) = x at *
      generalize mk (k % 8) = m at *
      have e1 : k / 8 < (n + 7) / 8 := by omega
      go_wp2
      go_region
      go_wp2
      go_roundw
      case rel =>
        refine ⟨k + 1, l.set (k / 8) y, by omega, by go_num, ?_, ?_, ?_, ?_⟩
        · exact (HO.out.1.drew _).stored _ _
        · rw [List.length_set]; exact HO.out.2.1
        · intro i
          rw [HS'.out, HO.out.2.2.1, Bool.eq_iff_iff]
          simp only [Bool.or_eq_true, decide_eq_true_eq]
          omega
        · exact (belowN HO.out.2.2.2 _).setCell (p := ⟨g, k / 8, none⟩) hg _
      case measure => simp [intOf]; omega
    · obtain rfl : k = n := by omega
      go_wp2
      go_ret2
      exact ⟨_, l, rfl, ho, ⟨hlen, fun i => by rw [hbit]; simp⟩, hb⟩
end Go.Proofs.YtjhnkdhbjpddcaaDoor
