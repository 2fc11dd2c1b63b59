import Derived.Test.YtinagikfemdmbaaSmall
namespace Go.Proofs.Ytinagikfemdmbaa
open Go.RowKit
theorem or_add (i a y : Nat) (h1 : 2 ^ i * a < 4294967296) (hy : y < 2 ^ i) (h2 : y < 4294967296) (h3 : 2 ^ i * a + y < 4294967296) :
    bits .or .u32 ((2 ^ i * a : Nat) : Int) (y : Int) = ((2 ^ i * a + y : Nat) : Int) := by
  have ex : (BitVec.ofInt 32 ((2 ^ i * a : Nat) : Int)).toNat = 2 ^ i * a := by
    rw [BitVec.toNat_ofInt]; omega
  have ey : (BitVec.ofInt 32 (y : Int)).toNat = y := by
    rw [BitVec.toNat_ofInt]; omega
  have e : ((BitVec.ofInt 32 ((2 ^ i * a : Nat) : Int)) ||| (BitVec.ofInt 32 (y : Int))).toNat = 2 ^ i * a + y := by
    rw [BitVec.toNat_or, ex, ey, Nat.two_pow_add_eq_or_of_lt hy]
  have hw : ∀ z : Int, 0 ≤ z → z < 4294967296 → IntKind.u32.wrap z = z := by
    intro z hz hz'
    simp only [IntKind.wrap, IntKind.bits, IntKind.signed, Bool.false_and, Bool.false_eq_true, if_false]
    omega
  have hb : bits .or .u32 ((2 ^ i * a : Nat) : Int) (y : Int) = IntKind.u32.wrap ((((BitVec.ofInt 32 ((2 ^ i * a : Nat) : Int)) ||| (BitVec.ofInt 32 (y : Int))).toNat : Nat) : Int) := rfl
  rw [hb, e]
  exact hw _ (by omega) (by omega)
theorem wrap_u32 (z : Int) (h0 : 0 ≤ z) (h1 : z < 4294967296) : IntKind.u32.wrap z = z := by
  simp only [IntKind.wrap, IntKind.bits, IntKind.signed, Bool.false_and, Bool.false_eq_true, if_false]
  omega
/-- four bytes, the highest first -/
def w4 (b0 b1 b2 b3 : Int) : Int := b0 * 16777216 + b1 * 65536 + b2 * 256 + b3
def orA (b0 b1 b2 b3 : Int) : Int := bits .or .u32 (bits .or .u32 (bits .or .u32 (IntKind.u32.wrap (IntKind.u32.wrap b0 * 16777216)) (IntKind.u32.wrap (IntKind.u32.wrap b1 * 65536))) (IntKind.u32.wrap (IntKind.u32.wrap b2 * 256))) (IntKind.u32.wrap b3)
theorem orA_eq {b0 b1 b2 b3 : Int} (h0 : 0 ≤ b0) (h0' : b0 ≤ 255) (h1 : 0 ≤ b1) (h1' : b1 ≤ 255) (h2 : 0 ≤ b2) (h2' : b2 ≤ 255) (h3 : 0 ≤ b3) (h3' : b3 ≤ 255) : orA b0 b1 b2 b3 = w4 b0 b1 b2 b3 := by
  unfold orA w4
  rw [wrap_u32 b0 h0 (by omega), wrap_u32 b1 h1 (by omega), wrap_u32 b2 h2 (by omega), wrap_u32 b3 h3 (by omega)]
  rw [wrap_u32 (b0 * 16777216) (by omega) (by omega), wrap_u32 (b1 * 65536) (by omega) (by omega), wrap_u32 (b2 * 256) (by omega) (by omega)]
  obtain ⟨n0, rfl⟩ := Int.eq_ofNat_of_zero_le h0
  obtain ⟨n1, rfl⟩ := Int.eq_ofNat_of_zero_le h1
  obtain ⟨n2, rfl⟩ := Int.eq_ofNat_of_zero_le h2
  obtain ⟨n3, rfl⟩ := Int.eq_ofNat_of_zero_le h3
  have e1 := or_add 24 n0 (n1 * 65536) (by omega) (by omega) (by omega) (by omega)
  have e2 := or_add 16 (n0 * 256 + n1) (n2 * 256) (by omega) (by omega) (by omega) (by omega)
  have e3 := or_add 8 (n0 * 65536 + n1 * 256 + n2) n3 (by omega) (by omega) (by omega) (by omega)
  rw [show (n0 : Int) * 16777216 = ((2 ^ 24 * n0 : Nat) : Int) by omega, show (n1 : Int) * 65536 = ((n1 * 65536 : Nat) : Int) by omega, e1]
  rw [show ((2 ^ 24 * n0 + n1 * 65536 : Nat) : Int) = ((2 ^ 16 * (n0 * 256 + n1) : Nat) : Int) by omega, show (n2 : Int) * 256 = ((n2 * 256 : Nat) : Int) by omega, e2]
  rw [show ((2 ^ 16 * (n0 * 256 + n1) + n2 * 256 : Nat) : Int) = ((2 ^ 8 * (n0 * 65536 + n1 * 256 + n2) : Nat) : Int) by omega, e3]
  omega
/-- the next word of the schedule -/
def nextW (a b c d : Int) : Int := IntKind.u32.wrap (IntKind.u32.wrap (IntKind.u32.wrap (sm1 a + b) + sm0 c) + d)
theorem wrap_bd (z : Int) : 0 ≤ IntKind.u32.wrap z ∧ IntKind.u32.wrap z ≤ 4294967295 := by
  simp only [IntKind.wrap, IntKind.bits, IntKind.signed, Bool.false_and, Bool.false_eq_true, if_false]
  omega
theorem nextW_bd (a b c d : Int) : 0 ≤ nextW a b c d ∧ nextW a b c d ≤ 4294967295 := wrap_bd _
/-- the schedule behind k steps -/
def st (bs : List Int) : Nat → List Int
  | 0 => List.replicate 64 0
  | k + 1 => (st bs k).set k (if k < 16 then w4 (bs.getD (4 * k) 0) (bs.getD (4 * k + 1) 0) (bs.getD (4 * k + 2) 0) (bs.getD (4 * k + 3) 0) else nextW ((st bs k).getD (k - 2) 0) ((st bs k).getD (k - 7) 0) ((st bs k).getD (k - 15) 0) ((st bs k).getD (k - 16) 0))
theorem st_len (bs : List Int) (k : Nat) : (st bs k).length = 64 := by
  induction k with
  | zero => simp [st]
  | succ k ih => simp [st, ih]
theorem getD_set_bd {l : List Int} {k : Nat} {v : Int} (h : ∀ j, 0 ≤ l.getD j 0 ∧ l.getD j 0 ≤ 4294967295) (hv : 0 ≤ v ∧ v ≤ 4294967295) : ∀ j, 0 ≤ (l.set k v).getD j 0 ∧ (l.set k v).getD j 0 ≤ 4294967295 := by
  intro j
  have := h j
  simp only [List.getD, List.getElem?_set] at this ⊢
  split
  · split
    · simpa using hv
    · simp
  · exact this
theorem byte_bd {bs : List Int} (hb : ∀ x ∈ bs, 0 ≤ x ∧ x ≤ 255) (j : Nat) : 0 ≤ bs.getD j 0 ∧ bs.getD j 0 ≤ 255 := by
  by_cases h : j < bs.length
  · have := hb bs[j] (List.getElem_mem h)
    simpa [List.getD, List.getElem?_eq_getElem h] using this
  · simp [List.getD, List.getElem?_eq_none (by omega : bs.length ≤ j)]
theorem st_bd {bs : List Int} (hb : ∀ x ∈ bs, 0 ≤ x ∧ x ≤ 255) (k : Nat) : ∀ j, 0 ≤ (st bs k).getD j 0 ∧ (st bs k).getD j 0 ≤ 4294967295 := by
  induction k with
  | zero => intro j; simp only [st, List.getD, List.getElem?_replicate]; split <;> simp
  | succ k ih =>
    unfold st
    apply getD_set_bd ih
    split
    · have h0 := byte_bd hb (4 * k); have h1 := byte_bd hb (4 * k + 1); have h2 := byte_bd hb (4 * k + 2); have h3 := byte_bd hb (4 * k + 3)
      unfold w4; omega
    · exact nextW_bd _ _ _ _
def stA (bs : List Int) (k : Nat) : Array Value := ((st bs k).map (Value.int .u32)).toArray
def bsA (bs : List Int) : Array Value := (bs.map (Value.int .u8)).toArray
theorem stA_get (bs : List Int) (k j : Nat) (h : j < 64) : (stA bs k)[j]? = some (.int .u32 ((st bs k).getD j 0)) := by
  have hl : j < (st bs k).length := by rw [st_len]; exact h
  simp [stA, List.getElem?_map, List.getElem?_eq_getElem hl, List.getD]
theorem bsA_get (bs : List Int) (j : Nat) (h : j < bs.length) : (bsA bs)[j]? = some (.int .u8 (bs.getD j 0)) := by
  simp [bsA, List.getElem?_map, List.getElem?_eq_getElem h, List.getD]
theorem stA_lo (bs : List Int) (k : Nat) (h : k < 16) : stA bs (k + 1) = (stA bs k).setIfInBounds k (.int .u32 (w4 (bs.getD (4 * k) 0) (bs.getD (4 * k + 1) 0) (bs.getD (4 * k + 2) 0) (bs.getD (4 * k + 3) 0))) := by
  simp [stA, st, h]
theorem stA_hi (bs : List Int) (k : Nat) (h : ¬ k < 16) : stA bs (k + 1) = (stA bs k).setIfInBounds k (.int .u32 (nextW ((st bs k).getD (k - 2) 0) ((st bs k).getD (k - 7) 0) ((st bs k).getD (k - 15) 0) ((st bs k).getD (k - 16) 0))) := by
  simp [stA, st, h]
/-- the memory of Expand: the block's bytes, the result's cells, the words so far -/
structure XInv (bs : List Int) (w wr : World) (k : Nat) : Prop where
  arg : wr.heap[w.heap.size]? = some (.cells (bsA bs) 35 (0, 0))
  res : wr.heap[w.heap.size + 1]? = some (.cells (stA bs 0) 37 (0, 0))
  wds : wr.heap[w.heap.size + 1 + 1]? = some (.cells (stA bs k) 37 (0, 0))
  bel : Below w.heap.size w wr
theorem XInv.byte {bs : List Int} {w wr : World} {k : Nat} (h : XInv bs w wr k) (j : Nat) (hj : j < bs.length) : wr.cell? ⟨w.heap.size, j, none⟩ = some (.int .u8 (bs.getD j 0)) :=
  (cell_of_row wr _ j _ _ _ h.arg).trans (bsA_get bs j hj)
theorem XInv.word {bs : List Int} {w wr : World} {k : Nat} (h : XInv bs w wr k) (j : Nat) (hj : j < 64) : wr.cell? ⟨w.heap.size + 1 + 1, j, none⟩ = some (.int .u32 ((st bs k).getD j 0)) :=
  (cell_of_row wr _ j _ _ _ h.wds).trans (stA_get bs k j hj)
theorem XInv.free {bs : List Int} {w wr : World} {k : Nat} (h : XInv bs w wr k) (j : Nat) : wr.frozen? ⟨w.heap.size + 1 + 1, j, none⟩ = false := frozen_of_row wr _ j _ _ h.wds
theorem XInv.drewN {bs : List Int} {w wr : World} {k : Nat} (h : XInv bs w wr k) (n : Nat) : XInv bs w (wr.drewN n) k :=
  ⟨h.arg, h.res, h.wds, ⟨h.bel.os, h.bel.tape, h.bel.output, h.bel.size, h.bel.block⟩⟩
theorem XInv.set {bs : List Int} {w wr : World} {k : Nat} (h : XInv bs w wr k) {v : Value} (hv : stA bs (k + 1) = (stA bs k).setIfInBounds k v) : XInv bs w (wr.setCell ⟨w.heap.size + 1 + 1, k, none⟩ v) (k + 1) where
  arg := (heap_setCell_other wr _ _ v (by simp; omega)).trans h.arg
  res := (heap_setCell_other wr _ _ v (by simp)).trans h.res
  wds := by rw [hv]; exact heap_setCell_same wr _ k _ _ v h.wds
  bel := h.bel.setCell (by simp; omega) v
theorem XInv.start {bs : List Int} {w : World} {z : Array Value} (hz : z = stA bs 0) : XInv bs w (((w.alloc (.cells (bsA bs) 35)).alloc (.cells z 37)).alloc (.cells z 37)) 0 := by
  subst hz
  refine ⟨?_, ?_, ?_, ?_⟩
  · rw [Below.heap_alloc _ _ _ (by simp; omega), Below.heap_alloc _ _ _ (by simp)]; exact heap_alloc_new w _
  · have := heap_alloc_new (w.alloc (.cells (bsA bs) 35)) (.cells (stA bs 0) 37)
    rw [Below.heap_alloc _ _ _ (by simp)]
    simpa using this
  · have := heap_alloc_new ((w.alloc (.cells (bsA bs) 35)).alloc (.cells (stA bs 0) 37)) (.cells (stA bs 0) 37)
    simpa using this
  · exact (((Below.refl _ _).alloc (Nat.le_refl _) _).alloc (by simp) _).alloc (by simp; omega) _
theorem keep_old {wr : World} {B k o : Nat} {v x : Value} (h : wr.cell? ⟨B, o, none⟩ = some x) : (wr.setCell ⟨B + 1 + 1, k, none⟩ v).cell? ⟨B, o, none⟩ = some x := by
  rw [World.cell?_setCell_other]
  · exact h
  · intro e; injection e with e1; omega
theorem keep_off {wr : World} {B k o : Nat} {v x : Value} (hne : k ≠ o) (h : wr.cell? ⟨B, o, none⟩ = some x) : (wr.setCell ⟨B, k, none⟩ v).cell? ⟨B, o, none⟩ = some x := by
  rw [World.cell?_setCell_other]
  · exact h
  · intro e; injection e with e1 e2; omega
end Go.Proofs.Ytinagikfemdmbaa
