import Derived.Test.YtinagikfemdmbaaBytes
namespace Go.Proofs.Ytinagikfemdmbaa
open Go.RowKit
theorem info5 : (Try.prog.info? 5).map (fun i => (i.zero, i.size, i.bytes)) = some (some (.int .u8 0), 1, 1) := by kernel_rfl
/-- how many zeros, and the last of the eight bytes first -/
def pz (n : Int) : Nat := (-((n + 1 + 8) % 64) % 64).toNat
def zeroA (l : Nat) : Array Value := madeCells #[.int .u8 0] l
def byteAt (n : Int) (k : Nat) : Int := n * 8 / 2 ^ (8 * k) % 256
def padA (n : Int) (l : Nat) : Nat → Array Value
  | 0 => (zeroA l).setIfInBounds 0 (.int .u8 128)
  | k + 1 => (padA n l k).setIfInBounds (l - 1 - k) (.int .u8 (byteAt n k))
theorem padA_size (n : Int) (l k : Nat) : (padA n l k).size = l := by
  induction k with
  | zero => simp [padA, zeroA, size_madeCells]
  | succ k ih => simp [padA, ih]
set_option maxHeartbeats 400000 in
theorem pad10_yes (n : Int) (w : World) (h0 : 0 ≤ n) (h1 : n ≤ 2305843009213693951) :
    Calls Try.prog 10 #[.int .i64 n] w fun e w' => e = .returned (.tuple #[.slice (some ⟨w.heap.size, 0, none⟩) (pz n + 9) (pz n + 9), .int .i64 0]) ∧ w' = w.alloc (.cells (padA n (pz n + 9) 8) 5) := by
  obtain ⟨i0, hi, hz0, hz1, hz2⟩ := info_parts info5
  have hL : ((pz n + 9 : Nat) : Int) = 1 + -((n + 1 + 8) % 64) % 64 + 8 := by unfold pz; omega
  have hb : pz n + 9 ≤ 72 := by unfold pz; omega
  generalize hgl : pz n + 9 = l at *
  have hl9 : 9 ≤ l := by omega
  have hmk : ∀ u : World, (Instr.makeSlice 27 (.int .i64 (1 + -((n + 1 + 8) % 64) % 64 + 8)) (.int .i64 (1 + -((n + 1 + 8) % 64) % 64 + 8))).run Try.prog u =
      .ok (.slice (some ⟨u.heap.size, 0, none⟩) l l) (u.alloc (.cells (zeroA l) 5)) := fun u => by
    have h := run_make (P := Try.prog) u 27 5 i0 (.int .u8 0) Try.underlying27 hi hz0 .i64 .i64 (l : Int) (l : Int) (by omega) (Int.le_refl _) (by rw [hz2]; omega) (by omega)
    rw [hL] at h
    have e : (1 + -((n + 1 + 8) % 64) % 64 + 8).toNat = l := by omega
    rw [e] at h
    simpa [hz1, Value.cells, zeroA] using h
  have hz0' : (zeroA l)[0]? = some (.int .u8 0) := by
    have : 0 < l := by omega
    simp [zeroA, madeCells, this]
  clear hL hgl hi hz0 hz1 hz2
  have hd1 : decide (n < 0) = false := by simp; omega
  have hd2 : decide (2305843009213693951 < n) = false := by simp; omega
  go_enter Try.func10, Try.ntmps10
  go_wp2
  go_loopw [27] (fun i wr => ∃ k : Nat, k ≤ 8 ∧ i = .int .i64 k ∧ wr = w.alloc (.cells (padA n l k) 5)) (fun i _ => 8 - (intOf i).toNat)
  case atStart => exact ⟨0, Nat.zero_le _, rfl, rfl⟩
  case round =>
    obtain ⟨k, hk, rfl, rfl⟩ := hrel
    by_cases hlt : k < 8
    · have hs := padA_size n l k
      obtain ⟨v, hv⟩ : ∃ v, (padA n l k)[l - 1 - k]? = some v := ⟨_, Array.getElem?_eq_getElem (by omega)⟩
      clear hz0' hmk
      go_wp2
      exact ⟨⟨k + 1, by omega, by go_num, rfl⟩, by simp [intOf]; omega⟩
    · have h8 : k = 8 := by omega
      subst h8
      clear hz0' hmk
      go_wp2
      go_ret2
      exact ⟨rfl, rfl⟩
set_option maxHeartbeats 400000 in
theorem pad10_no (n : Int) (w : World) (h : n < 0 ∨ 2305843009213693951 < n) :
    Calls Try.prog 10 #[.int .i64 n] w fun e w' => e = .returned (.tuple #[.slice none 0 0, .int .i64 11]) ∧ w' = w := by
  by_cases h0 : n < 0
  · go_enter Try.func10, Try.ntmps10
    go_wp2
    go_ret2
    exact ⟨rfl, rfl⟩
  · have h1 : 2305843009213693951 < n := by omega
    go_enter Try.func10, Try.ntmps10
    go_wp2
    go_ret2
    exact ⟨rfl, rfl⟩
set_option maxHeartbeats 400000 in
theorem pad11_no (n : Int) (w : World) (h : n < 0 ∨ 2305843009213693951 < n) :
    Calls Try.prog 11 #[.int .i64 n] w fun e w' => e = .returned (.tuple #[.slice none 0 0, .int .i64 11]) ∧ w' = w := by
  by_cases h0 : n < 0
  · go_enter Try.func11, Try.ntmps11
    go_wp2
    go_ret2
    exact ⟨rfl, rfl⟩
  · have h1 : 2305843009213693951 < n := by omega
    go_enter Try.func11, Try.ntmps11
    go_wp2
    go_ret2
    exact ⟨rfl, rfl⟩
end Go.Proofs.Ytinagikfemdmbaa
