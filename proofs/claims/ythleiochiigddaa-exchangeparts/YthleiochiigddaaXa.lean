import Derived.Test.YthleiochiigddaaBase
import Derived.Test.YthleiochiigddaaGoodRef
namespace Go.Proofs.Ythleiochiigddaa
open Go.RowKit
def BS (w : World) (B : Nat) (b v : Int) : Prop := w.heap[B]? = some (.cells #[.int .i64 b, .int .i64 v] 23 (0, 0))
theorem BS.lt {w : World} {B : Nat} {b v : Int} (h : BS w B b v) : B < w.heap.size := by
  unfold BS at h
  rcases Nat.lt_or_ge B w.heap.size with h1 | h1
  · exact h1
  · rw [Array.getElem?_eq_none h1] at h; cases h
theorem BS.keep {w w' : World} {B : Nat} {b v : Int} (h : BS w B b v) (hb : Below w.heap.size w w') : BS w' B b v := (hb.block B h.lt).trans h
theorem BS.keepB {w w' : World} {B G : Nat} {b v : Int} (h : BS w B b v) (hb : Below G w w') (hlt : B < G) : BS w' B b v := (hb.block B hlt).trans h
theorem BS.c0 {w : World} {B : Nat} {b v : Int} (h : BS w B b v) : w.cell? ⟨B, 0, none⟩ = some (.int .i64 b) := by unfold BS at h; simp [World.cell?, h]
theorem BS.c1 {w : World} {B : Nat} {b v : Int} (h : BS w B b v) : w.cell? ⟨B, 1, none⟩ = some (.int .i64 v) := by unfold BS at h; simp [World.cell?, h]
theorem gd_ok {b v : Int} (h : gd b v = 0) : pw b = true := by
  unfold gd at h
  split at h
  · rename_i h1; exact h1.1
  · cases h
theorem gd_two (b v : Int) : gd b v = 0 ∨ gd b v = 10 := by unfold gd; split <;> simp
/-- how many parts -/
def cnt (b n : Int) : Int := (n - 1) / b + 1
def ptN (b v n : Int) : Int := if gd b v = 0 then (if n < 1 ∨ 1048576 < n then 0 else cnt b n) else 0
def ptE (b v n : Int) : Int := if gd b v = 0 then (if n < 1 ∨ 1048576 < n then 230 else 0) else 10
theorem pt_no {b v n : Int} (h : gd b v = 10) : ptN b v n = 0 ∧ ptE b v n = 10 := by
  have h0 : ¬ gd b v = 0 := by rw [h]; decide
  unfold ptN ptE; rw [if_neg h0, if_neg h0]; exact ⟨rfl, rfl⟩
theorem pt_bad {b v n : Int} (h : gd b v = 0) (hn : n < 1 ∨ 1048576 < n) : ptN b v n = 0 ∧ ptE b v n = 230 := by
  unfold ptN ptE; rw [if_pos h, if_pos h, if_pos hn, if_pos hn]; exact ⟨rfl, rfl⟩
theorem pt_yes {b v n : Int} (h : gd b v = 0) (hn : ¬ (n < 1 ∨ 1048576 < n)) : ptN b v n = cnt b n ∧ ptE b v n = 0 := by
  unfold ptN ptE; rw [if_pos h, if_pos h, if_neg hn, if_neg hn]; exact ⟨rfl, rfl⟩
/-- a number and an error were answered -/
def PE (w : World) (b v n : Int) (e : Ending) (w' : World) : Prop := e = .returned (.tuple #[.int .i64 (ptN b v n), .int .i64 (ptE b v n)]) ∧ Below w.heap.size w w'
theorem PE.mk {w w' : World} {b v n x y : Int} (h : ptN b v n = x ∧ ptE b v n = y) (hb : Below w.heap.size w w') : PE w b v n (.returned (.tuple #[.int .i64 x, .int .i64 y])) w' := by
  obtain ⟨h1, h2⟩ := h
  exact ⟨by rw [h1, h2], hb⟩
set_option maxHeartbeats 1000000 in
theorem isSizeT (n : Int) (w : World) : Calls Try.prog 11 #[.int .i64 n] w fun e w' => e = .returned (.bool (decide (1 ≤ n) && decide (n ≤ 1048576))) ∧ w = w' := by
  go_enter Try.func11, Try.ntmps11
  by_cases h : 1 ≤ n
  · have h1 : decide (1 ≤ n) = true := decide_eq_true h
    go_wp2
    go_ret
    exact ⟨by simp [h], rfl⟩
  · have h1 : decide (1 ≤ n) = false := decide_eq_false h
    go_wp2
    go_ret
    exact ⟨by simp, rfl⟩
theorem cnt_bd {b n : Int} (hb : 64 ≤ b) (h0 : 1 ≤ n) (h1 : n ≤ 1048576) : 1 ≤ cnt b n ∧ cnt b n ≤ 1048576 := by
  unfold cnt
  have := Int.ediv_nonneg (a := n - 1) (b := b) (by omega) (by omega)
  have h2 := Int.ediv_le_self b (show 0 ≤ n - 1 by omega)
  omega
set_option maxHeartbeats 1000000 in
theorem countT (b n : Int) (hb : 64 ≤ b) (h0 : 1 ≤ n) (h1 : n ≤ 1048576) (w : World) : Calls Try.prog 12 #[.int .i64 b, .int .i64 n] w fun e w' => e = .returned (.int .i64 (cnt b n)) ∧ w = w' := by
  have hbd := cnt_bd hb h0 h1
  have hq : Int.tdiv (n - 1) b = (n - 1) / b := by rw [Int.tdiv_eq_ediv_of_nonneg (by omega)]
  obtain ⟨q, hq2⟩ : ∃ q, (n - 1) / b = q := ⟨_, rfl⟩
  have hc : cnt b n = q + 1 := by unfold cnt; rw [hq2]
  rw [hq2] at hq
  have hq3 : 0 ≤ q ∧ q ≤ 1048575 := by omega
  have hb0 : (b == 0) = false := by simp; omega
  have hb1 : ¬ b = 0 := by omega
  have hq4 : IntKind.i64.wrap q = q := by simp [IntKind.wrap, IntKind.bits, IntKind.signed]; omega
  have HC : Hid (cnt b n = q + 1) := hc
  clear hc hbd hq2
  go_enter Try.func12, Try.ntmps12
  go_wp2
  go_ret
  exact ⟨by rw [HC.out]; rfl, rfl⟩
set_option maxHeartbeats 1000000 in
theorem partsT (b v n : Int) (w : World) : Calls Try.prog 4 #[sc b v, .int .i64 n] w (PE w b v n) := by
  have HS : Hid (BS (w.alloc (.cells #[.int .i64 b, .int .i64 v] 23)) w.heap.size b v) := heapNew _ _
  have b0 : Below w.heap.size w (w.alloc (.cells #[.int .i64 b, .int .i64 v] 23)) := (Below.refl _ _).alloc (Nat.le_refl _) _
  have HR : Hid (Below w.heap.size w (w.alloc (.cells #[.int .i64 b, .int .i64 v] 23))) := b0
  have hl0 := HS.out.c0
  have hl1 := HS.out.c1
  clear b0
  go_enter Try.func4, Try.ntmps4
  go_wp2_with fail
  generalize w.alloc (.cells #[.int .i64 b, .int .i64 v] 23) = w0 at *
  refine (good6 b v w0).mono ?_
  rintro e w1 ⟨rfl, b1⟩
  have H1 : Hid (Below w.heap.size w w1) := HR.out.trans (b1.mono HR.out.size)
  have hl0 := (HS.out.keep b1).c0
  have hl1 := (HS.out.keep b1).c1
  clear b1 HR HS
  rcases gd_two b v with hg | hg
  · rw [hg]
    by_cases hn : n < 1 ∨ 1048576 < n
    · have HP := Lib.hid (pt_bad hg hn)
      have HI := Lib.hid (isSizeT n w1)
      have e0 : (decide (1 ≤ n) && decide (n ≤ 1048576)) = false := by simp only [Bool.and_eq_false_iff, decide_eq_false_iff_not]; omega
      rw [e0] at HI
      clear hg hn e0
      go_wp2_with fail
      refine HI.out.mono ?_
      rintro e w2 ⟨rfl, rfl⟩
      go_wp2
      go_ret2
      exact PE.mk HP.out H1.out
    · have HP := Lib.hid (pt_yes hg hn)
      have hbd := (pw_bd (gd_ok hg)).1
      have HC := Lib.hid (countT b n hbd (by omega) (by omega) w1)
      have HI := Lib.hid (isSizeT n w1)
      have e0 : (decide (1 ≤ n) && decide (n ≤ 1048576)) = true := by simp only [Bool.and_eq_true, decide_eq_true_eq]; omega
      rw [e0] at HI
      clear hg hn e0 hbd
      go_wp2_with fail
      refine HI.out.mono ?_
      rintro e w2 ⟨rfl, rfl⟩
      go_wp2_with fail
      refine HC.out.mono ?_
      rintro e w2 ⟨rfl, rfl⟩
      go_wp2
      go_ret2
      exact PE.mk HP.out H1.out
  · rw [hg]
    have HP := Lib.hid (pt_no (n := n) hg)
    clear hg
    go_wp2
    go_ret2
    exact PE.mk HP.out H1.out
end Go.Proofs.Ythleiochiigddaa
