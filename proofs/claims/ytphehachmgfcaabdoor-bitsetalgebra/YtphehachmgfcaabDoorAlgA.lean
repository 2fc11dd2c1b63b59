import Derived.Test.YtphehachmgfcaabDoorTwo
import Derived.Test.YtphehachmgfcaabDoorJoinD
namespace Go.Proofs.YtphehachmgfcaabDoor
open Go.RowKit
/-- how many of the first k bits are set -/
def cnt (l : List UInt8) (k : Nat) : Nat := (on1 l k).length
theorem cnt_zero0 (l : List UInt8) : cnt l 0 = 0 := Nat.le_zero.1 (on1_len l 0)
theorem cnt_succ (l : List UInt8) {k : Nat} (h : k < 65536) : cnt l (k + 1) = cnt l k + (if bit l k = true then 1 else 0) := by
  unfold cnt
  cases hb : bit l k
  · rw [on1_no hb]; simp
  · rw [on1_yes h hb]; simp
theorem cnt_le (l : List UInt8) (k : Nat) : cnt l k ≤ k := on1_len l k
theorem cnt_all {m : Nat} {f : Nat → Bool} {l : List UInt8} (h : BF m f l) : (on1 l (8 * l.length)).length = cnt l m := by
  have hlen := h.1
  obtain ⟨d, hd⟩ : ∃ d, 8 * l.length = m + d := ⟨8 * l.length - m, by omega⟩
  rw [hd, on1_ext l m d (fun i hi => by rw [h.2 i]; simp; omega)]
  rfl
theorem cnt_or {a b x y : List UInt8} (m : Nat) (hm : m ≤ 65536) (hx : ∀ i, i < m → bit x i = (bit a i && bit b i)) (hy : ∀ i, i < m → bit y i = (bit a i || bit b i)) : cnt a m + cnt b m = cnt x m + cnt y m := by
  induction m with
  | zero => simp [cnt_zero0]
  | succ k ih =>
    have := ih (by omega) (fun i hi => hx i (by omega)) (fun i hi => hy i (by omega))
    rw [cnt_succ a (by omega), cnt_succ b (by omega), cnt_succ x (by omega), cnt_succ y (by omega), hx k (by omega), hy k (by omega)]
    cases bit a k <;> cases bit b k <;> simp <;> omega
theorem cnt_not {a x : List UInt8} (m : Nat) (hm : m ≤ 65536) (hx : ∀ i, i < m → bit x i = !bit a i) : cnt a m + cnt x m = m := by
  induction m with
  | zero => simp [cnt_zero0]
  | succ k ih =>
    have := ih (by omega) (fun i hi => hx i (by omega))
    rw [cnt_succ a (by omega), cnt_succ x (by omega), hx k (by omega)]
    cases bit a k <;> simp <;> omega
theorem cnt_none {x : List UInt8} (m : Nat) (hm : m ≤ 65536) : cnt x m = 0 ↔ ∀ i, i < m → bit x i = false := by
  induction m with
  | zero => simp [cnt_zero0]
  | succ k ih =>
    rw [cnt_succ x (by omega)]
    have := ih (by omega)
    constructor
    · intro h i hi
      by_cases hik : i = k
      · subst hik
        cases hb : bit x i
        · rfl
        · rw [hb] at h; simp at h
      · exact this.1 (by omega) i (by omega)
    · intro h
      rw [h k (by omega)]
      simp [this.2 (fun i hi => h i (by omega))]
theorem cv_cnt {m : Nat} (hm : m ≤ 65536) {a b x : List UInt8} (he : bE m b a = 0) (hx : ∀ i, i < m → bit x i = (bit a i && !bit b i)) : cv m b a = decide (((cnt x m : Nat) : Int) = 0) := by
  unfold cv
  rw [if_pos he, Int.toNat_natCast]
  by_cases h : cnt x m = 0
  · rw [decide_eq_true (by omega)]
    rw [List.all_eq_true]
    intro i hi
    have h1 := (cnt_none m hm).1 h i (by simpa using hi)
    rw [hx i (by simpa using hi)] at h1
    cases h2 : bit a i <;> cases h3 : bit b i <;> simp_all
  · rw [decide_eq_false (by omega), ← Bool.not_eq_true, List.all_eq_true]
    intro hall
    refine h ((cnt_none m hm).2 (fun i hi => ?_))
    have := hall i (by simpa using hi)
    rw [hx i hi]
    cases h2 : bit a i <;> cases h3 : bit b i <;> simp_all
/-- a bit as the law's function 'bit' tells it -/
def xb (b : Bool) : Int := if b then 1 else 0
set_option maxHeartbeats 1000000 in
theorem bit31 (m : Nat) (hm6 : m ≤ 65536) (v : Value) (l : List UInt8) (i : Nat) (hi : i < m) (w : World) (hr : RB w v l) (hm : MT w) (hck : ck m l = 0) :
    Calls Tryd.prog 31 #[.int .i64 m, v, .int .i64 i] w fun e w' => e = .returned (.int .i64 (xb (bit l i))) ∧ ∃ nq, w' = w.drewN nq := by
  obtain ⟨e1, e2⟩ := gE_ok (n := (m : Int)) (l := l) (i := (i : Int)) hck (by omega)
  have hll : l.length ≤ 8192 := by have := ck_ok hck; simp at this; omega
  have HG : Hid (Calls Tryd.prog 11 #[.int .i64 m, v, .int .i64 i] w fun e w' => e = .returned (.tuple #[.bool (bit l i), .int .i64 0]) ∧ ∃ nq, w' = w.drewN nq) := by
    have := get11 m (by omega) (by omega) v l i (by omega) (by omega) w hr hm (by omega)
    rw [e2, e1, Int.toNat_natCast] at this
    exact this
  obtain ⟨a, c, rfl, _⟩ := hr
  clear e1 e2 hm hck
  generalize bit l i = D at *
  cases D
  · go_enter Tryd.func31, Tryd.ntmps31
    go_wp2_with (go_at_call 11; refine HG.out.mono ?_; rintro e w1 ⟨rfl, nq, rfl⟩)
    go_ret
    exact ⟨rfl, nq, rfl⟩
  · go_enter Tryd.func31, Tryd.ntmps31
    go_wp2_with (go_at_call 11; refine HG.out.mono ?_; rintro e w1 ⟨rfl, nq, rfl⟩)
    go_ret
    exact ⟨rfl, nq, rfl⟩
end Go.Proofs.YtphehachmgfcaabDoor
