import Derived.Test.YtcanbkgcgjaimaaPc
import Derived.Deep.QuietTactic
import Derived.BigQuiet
import Derived.Lib.OwnKind
namespace Go.Proofs.Ytcanbkgcgjaimaa
open Go.Shelf Go.RowKit
theorem LG.ex (l : Int) : ∃ r, LG l r := by
  by_cases h : ∃ k, 1 ≤ k ∧ k ≤ 9 ∧ l = p2 k
  · obtain ⟨k, h1, h2, h3⟩ := h
    exact ⟨k, .inl ⟨h1, h2, h3⟩⟩
  · exact ⟨0, .inr ⟨rfl, fun k h1 h2 h3 => h ⟨k, h1, h2, h3⟩⟩⟩
/-- a query in memory cells: its root, and four numbers -/
structure QF (cs : Array Value) (b i l p : Int) : Prop where
  size : cs.size = 36
  c32 : cs[32]? = some (.int .i64 b)
  c33 : cs[33]? = some (.int .i64 i)
  c34 : cs[34]? = some (.int .i64 l)
  c35 : cs[35]? = some (.int .i64 p)
/-- whether a query fits, by its numbers -/
def FT (low top b i l p er : Int) : Prop :=
  ((b < low ∨ top ≤ b) ∧ er = 70) ∨ (low ≤ b ∧ b < top ∧ ∃ r : Nat, LG l r ∧ (r = 0 ∧ er = 71 ∨ 1 ≤ r ∧
    ((i < 0 ∨ i.tmod l ≠ 0 ∨ p2 (top - b).toNat - l < i) ∧ er = 72 ∨ 0 ≤ i ∧ i.tmod l = 0 ∧ i ≤ p2 (top - b).toNat - l ∧
      ((p < 0 ∨ top - b ≤ p) ∧ er = 73 ∨ 0 ≤ p ∧ p < top - b ∧ er = 0))))
theorem QF.gets {cs : Array Value} {b i l p : Int} (q : QF cs b i l p) : ∃ (h32 : 32 < cs.size) (h33 : 33 < cs.size) (h34 : 34 < cs.size) (h35 : 35 < cs.size), cs[32] = .int .i64 b ∧ cs[33] = .int .i64 i ∧ cs[34] = .int .i64 l ∧ cs[35] = .int .i64 p := by
  obtain ⟨k0, k1, k2, k3, k4⟩ := q
  have h32 : 32 < cs.size := by omega
  have h33 : 33 < cs.size := by omega
  have h34 : 34 < cs.size := by omega
  have h35 : 35 < cs.size := by omega
  rw [Array.getElem?_eq_getElem h32] at k1
  rw [Array.getElem?_eq_getElem h33] at k2
  rw [Array.getElem?_eq_getElem h34] at k3
  rw [Array.getElem?_eq_getElem h35] at k4
  exact ⟨h32, h33, h34, h35, Option.some.inj k1, Option.some.inj k2, Option.some.inj k3, Option.some.inj k4⟩
theorem wrap_in (x : Int) (h1 : -9223372036854775808 ≤ x) (h2 : x ≤ 9223372036854775807) : wrap64 x = x := by unfold wrap64; omega
theorem _root_.Go.RowKit.Below.drewN {n : Nat} {w w1 : World} (h : Below n w w1) (k : Nat) : Below n w (w1.drewN k) := ⟨h.os, h.tape, h.output, h.size, h.block⟩
set_option maxHeartbeats 1000000 in
theorem between14 {cs : Array Value} {b i l p : Int} (q : QF cs b i l p) (low top : Int) (h0 : 0 ≤ low) (h1 : top ≤ 48) (w : World) :
    Calls Try.prog 14 #[.int .i64 low, .int .i64 top, .agg cs] w fun e w' => ∃ er, e = .returned (.int .i64 er) ∧ FT low top b i l p er ∧ Below w.heap.size w w' := by
  obtain ⟨h32, h33, h34, h35, k1, k2, k3, k4⟩ := q.gets
  clear q
  by_cases c1 : b < low
  · go_enter Try.func14, Try.ntmps14
    go_wp2
    go_ret
    exact ⟨70, rfl, .inl ⟨.inl c1, rfl⟩, (Below.refl _ _).alloc (Nat.le_refl _) _⟩
  · by_cases c2 : top ≤ b
    · go_enter Try.func14, Try.ntmps14
      go_wp2
      go_ret
      exact ⟨70, rfl, .inl ⟨.inr c2, rfl⟩, (Below.refl _ _).alloc (Nat.le_refl _) _⟩
    · obtain ⟨r, hr⟩ := LG.ex l
      have MK : Hid (∀ er, (r = 0 ∧ er = 71 ∨ 1 ≤ r ∧
    ((i < 0 ∨ i.tmod l ≠ 0 ∨ p2 (top - b).toNat - l < i) ∧ er = 72 ∨ 0 ≤ i ∧ i.tmod l = 0 ∧ i ≤ p2 (top - b).toNat - l ∧
      ((p < 0 ∨ top - b ≤ p) ∧ er = 73 ∨ 0 ≤ p ∧ p < top - b ∧ er = 0))) → FT low top b i l p er) := fun er h => .inr ⟨by omega, by omega, r, hr, h⟩
      by_cases c3 : l < 2
      · have e := hr.bad (.inl c3)
        clear hr
        go_enter Try.func14, Try.ntmps14
        go_wp2
        go_ret
        exact ⟨71, rfl, MK.out _ (.inl ⟨e, rfl⟩), (Below.refl _ _).alloc (Nat.le_refl _) _⟩
      · by_cases c4 : 512 < l
        · have e := hr.bad (.inr (.inl c4))
          clear hr
          go_enter Try.func14, Try.ntmps14
          go_wp2
          go_ret
          exact ⟨71, rfl, MK.out _ (.inl ⟨e, rfl⟩), (Below.refl _ _).alloc (Nat.le_refl _) _⟩
        · by_cases c5 : oc l = 1
          · have e := hr.good (by omega) (by omega) c5
            clear hr
            go_enter Try.func14, Try.ntmps14
            go_wp2_with (go_at_call 17; refine (ones17 _ (by omega) (by omega) _).mono ?_; rintro e w' ⟨rfl, rfl⟩)
            have e1 : 1 ≤ r := e
            have BL : ∀ nq, Below w.heap.size w ((w.alloc (Obj.cells cs 31)).drewN nq) := fun nq => ((Below.refl _ _).alloc (Nat.le_refl _) _).drewN nq
            by_cases c6 : i < 0
            · go_quiet (fail)
              go_wp2
              go_ret
              exact ⟨72, rfl, MK.out _ (.inr ⟨e1, .inl ⟨.inl c6, rfl⟩⟩), BL _⟩
            · have g6 : decide (i < 0) = false := decide_eq_false c6
              by_cases c7 : i.tmod l = 0
              · have g7 : (i.tmod l != 0) = false := by rw [c7]; rfl
                have hP : Hid (1 ≤ p2 (top - b).toNat ∧ p2 (top - b).toNat ≤ 281474976710656) := by
                  have := p2_mono (show (top - b).toNat ≤ 48 by omega)
                  have e : p2 48 = 281474976710656 := by decide
                  have := p2_pos (top - b).toNat
                  show _ ∧ _
                  omega
                have hw : Hid (wrap64 (wrap64 (2 ^ (top - b).toNat) - l) = p2 (top - b).toNat - l) := by
                  have e : ((2 : Int) ^ (top - b).toNat) = p2 (top - b).toNat := by unfold p2; simp
                  have := hP.out
                  show _ = _
                  rw [e, wrap_in (p2 _) (by omega) (by omega), wrap_in _ (by omega) (by omega)]
                go_quiet (fail)
                rw [hw.out]
                clear hw
                obtain ⟨q0, q1⟩ := hP.out
                clear hP
                generalize p2 (top - b).toNat = P at *
                by_cases c8 : P - l < i
                · go_wp2
                  go_ret
                  exact ⟨72, rfl, MK.out _ (.inr ⟨e1, .inl ⟨.inr (.inr c8), rfl⟩⟩), BL _⟩
                · by_cases c9 : p < 0
                  · go_wp2
                    go_ret
                    exact ⟨73, rfl, MK.out _ (.inr ⟨e1, .inr ⟨by omega, c7, by omega, .inl ⟨.inl c9, rfl⟩⟩⟩), BL _⟩
                  · by_cases c10 : top - b ≤ p
                    · go_wp2
                      go_ret
                      exact ⟨73, rfl, MK.out _ (.inr ⟨e1, .inr ⟨by omega, c7, by omega, .inl ⟨.inr c10, rfl⟩⟩⟩), BL _⟩
                    · go_wp2
                      go_ret
                      exact ⟨0, rfl, MK.out _ (.inr ⟨e1, .inr ⟨by omega, c7, by omega, .inr ⟨by omega, by omega, rfl⟩⟩⟩), BL _⟩
              · have C7 : Hid (i.tmod l ≠ 0) := c7
                have em : i.tmod l = i % l := Int.tmod_eq_emod_of_nonneg (by omega)
                rw [em] at c7
                have g7 : (i % l != 0) = true := by simpa using c7
                have t0 := Int.emod_nonneg i (show l ≠ 0 by omega)
                have t1 := Int.emod_lt_of_pos i (show 0 < l by omega)
                clear em c7
                go_quiet (fail)
                go_wp2
                go_ret
                exact ⟨72, rfl, MK.out _ (.inr ⟨e1, .inl ⟨.inr (.inl C7.out), rfl⟩⟩), BL _⟩
          · have e := hr.bad (.inr (.inr c5))
            clear hr
            go_enter Try.func14, Try.ntmps14
            go_wp2_with (go_at_call 17; refine (ones17 _ (by omega) (by omega) _).mono ?_; rintro e w' ⟨rfl, rfl⟩)
            go_ret
            exact ⟨71, rfl, MK.out _ (.inl ⟨e, rfl⟩), (Below.refl _ _).alloc (Nat.le_refl _) _⟩
end Go.Proofs.Ytcanbkgcgjaimaa
