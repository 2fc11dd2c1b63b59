import Derived.Test.YtkngojddeajelaaDoorDp
namespace Go.Proofs.YtkngojddeajelaaDoor
open Go.RowKit
/-- is that a length of a body with that first byte -/
def szdB (k n : Int) : Bool :=
  if 64 ≤ k then decide (n ≤ 32768) else if k ≤ 3 then n == 1 else if k = 4 then n == 5 else if k = 5 then decide (n ≤ 8193) else if k = 7 then (decide (10 ≤ n) && decide (n ≤ 16393)) else if asksB k then n == 13 else if k = 22 then (decide (49 ≤ n) && decide (n ≤ 17969) && (n - 49) % 32 == 0) else n == 49
set_option maxHeartbeats 1000000 in
theorem rsizedT (w : World) (k n : Int) (hn : 0 ≤ n) (hn2 : n ≤ 140737488351232) : Calls Tryd.prog 33 #[.int .i64 k, .int .i64 n] w fun e w' => e = .returned (.bool (szdB k n)) ∧ w' = w := by
  have hA := fun u => asksT u k
  by_cases h1 : 64 ≤ k
  · rw [show szdB k n = decide (n ≤ 32768) by unfold szdB; rw [if_pos h1]]
    go_enter Tryd.func33, Tryd.ntmps33
    go_wp2
    go_ret
    exact ⟨rfl, rfl⟩
  by_cases h2 : k ≤ 3
  · rw [show szdB k n = (n == 1) by unfold szdB; rw [if_neg h1, if_pos h2]]
    go_enter Tryd.func33, Tryd.ntmps33
    go_wp2
    go_ret
    exact ⟨rfl, rfl⟩
  by_cases h3 : k = 4
  · rw [show szdB k n = (n == 5) by unfold szdB; rw [if_neg h1, if_neg h2, if_pos h3]]
    subst h3
    go_enter Tryd.func33, Tryd.ntmps33
    go_wp2
    go_ret
    exact ⟨rfl, rfl⟩
  by_cases h4 : k = 5
  · rw [show szdB k n = decide (n ≤ 8193) by unfold szdB; rw [if_neg h1, if_neg h2, if_neg h3, if_pos h4]]
    subst h4
    go_enter Tryd.func33, Tryd.ntmps33
    go_wp2
    go_ret
    exact ⟨rfl, rfl⟩
  by_cases h5 : k = 7
  · subst h5
    rw [show szdB 7 n = (decide (10 ≤ n) && decide (n ≤ 16393)) from rfl]
    by_cases q : 10 ≤ n
    · rw [decide_eq_true q]
      go_enter Tryd.func33, Tryd.ntmps33
      go_wp2
      go_ret
      exact ⟨rfl, rfl⟩
    · rw [decide_eq_false q]
      go_enter Tryd.func33, Tryd.ntmps33
      go_wp2
      go_ret
      exact ⟨rfl, rfl⟩
  by_cases h6 : asksB k = true
  · rw [show szdB k n = (n == 13) by unfold szdB; rw [if_neg h1, if_neg h2, if_neg h3, if_neg h4, if_neg h5, if_pos h6]]
    rw [h6] at hA
    go_enter Tryd.func33, Tryd.ntmps33
    go_wp2_with fail
    refine (hA _).mono ?_
    rintro e w1 ⟨rfl, rfl⟩
    go_wp2
    go_ret
    exact ⟨rfl, rfl⟩
  have h6' : asksB k = false := by simpa using h6
  rw [h6'] at hA
  by_cases h7 : k = 22
  · subst h7
    rw [show szdB 22 n = (decide (49 ≤ n) && decide (n ≤ 17969) && (n - 49) % 32 == 0) from rfl]
    by_cases q : 49 ≤ n
    · by_cases q2 : n ≤ 17969
      · rw [decide_eq_true q, decide_eq_true q2]
        go_enter Tryd.func33, Tryd.ntmps33
        go_wp2_with fail
        refine (hA _).mono ?_
        rintro e w1 ⟨rfl, rfl⟩
        go_wp2
        go_ret
        exact ⟨rfl, rfl⟩
      · rw [decide_eq_true q, decide_eq_false q2]
        go_enter Tryd.func33, Tryd.ntmps33
        go_wp2_with fail
        refine (hA _).mono ?_
        rintro e w1 ⟨rfl, rfl⟩
        go_wp2
        go_ret
        exact ⟨rfl, rfl⟩
    · rw [decide_eq_false q]
      go_enter Tryd.func33, Tryd.ntmps33
      go_wp2_with fail
      refine (hA _).mono ?_
      rintro e w1 ⟨rfl, rfl⟩
      go_wp2
      go_ret
      exact ⟨rfl, rfl⟩
  · rw [show szdB k n = (n == 49) by unfold szdB; rw [if_neg h1, if_neg h2, if_neg h3, if_neg h4, if_neg h5, if_neg h6, if_neg h7]]
    go_enter Tryd.func33, Tryd.ntmps33
    go_wp2_with fail
    refine (hA _).mono ?_
    rintro e w1 ⟨rfl, rfl⟩
    go_wp2
    go_ret
    exact ⟨rfl, rfl⟩
set_option maxHeartbeats 1000000 in
theorem rnumT (w : World) (v : Value) (l : List UInt8) (i : Nat) (hl : i + 4 ≤ l.length) (hl2 : l.length ≤ 140737488351232) (hr : RB w v l) :
    Calls Tryd.prog 35 #[v, .int .i64 (i : Int)] w fun e w' => e = .returned (.int .i64 (nm4 (l.drop i) : Int)) ∧ ∃ n, w' = w.drewN n := by
  obtain ⟨b, o, c, rfl, _, hc⟩ := hr.cells (by omega)
  have h0 := UInt8.toNat_lt (byt l i)
  have h1 := UInt8.toNat_lt (byt l (i + 1))
  have h2 := UInt8.toNat_lt (byt l (i + 2))
  have h3 := UInt8.toNat_lt (byt l (i + 3))
  have c0 := hc i (by omega)
  have c1 := hc (i + 1) (by omega)
  have c2 := hc (i + 2) (by omega)
  have c3 := hc (i + 3) (by omega)
  have en : nm4 (l.drop i) = (((byt l i).toNat * 256 + (byt l (i + 1)).toNat) * 256 + (byt l (i + 2)).toNat) * 256 + (byt l (i + 3)).toNat := by
    unfold nm4; simp only [byt_drop, Nat.add_zero]
  rw [en]
  clear hc hr en
  generalize (byt l i).toNat = x0 at *
  generalize (byt l (i + 1)).toNat = x1 at *
  generalize (byt l (i + 2)).toNat = x2 at *
  generalize (byt l (i + 3)).toNat = x3 at *
  generalize l.length = n at *
  go_enter Tryd.func35, Tryd.ntmps35
  go_wp2
  go_quiet (fail)
  go_wp2
  go_ret
  exact ⟨ret_int (by omega), _, rfl⟩
end Go.Proofs.YtkngojddeajelaaDoor
