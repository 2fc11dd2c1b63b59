import Derived.Test.YtglknmelcianjaaMk
namespace Go.Proofs.Ytglknmelcianjaa
open Go.RowKit
set_option maxHeartbeats 1000000 in
theorem load_no (v : Value) (l : List UInt8) (w : World) (hr : RB w v l) (hl : l.length ≤ 140737488355328) (h : ¬ (l.length % 64 = 0 ∧ 64 ≤ l.length ∧ l.length ≤ 4194304)) :
    Calls Try.prog 7 #[v] w fun e w' => e = .returned (.tuple #[.pointer none, .int .i64 122]) ∧ w' = w := by
  obtain ⟨a, c, rfl, _, _⟩ := hr
  generalize l.length = n at *
  by_cases h0 : n = 0
  · subst h0
    have hn0 : (((0 : Nat) : Int) == 0) = true := rfl
    go_enter Try.func7, Try.ntmps7
    go_wp2
    go_ret2
    exact ⟨rfl, rfl⟩
  · have hn0 : ((n : Int) == 0) = false := by simp; omega
    by_cases hm : n % 64 = 0
    · have hm' : (n : Int) % 64 = 0 := by omega
      have hn4 : decide (4194304 < (n : Int)) = true := by simp; omega
      go_enter Try.func7, Try.ntmps7
      go_wp2
      go_ret2
      exact ⟨rfl, rfl⟩
    · have hm' : ((n : Int) % 64 != 0) = true := by simp; omega
      go_enter Try.func7, Try.ntmps7
      go_wp2
      go_ret2
      exact ⟨rfl, rfl⟩
section
variable {S : Nat → Prop} {w : World} {p : Nat} {D : Dk}
set_option maxHeartbeats 1000000 in
theorem size (h : DK S w p D) : Calls Try.prog 24 #[.pointer (some ⟨p, 0, none⟩)] w fun e w' => e = .returned (.int .i64 ((D.last.length / 64 : Nat) : Int)) ∧ w' = w := by
  obtain ⟨lb, cap, mb, ov, M, L, h⟩ := h
  have c0 := h.c0
  have hx := h.gd.max
  clear h
  generalize D.last.length = n at *
  go_enter Try.func24, Try.ntmps24
  go_wp2
  go_ret
  exact ⟨rfl, rfl⟩
set_option maxHeartbeats 1000000 in
theorem size_nil (w : World) : Calls Try.prog 24 #[.pointer none] w fun e w' => e = .returned (.int .i64 0) ∧ w' = w := by
  go_enter Try.func24, Try.ntmps24
  go_wp2
  go_ret
  exact ⟨rfl, rfl⟩
set_option maxHeartbeats 1000000 in
theorem has_yes (h : DK S w p D) (s : Nat) (hs : 64 * s + 64 ≤ D.last.length) : Calls Try.prog 38 #[.pointer (some ⟨p, 0, none⟩), .int .i64 s] w fun e w' => e = .returned (.bool true) ∧ w' = w := by
  have HS := Lib.hid (size h)
  have hx := h.gd.max
  clear h
  have h2 : (s : Int) < ((D.last.length / 64 : Nat) : Int) := by omega
  generalize D.last.length / 64 = n at *
  have hq : decide (0 ≤ (s : Int)) = true := by simp
  go_enter Try.func38, Try.ntmps38
  go_wp2_with fail
  refine HS.out.mono ?_
  rintro e w1 ⟨rfl, rfl⟩
  go_wp2
  go_ret
  exact ⟨rfl, rfl⟩
set_option maxHeartbeats 1000000 in
theorem has_no (h : DK S w p D) (s : Int) (hs : s < 0 ∨ D.last.length < 64 * s + 64) : Calls Try.prog 38 #[.pointer (some ⟨p, 0, none⟩), .int .i64 s] w fun e w' => e = .returned (.bool false) ∧ w' = w := by
  have HS := Lib.hid (size h)
  have hx := h.gd.max
  have hm := h.gd.mul
  clear h
  by_cases h0 : s < 0
  · have hq : decide (0 ≤ s) = false := by simp; omega
    go_enter Try.func38, Try.ntmps38
    go_wp2_with fail
    go_ret
    exact ⟨rfl, rfl⟩
  · have h2 : decide (s < ((D.last.length / 64 : Nat) : Int)) = false := by simp; omega
    generalize D.last.length / 64 = n at *
    have hq : decide (0 ≤ s) = true := by simp; omega
    go_enter Try.func38, Try.ntmps38
    go_wp2_with fail
    refine HS.out.mono ?_
    rintro e w1 ⟨rfl, rfl⟩
    go_wp2
    go_ret
    exact ⟨rfl, rfl⟩
end
end Go.Proofs.Ytglknmelcianjaa
