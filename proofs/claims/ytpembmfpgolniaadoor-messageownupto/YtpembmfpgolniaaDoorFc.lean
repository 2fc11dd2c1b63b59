import Derived.Test.YtpembmfpgolniaaDoorMg
namespace Go.Proofs.YtpembmfpgolniaaDoor
open Go.RowKit
/-- a pointer to block g -/
abbrev ptr (g : Nat) (i : Nat := 0) : Value := .pointer (some ⟨g, i, none⟩)
/-- where a number lies in a message -/
def ofN : Nat → Nat
  | 54 => 1
  | 55 => 2
  | 56 => 3
  | 57 => 3
  | 59 => 37
  | 60 => 38
  | _ => 0
theorem of1T (w : World) (g : Nat) : Calls Tryd.prog 34 #[ptr g] w fun e w' => e = .returned (ptr g 1) ∧ w' = w := by
  go_enter Tryd.func34, Tryd.ntmps34
  go_wp2
  go_ret
  exact ⟨rfl, rfl⟩
theorem of2T (w : World) (g : Nat) : Calls Tryd.prog 35 #[ptr g] w fun e w' => e = .returned (ptr g 2) ∧ w' = w := by
  go_enter Tryd.func35, Tryd.ntmps35
  go_wp2
  go_ret
  exact ⟨rfl, rfl⟩
theorem of3T (w : World) (g : Nat) : Calls Tryd.prog 36 #[ptr g] w fun e w' => e = .returned (ptr g 3) ∧ w' = w := by
  go_enter Tryd.func36, Tryd.ntmps36
  go_wp2
  go_ret
  exact ⟨rfl, rfl⟩
theorem of4T (w : World) (g : Nat) : Calls Tryd.prog 37 #[ptr g] w fun e w' => e = .returned (ptr g 3) ∧ w' = w := by
  go_enter Tryd.func37, Tryd.ntmps37
  go_wp2
  go_ret
  exact ⟨rfl, rfl⟩
theorem of5T (w : World) (g : Nat) : Calls Tryd.prog 39 #[ptr g] w fun e w' => e = .returned (ptr g 37) ∧ w' = w := by
  go_enter Tryd.func39, Tryd.ntmps39
  go_wp2
  go_ret
  exact ⟨rfl, rfl⟩
theorem of6T (w : World) (g : Nat) : Calls Tryd.prog 40 #[ptr g] w fun e w' => e = .returned (ptr g 38) ∧ w' = w := by
  go_enter Tryd.func40, Tryd.ntmps40
  go_wp2
  go_ret
  exact ⟨rfl, rfl⟩
/-- a call of f enters it -/
abbrev EN (f : Nat) : Prop := ∀ (args : Array Value) (w : World), (callFunc f args).run Tryd.prog w = .ok (.enter f args) w
/-- the function f answers where a message's cell j lies -/
def OFC (f j : Nat) : Prop := ∀ (w : World) (g : Nat), Calls Tryd.prog f #[ptr g] w fun e w' => e = .returned (ptr g j) ∧ w' = w
theorem k1T (w : World) (g : Nat) : Calls Tryd.prog 49 #[ptr g] w fun e w' => e = .returned (.int .i64 1) ∧ w' = w := by
  go_enter Tryd.func49, Tryd.ntmps49
  go_wp2
  go_ret
  exact ⟨rfl, rfl⟩
theorem o1T (w : World) (g : Nat) : Calls Tryd.prog 54 #[ptr g] w fun e w' => e = .returned (.int .i64 1) ∧ w' = w := by
  go_enter Tryd.func54, Tryd.ntmps54
  go_wp2
  go_ret
  exact ⟨rfl, rfl⟩
theorem n1T (w : World) (g : Nat) : Calls Tryd.prog 59 #[ptr g] w fun e w' => e = .returned (.int .i64 4) ∧ w' = w := by
  go_enter Tryd.func59, Tryd.ntmps59
  go_wp2
  go_ret
  exact ⟨rfl, rfl⟩
theorem r1T (w : World) (g : Nat) : Calls Tryd.prog 66 #[ptr g] w fun e w' => e = .returned (.int .i64 32) ∧ w' = w := by
  go_enter Tryd.func66, Tryd.ntmps66
  go_wp2
  go_ret
  exact ⟨rfl, rfl⟩
theorem alwaysT (w : World) (g : Nat) : Calls Tryd.prog 52 #[ptr g] w fun e w' => e = .returned (.bool true) ∧ w' = w := by
  go_enter Tryd.func52, Tryd.ntmps52
  go_wp2
  go_ret
  exact ⟨rfl, rfl⟩
theorem k4T (w : World) (g : Nat) : Calls Tryd.prog 53 #[ptr g] w fun e w' => e = .returned (.tuple #[]) ∧ w' = w := by
  go_enter Tryd.func53, Tryd.ntmps53
  go_wp2
  go_end0
  exact ⟨rfl, rfl⟩
theorem d1T (w : World) (g : Nat) (a : Option Addr) (n c : Nat) (h : w.cell? ⟨g, 4, none⟩ = some (.slice a n c)) : Calls Tryd.prog 70 #[ptr g] w fun e w' => e = .returned (.int .i64 n) ∧ w' = w := by
  go_enter Tryd.func70, Tryd.ntmps70
  go_wp2
  go_ret
  exact ⟨rfl, rfl⟩
theorem h1T (w : World) (g : Nat) (a : Option Addr) (n c : Nat) (hn : n ≤ 140737488351232) (h : w.cell? ⟨g, 39, none⟩ = some (.slice a n c)) : Calls Tryd.prog 74 #[ptr g] w fun e w' => e = .returned (.int .i64 (32 * n)) ∧ w' = w := by
  go_enter Tryd.func74, Tryd.ntmps74
  go_wp2
  go_ret
  exact ⟨rfl, rfl⟩
theorem o5T (w : World) (g : Nat) (m : Mv) (h : MB w g m) : Calls Tryd.prog 58 #[ptr g] w fun e w' => e = .returned (.tuple #[]) ∧ w' = w.setCell ⟨g, 1, none⟩ (.int .i64 0) := by
  have h1 := h.c1
  have h2 := h.free 1
  clear h
  go_enter Tryd.func58, Tryd.ntmps58
  go_wp2
  go_end0
  exact ⟨rfl, rfl⟩
theorem d4T (w : World) (g : Nat) (m : Mv) (h : MB w g m) : Calls Tryd.prog 73 #[ptr g] w fun e w' => e = .returned (.tuple #[]) ∧ w' = w.setCell ⟨g, 4, none⟩ (.slice none 0 0) := by
  have h1 := h.c4
  have h2 := h.free 4
  clear h
  go_enter Tryd.func73, Tryd.ntmps73
  go_wp2
  go_end0
  exact ⟨rfl, rfl⟩
theorem h2T (w : World) (g : Nat) (m : Mv) (ok : m.ok) (h : MB w g m) : Calls Tryd.prog 77 #[ptr g] w fun e w' => e = .returned (.tuple #[]) ∧ w' = w.setCell ⟨g, 39, none⟩ (.slice none 0 0) := by
  have h1 := h.c39 ok
  have h2 := h.free 39
  clear h
  go_enter Tryd.func77, Tryd.ntmps77
  go_wp2
  go_end0
  exact ⟨rfl, rfl⟩
/-- two truths in a row -/
theorem o4T (w : World) (g : Nat) (m : Mv) (h : MB w g m) : Calls Tryd.prog 57 #[ptr g] w fun e w' => e = .returned (.bool (decide (64 ≤ m.i ∧ m.i ≤ 255))) ∧ w' = w := by
  have h1 := h.c1
  clear h
  generalize m.i = x at *
  by_cases c1 : 64 ≤ x
  · by_cases c2 : x ≤ 255
    · rw [decide_eq_true ⟨c1, c2⟩]
      go_enter Tryd.func57, Tryd.ntmps57
      go_wp2
      go_ret
      exact ⟨rfl, rfl⟩
    · rw [decide_eq_false (fun h => c2 h.2)]
      go_enter Tryd.func57, Tryd.ntmps57
      go_wp2
      go_ret
      exact ⟨rfl, rfl⟩
  · rw [decide_eq_false (fun h => c1 h.1)]
    go_enter Tryd.func57, Tryd.ntmps57
    go_wp2
    go_ret
    exact ⟨rfl, rfl⟩
theorem n4T (w : World) (g p q s f j : Nat) (x lo hi : Int) (hp : w.cell? ⟨p, 0, none⟩ = some (.func (.func f) #[] #[])) (hq : w.cell? ⟨q, 0, none⟩ = some (.int .i64 lo)) (hs : w.cell? ⟨s, 0, none⟩ = some (.int .i64 hi)) (he : EN f) (hf : OFC f j)
    (h1 : w.cell? ⟨g, j, none⟩ = some (.int .i64 x)) : Calls Tryd.prog 64 #[ptr g, ptr p, ptr q, ptr s] w fun e w' => e = .returned (.bool (decide (lo ≤ x ∧ x ≤ hi))) ∧ w' = w := by
  have HF : Hid (OFC f j) := hf
  clear hf
  by_cases c1 : lo ≤ x
  · by_cases c2 : x ≤ hi
    · rw [decide_eq_true ⟨c1, c2⟩]
      go_enter Tryd.func64, Tryd.ntmps64
      go_wp2_with fail
      refine (HF.out w g).mono ?_
      rintro e w1 ⟨rfl, rfl⟩
      go_wp2
      go_ret
      exact ⟨rfl, rfl⟩
    · rw [decide_eq_false (fun h => c2 h.2)]
      go_enter Tryd.func64, Tryd.ntmps64
      go_wp2_with fail
      refine (HF.out w g).mono ?_
      rintro e w1 ⟨rfl, rfl⟩
      go_wp2
      go_ret
      exact ⟨by simp [c2], rfl⟩
  · rw [decide_eq_false (fun h => c1 h.1)]
    go_enter Tryd.func64, Tryd.ntmps64
    go_wp2_with fail
    refine (HF.out w g).mono ?_
    rintro e w1 ⟨rfl, rfl⟩
    go_wp2
    go_ret
    exact ⟨rfl, rfl⟩
theorem n5T (w : World) (g p f j : Nat) (x : Int) (hp : w.cell? ⟨p, 0, none⟩ = some (.func (.func f) #[] #[])) (he : EN f) (hf : OFC f j) (h1 : w.cell? ⟨g, j, none⟩ = some (.int .i64 x)) (h2 : w.frozen? ⟨g, j, none⟩ = false) :
    Calls Tryd.prog 65 #[ptr g, ptr p] w fun e w' => e = .returned (.tuple #[]) ∧ w' = w.setCell ⟨g, j, none⟩ (.int .i64 0) := by
  have HF : Hid (OFC f j) := hf
  clear hf
  go_enter Tryd.func65, Tryd.ntmps65
  go_wp2_with fail
  refine (HF.out w g).mono ?_
  rintro e w1 ⟨rfl, rfl⟩
  go_wp2
  go_end0
  exact ⟨rfl, rfl⟩
end Go.Proofs.YtpembmfpgolniaaDoor
