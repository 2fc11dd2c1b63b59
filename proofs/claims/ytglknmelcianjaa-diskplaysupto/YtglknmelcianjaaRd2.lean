import Derived.Test.YtglknmelcianjaaRc
namespace Go.Proofs.Ytglknmelcianjaa
open Go.RowKit
section
variable {S : Nat → Prop} {w : World} {q lb cap : Nat} {wv : Value} {ps : List (Wt × Value)} {lf : Int} {D : Dk}
set_option maxHeartbeats 1000000 in
theorem rdurable (h : RI S w q lb cap wv ps lf D) : Calls Try.prog 28 #[.pointer (some ⟨q, 0, none⟩)] w (LisE w D.last) := by
  have c0 := h.c0
  have HB := Lib.hid (bytesOf _ D.last w h.las.rb (by have := h.gd.max; omega))
  clear h
  generalize D.last.length = ll at *
  unfold LisE
  go_enter Try.func28, Try.ntmps28
  go_wp2_with fail
  refine HB.out.mono ?_
  rintro e w2 ⟨v2, rfl, o2, b2⟩
  obtain ⟨a2, c2, rfl⟩ := o2.form
  have HE := Lib.hid (And.intro o2 b2)
  clear o2 b2
  go_wp2
  go_ret
  exact ⟨_, rfl, HE.out.1, HE.out.2⟩
set_option maxHeartbeats 1000000 in
theorem rdurable_nil (w : World) : Calls Try.prog 28 #[.pointer none] w fun e w' => e = .returned (.slice none 0 0) ∧ w' = w := by
  go_enter Try.func28, Try.ntmps28
  go_wp2
  go_ret
  exact ⟨rfl, rfl⟩
set_option maxHeartbeats 1000000 in
theorem rsizeT (h : RI S w q lb cap wv ps lf D) : Calls Try.prog 25 #[.pointer (some ⟨q, 0, none⟩)] w fun e w' => e = .returned (.int .i64 ((D.last.length / 64 : Nat) : Int)) ∧ w' = w := by
  have c0 := h.c0
  have hx := h.gd.max
  clear h
  generalize D.last.length = ll at *
  have hd : Int.tdiv (ll : Int) 64 = ((ll / 64 : Nat) : Int) := by rw [Int.tdiv_eq_ediv_of_nonneg (by omega)]; omega
  have hw : IntKind.i64.wrap ((ll : Int) / 64) = ((ll / 64 : Nat) : Int) := by
    rw [show (ll : Int) / 64 = ((ll / 64 : Nat) : Int) by omega]
    exact IntWalk.i64_in _ (by omega)
  go_enter Try.func25, Try.ntmps25
  go_wp2
  go_ret
  exact ⟨by simp, rfl⟩
set_option maxHeartbeats 1000000 in
theorem rreadT (h : RI S w q lb cap wv ps lf D) (s : Nat) (hs : 64 * s + 64 ≤ D.last.length) (hn : ps.length ≤ 1073741824) : Calls Try.prog 21 #[.pointer (some ⟨q, 0, none⟩), .int .i64 s] w (BytE w (seen D s)) := by
  have c0 := h.c0
  have hx := h.gd.max
  have HS := Lib.hid (seenT h s hs hn)
  clear h
  generalize D.last.length = ll at *
  have hd : Int.tdiv (ll : Int) 64 = ((ll / 64 : Nat) : Int) := by rw [Int.tdiv_eq_ediv_of_nonneg (by omega)]; omega
  have hw : IntKind.i64.wrap ((ll : Int) / 64) = ((ll / 64 : Nat) : Int) := by
    rw [show (ll : Int) / 64 = ((ll / 64 : Nat) : Int) by omega]
    exact IntWalk.i64_in _ (by omega)
  have h1 : s < ll / 64 := by omega
  have h2 : ¬ ((ll / 64 : Nat) : Int) ≤ (s : Int) := by omega
  unfold BytE
  go_enter Try.func21, Try.ntmps21
  go_wp2_with fail
  refine HS.out.mono ?_
  rintro e w2 ⟨v2, rfl, o2, b2⟩
  obtain ⟨a2, c2, rfl⟩ := o2.form
  have HE := Lib.hid (And.intro o2 b2)
  clear o2 b2
  go_wp2
  go_ret2
  exact ⟨_, rfl, HE.out.1, HE.out.2⟩
set_option maxHeartbeats 1000000 in
theorem rreadNo (h : RI S w q lb cap wv ps lf D) (s : Int) (hs : s < 0 ∨ D.last.length < 64 * s + 64) : Calls Try.prog 21 #[.pointer (some ⟨q, 0, none⟩), .int .i64 s] w fun e w' => e = .returned (.tuple #[.slice none 0 0, .int .i64 120]) ∧ w' = w := by
  have c0 := h.c0
  have hx := h.gd.max
  clear h
  generalize D.last.length = ll at *
  have hd : Int.tdiv (ll : Int) 64 = ((ll / 64 : Nat) : Int) := by rw [Int.tdiv_eq_ediv_of_nonneg (by omega)]; omega
  have hw : IntKind.i64.wrap ((ll : Int) / 64) = ((ll / 64 : Nat) : Int) := by
    rw [show (ll : Int) / 64 = ((ll / 64 : Nat) : Int) by omega]
    exact IntWalk.i64_in _ (by omega)
  by_cases h0 : s < 0
  · go_enter Try.func21, Try.ntmps21
    go_wp2
    go_ret2
    exact ⟨rfl, rfl⟩
  · have h2 : ((ll / 64 : Nat) : Int) ≤ s := by omega
    have h3 : (ll : Int) / 64 ≤ s := by omega
    have h4 : 0 ≤ s := by omega
    go_enter Try.func21, Try.ntmps21
    go_wp2
    go_ret2
    exact ⟨rfl, rfl⟩
end
end Go.Proofs.Ytglknmelcianjaa
