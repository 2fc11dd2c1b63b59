import Derived.Test.YtcanbkgcgjaimaaPb
namespace Go.Proofs.Ytcanbkgcgjaimaa
open Go.Shelf Go.RowKit
theorem theight16 (n : Int) (h0 : 1 ≤ n) (h1 : n ≤ 1048576) (w : World) :
    Calls Try.prog 16 #[.int .i64 n] w fun e w' => ∃ r : Nat, e = .returned (.tuple #[.int .i64 r, .int .i64 0]) ∧ RI n r ∧ w' = w := by
  go_enter Try.func16, Try.ntmps16
  go_wp2_with fail
  refine (trise19 n h0 h1 _).mono ?_
  rintro e w' ⟨r, rfl, hr, rfl⟩
  have H : Hid (RI n r) := hr
  clear hr
  go_wp2
  go_ret2
  exact ⟨r, rfl, H.out, rfl⟩
/-- what a tree's numbers say: its error; its height, if there is none -/
def HT (n low : Int) (h : Int) (e : Int) : Prop :=
  ((n < 1 ∨ 1048576 < n) ∧ h = 0 ∧ e = 79) ∨ (1 ≤ n ∧ n ≤ 1048576 ∧ ∃ r : Nat, RI n r ∧ ((low < 0 ∨ 48 - (r : Int) < low) ∧ h = 0 ∧ e = 60 ∨ 0 ≤ low ∧ low ≤ 48 - (r : Int) ∧ h = low + r ∧ e = 0))
theorem HT.unique {n low h e h' e' : Int} (a : HT n low h e) (b : HT n low h' e') : h = h' ∧ e = e' := by
  rcases a with ⟨a1, a2, a3⟩ | ⟨a1, a2, r, a3, a4⟩ <;> rcases b with ⟨b1, b2, b3⟩ | ⟨b1, b2, s, b3, b4⟩
  · omega
  · omega
  · omega
  · obtain rfl := a3.unique b3
    omega
theorem height10 (n low : Int) (w : World) :
    Calls Try.prog 10 #[.int .i64 n, .int .i64 low] w fun e w' => ∃ h er, e = .returned (.tuple #[.int .i64 h, .int .i64 er]) ∧ HT n low h er ∧ w' = w := by
  by_cases c1 : n < 1
  · go_enter Try.func10, Try.ntmps10
    go_wp2
    go_ret2
    exact ⟨0, 79, rfl, .inl ⟨.inl c1, rfl, rfl⟩, rfl⟩
  · by_cases c2 : 1048576 < n
    · go_enter Try.func10, Try.ntmps10
      go_wp2
      go_ret2
      exact ⟨0, 79, rfl, .inl ⟨.inr c2, rfl, rfl⟩, rfl⟩
    · go_enter Try.func10, Try.ntmps10
      go_wp2_with fail
      refine (theight16 n (by omega) (by omega) _).mono ?_
      rintro e w' ⟨r, rfl, hr, rfl⟩
      have hle := hr.le (by omega)
      have H : Hid (RI n r) := hr
      clear hr
      by_cases c3 : low < 0
      · go_wp2
        go_ret2
        exact ⟨0, 60, rfl, .inr ⟨by omega, by omega, r, H.out, .inl ⟨.inl c3, rfl, rfl⟩⟩, rfl⟩
      · by_cases c4 : 48 - (r : Int) < low
        · go_wp2
          go_ret2
          exact ⟨0, 60, rfl, .inr ⟨by omega, by omega, r, H.out, .inl ⟨.inr c4, rfl, rfl⟩⟩, rfl⟩
        · go_wp2
          go_ret2
          exact ⟨low + r, 0, rfl, .inr ⟨by omega, by omega, r, H.out, .inr ⟨by omega, by omega, rfl, rfl⟩⟩, rfl⟩
theorem tree11 (n low : Int) (w : World) :
    Calls Try.prog 11 #[.int .i64 n, .int .i64 low] w fun e w' => ∃ h er, e = .returned (.int .i64 er) ∧ HT n low h er ∧ w' = w := by
  by_cases c1 : n < 1
  · go_enter Try.func11, Try.ntmps11
    go_wp2
    go_ret
    exact ⟨0, 79, rfl, .inl ⟨.inl c1, rfl, rfl⟩, rfl⟩
  · by_cases c2 : 1048576 < n
    · go_enter Try.func11, Try.ntmps11
      go_wp2
      go_ret
      exact ⟨0, 79, rfl, .inl ⟨.inr c2, rfl, rfl⟩, rfl⟩
    · by_cases c3 : low < 0
      · go_enter Try.func11, Try.ntmps11
        go_wp2
        go_ret
        exact ⟨0, 60, rfl, .inr ⟨by omega, by omega, _, len_RI n (by omega) (by omega), .inl ⟨.inl c3, rfl, rfl⟩⟩, rfl⟩
      · go_enter Try.func11, Try.ntmps11
        go_wp2_with fail
        refine (rise12 n (by omega) (by omega) _).mono ?_
        rintro e w' ⟨r, rfl, hr, rfl⟩
        have hle := hr.le (by omega)
        have H : Hid (RI n r) := hr
        clear hr
        by_cases c4 : 48 - (r : Int) < low
        · go_wp2
          go_ret
          exact ⟨0, 60, rfl, .inr ⟨by omega, by omega, r, H.out, .inl ⟨.inr c4, rfl, rfl⟩⟩, rfl⟩
        · go_wp2
          go_ret
          exact ⟨low + r, 0, rfl, .inr ⟨by omega, by omega, r, H.out, .inr ⟨by omega, by omega, rfl, rfl⟩⟩, rfl⟩
end Go.Proofs.Ytcanbkgcgjaimaa
