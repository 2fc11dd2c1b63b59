import Derived.Test.YtpnbhcjbbcekeaaNd
namespace Go.Proofs.Ytpnbhcjbbcekeaa
open Go.RowKit
/-- how many sectors so many bytes have -/
def sx (n : Int) : Int := (n + 63) / 64
/-- all pieces' sectors -/
def smx (ps : List Pc) : Int := (ps.map fun x => sx x.l).sum
theorem smx_snoc (ps : List Pc) (x : Pc) : smx (ps ++ [x]) = smx ps + sx x.l := by unfold smx; simp [List.sum_append]
theorem sx_bd {n : Int} (h0 : 1 ≤ n) (h1 : n ≤ 16777216) : 0 ≤ sx n ∧ sx n ≤ 262144 := by unfold sx; omega
theorem smx_bd {b : Int} (hb : pw b = true) (ps : List Pc) (h : allB b ps = true) : 0 ≤ smx ps ∧ smx ps ≤ ps.length * 262144 := by
  induction ps with
  | nil => simp [smx]
  | cons x ps ih =>
    unfold allB at h ih
    rw [List.all_cons, Bool.and_eq_true] at h
    have h1 := ih h.2
    have h2 := mb_bd hb h.1
    have h3 := sx_bd h2.1 h2.2
    have e : smx (x :: ps) = sx x.l + smx ps := by unfold smx; simp
    rw [e, List.length_cons]
    push_cast
    omega
theorem all_take {b : Int} {ps : List Pc} (h : allB b ps = true) (n : Nat) : allB b (ps.take n) = true := by
  unfold allB at *
  rw [List.all_eq_true] at *
  exact fun x hx => h x (List.mem_of_mem_take hx)
theorem all_at {b : Int} {ps : List Pc} (h : allB b ps = true) {n : Nat} {x : Pc} (hx : ps[n]? = some x) : mb b x = true := by
  unfold allB at h
  rw [List.all_eq_true] at h
  exact h x (List.mem_of_getElem? hx)
theorem ret_n {a b : Int} (h : a = b) : Ending.returned (.int .i64 a) = .returned (.int .i64 b) := by rw [h]
theorem ring17 (n : Nat) (h : n ≤ 65536) (w : World) : Calls Try.prog 17 #[.int .i64 n] w fun e w' => e = .returned (.int .i64 ((n : Int) + 3)) ∧ w' = w := by
  go_enter Try.func17, Try.ntmps17
  go_wp2
  go_ret
  exact ⟨rfl, rfl⟩
theorem at10 (n : Nat) (h : n ≤ 65536) (w : World) : Calls Try.prog 10 #[.int .i64 n] w fun e w' => e = .returned (.int .i64 ((n : Int) + 4)) ∧ w' = w := by
  go_enter Try.func10, Try.ntmps10
  go_wp2_with (go_at_call 17; refine (ring17 n h _).mono ?_; rintro e w' ⟨rfl, rfl⟩)
  go_ret
  exact ⟨ret_n (by omega), rfl⟩
theorem runs18 (n : Int) (h0 : 1 ≤ n) (h1 : n ≤ 16777216) (w : World) : Calls Try.prog 18 #[.int .i64 n, .int .i64 64] w fun e w' => e = .returned (.int .i64 (sx n)) ∧ w' = w := by
  go_enter Try.func18, Try.ntmps18
  go_wp2
  go_ret
  exact ⟨ret_n (by unfold sx; omega), rfl⟩
theorem sect20 (n : Int) (h0 : 1 ≤ n) (h1 : n ≤ 16777216) (w : World) : Calls Try.prog 20 #[.int .i64 n] w fun e w' => e = .returned (.int .i64 (sx n)) ∧ w' = w := by
  go_enter Try.func20, Try.ntmps20
  go_wp2
  go_ret
  exact ⟨ret_n (by unfold sx; omega), rfl⟩
/-- a power of two, at most the greatest, and none below it is the number -/
def atl (n t : Int) : Prop := (pl t = true ∨ t = 2048) ∧ ∀ s : Int, pl s = true → s < t → n ≠ s
theorem pl_cases {t : Int} (h : pl t = true) : t = 1 ∨ t = 2 ∨ t = 4 ∨ t = 8 ∨ t = 16 ∨ t = 32 ∨ t = 64 ∨ t = 128 ∨ t = 256 ∨ t = 512 ∨ t = 1024 := by
  unfold pl at h; simp only [Bool.or_eq_true, beq_iff_eq] at h; omega
theorem pl_mk {t : Int} (h : t = 1 ∨ t = 2 ∨ t = 4 ∨ t = 8 ∨ t = 16 ∨ t = 32 ∨ t = 64 ∨ t = 128 ∨ t = 256 ∨ t = 512 ∨ t = 1024) : pl t = true := by
  unfold pl; simp only [Bool.or_eq_true, beq_iff_eq]; omega
theorem atl_step {n t : Int} (h : atl n t) (hne : n ≠ t) (hlt : t ≤ 1024) : atl n (2 * t) := by
  obtain ⟨h1, h2⟩ := h
  have c : pl t = true := by rcases h1 with h1 | h1; exact h1; omega
  have c' := pl_cases c
  refine ⟨?_, fun s hs hlt2 => ?_⟩
  · by_cases e : t = 1024
    · right; omega
    · left; exact pl_mk (by omega)
  · have d := pl_cases hs
    by_cases e : s < t
    · exact h2 s hs e
    · have : s = t := by omega
      rw [this]; exact hne
theorem atl_no {n t : Int} (h : atl n t) (hlt : 1024 < t) : pl n = false := by
  cases e : pl n with
  | false => rfl
  | true =>
    have c := pl_bd e
    exact absurd rfl (h.2 n e (by omega))
set_option maxHeartbeats 400000 in
theorem leaves19 (n : Int) (w : World) : Calls Try.prog 19 #[.int .i64 n] w fun e w' => e = .returned (.bool (pl n)) ∧ w' = w := by
  obtain ⟨m, hm⟩ : ∃ m, pl n = m := ⟨_, rfl⟩
  have HM : Hid (pl n = m) := hm
  clear hm
  go_enter Try.func19, Try.ntmps19
  go_wp2
  go_loop [3] (fun t => ∃ k : Int, 1 ≤ k ∧ k ≤ 2048 ∧ t = .int .i64 k ∧ Hid (atl n k)) (fun t => (2048 - intOf t).toNat)
  case atStart => exact ⟨1, by omega, by omega, rfl, (⟨.inl (by decide), fun s hs h => absurd (pl_bd hs).1 (by omega)⟩ : atl n 1)⟩
  case round =>
    obtain ⟨k, hk1, hk2, rfl, hk⟩ := hrel
    by_cases hlt : k ≤ 1024
    · by_cases hb : n = k
      · have hbb : (n == k) = true := by simp [hb]
        have hp : pl n = true := by rw [hb]; rcases hk.out.1 with h | h; exact h; omega
        obtain rfl : m = true := by rw [← HM.out]; exact hp
        clear hb hp
        go_wp2
        go_ret
        exact ⟨ret_b HM.out.symm, rfl⟩
      · have hbb : (n == k) = false := by simp [hb]
        have hs := atl_step hk.out hb hlt
        have H : Hid (atl n (2 * k)) := hs
        clear hs hb hk
        go_wp2
        go_round
        case rel => exact ⟨2 * k, by omega, by omega, rfl, H⟩
        case measure => simp [intOf]; omega
    · obtain rfl : m = false := by rw [← HM.out]; exact atl_no hk.out (by omega)
      go_wp2
      go_ret
      exact ⟨ret_b HM.out.symm, rfl⟩
end Go.Proofs.Ytpnbhcjbbcekeaa
