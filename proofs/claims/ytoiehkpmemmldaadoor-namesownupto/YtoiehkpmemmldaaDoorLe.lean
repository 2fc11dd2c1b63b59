import Derived.Test.YtoiehkpmemmldaaDoorLs
namespace Go.Proofs.YtoiehkpmemmldaaDoor
open Go.RowKit
/-- of two lists of bytes one is less, or they are the same -/
theorem bytes_tri : ∀ x y : List UInt8, (!Op.bytesLess y x) = (Op.bytesLess x y || x == y)
  | [], [] => rfl
  | [], b :: y => rfl
  | a :: x, [] => rfl
  | a :: x, b :: y => by
    have ih := bytes_tri x y
    simp only [Op.bytesLess]
    rcases Nat.lt_trichotomy a.toNat b.toNat with h | h | h
    · have h1 : a < b := UInt8.lt_iff_toNat_lt.2 h
      have h2 : ¬ b < a := fun hc => by have := UInt8.lt_iff_toNat_lt.1 hc; omega
      have h3 : ¬ b = a := fun hc => by subst hc; omega
      simp [h1, h2, h3]
    · have h1 : a = b := UInt8.toNat_inj.1 h
      subst h1
      simp only [show ¬ (a < a) from fun hc => by have := UInt8.lt_iff_toNat_lt.1 hc; omega, decide_false, Bool.false_or, beq_self_eq_true, Bool.true_and, ih]
      simp
    · have h1 : b < a := UInt8.lt_iff_toNat_lt.2 h
      have h2 : ¬ a < b := fun hc => by have := UInt8.lt_iff_toNat_lt.1 hc; omega
      have h3 : ¬ a = b := fun hc => by subst hc; omega
      simp [h1, h2, h3]
/-- a string less than another -/
def sl (a b : ByteArray) : Bool := Op.bytesLess a.toList b.toList
theorem sl_irr (a : ByteArray) : sl a a = false := by
  have := bytes_tri a.toList a.toList
  unfold sl
  cases h : Op.bytesLess a.toList a.toList
  · rfl
  · rw [h] at this; simp at this
theorem sl_other {a b : ByteArray} (h : ¬ a = b) : sl b a = !sl a b := by
  have := bytes_tri a.toList b.toList
  unfold sl
  rw [nlB h, Bool.or_false] at this
  rw [← this, Bool.not_not]
/-- -1, 0, 1: how two paths stand -/
def cl : List ByteArray → List ByteArray → Int
  | [], [] => 0
  | [], _ :: _ => -1
  | _ :: _, [] => 1
  | a :: l, b :: m => if a = b then cl l m else if sl a b = true then -1 else 1
def cs (a b : ByteArray) : Int := if a = b then 0 else if sl a b = true then -1 else 1
theorem cl_eq {l m : List ByteArray} {k : Nat} (h1 : k < l.length) (h2 : k < m.length) (h : sa l k = sa m k) : cl (l.drop k) (m.drop k) = cl (l.drop (k+1)) (m.drop (k+1)) := by
  rw [sa_drop h1, sa_drop h2, cl, if_pos h]
theorem cl_ne {l m : List ByteArray} {k : Nat} (h1 : k < l.length) (h2 : k < m.length) (h : ¬ sa l k = sa m k) : cl (l.drop k) (m.drop k) = if sl (sa l k) (sa m k) = true then -1 else 1 := by
  rw [sa_drop h1, sa_drop h2, cl, if_neg h]
theorem cl_end {l m : List ByteArray} {k : Nat} (h1 : l.length ≤ k) : cl (l.drop k) (m.drop k) = if k < m.length then -1 else 0 := by
  rw [List.drop_of_length_le h1]
  by_cases h : k < m.length
  · rw [sa_drop h, cl, if_pos h]
  · rw [List.drop_of_length_le (by omega), cl, if_neg h]
theorem cl_end' {l m : List ByteArray} {k : Nat} (h1 : k < l.length) (h2 : m.length ≤ k) : cl (l.drop k) (m.drop k) = 1 := by
  rw [List.drop_of_length_le h2, sa_drop h1, cl]
set_option maxHeartbeats 400000 in
theorem nan44 (s : ByteArray) (w : World) : Calls Tryd.prog 50 #[.string s] w fun e w' => e = .returned (.bool false) ∧ w' = w := by
  go_enter Tryd.func50, Tryd.ntmps50
  go_wp2
  go_ret
  exact ⟨ret_b (by simp), rfl⟩
set_option maxHeartbeats 400000 in
theorem cmp38 (a b : ByteArray) (w : World) : Calls Tryd.prog 33 #[.string a, .string b] w fun e w' => e = .returned (.int .i64 (cs a b)) ∧ w' = w := by
  by_cases h : a = b
  · subst h
    have h1 := sl_irr a
    unfold sl at h1
    have HC : Hid (cs a a = 0) := if_pos rfl
    go_enter Tryd.func33, Tryd.ntmps33
    go_wp2_with (go_at_call 50; refine (nan44 _ _).mono ?_; rintro e w' ⟨rfl, rfl⟩)
    go_ret
    exact ⟨ret_i HC.out.symm, rfl⟩
  · have h2 := sl_other h
    cases h1 : sl a b with
    | true =>
      have HC : Hid (cs a b = -1) := (if_neg h).trans (if_pos h1)
      rw [h1] at h2
      unfold sl at h1 h2
      clear h
      go_enter Tryd.func33, Tryd.ntmps33
      go_wp2_with (go_at_call 50; refine (nan44 _ _).mono ?_; rintro e w' ⟨rfl, rfl⟩)
      go_ret
      exact ⟨ret_i HC.out.symm, rfl⟩
    | false =>
      have HC : Hid (cs a b = 1) := (if_neg h).trans (if_neg (by simp [h1]))
      have h3 := nlB h
      rw [h1] at h2
      unfold sl at h1 h2
      clear h
      go_enter Tryd.func33, Tryd.ntmps33
      go_wp2_with (go_at_call 50; refine (nan44 _ _).mono ?_; rintro e w' ⟨rfl, rfl⟩)
      go_ret
      exact ⟨ret_i HC.out.symm, rfl⟩
theorem cs0 {a b : ByteArray} (h : a = b) : cs a b = 0 := if_pos h
theorem cs1 {a b : ByteArray} (h : ¬ a = b) : cs a b = if sl a b = true then -1 else 1 := if_neg h
theorem cs_ne {a b : ByteArray} (h : ¬ a = b) : ¬ cs a b = 0 := by rw [cs1 h]; split <;> omega
set_option maxHeartbeats 1000000 in
theorem compare27 (v1 v2 : Value) (l m : List ByteArray) (w : World) (hl : l.length * 16 ≤ 140737488351232) (hm : m.length * 16 ≤ 140737488351232) (h1 : SR w l v1) (h2 : SR w m v2) :
    Calls Tryd.prog 24 #[v1, v2] w fun e w' => e = .returned (.int .i64 (cl l m)) ∧ w' = w := by
  have H1 : Hid (SR w l v1) := h1
  have H2 : Hid (SR w m v2) := h2
  obtain ⟨a1, c1, rfl, _, _⟩ := h1
  obtain ⟨a2, c2, rfl, _, _⟩ := h2
  generalize hn : l.length = n at *
  have HN : Hid (l.length = n) := hn
  generalize hk : m.length = q at *
  have HM : Hid (m.length = q) := hk
  clear hn hk
  go_enter Tryd.func24, Tryd.ntmps24
  go_wp2
  go_loop [11] (fun i => ∃ k : Nat, k ≤ n ∧ k ≤ q ∧ i = .int .i64 k ∧ Hid (cl (l.drop k) (m.drop k) = cl l m)) (fun i => n - (intOf i).toNat)
  case atStart => exact ⟨0, Nat.zero_le _, Nat.zero_le _, rfl, rfl⟩
  case round =>
    obtain ⟨k, hk, hq, rfl, HC⟩ := hrel
    by_cases hlt : k < n
    · obtain ⟨b1, o1, rfl, _, k1⟩ := H1.out.cellAt (k := k) (by have := HN.out; omega)
      by_cases hlq : k < q
      · obtain ⟨b2, o2, rfl, _, k2⟩ := H2.out.cellAt (k := k) (by have := HM.out; omega)
        have HK := cmp38 (sa l k) (sa m k)
        by_cases hs : sa l k = sa m k
        · have HC' : Hid (cl (l.drop (k+1)) (m.drop (k+1)) = cl l m) := (cl_eq (by have := HN.out; omega) (by have := HM.out; omega) hs).symm.trans HC.out
          rw [cs0 hs] at HK
          have HK' : ∀ w, Hid (Calls Tryd.prog 33 #[.string (sa l k), .string (sa m k)] w fun e w' => e = .returned (.int .i64 0) ∧ w' = w) := HK
          clear HK hs H1 H2 HC
          generalize sa l k = x at *
          generalize sa m k = y at *
          go_wp2_with fail
          refine ((HK' _).out).mono ?_
          rintro e w' ⟨rfl, rfl⟩
          go_wp2
          exact ⟨⟨k + 1, by omega, by omega, by go_num, HC'⟩, by simp [intOf]; omega⟩
        · have HC' : Hid (cs (sa l k) (sa m k) = cl l m) := (cs1 hs).trans ((cl_ne (by have := HN.out; omega) (by have := HM.out; omega) hs).symm.trans HC.out)
          have HK' : ∀ w, Hid (Calls Tryd.prog 33 #[.string (sa l k), .string (sa m k)] w fun e w' => e = .returned (.int .i64 (cs (sa l k) (sa m k))) ∧ w' = w) := HK
          have hz : (cs (sa l k) (sa m k) == 0) = false := beq_eq_false_iff_ne.2 (cs_ne hs)
          clear HK hs H1 H2 HC
          generalize cs (sa l k) (sa m k) = z at *
          generalize sa l k = x at *
          generalize sa m k = y at *
          go_wp2_with fail
          refine ((HK' _).out).mono ?_
          rintro e w' ⟨rfl, rfl⟩
          go_wp2
          go_ret
          exact ⟨ret_i HC'.out, rfl⟩
      · have HC' : Hid (cl l m = 1) := HC.out.symm.trans (cl_end' (by have := HN.out; omega) (by have := HM.out; omega))
        obtain rfl : k = q := by omega
        clear H1 H2 HC
        generalize sa l k = x at *
        go_wp2
        go_ret
        exact ⟨ret_i HC'.out.symm, rfl⟩
    · obtain rfl : k = n := by omega
      by_cases hlq : k < q
      · have HC' : Hid (cl l m = -1) := HC.out.symm.trans ((cl_end (by have := HN.out; omega)).trans (if_pos (by have := HM.out; omega)))
        go_wp2
        go_ret
        exact ⟨ret_i HC'.out.symm, rfl⟩
      · have HC' : Hid (cl l m = 0) := HC.out.symm.trans ((cl_end (by have := HN.out; omega)).trans (if_neg (by have := HM.out; omega)))
        obtain rfl : k = q := by omega
        go_wp2
        go_ret
        exact ⟨ret_i HC'.out.symm, rfl⟩
/-- a path ahead of another -/
def lx (l m : List ByteArray) : Bool := decide (cl l m < 0)
set_option maxHeartbeats 400000 in
theorem less12 (v1 v2 : Value) (l m : List ByteArray) (w : World) (hl : l.length * 16 ≤ 140737488351232) (hm : m.length * 16 ≤ 140737488351232) (h1 : SR w l v1) (h2 : SR w m v2) :
    Calls Tryd.prog 12 #[v1, v2] w fun e w' => e = .returned (.bool (lx l m)) ∧ w' = w := by
  have HC : Hid (Calls Tryd.prog 24 #[v1, v2] w fun e w' => e = .returned (.int .i64 (cl l m)) ∧ w' = w) := compare27 v1 v2 l m w hl hm h1 h2
  have HX : Hid (lx l m = decide (cl l m < 0)) := rfl
  obtain ⟨a1, c1, rfl, _, _⟩ := h1
  obtain ⟨a2, c2, rfl, _, _⟩ := h2
  generalize cl l m = z at *
  go_enter Tryd.func12, Tryd.ntmps12
  go_wp2_with fail
  refine (HC.out).mono ?_
  rintro e w' ⟨rfl, rfl⟩
  go_wp2
  go_ret
  exact ⟨ret_b HX.out.symm, rfl⟩
theorem lx_ne {l m : List ByteArray} {k : Nat} (h1 : k < l.length) (h2 : k < m.length) (h : ¬ sa l k = sa m k) (hc : cl (l.drop k) (m.drop k) = cl l m) : lx l m = sl (sa l k) (sa m k) := by
  unfold lx; rw [← hc, cl_ne h1 h2 h]; cases sl (sa l k) (sa m k) <;> simp
theorem lx_end {l m : List ByteArray} {k : Nat} (h1 : l.length ≤ k ∨ m.length ≤ k) (h2 : k ≤ l.length) (h3 : k ≤ m.length) (hc : cl (l.drop k) (m.drop k) = cl l m) : lx l m = decide (l.length < m.length) := by
  unfold lx; rw [← hc]
  by_cases h : l.length ≤ k
  · rw [cl_end h]
    by_cases hk : k < m.length
    · rw [if_pos hk]; simp; omega
    · rw [if_neg hk]; simp; omega
  · rw [cl_end' (by omega) (by omega)]; simp; omega

end Go.Proofs.YtoiehkpmemmldaaDoor
