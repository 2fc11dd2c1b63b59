import Derived.Test.YtjfgpplomldeiaaGreatDoorMa
import Derived.Test.YtjfgpplomldeiaaGreatDoorWj
import Derived.Shelf.Strings.Prefix
namespace Go.Proofs.YtjfgpplomldeiaaGreatDoor
open Go.Shelf Go.RowKit Go.Deep
theorem tl_eq (s : ByteArray) : s.toList = s.data.toList := ByteArray.toList_eq s
/-- the kind of a key -/
def kdR (key : ByteArray) : Nat :=
  if key.toList == [120, 116] then 0 else if key.toList == [100, 110] then 1 else if key.toList == [115, 111] then 2 else if key.toList == [116, 114] then 3 else if key.toList == [120, 46, 112, 101] then 4 else 5
theorem ret_n {a b : Nat} (h : a = b) : Ending.returned (.int .i64 (a : Int)) = .returned (.int .i64 (b : Int)) := by rw [h]
set_option maxHeartbeats 1000000 in
theorem rkind (key : ByteArray) (w : World) : Calls Tryz.prog 19 #[.string key] w fun e w' => e = .returned (.int .i64 ((kdR key + 0 : Nat) : Int)) ∧ w' = w := by
  have HK : Hid (kdR key = if key.toList == [120, 116] then 0 else if key.toList == [100, 110] then 1 else if key.toList == [115, 111] then 2 else if key.toList == [116, 114] then 3 else if key.toList == [120, 46, 112, 101] then 4 else 5) := rfl
  generalize kdR key = kk at *
  cases h0 : (key.toList == [120, 116]) with
  | true =>
    have HR : Hid (0 = kk + 0) := by have := HK.out; rw [h0] at this; rw [this]; exact (rfl : 0 = 0 + 0)
    clear HK
    go_enter Tryz.func19, Tryz.ntmps19
    go_wp2
    go_ret
    exact ⟨ret_n HR.out, rfl⟩
  | false =>
    cases h1 : (key.toList == [100, 110]) with
    | true =>
      have HR : Hid (1 = kk + 0) := by have := HK.out; rw [h0, h1] at this; rw [this]; exact (rfl : 1 = 1 + 0)
      clear HK
      go_enter Tryz.func19, Tryz.ntmps19
      go_wp2
      go_ret
      exact ⟨ret_n HR.out, rfl⟩
    | false =>
      cases h2 : (key.toList == [115, 111]) with
      | true =>
        have HR : Hid (2 = kk + 0) := by have := HK.out; rw [h0, h1, h2] at this; rw [this]; exact (rfl : 2 = 2 + 0)
        clear HK
        go_enter Tryz.func19, Tryz.ntmps19
        go_wp2
        go_ret
        exact ⟨ret_n HR.out, rfl⟩
      | false =>
        cases h3 : (key.toList == [116, 114]) with
        | true =>
          have HR : Hid (3 = kk + 0) := by have := HK.out; rw [h0, h1, h2, h3] at this; rw [this]; exact (rfl : 3 = 3 + 0)
          clear HK
          go_enter Tryz.func19, Tryz.ntmps19
          go_wp2
          go_ret
          exact ⟨ret_n HR.out, rfl⟩
        | false =>
          cases h4 : (key.toList == [120, 46, 112, 101]) with
          | true =>
            have HR : Hid (4 = kk + 0) := by have := HK.out; rw [h0, h1, h2, h3, h4] at this; rw [this]; exact (rfl : 4 = 4 + 0)
            clear HK
            go_enter Tryz.func19, Tryz.ntmps19
            go_wp2
            go_ret
            exact ⟨ret_n HR.out, rfl⟩
          | false =>
            have HR : Hid (5 = kk + 0) := by have := HK.out; rw [h0, h1, h2, h3, h4] at this; rw [this]; exact (rfl : 5 = 5 + 0)
            clear HK
            go_enter Tryz.func19, Tryz.ntmps19
            go_wp2
            go_ret
            exact ⟨ret_n HR.out, rfl⟩
set_option maxHeartbeats 1000000 in
theorem kindOf (key : ByteArray) (w : World) : Calls Tryz.prog 42 #[.string key] w fun e w' => e = .returned (.int .i64 ((kdR key + 1 : Nat) : Int)) ∧ w' = w := by
  have HK : Hid (kdR key = if key.toList == [120, 116] then 0 else if key.toList == [100, 110] then 1 else if key.toList == [115, 111] then 2 else if key.toList == [116, 114] then 3 else if key.toList == [120, 46, 112, 101] then 4 else 5) := rfl
  generalize kdR key = kk at *
  cases h0 : (key.toList == [120, 116]) with
  | true =>
    have HR : Hid (1 = kk + 1) := by have := HK.out; rw [h0] at this; rw [this]; exact (rfl : 1 = 0 + 1)
    clear HK
    go_enter Tryz.func42, Tryz.ntmps42
    go_wp2
    go_ret
    exact ⟨ret_n HR.out, rfl⟩
  | false =>
    cases h1 : (key.toList == [100, 110]) with
    | true =>
      have HR : Hid (2 = kk + 1) := by have := HK.out; rw [h0, h1] at this; rw [this]; exact (rfl : 2 = 1 + 1)
      clear HK
      go_enter Tryz.func42, Tryz.ntmps42
      go_wp2
      go_ret
      exact ⟨ret_n HR.out, rfl⟩
    | false =>
      cases h2 : (key.toList == [115, 111]) with
      | true =>
        have HR : Hid (3 = kk + 1) := by have := HK.out; rw [h0, h1, h2] at this; rw [this]; exact (rfl : 3 = 2 + 1)
        clear HK
        go_enter Tryz.func42, Tryz.ntmps42
        go_wp2
        go_ret
        exact ⟨ret_n HR.out, rfl⟩
      | false =>
        cases h3 : (key.toList == [116, 114]) with
        | true =>
          have HR : Hid (4 = kk + 1) := by have := HK.out; rw [h0, h1, h2, h3] at this; rw [this]; exact (rfl : 4 = 3 + 1)
          clear HK
          go_enter Tryz.func42, Tryz.ntmps42
          go_wp2
          go_ret
          exact ⟨ret_n HR.out, rfl⟩
        | false =>
          cases h4 : (key.toList == [120, 46, 112, 101]) with
          | true =>
            have HR : Hid (5 = kk + 1) := by have := HK.out; rw [h0, h1, h2, h3, h4] at this; rw [this]; exact (rfl : 5 = 4 + 1)
            clear HK
            go_enter Tryz.func42, Tryz.ntmps42
            go_wp2
            go_ret
            exact ⟨ret_n HR.out, rfl⟩
          | false =>
            have HR : Hid (6 = kk + 1) := by have := HK.out; rw [h0, h1, h2, h3, h4] at this; rw [this]; exact (rfl : 6 = 5 + 1)
            clear HK
            go_enter Tryz.func42, Tryz.ntmps42
            go_wp2
            go_ret
            exact ⟨ret_n HR.out, rfl⟩
/-- is the string one of the list -/
def winB (ts : List ByteArray) (s : ByteArray) : Bool := ts.any fun t => t.toList == s.toList
set_option maxHeartbeats 1000000 in
theorem rwithin (v : Value) (ts : List ByteArray) (s : ByteArray) (w : World) (h : RS (fun _ => True) w v ts) (hn : ts.length ≤ 140737488351232) :
    Calls Tryz.prog 29 #[v, .string s] w fun e w' => e = .returned (.bool (winB ts s)) ∧ w' = w := by
  obtain ⟨a, c, rfl, hx⟩ := h
  have HX := Lib.hid hx
  generalize hnn : ts.length = n at *
  have HNN := Lib.hid hnn
  clear hx hnn
  go_enter Tryz.func29, Tryz.ntmps29
  go_wp2
  go_loopw [5] (fun t wr => ∃ i : Nat, i ≤ n ∧ t = .int .i64 i ∧ wr = w ∧ Hid (∀ (j : Nat) (x : ByteArray), j < i → ts[j]? = some x → (x.toList == s.toList) = false)) (fun t _ => n - (intOf t).toNat)
  case atStart => exact ⟨0, Nat.zero_le _, rfl, rfl, (fun j x h => absurd h (Nat.not_lt_zero _) : ∀ (j : Nat) (x : ByteArray), j < 0 → ts[j]? = some x → (x.toList == s.toList) = false)⟩
  case round =>
    obtain ⟨i, hi, rfl, rfl, HI⟩ := hrel
    by_cases hlt : i < n
    · obtain ⟨x, hx⟩ : ∃ x, ts[i]? = some x := ⟨_, List.getElem?_eq_getElem (by rw [HNN.out]; exact hlt)⟩
      obtain ⟨g, o, rfl, _, hg, hc⟩ := HX.out.resolve_left (fun e => by rw [e] at hlt; omega)
      have g0 := hc i x hx
      have HXI := Lib.hid hx
      clear hc hx
      cases he : (x.toList == s.toList) with
      | true =>
        have HE : Hid (true = winB ts s) := by
          have h9 : winB ts s = true := List.any_eq_true.2 ⟨x, List.mem_of_getElem? HXI.out, he⟩
          exact h9.symm
        clear HI
        go_wp2
        go_ret
        exact ⟨ret_b HE.out, rfl⟩
      | false =>
        have HJ : Hid (∀ (j : Nat) (y : ByteArray), j < i + 1 → ts[j]? = some y → (y.toList == s.toList) = false) := fun j y hj hy => by
          rcases Nat.lt_succ_iff_lt_or_eq.1 hj with h | rfl
          · exact HI.out j y h hy
          · have h9 := HXI.out
            rw [hy] at h9
            cases h9
            exact he
        clear HI
        go_wp2
        exact ⟨⟨i + 1, by omega, by go_num, by trivial, HJ⟩, by simp [intOf]; omega⟩
    · have HE : Hid (false = winB ts s) := by
        have h9 : winB ts s = false := by
          unfold winB
          rw [List.any_eq_false]
          intro x hx
          obtain ⟨j, hj⟩ := List.mem_iff_getElem?.1 hx
          have := HI.out j x (by have := (List.getElem?_eq_some_iff.1 hj).1; have := HNN.out; omega) hj
          simp [this]
        exact h9.symm
      clear HI
      go_wp2
      go_ret
      exact ⟨ret_b HE.out, rfl⟩
set_option maxHeartbeats 1000000 in
theorem slIndex (v : Value) (ts : List ByteArray) (s : ByteArray) (w : World) (h : RS (fun _ => True) w v ts) (hn : ts.length ≤ 140737488351232) :
    Calls Tryz.prog 51 #[v, .string s] w fun e w' => ∃ r : Int, e = .returned (.int .i64 r) ∧ decide (0 ≤ r) = winB ts s ∧ w' = w := by
  obtain ⟨a, c, rfl, hx⟩ := h
  have HX := Lib.hid hx
  generalize hnn : ts.length = n at *
  have HNN := Lib.hid hnn
  clear hx hnn
  go_enter Tryz.func51, Tryz.ntmps51
  go_wp2
  go_loopw [8] (fun t wr => ∃ i : Nat, i ≤ n ∧ t = .int .i64 i ∧ wr = w ∧ Hid (∀ (j : Nat) (x : ByteArray), j < i → ts[j]? = some x → (x.toList == s.toList) = false)) (fun t _ => n - (intOf t).toNat)
  case atStart => exact ⟨0, Nat.zero_le _, rfl, rfl, (fun j x h => absurd h (Nat.not_lt_zero _) : ∀ (j : Nat) (x : ByteArray), j < 0 → ts[j]? = some x → (x.toList == s.toList) = false)⟩
  case round =>
    obtain ⟨i, hi, rfl, rfl, HI⟩ := hrel
    by_cases hlt : i < n
    · obtain ⟨x, hx⟩ : ∃ x, ts[i]? = some x := ⟨_, List.getElem?_eq_getElem (by rw [HNN.out]; exact hlt)⟩
      obtain ⟨g, o, rfl, _, hg, hc⟩ := HX.out.resolve_left (fun e => by rw [e] at hlt; omega)
      have g0 := hc i x hx
      have HXI := Lib.hid hx
      have hcomm : (s.toList == x.toList) = (x.toList == s.toList) := by rw [Bool.eq_iff_iff, beq_iff_eq, beq_iff_eq]; exact eq_comm
      clear hc hx
      cases he : (x.toList == s.toList) with
      | true =>
        rw [he] at hcomm
        have HE : Hid (winB ts s = true) := List.any_eq_true.2 ⟨x, List.mem_of_getElem? HXI.out, he⟩
        clear HI
        go_wp2
        go_ret
        exact ⟨i, rfl, by rw [HE.out]; exact decide_eq_true (by omega), rfl⟩
      | false =>
        rw [he] at hcomm
        have HJ : Hid (∀ (j : Nat) (y : ByteArray), j < i + 1 → ts[j]? = some y → (y.toList == s.toList) = false) := fun j y hj hy => by
          rcases Nat.lt_succ_iff_lt_or_eq.1 hj with h | rfl
          · exact HI.out j y h hy
          · have h9 := HXI.out
            rw [hy] at h9
            cases h9
            exact he
        clear HI
        go_wp2
        exact ⟨⟨i + 1, by omega, by go_num, by trivial, HJ⟩, by simp [intOf]; omega⟩
    · have HE : Hid (winB ts s = false) := by
        have h9 : winB ts s = false := by
          unfold winB
          rw [List.any_eq_false]
          intro x hx
          obtain ⟨j, hj⟩ := List.mem_iff_getElem?.1 hx
          have := HI.out j x (by have := (List.getElem?_eq_some_iff.1 hj).1; have := HNN.out; omega) hj
          simp [this]
        exact h9
      clear HI
      go_wp2
      go_ret
      exact ⟨-1, rfl, by rw [HE.out]; rfl, rfl⟩
set_option maxHeartbeats 1000000 in
theorem contains (v : Value) (ts : List ByteArray) (s : ByteArray) (w : World) (h : RS (fun _ => True) w v ts) (hn : ts.length ≤ 140737488351232) :
    Calls Tryz.prog 34 #[v, .string s] w fun e w' => e = .returned (.bool (winB ts s)) ∧ w' = w := by
  have H := Lib.hid (slIndex v ts s w h hn)
  obtain ⟨a, c, rfl, -⟩ := h
  go_enter Tryz.func34, Tryz.ntmps34
  go_wp2_with fail
  refine H.out.mono ?_
  rintro en w1 ⟨r, rfl, hr, rfl⟩
  have HR := Lib.hid hr
  clear hr H
  go_wp2
  go_ret
  exact ⟨ret_b HR.out, rfl⟩
/-- a run of files -/
def RnOk (x : Int × Int) : Prop := (0 ≤ x.1 ∧ x.1 ≤ 4095) ∧ 1 ≤ x.2 ∧ x.2 ≤ 4096
/-- the runs rise, with a place between each two -/
def apB (rs : List (Int × Int)) : Bool := (List.range rs.length).all fun j => match rs[j]?, rs[j + 1]? with | some x, some y => decide (x.1 + x.2 < y.1) | _, _ => true
theorem apB_iff {rs : List (Int × Int)} : apB rs = true ↔ ∀ (j : Nat) (x y : Int × Int), rs[j]? = some x → rs[j + 1]? = some y → x.1 + x.2 < y.1 := by
  unfold apB
  rw [List.all_eq_true]
  constructor
  · intro h j x y hx hy
    have := h j (List.mem_range.2 (List.getElem?_eq_some_iff.1 hx).1)
    rw [hx, hy] at this
    exact of_decide_eq_true this
  · intro h j _
    cases hx : rs[j]? with
    | none => rfl
    | some x =>
      cases hy : rs[j + 1]? with
      | none => rfl
      | some y => exact decide_eq_true (h j x y hx hy)
set_option maxHeartbeats 2000000 in
theorem rapart (v : Value) (rs : List (Int × Int)) (w : World) (h : RR (fun _ => True) w v rs) (hn : rs.length ≤ 2147483647) (hb : ∀ x ∈ rs, RnOk x) :
    Calls Tryz.prog 17 #[v] w fun e w' => e = .returned (.bool (apB rs)) ∧ ∃ n, w' = w.drewN n := by
  obtain ⟨a, c, rfl, hx⟩ := h
  have HX := Lib.hid hx
  have HB : Hid (∀ x ∈ rs, RnOk x) := hb
  generalize hnn : rs.length = n at *
  have HNN := Lib.hid hnn
  clear hx hnn hb
  go_enter Tryz.func17, Tryz.ntmps17
  go_wp2
  go_loopw [3] (fun t wr => ∃ i nq : Nat, 1 ≤ i ∧ (i ≤ n ∨ i = 1) ∧ t = .int .i64 i ∧ wr = w.drewN nq ∧ Hid (∀ (j : Nat) (x y : Int × Int), j + 1 < i → rs[j]? = some x → rs[j + 1]? = some y → x.1 + x.2 < y.1)) (fun t _ => n - (intOf t).toNat)
  case atStart => exact ⟨1, 0, Nat.le_refl _, .inr rfl, rfl, rfl, (fun j x y h => by omega : ∀ (j : Nat) (x y : Int × Int), j + 1 < 1 → rs[j]? = some x → rs[j + 1]? = some y → x.1 + x.2 < y.1)⟩
  case round =>
    obtain ⟨i, n0, hi1, hi, rfl, rfl, HI⟩ := hrel
    by_cases hlt : i < n
    · obtain ⟨y, hy⟩ : ∃ y, rs[i]? = some y := ⟨_, List.getElem?_eq_getElem (by rw [HNN.out]; exact hlt)⟩
      obtain ⟨x, hx⟩ : ∃ x, rs[i - 1]? = some x := ⟨_, List.getElem?_eq_getElem (by rw [HNN.out]; omega)⟩
      obtain ⟨g, o, rfl, _, hg, hc⟩ := HX.out.resolve_left (fun e => by rw [e] at hlt; omega)
      obtain ⟨g0, g1⟩ := hc i y hy
      obtain ⟨g2, g3⟩ := hc (i - 1) x hx
      obtain ⟨⟨r1, r2⟩, r3, r4⟩ := HB.out x (List.mem_of_getElem? hx)
      obtain ⟨⟨s1, s2⟩, s3, s4⟩ := HB.out y (List.mem_of_getElem? hy)
      have HXY : Hid (rs[i - 1]? = some x ∧ rs[i]? = some y) := ⟨hx, hy⟩
      have ei : ((i : Int) - 1) = ((i - 1 : Nat) : Int) := by omega
      obtain ⟨k, rfl⟩ : ∃ k, i = k + 1 := ⟨i - 1, by omega⟩
      simp only [Nat.add_sub_cancel] at g2 g3 HXY ei
      clear hx hy hc ei
      obtain ⟨xa, xb⟩ := x
      obtain ⟨ya, yb⟩ := y
      simp only at g0 g1 g2 g3 r1 r2 r3 r4 s1 s2 s3 s4
      have hk1 : (((k + 1 : Nat) : Int) - 1) = (k : Int) := by omega
      by_cases hcmp : xa + xb < ya
      · have HJ : Hid (∀ (j : Nat) (x y : Int × Int), j + 1 < k + 1 + 1 → rs[j]? = some x → rs[j + 1]? = some y → x.1 + x.2 < y.1) := fun j x y hj h1 h2 => by
          rcases Nat.lt_succ_iff_lt_or_eq.1 hj with h | h
          · exact HI.out j x y h h1 h2
          · obtain rfl : j = k := by omega
            have h3 := HXY.out.1
            have h4 := HXY.out.2
            rw [h1] at h3
            rw [h2] at h4
            cases h3
            cases h4
            exact hcmp
        clear HI HXY
        go_wp2
        go_quiet (fail)
        go_wp2
        exact ⟨⟨k + 1 + 1, _, by omega, .inl (by omega), by go_num, rfl, HJ⟩, by simp [intOf]; omega⟩
      · have HE : Hid (false = apB rs) := by
          have h9 : apB rs = false := by
            rw [Bool.eq_false_iff]
            intro ht
            exact hcmp (apB_iff.1 ht k _ _ HXY.out.1 HXY.out.2)
          exact h9.symm
        clear HI HXY
        go_wp2
        go_quiet (fail)
        go_wp2
        go_ret
        exact ⟨ret_b HE.out, n0 + nq, by simp⟩
    · have HE : Hid (true = apB rs) := by
        have h9 : apB rs = true := apB_iff.2 fun j x y h1 h2 => HI.out j x y (by have := (List.getElem?_eq_some_iff.1 h2).1; have := HNN.out; omega) h1 h2
        exact h9.symm
      clear HI
      go_wp2
      go_ret
      exact ⟨ret_b HE.out, n0, rfl⟩
set_option maxHeartbeats 2000000 in
theorem areApart (v : Value) (rs : List (Int × Int)) (w : World) (h : RR (fun _ => True) w v rs) (hn : rs.length ≤ 2147483647) (hb : ∀ x ∈ rs, RnOk x) :
    Calls Tryz.prog 39 #[v] w fun e w' => e = .returned (.bool (apB rs)) ∧ ∃ n, w' = w.drewN n := by
  obtain ⟨a, c, rfl, hx⟩ := h
  have HX := Lib.hid hx
  have HB : Hid (∀ x ∈ rs, RnOk x) := hb
  generalize hnn : rs.length = n at *
  have HNN := Lib.hid hnn
  clear hx hnn hb
  go_enter Tryz.func39, Tryz.ntmps39
  go_wp2
  go_loopw [3] (fun t wr => ∃ i nq : Nat, 1 ≤ i ∧ (i ≤ n ∨ i = 1) ∧ t = .int .i64 i ∧ wr = w.drewN nq ∧ Hid (∀ (j : Nat) (x y : Int × Int), j + 1 < i → rs[j]? = some x → rs[j + 1]? = some y → x.1 + x.2 < y.1)) (fun t _ => n - (intOf t).toNat)
  case atStart => exact ⟨1, 0, Nat.le_refl _, .inr rfl, rfl, rfl, (fun j x y h => by omega : ∀ (j : Nat) (x y : Int × Int), j + 1 < 1 → rs[j]? = some x → rs[j + 1]? = some y → x.1 + x.2 < y.1)⟩
  case round =>
    obtain ⟨i, n0, hi1, hi, rfl, rfl, HI⟩ := hrel
    by_cases hlt : i < n
    · obtain ⟨y, hy⟩ : ∃ y, rs[i]? = some y := ⟨_, List.getElem?_eq_getElem (by rw [HNN.out]; exact hlt)⟩
      obtain ⟨x, hx⟩ : ∃ x, rs[i - 1]? = some x := ⟨_, List.getElem?_eq_getElem (by rw [HNN.out]; omega)⟩
      obtain ⟨g, o, rfl, _, hg, hc⟩ := HX.out.resolve_left (fun e => by rw [e] at hlt; omega)
      obtain ⟨g0, g1⟩ := hc i y hy
      obtain ⟨g2, g3⟩ := hc (i - 1) x hx
      obtain ⟨⟨r1, r2⟩, r3, r4⟩ := HB.out x (List.mem_of_getElem? hx)
      obtain ⟨⟨s1, s2⟩, s3, s4⟩ := HB.out y (List.mem_of_getElem? hy)
      have HXY : Hid (rs[i - 1]? = some x ∧ rs[i]? = some y) := ⟨hx, hy⟩
      have ei : ((i : Int) - 1) = ((i - 1 : Nat) : Int) := by omega
      obtain ⟨k, rfl⟩ : ∃ k, i = k + 1 := ⟨i - 1, by omega⟩
      simp only [Nat.add_sub_cancel] at g2 g3 HXY ei
      clear hx hy hc ei
      obtain ⟨xa, xb⟩ := x
      obtain ⟨ya, yb⟩ := y
      simp only at g0 g1 g2 g3 r1 r2 r3 r4 s1 s2 s3 s4
      have hk1 : (((k + 1 : Nat) : Int) - 1) = (k : Int) := by omega
      by_cases hcmp : xa + xb < ya
      · have HJ : Hid (∀ (j : Nat) (x y : Int × Int), j + 1 < k + 1 + 1 → rs[j]? = some x → rs[j + 1]? = some y → x.1 + x.2 < y.1) := fun j x y hj h1 h2 => by
          rcases Nat.lt_succ_iff_lt_or_eq.1 hj with h | h
          · exact HI.out j x y h h1 h2
          · obtain rfl : j = k := by omega
            have h3 := HXY.out.1
            have h4 := HXY.out.2
            rw [h1] at h3
            rw [h2] at h4
            cases h3
            cases h4
            exact hcmp
        clear HI HXY
        go_wp2
        go_quiet (fail)
        go_wp2
        exact ⟨⟨k + 1 + 1, _, by omega, .inl (by omega), by go_num, rfl, HJ⟩, by simp [intOf]; omega⟩
      · have HE : Hid (false = apB rs) := by
          have h9 : apB rs = false := by
            rw [Bool.eq_false_iff]
            intro ht
            exact hcmp (apB_iff.1 ht k _ _ HXY.out.1 HXY.out.2)
          exact h9.symm
        clear HI HXY
        go_wp2
        go_quiet (fail)
        go_wp2
        go_ret
        exact ⟨ret_b HE.out, n0 + nq, by simp⟩
    · have HE : Hid (true = apB rs) := by
        have h9 : apB rs = true := apB_iff.2 fun j x y h1 h2 => HI.out j x y (by have := (List.getElem?_eq_some_iff.1 h2).1; have := HNN.out; omega) h1 h2
        exact h9.symm
      clear HI
      go_wp2
      go_ret
      exact ⟨ret_b HE.out, n0, rfl⟩
end Go.Proofs.YtjfgpplomldeiaaGreatDoor
