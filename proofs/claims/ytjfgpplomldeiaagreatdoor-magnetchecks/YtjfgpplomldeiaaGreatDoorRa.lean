import Derived.Test.YtjfgpplomldeiaaGreatDoorPa
namespace Go.Proofs.YtjfgpplomldeiaaGreatDoor
open Go.RowKit Go.Deep
/-- an int -/
def I64 (x : Int) : Prop := -9223372036854775808 ≤ x ∧ x ≤ 9223372036854775807
/-- a run that is no run of places of files -/
def srB (x : Int × Int) : Bool := decide (x.1 < 0) || (decide (x.2 < 1) || decide (4096 - x.2 < x.1))
set_option maxHeartbeats 1000000 in
theorem isStrayRun (x : Int × Int) (w : World) (h1 : I64 x.1) (h2 : I64 x.2) :
    Calls Tryz.prog 36 #[.agg #[.int .i64 x.1, .int .i64 x.2]] w fun e w' => e = .returned (.bool (srB x)) ∧ Below w.heap.size w w' := by
  obtain ⟨a, b⟩ := x
  have HE : Hid (srB (a, b) = (decide (a < 0) || (decide (b < 1) || decide (4096 - b < a)))) := rfl
  have HB : Hid (Below w.heap.size w (w.alloc (Obj.cells #[.int .i64 a, .int .i64 b] 53))) := (Below.refl _ _).alloc (Nat.le_refl _) _
  show Calls Tryz.prog 36 #[.agg #[.int .i64 a, .int .i64 b]] w _
  obtain ⟨p1, p2⟩ := h1
  obtain ⟨q1, q2⟩ := h2
  simp only at p1 p2 q1 q2
  by_cases c1 : a < 0
  · have HR : Hid (true = srB (a, b)) := by rw [HE.out, decide_eq_true c1]; rfl
    clear HE p1 p2 q1 q2
    go_enter Tryz.func36, Tryz.ntmps36
    go_wp2
    go_ret
    exact ⟨ret_b HR.out, HB.out⟩
  · by_cases c2 : b < 1
    · have HR : Hid (true = srB (a, b)) := by rw [HE.out, decide_eq_false c1, decide_eq_true c2]; rfl
      clear HE p1 p2 q1 q2
      go_enter Tryz.func36, Tryz.ntmps36
      go_wp2
      go_ret
      exact ⟨ret_b HR.out, HB.out⟩
    · have HR : Hid (decide (4096 - b < a) = srB (a, b)) := by rw [HE.out, decide_eq_false c1, decide_eq_false c2, Bool.false_or, Bool.false_or]; exact rfl
      clear HE
      go_enter Tryz.func36, Tryz.ntmps36
      go_wp2
      go_ret
      exact ⟨ret_b HR.out, HB.out⟩
set_option maxHeartbeats 1000000 in
theorem indexRun (v : Value) (rs : List (Int × Int)) (w : World) (h : RR (fun _ => True) w v rs) (hn : rs.length ≤ 140737488351232) (hi : ∀ x ∈ rs, I64 x.1 ∧ I64 x.2) :
    Calls Tryz.prog 52 #[v, .func (Fn.func 36) #[] #[]] w fun en w' => ∃ r : Int, en = .returned (.int .i64 r) ∧ decide (0 ≤ r) = rs.any srB ∧ Below w.heap.size w w' := by
  obtain ⟨a, c, rfl, hx⟩ := h
  have HX := Lib.hid hx
  have HI0 : Hid (∀ x ∈ rs, I64 x.1 ∧ I64 x.2) := hi
  generalize hnn : rs.length = n at *
  have HNN := Lib.hid hnn
  clear hx hnn hi
  go_enter Tryz.func52, Tryz.ntmps52
  go_wp2
  go_loopw [8] (fun t wr => ∃ i : Nat, i ≤ n ∧ t = .int .i64 i ∧ Hid (Below w.heap.size w wr ∧ ∀ (j : Nat) (y : Int × Int), j < i → rs[j]? = some y → srB y = false)) (fun t _ => n - (intOf t).toNat)
  case atStart => exact ⟨0, Nat.zero_le _, rfl, Below.refl _ _, fun j y hj => absurd hj (Nat.not_lt_zero _)⟩
  case round =>
    obtain ⟨i, hi, rfl, HI⟩ := hrel
    by_cases hlt : i < n
    · obtain ⟨x, hx⟩ : ∃ x, rs[i]? = some x := ⟨_, List.getElem?_eq_getElem (by rw [HNN.out]; exact hlt)⟩
      obtain ⟨g, o, rfl, _, hg, hc⟩ := HX.out.resolve_left (fun e => by rw [e] at hlt; omega)
      have g0 := Below.cellS HI.out.1 (Nat.le_refl _) (hc i x hx).1
      have g1 := Below.cellS HI.out.1 (Nat.le_refl _) (hc i x hx).2
      have HXI := Lib.hid hx
      have HW : Hid (Calls Tryz.prog 36 #[.agg #[.int .i64 x.1, .int .i64 x.2]] wr fun e w' => e = .returned (.bool (srB x)) ∧ Below wr.heap.size wr w') := isStrayRun x wr (HI0.out x (List.mem_of_getElem? hx)).1 (HI0.out x (List.mem_of_getElem? hx)).2
      clear hc hx
      go_wp2_with fail
      refine HW.out.mono ?_
      rintro en w1 ⟨rfl, b1⟩
      have HB1 : Hid (Below w.heap.size w w1) := HI.out.1.trans (b1.mono HI.out.1.size)
      clear g0 g1 b1 HW
      cases hid : srB x with
      | true =>
        have HE : Hid (rs.any srB = true) := List.any_eq_true.2 ⟨_, List.mem_of_getElem? HXI.out, hid⟩
        clear hid HI
        go_wp2
        go_ret
        refine ⟨i, rfl, ?_, HB1.out⟩
        rw [HE.out]
        exact decide_eq_true (by omega)
      | false =>
        have HJ : Hid (Below w.heap.size w w1 ∧ ∀ (j : Nat) (y : Int × Int), j < i + 1 → rs[j]? = some y → srB y = false) := ⟨HB1.out, fun j y hj hy => by
          rcases Nat.lt_succ_iff_lt_or_eq.1 hj with h | rfl
          · exact HI.out.2 j y h hy
          · have h9 := HXI.out
            rw [hy] at h9
            cases h9
            exact hid⟩
        clear hid HI
        go_wp2
        exact ⟨⟨i + 1, by omega, by go_num, HJ⟩, by simp [intOf]; omega⟩
    · obtain rfl : i = n := by omega
      have HE : Hid (rs.any srB = false) := by
        show _ = false
        rw [List.any_eq_false]
        intro x hx
        obtain ⟨j, hj⟩ := List.mem_iff_getElem?.1 hx
        have := HI.out.2 j x (by have := (List.getElem?_eq_some_iff.1 hj).1; have := HNN.out; omega) hj
        simp [this]
      have HB1 : Hid (Below w.heap.size w wr) := HI.out.1
      clear HI
      go_wp2
      go_ret
      exact ⟨-1, rfl, by rw [HE.out]; rfl, HB1.out⟩
set_option maxHeartbeats 1000000 in
theorem containsRun (v : Value) (rs : List (Int × Int)) (w : World) (h : RR (fun _ => True) w v rs) (hn : rs.length ≤ 140737488351232) (hi : ∀ x ∈ rs, I64 x.1 ∧ I64 x.2) :
    Calls Tryz.prog 35 #[v, .func (Fn.func 36) #[] #[]] w fun en w' => en = .returned (.bool (rs.any srB)) ∧ Below w.heap.size w w' := by
  have H := Lib.hid (indexRun v rs w h hn hi)
  obtain ⟨a, c, rfl, -⟩ := h
  clear hi
  go_enter Tryz.func35, Tryz.ntmps35
  go_wp2_with fail
  refine H.out.mono ?_
  rintro en w1 ⟨r, rfl, hr, b1⟩
  have HB := Lib.hid b1
  have HR := Lib.hid hr
  clear b1 hr H
  go_wp2
  go_ret
  exact ⟨ret_b HR.out, HB.out⟩
end Go.Proofs.YtjfgpplomldeiaaGreatDoor
