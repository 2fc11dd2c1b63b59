import Derived.Test.YtgijbjipidbnkaaWj
namespace Go.Proofs.Ytgijbjipidbnkaa
open Go.RowKit Go.Deep
/-- an int -/
def I64 (x : Int) : Prop := -9223372036854775808 ≤ x ∧ x ≤ 9223372036854775807
/-- a run has a place -/
def hasB (x : Int × Int) (f : Int) : Bool := decide (0 < x.2) && (decide (x.1 ≤ f) && decide (f - x.2 < x.1))
def wantB (rs : List (Int × Int)) (f : Int) : Bool := if f < 0 then false else (rs.length == 0 || rs.any fun x => hasB x f)
theorem wrapU_id {x : Int} (h0 : 0 ≤ x) (h1 : x < 18446744073709551616) : IntKind.u64.wrap x = x := by
  simp [IntKind.wrap, IntKind.bits, IntKind.signed]; omega
theorem wrapU_sub {p f : Int} (hp : I64 p) (hf : I64 f) (h : f ≤ p) : IntKind.u64.wrap (IntKind.u64.wrap p - IntKind.u64.wrap f) = p - f := by
  obtain ⟨a1, a2⟩ := hp
  obtain ⟨b1, b2⟩ := hf
  simp [IntKind.wrap, IntKind.bits, IntKind.signed]; omega
theorem ret_b {a b : Bool} (h : a = b) : Ending.returned (.bool a) = .returned (.bool b) := by rw [h]
set_option maxHeartbeats 1000000 in
theorem has (x : Int × Int) (f : Int) (w : World) (h1 : I64 x.1) (h2 : I64 x.2) (hf : I64 f) :
    Calls Try.prog 15 #[.agg #[.int .i64 x.1, .int .i64 x.2], .int .i64 f] w fun e w' => e = .returned (.bool (hasB x f)) ∧ Below w.heap.size w w' := by
  obtain ⟨a, b⟩ := x
  have HE : Hid (hasB (a, b) f = (decide (0 < b) && (decide (a ≤ f) && decide (f - b < a)))) := rfl
  have HB : Hid (Below w.heap.size w (w.alloc (Obj.cells #[.int .i64 a, .int .i64 b] 42))) := (Below.refl _ _).alloc (Nat.le_refl _) _
  show Calls Try.prog 15 #[.agg #[.int .i64 a, .int .i64 b], .int .i64 f] w _
  by_cases c1 : a ≤ f
  · by_cases c2 : 0 < b
    · have hw := wrapU_sub hf h1 c1
      have hw2 := wrapU_id (x := b) (by omega) (by have := h2.2; simp at this; omega)
      have HR : Hid (decide (f - a < b) = hasB (a, b) f) := by
        rw [HE.out, decide_eq_true c2, decide_eq_true c1, Bool.true_and, Bool.true_and]
        have h9 : decide (f - a < b) = decide (f - b < a) := by rw [decide_eq_decide]; omega
        exact h9
      clear HE h1 h2 hf
      go_enter Try.func15, Try.ntmps15
      go_wp2
      go_ret
      exact ⟨ret_b HR.out, HB.out⟩
    · have HR : Hid (false = hasB (a, b) f) := by
        rw [HE.out, decide_eq_false c2]; rfl
      clear HE h1 h2 hf
      go_enter Try.func15, Try.ntmps15
      go_wp2
      go_ret
      exact ⟨ret_b HR.out, HB.out⟩
  · have HR : Hid (false = hasB (a, b) f) := by
      rw [HE.out, decide_eq_false c1, Bool.false_and, Bool.and_false]; exact (rfl : false = false)
    clear HE h1 h2 hf
    go_enter Try.func15, Try.ntmps15
    go_wp2
    go_ret
    exact ⟨ret_b HR.out, HB.out⟩
set_option maxHeartbeats 1000000 in
theorem wanted1 (x : Int × Int) (f : Int) (b : Nat) (w : World) (hb : w.cell? ⟨b, 0, none⟩ = some (.int .i64 f)) (h1 : I64 x.1) (h2 : I64 x.2) (hf : I64 f) :
    Calls Try.prog 14 #[.agg #[.int .i64 x.1, .int .i64 x.2], .pointer (some ⟨b, 0, none⟩)] w fun e w' => e = .returned (.bool (hasB x f)) ∧ Below w.heap.size w w' := by
  have HB : Hid (Below w.heap.size w (w.alloc (Obj.cells #[.int .i64 x.1, .int .i64 x.2] 42))) := (Below.refl _ _).alloc (Nat.le_refl _) _
  have hb' := cell_alloc_old (o := Obj.cells #[.int .i64 x.1, .int .i64 x.2] 42) hb
  have HH : Hid (∀ w, Calls Try.prog 15 #[.agg #[.int .i64 x.1, .int .i64 x.2], .int .i64 f] w fun e w' => e = .returned (.bool (hasB x f)) ∧ Below w.heap.size w w') := fun w => has x f w h1 h2 hf
  clear h1 h2 hf
  generalize hasB x f = r at *
  go_enter Try.func14, Try.ntmps14
  go_wp2_with fail
  refine (HH.out _).mono ?_
  rintro e w1 ⟨rfl, b1⟩
  have HB1 : Hid (Below w.heap.size w w1) := HB.out.trans (b1.mono HB.out.size)
  clear b1 hb hb'
  go_wp2
  go_ret
  exact ⟨rfl, HB1.out⟩
set_option maxHeartbeats 1000000 in
theorem indexFunc (v : Value) (rs : List (Int × Int)) (f : Int) (b : Nat) (w : World) (h : RR (fun _ => True) w v rs) (hn : rs.length ≤ 140737488351232) (hi : ∀ x ∈ rs, I64 x.1 ∧ I64 x.2) (hf : I64 f) (hb : w.cell? ⟨b, 0, none⟩ = some (.int .i64 f)) :
    Calls Try.prog 20 #[v, .func (Fn.func 14) #[] #[.pointer (some ⟨b, 0, none⟩)]] w fun en w' => ∃ r : Int, en = .returned (.int .i64 r) ∧ decide (0 ≤ r) = rs.any (fun x => hasB x f) ∧ Below w.heap.size w w' := by
  obtain ⟨a, c, rfl, hx⟩ := h
  have HX := Lib.hid hx
  have HI0 : Hid ((∀ x ∈ rs, I64 x.1 ∧ I64 x.2) ∧ I64 f ∧ w.cell? ⟨b, 0, none⟩ = some (.int .i64 f)) := ⟨hi, hf, hb⟩
  generalize hnn : rs.length = n at *
  have HNN := Lib.hid hnn
  clear hx hnn hi hf hb
  go_enter Try.func20, Try.ntmps20
  go_wp2
  go_loopw [8] (fun t wr => ∃ i : Nat, i ≤ n ∧ t = .int .i64 i ∧ Hid (Below w.heap.size w wr ∧ ∀ (j : Nat) (y : Int × Int), j < i → rs[j]? = some y → hasB y f = false)) (fun t _ => n - (intOf t).toNat)
  case atStart => exact ⟨0, Nat.zero_le _, rfl, Below.refl _ _, fun j y hj => absurd hj (Nat.not_lt_zero _)⟩
  case round =>
    obtain ⟨i, hi, rfl, HI⟩ := hrel
    by_cases hlt : i < n
    · obtain ⟨x, hx⟩ : ∃ x, rs[i]? = some x := ⟨_, List.getElem?_eq_getElem (by rw [HNN.out]; exact hlt)⟩
      obtain ⟨g, o, rfl, _, hg, hc⟩ := HX.out.resolve_left (fun e => by rw [e] at hlt; omega)
      have g0 := Below.cellS HI.out.1 (Nat.le_refl _) (hc i x hx).1
      have g1 := Below.cellS HI.out.1 (Nat.le_refl _) (hc i x hx).2
      have HXI := Lib.hid hx
      have HW : Hid (Calls Try.prog 14 #[.agg #[.int .i64 x.1, .int .i64 x.2], .pointer (some ⟨b, 0, none⟩)] wr fun e w' => e = .returned (.bool (hasB x f)) ∧ Below wr.heap.size wr w') := wanted1 x f b wr (Below.cellS HI.out.1 (Nat.le_refl _) HI0.out.2.2) (HI0.out.1 x (List.mem_of_getElem? hx)).1 (HI0.out.1 x (List.mem_of_getElem? hx)).2 HI0.out.2.1
      clear hc hx
      go_wp2_with fail
      refine HW.out.mono ?_
      rintro en w1 ⟨rfl, b1⟩
      have HB1 : Hid (Below w.heap.size w w1) := HI.out.1.trans (b1.mono HI.out.1.size)
      clear g0 g1 b1 HW
      cases hid : hasB x f with
      | true =>
        have HE : Hid (rs.any (fun x => hasB x f) = true) := List.any_eq_true.2 ⟨_, List.mem_of_getElem? HXI.out, hid⟩
        clear hid HI
        go_wp2
        go_ret
        refine ⟨i, rfl, ?_, HB1.out⟩
        rw [HE.out]
        exact decide_eq_true (by omega)
      | false =>
        have HJ : Hid (Below w.heap.size w w1 ∧ ∀ (j : Nat) (y : Int × Int), j < i + 1 → rs[j]? = some y → hasB y f = false) := ⟨HB1.out, fun j y hj hy => by
          rcases Nat.lt_succ_iff_lt_or_eq.1 hj with h | rfl
          · exact HI.out.2 j y h hy
          · have h9 := HXI.out
            rw [hy] at h9
            cases h9
            exact hid⟩
        clear hid HI
        go_wp2
        exact ⟨⟨i + 1, by omega, by go_num, HJ⟩, by simp [intOf]; omega⟩
    · obtain rfl : i = n := by omega
      have HE : Hid (rs.any (fun x => hasB x f) = false) := by
        show _ = false
        rw [List.any_eq_false]
        intro x hx
        obtain ⟨j, hj⟩ := List.mem_iff_getElem?.1 hx
        have := HI.out.2 j x (by have := (List.getElem?_eq_some_iff.1 hj).1; have := HNN.out; omega) hj
        simp [this]
      have HB1 : Hid (Below w.heap.size w wr) := HI.out.1
      clear HI
      go_wp2
      go_ret
      exact ⟨-1, rfl, by rw [HE.out]; rfl, HB1.out⟩
set_option maxHeartbeats 1000000 in
theorem containsFunc (v : Value) (rs : List (Int × Int)) (f : Int) (b : Nat) (w : World) (h : RR (fun _ => True) w v rs) (hn : rs.length ≤ 140737488351232) (hi : ∀ x ∈ rs, I64 x.1 ∧ I64 x.2) (hf : I64 f) (hb : w.cell? ⟨b, 0, none⟩ = some (.int .i64 f)) :
    Calls Try.prog 13 #[v, .func (Fn.func 14) #[] #[.pointer (some ⟨b, 0, none⟩)]] w fun en w' => en = .returned (.bool (rs.any (fun x => hasB x f))) ∧ Below w.heap.size w w' := by
  have H := Lib.hid (indexFunc v rs f b w h hn hi hf hb)
  obtain ⟨a, c, rfl, -⟩ := h
  clear hi hf hb
  go_enter Try.func13, Try.ntmps13
  go_wp2_with fail
  refine H.out.mono ?_
  rintro en w1 ⟨r, rfl, hr, b1⟩
  have HB := Lib.hid b1
  have HR := Lib.hid hr
  clear b1 hr H
  go_wp2
  go_ret
  exact ⟨ret_b HR.out, HB.out⟩
end Go.Proofs.Ytgijbjipidbnkaa
