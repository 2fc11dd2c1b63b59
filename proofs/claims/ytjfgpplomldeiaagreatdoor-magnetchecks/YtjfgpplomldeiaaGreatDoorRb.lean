import Derived.Test.YtjfgpplomldeiaaGreatDoorRa
namespace Go.Proofs.YtjfgpplomldeiaaGreatDoor
open Go.RowKit Go.Deep
def T.ln : T → Nat | .mk _ _ _ ln _ _ _ _ => ln | .no => 0
def T.dn : T → Nat | .mk _ _ _ _ _ dn _ _ => dn | .no => 0
theorem RV.sl {S : Nat → Prop} {w : World} {t : T} {x y : Value} (h : RV S w t x y) : ∃ a1 c1 a2 c2, x = .slice a1 t.ln c1 ∧ y = .slice a2 t.dn c2 := by
  cases t with
  | no => exact h.elim
  | mk k n s ln l dn ky dv =>
    obtain ⟨⟨a1, c1, h1, _⟩, a2, c2, h2, _⟩ := h
    exact ⟨a1, c1, a2, c2, h1, h2⟩
/-- a pair that may not be one of a link's -/
def spB (key : ByteArray) (t : T) : Bool := key.toList == [] || (!(t.k == 2) || (!(t.n == 0) || (decide (0 < t.ln) || decide (0 < t.dn))))
set_option maxHeartbeats 1000000 in
set_option maxRecDepth 100000 in
theorem isStrayPair (key s : ByteArray) (k n : Int) (a1 a2 : Option Addr) (n1 n2 : Nat) (c1 c2 : Nat) (w : World) :
    Calls Tryz.prog 38 #[.agg #[.string key, .int .i64 k, .int .i64 n, .string s, .slice a1 n1 c1, .slice a2 n2 c2]] w fun e w' => e = .returned (.bool (key.toList == [] || (!(k == 2) || (!(n == 0) || (decide (0 < n1) || decide (0 < n2)))))) ∧ Below w.heap.size w w' := by
  have HB : Hid (∀ o1 o2, Below w.heap.size w ((w.alloc o1).alloc o2)) := fun o1 o2 => ((Below.refl _ _).alloc (Nat.le_refl _) _).alloc (by simp) _
  cases h0 : (key.toList == []) with
  | true =>
    go_enter Tryz.func38, Tryz.ntmps38
    go_wp2
    go_ret
    exact ⟨ret_b (Bool.true_or _).symm, HB.out _ _⟩
  | false =>
    by_cases h1 : k = 2
    · subst h1
      by_cases h2 : n = 0
      · subst h2
        by_cases h3 : n1 = 0
        · subst h3
          go_enter Tryz.func38, Tryz.ntmps38
          go_wp2
          go_ret
          exact ⟨ret_b (by simp), HB.out _ _⟩
        · have h4 : 0 < n1 := by omega
          have HQ : Hid (0 < n1) := h4
          go_enter Tryz.func38, Tryz.ntmps38
          go_wp2
          go_ret
          exact ⟨ret_b (by simp [HQ.out]), HB.out _ _⟩
      · have HQ : Hid (¬ n = 0) := h2
        go_enter Tryz.func38, Tryz.ntmps38
        go_wp2
        go_ret
        exact ⟨ret_b (by simp [HQ.out]), HB.out _ _⟩
    · have HQ : Hid (¬ k = 2) := h1
      go_enter Tryz.func38, Tryz.ntmps38
      go_wp2
      go_ret
      exact ⟨ret_b (by simp [HQ.out]), HB.out _ _⟩
/-- is one of the pairs stray -/
def spA (dn : Nat) (ky : Nat → ByteArray) (dv : Nat → T) : Bool := (List.range dn).any fun i => spB (ky i) (dv i)
set_option maxHeartbeats 2000000 in
set_option maxRecDepth 100000 in
theorem indexPair (v : Value) (dn : Nat) (ky : Nat → ByteArray) (dv : Nat → T) (w : World) (h : RD (fun _ => True) w dn ky dv v) (hn : dn ≤ 140737488351232) :
    Calls Tryz.prog 53 #[v, .func (Fn.func 38) #[] #[]] w fun en w' => ∃ r : Int, en = .returned (.int .i64 r) ∧ decide (0 ≤ r) = spA dn ky dv ∧ Below w.heap.size w w' := by
  obtain ⟨a, c, rfl, hx⟩ := h
  have HX := Lib.hid hx
  clear hx
  go_enter Tryz.func53, Tryz.ntmps53
  go_wp2
  go_loopw [8] (fun t wr => ∃ i : Nat, i ≤ dn ∧ t = .int .i64 i ∧ Hid (Below w.heap.size w wr ∧ ∀ (j : Nat), j < i → spB (ky j) (dv j) = false)) (fun t _ => dn - (intOf t).toNat)
  case atStart => exact ⟨0, Nat.zero_le _, rfl, Below.refl _ _, fun j hj => absurd hj (Nat.not_lt_zero _)⟩
  case round =>
    obtain ⟨i, hi, rfl, HI⟩ := hrel
    by_cases hlt : i < dn
    · obtain ⟨g, o, rfl, _, hg, hc⟩ := HX.out.resolve_left (fun e => by rw [e] at hlt; omega)
      obtain ⟨x1, y1, hrv, e0, e1, e2, e3, e4, e5⟩ := hc i hlt
      obtain ⟨a1, c1, a2, c2, rfl, rfl⟩ := hrv.sl
      have g0 := Below.cellS HI.out.1 (Nat.le_refl _) e0
      have g1 := Below.cellS HI.out.1 (Nat.le_refl _) e1
      have g2 := Below.cellS HI.out.1 (Nat.le_refl _) e2
      have g3 := Below.cellS HI.out.1 (Nat.le_refl _) e3
      have g4 := Below.cellS HI.out.1 (Nat.le_refl _) e4
      have g5 := Below.cellS HI.out.1 (Nat.le_refl _) e5
      have HW : Hid (Calls Tryz.prog 38 #[.agg #[.string (ky i), .int .i64 (dv i).k, .int .i64 (dv i).n, .string (dv i).s, .slice a1 (dv i).ln c1, .slice a2 (dv i).dn c2]] wr fun e w' => e = .returned (.bool (spB (ky i) (dv i))) ∧ Below wr.heap.size wr w') := isStrayPair (ky i) (dv i).s (dv i).k (dv i).n a1 a2 (dv i).ln (dv i).dn c1 c2 wr
      clear hc e0 e1 e2 e3 e4 e5 hrv
      go_wp2_with fail
      refine HW.out.mono ?_
      rintro en w1 ⟨rfl, b1⟩
      have HB1 : Hid (Below w.heap.size w w1) := HI.out.1.trans (b1.mono HI.out.1.size)
      clear g0 g1 g2 g3 g4 g5 b1 HW
      cases hid : spB (ky i) (dv i) with
      | true =>
        have HE : Hid (spA dn ky dv = true) := List.any_eq_true.2 ⟨i, List.mem_range.2 hlt, hid⟩
        clear hid HI
        go_wp2
        go_ret
        refine ⟨i, rfl, ?_, HB1.out⟩
        rw [HE.out]
        exact decide_eq_true (by omega)
      | false =>
        have HJ : Hid (Below w.heap.size w w1 ∧ ∀ (j : Nat), j < i + 1 → spB (ky j) (dv j) = false) := ⟨HB1.out, fun j hj => by
          rcases Nat.lt_succ_iff_lt_or_eq.1 hj with h | rfl
          · exact HI.out.2 j h
          · exact hid⟩
        clear hid HI
        go_wp2
        exact ⟨⟨i + 1, by omega, by go_num, HJ⟩, by simp [intOf]; omega⟩
    · obtain rfl : i = dn := by omega
      have HE : Hid (spA i ky dv = false) := by
        have h9 : spA i ky dv = false := by
          rw [spA, List.any_eq_false]
          intro j hj
          simp [HI.out.2 j (List.mem_range.1 hj)]
        exact h9
      have HB1 : Hid (Below w.heap.size w wr) := HI.out.1
      clear HI
      go_wp2
      go_ret
      exact ⟨-1, rfl, by rw [HE.out]; rfl, HB1.out⟩
set_option maxHeartbeats 1000000 in
theorem containsPair (v : Value) (dn : Nat) (ky : Nat → ByteArray) (dv : Nat → T) (w : World) (h : RD (fun _ => True) w dn ky dv v) (hn : dn ≤ 140737488351232) :
    Calls Tryz.prog 37 #[v, .func (Fn.func 38) #[] #[]] w fun en w' => en = .returned (.bool (spA dn ky dv)) ∧ Below w.heap.size w w' := by
  have H := Lib.hid (indexPair v dn ky dv w h hn)
  obtain ⟨a, c, rfl, -⟩ := h
  go_enter Tryz.func37, Tryz.ntmps37
  go_wp2_with fail
  refine H.out.mono ?_
  rintro en w1 ⟨r, rfl, hr, b1⟩
  have HB := Lib.hid b1
  have HR := Lib.hid hr
  clear b1 hr H
  go_wp2
  go_ret
  exact ⟨ret_b HR.out, HB.out⟩
end Go.Proofs.YtjfgpplomldeiaaGreatDoor
