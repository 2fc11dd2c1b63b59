import Derived.Test.YtnpcbcfjnhjmmaaGreatDoorV24
import Derived.Test.YtnpcbcfjnhjmmaaGreatDoorV08
namespace Go.Proofs.YtnpcbcfjnhjmmaaGreatDoor
open Go.RowKit Go.Deep
/-- an int -/
def I64 (x : Int) : Prop := -9223372036854775808 ≤ x ∧ x ≤ 9223372036854775807
/-- a run that is no run of places of files -/
def srB (x : Int × Int) : Bool := decide (x.1 < 0) || (decide (x.2 < 1) || decide (4096 - x.2 < x.1))
set_option maxHeartbeats 1000000 in
theorem isStrayRun (x : Int × Int) (w : World) (h1 : I64 x.1) (h2 : I64 x.2) :
    Calls Tryz.prog 44 #[.agg #[.int .i64 x.1, .int .i64 x.2]] w fun e w' => e = .returned (.bool (srB x)) ∧ Below w.heap.size w w' := by
  obtain ⟨a, b⟩ := x
  have HE : Hid (srB (a, b) = (decide (a < 0) || (decide (b < 1) || decide (4096 - b < a)))) := rfl
  have HB : Hid (Below w.heap.size w (w.alloc (Obj.cells #[.int .i64 a, .int .i64 b] 36))) := (Below.refl _ _).alloc (Nat.le_refl _) _
  show Calls Tryz.prog 44 #[.agg #[.int .i64 a, .int .i64 b]] w _
  obtain ⟨p1, p2⟩ := h1
  obtain ⟨q1, q2⟩ := h2
  simp only at p1 p2 q1 q2
  by_cases c1 : a < 0
  · have HR : Hid (true = srB (a, b)) := by rw [HE.out, decide_eq_true c1]; rfl
    clear HE p1 p2 q1 q2
    go_enter Tryz.func44, Tryz.ntmps44
    go_wp2
    go_ret
    exact ⟨ret_b HR.out, HB.out⟩
  · by_cases c2 : b < 1
    · have HR : Hid (true = srB (a, b)) := by rw [HE.out, decide_eq_false c1, decide_eq_true c2]; rfl
      clear HE p1 p2 q1 q2
      go_enter Tryz.func44, Tryz.ntmps44
      go_wp2
      go_ret
      exact ⟨ret_b HR.out, HB.out⟩
    · have HR : Hid (decide (4096 - b < a) = srB (a, b)) := by rw [HE.out, decide_eq_false c1, decide_eq_false c2, Bool.false_or, Bool.false_or]; exact rfl
      clear HE
      go_enter Tryz.func44, Tryz.ntmps44
      go_wp2
      go_ret
      exact ⟨ret_b HR.out, HB.out⟩
set_option maxHeartbeats 1000000 in
theorem indexRun (v : Value) (rs : List (Int × Int)) (w : World) (h : RR (fun _ => True) w v rs) (hn : rs.length ≤ 140737488351232) (hi : ∀ x ∈ rs, I64 x.1 ∧ I64 x.2) :
    Calls Tryz.prog 56 #[v, .func (Fn.func 44) #[] #[]] w fun en w' => ∃ r : Int, en = .returned (.int .i64 r) ∧ decide (0 ≤ r) = rs.any srB ∧ Below w.heap.size w w' := by
  obtain ⟨a, c, rfl, hx⟩ := h
  have HX := Lib.hid hx
  have HI0 : Hid (∀ x ∈ rs, I64 x.1 ∧ I64 x.2) := hi
  generalize hnn : rs.length = n at *
  have HNN := Lib.hid hnn
  clear hx hnn hi
  go_enter Tryz.func56, Tryz.ntmps56
  go_wp2
  go_loopw [8] (fun t wr => ∃ i : Nat, i ≤ n ∧ t = .int .i64 i ∧ Hid (Below w.heap.size w wr ∧ ∀ (j : Nat) (y : Int × Int), j < i → rs[j]? = some y → srB y = false)) (fun t _ => n - (intOf t).toNat)
  case atStart => exact ⟨0, Nat.zero_le _, rfl, Below.refl _ _, fun j y hj => absurd hj (Nat.not_lt_zero _)⟩
  case round =>
    obtain ⟨i, hi, rfl, HI⟩ := hrel
    by_cases hlt : i < n
    · obtain ⟨x, hx⟩ : ∃ x, rs[i]? = some x := ⟨_, List.getElem?_eq_getElem (by rw [HNN.out]; exact hlt)⟩
      obtain ⟨g, o, rfl, _, hg, hc⟩ := HX.out.resolve_left (fun e => by rw [e] at hlt; omega)
      have g0 := Below.cellS HI.out.1 (Nat.le_refl _) (hc i x hx).1
      have g1 := Below.cellS HI.out.1 (Nat.le_refl _) (hc i x hx).2
      have HXI := Lib.hid hx
      have HW : Hid (Calls Tryz.prog 44 #[.agg #[.int .i64 x.1, .int .i64 x.2]] wr fun e w' => e = .returned (.bool (srB x)) ∧ Below wr.heap.size wr w') := isStrayRun x wr (HI0.out x (List.mem_of_getElem? hx)).1 (HI0.out x (List.mem_of_getElem? hx)).2
      clear hc hx
      go_wp2_with fail
      refine HW.out.mono ?_
      rintro en w1 ⟨rfl, b1⟩
      have HB1 : Hid (Below w.heap.size w w1) := HI.out.1.trans (b1.mono HI.out.1.size)
      clear g0 g1 b1 HW
      cases hid : srB x with
      | true =>
        have HE : Hid (rs.any srB = true) := List.any_eq_true.2 ⟨_, List.mem_of_getElem? HXI.out, hid⟩
        clear hid HI
        go_wp2
        go_ret
        refine ⟨i, rfl, ?_, HB1.out⟩
        rw [HE.out]
        exact decide_eq_true (by omega)
      | false =>
        have HJ : Hid (Below w.heap.size w w1 ∧ ∀ (j : Nat) (y : Int × Int), j < i + 1 → rs[j]? = some y → srB y = false) := ⟨HB1.out, fun j y hj hy => by
          rcases Nat.lt_succ_iff_lt_or_eq.1 hj with h | rfl
          · exact HI.out.2 j y h hy
          · have h9 := HXI.out
            rw [hy] at h9
            cases h9
            exact hid⟩
        clear hid HI
        go_wp2
        exact ⟨⟨i + 1, by omega, by go_num, HJ⟩, by simp [intOf]; omega⟩
    · obtain rfl : i = n := by omega
      have HE : Hid (rs.any srB = false) := by
        show _ = false
        rw [List.any_eq_false]
        intro x hx
        obtain ⟨j, hj⟩ := List.mem_iff_getElem?.1 hx
        have := HI.out.2 j x (by have := (List.getElem?_eq_some_iff.1 hj).1; have := HNN.out; omega) hj
        simp [this]
      have HB1 : Hid (Below w.heap.size w wr) := HI.out.1
      clear HI
      go_wp2
      go_ret
      exact ⟨-1, rfl, by rw [HE.out]; rfl, HB1.out⟩
set_option maxHeartbeats 1000000 in
theorem containsRun (v : Value) (rs : List (Int × Int)) (w : World) (h : RR (fun _ => True) w v rs) (hn : rs.length ≤ 140737488351232) (hi : ∀ x ∈ rs, I64 x.1 ∧ I64 x.2) :
    Calls Tryz.prog 29 #[v, .func (Fn.func 44) #[] #[]] w fun en w' => en = .returned (.bool (rs.any srB)) ∧ Below w.heap.size w w' := by
  have H := Lib.hid (indexRun v rs w h hn hi)
  obtain ⟨a, c, rfl, -⟩ := h
  clear hi
  go_enter Tryz.func29, Tryz.ntmps29
  go_wp2_with fail
  refine H.out.mono ?_
  rintro en w1 ⟨r, rfl, hr, b1⟩
  have HB := Lib.hid b1
  have HR := Lib.hid hr
  clear b1 hr H
  go_wp2
  go_ret
  exact ⟨ret_b HR.out, HB.out⟩
end Go.Proofs.YtnpcbcfjnhjmmaaGreatDoor
namespace Go.Proofs.YtnpcbcfjnhjmmaaGreatDoor
open Go.RowKit Go.Deep
def T.ln : T → Nat | .mk _ _ _ ln _ _ _ _ => ln | .no => 0
def T.dn : T → Nat | .mk _ _ _ _ _ dn _ _ => dn | .no => 0
theorem RV.sl {S : Nat → Prop} {w : World} {t : T} {x y : Value} (h : RV S w t x y) : ∃ a1 c1 a2 c2, x = .slice a1 t.ln c1 ∧ y = .slice a2 t.dn c2 := by
  cases t with
  | no => exact h.elim
  | mk k n s ln l dn ky dv =>
    obtain ⟨⟨a1, c1, h1, _⟩, a2, c2, h2, _⟩ := h
    exact ⟨a1, c1, a2, c2, h1, h2⟩
/-- a pair that may not be one of a link's -/
def spB (key : ByteArray) (t : T) : Bool := key.toList == [] || (!(t.k == 2) || (!(t.n == 0) || (decide (0 < t.ln) || decide (0 < t.dn))))
set_option maxHeartbeats 1000000 in
set_option maxRecDepth 100000 in
theorem isStrayPair (key s : ByteArray) (k n : Int) (a1 a2 : Option Addr) (n1 n2 : Nat) (c1 c2 : Nat) (w : World) :
    Calls Tryz.prog 46 #[.agg #[.string key, .int .i64 k, .int .i64 n, .string s, .slice a1 n1 c1, .slice a2 n2 c2]] w fun e w' => e = .returned (.bool (key.toList == [] || (!(k == 2) || (!(n == 0) || (decide (0 < n1) || decide (0 < n2)))))) ∧ Below w.heap.size w w' := by
  have HB : Hid (∀ o1 o2, Below w.heap.size w ((w.alloc o1).alloc o2)) := fun o1 o2 => ((Below.refl _ _).alloc (Nat.le_refl _) _).alloc (by simp) _
  cases h0 : (key.toList == []) with
  | true =>
    go_enter Tryz.func46, Tryz.ntmps46
    go_wp2
    go_ret
    exact ⟨ret_b (Bool.true_or _).symm, HB.out _ _⟩
  | false =>
    by_cases h1 : k = 2
    · subst h1
      by_cases h2 : n = 0
      · subst h2
        by_cases h3 : n1 = 0
        · subst h3
          go_enter Tryz.func46, Tryz.ntmps46
          go_wp2
          go_ret
          exact ⟨ret_b (by simp), HB.out _ _⟩
        · have h4 : 0 < n1 := by omega
          have HQ : Hid (0 < n1) := h4
          go_enter Tryz.func46, Tryz.ntmps46
          go_wp2
          go_ret
          exact ⟨ret_b (by simp [HQ.out]), HB.out _ _⟩
      · have HQ : Hid (¬ n = 0) := h2
        go_enter Tryz.func46, Tryz.ntmps46
        go_wp2
        go_ret
        exact ⟨ret_b (by simp [HQ.out]), HB.out _ _⟩
    · have HQ : Hid (¬ k = 2) := h1
      go_enter Tryz.func46, Tryz.ntmps46
      go_wp2
      go_ret
      exact ⟨ret_b (by simp [HQ.out]), HB.out _ _⟩
/-- is one of the pairs stray -/
def spA (dn : Nat) (ky : Nat → ByteArray) (dv : Nat → T) : Bool := (List.range dn).any fun i => spB (ky i) (dv i)
set_option maxHeartbeats 2000000 in
set_option maxRecDepth 100000 in
theorem indexPair (v : Value) (dn : Nat) (ky : Nat → ByteArray) (dv : Nat → T) (w : World) (h : RD (fun _ => True) w dn ky dv v) (hn : dn ≤ 140737488351232) :
    Calls Tryz.prog 69 #[v, .func (Fn.func 46) #[] #[]] w fun en w' => ∃ r : Int, en = .returned (.int .i64 r) ∧ decide (0 ≤ r) = spA dn ky dv ∧ Below w.heap.size w w' := by
  obtain ⟨a, c, rfl, hx⟩ := h
  have HX := Lib.hid hx
  clear hx
  go_enter Tryz.func69, Tryz.ntmps69
  go_wp2
  go_loopw [8] (fun t wr => ∃ i : Nat, i ≤ dn ∧ t = .int .i64 i ∧ Hid (Below w.heap.size w wr ∧ ∀ (j : Nat), j < i → spB (ky j) (dv j) = false)) (fun t _ => dn - (intOf t).toNat)
  case atStart => exact ⟨0, Nat.zero_le _, rfl, Below.refl _ _, fun j hj => absurd hj (Nat.not_lt_zero _)⟩
  case round =>
    obtain ⟨i, hi, rfl, HI⟩ := hrel
    by_cases hlt : i < dn
    · obtain ⟨g, o, rfl, _, hg, hc⟩ := HX.out.resolve_left (fun e => by rw [e] at hlt; omega)
      obtain ⟨x1, y1, hrv, e0, e1, e2, e3, e4, e5⟩ := hc i hlt
      obtain ⟨a1, c1, a2, c2, rfl, rfl⟩ := hrv.sl
      have g0 := Below.cellS HI.out.1 (Nat.le_refl _) e0
      have g1 := Below.cellS HI.out.1 (Nat.le_refl _) e1
      have g2 := Below.cellS HI.out.1 (Nat.le_refl _) e2
      have g3 := Below.cellS HI.out.1 (Nat.le_refl _) e3
      have g4 := Below.cellS HI.out.1 (Nat.le_refl _) e4
      have g5 := Below.cellS HI.out.1 (Nat.le_refl _) e5
      have HW : Hid (Calls Tryz.prog 46 #[.agg #[.string (ky i), .int .i64 (dv i).k, .int .i64 (dv i).n, .string (dv i).s, .slice a1 (dv i).ln c1, .slice a2 (dv i).dn c2]] wr fun e w' => e = .returned (.bool (spB (ky i) (dv i))) ∧ Below wr.heap.size wr w') := isStrayPair (ky i) (dv i).s (dv i).k (dv i).n a1 a2 (dv i).ln (dv i).dn c1 c2 wr
      clear hc e0 e1 e2 e3 e4 e5 hrv
      go_wp2_with fail
      refine HW.out.mono ?_
      rintro en w1 ⟨rfl, b1⟩
      have HB1 : Hid (Below w.heap.size w w1) := HI.out.1.trans (b1.mono HI.out.1.size)
      clear g0 g1 g2 g3 g4 g5 b1 HW
      cases hid : spB (ky i) (dv i) with
      | true =>
        have HE : Hid (spA dn ky dv = true) := List.any_eq_true.2 ⟨i, List.mem_range.2 hlt, hid⟩
        clear hid HI
        go_wp2
        go_ret
        refine ⟨i, rfl, ?_, HB1.out⟩
        rw [HE.out]
        exact decide_eq_true (by omega)
      | false =>
        have HJ : Hid (Below w.heap.size w w1 ∧ ∀ (j : Nat), j < i + 1 → spB (ky j) (dv j) = false) := ⟨HB1.out, fun j hj => by
          rcases Nat.lt_succ_iff_lt_or_eq.1 hj with h | rfl
          · exact HI.out.2 j h
          · exact hid⟩
        clear hid HI
        go_wp2
        exact ⟨⟨i + 1, by omega, by go_num, HJ⟩, by simp [intOf]; omega⟩
    · obtain rfl : i = dn := by omega
      have HE : Hid (spA i ky dv = false) := by
        have h9 : spA i ky dv = false := by
          rw [spA, List.any_eq_false]
          intro j hj
          simp [HI.out.2 j (List.mem_range.1 hj)]
        exact h9
      have HB1 : Hid (Below w.heap.size w wr) := HI.out.1
      clear HI
      go_wp2
      go_ret
      exact ⟨-1, rfl, by rw [HE.out]; rfl, HB1.out⟩
set_option maxHeartbeats 1000000 in
theorem containsPair (v : Value) (dn : Nat) (ky : Nat → ByteArray) (dv : Nat → T) (w : World) (h : RD (fun _ => True) w dn ky dv v) (hn : dn ≤ 140737488351232) :
    Calls Tryz.prog 45 #[v, .func (Fn.func 46) #[] #[]] w fun en w' => en = .returned (.bool (spA dn ky dv)) ∧ Below w.heap.size w w' := by
  have H := Lib.hid (indexPair v dn ky dv w h hn)
  obtain ⟨a, c, rfl, -⟩ := h
  go_enter Tryz.func45, Tryz.ntmps45
  go_wp2_with fail
  refine H.out.mono ?_
  rintro en w1 ⟨r, rfl, hr, b1⟩
  have HB := Lib.hid b1
  have HR := Lib.hid hr
  clear b1 hr H
  go_wp2
  go_ret
  exact ⟨ret_b HR.out, HB.out⟩
end Go.Proofs.YtnpcbcfjnhjmmaaGreatDoor
namespace Go.Proofs.YtnpcbcfjnhjmmaaGreatDoor
open Go.RowKit Go.Deep
/-- each thing in the link may be one of its kind -/
def fmB (k : Lk) : Bool := !winB k.ts ⟨#[]⟩ && (!winB k.ps ⟨#[]⟩ && (!k.rs.any srB && !spA k.dn k.ky k.dv))
set_option maxHeartbeats 2000000 in
set_option maxRecDepth 100000 in
theorem isFormed (k : Lk) (tr pe on mo : Value) (w : World) (hk : k.ok) (hi : ∀ x ∈ k.rs, I64 x.1 ∧ I64 x.2) (hr : RL4 (fun _ => True) w k tr pe on mo) :
    Calls Tryz.prog 25 #[.agg (lkC k.l k.nm tr pe on mo)] w fun e w' => e = .returned (.bool (fmB k)) ∧ Below w.heap.size w w' := by
  have hl := hk.l
  have B0 : Hid (Below w.heap.size w (w.alloc (Obj.cells (lkC k.l k.nm tr pe on mo) 28))) := (Below.refl _ _).alloc (Nat.le_refl _) _
  have LA : Hid (LB (w.alloc (Obj.cells (lkC k.l k.nm tr pe on mo) 28)) w.heap.size k.l k.nm tr pe on mo) := heap_new _ _
  have HF : Hid (fmB k = (!winB k.ts ⟨#[]⟩ && (!winB k.ps ⟨#[]⟩ && (!k.rs.any srB && !spA k.dn k.ky k.dv)))) := rfl
  have HR : Hid (RL4 (fun _ => True) (w.alloc (Obj.cells (lkC k.l k.nm tr pe on mo) 28)) k tr pe on mo) := hr.move (fun _ h _ => h) B0.out.size (fun b _ hl => B0.out.block b hl)
  have HI0 : Hid (k.ok ∧ ∀ x ∈ k.rs, I64 x.1 ∧ I64 x.2) := ⟨hk, hi⟩
  clear hr hi hk
  go_enter Tryz.func25, Tryz.ntmps25
  go_upto_region 1 with fail
  generalize (w.alloc (Obj.cells (lkC k.l k.nm tr pe on mo) 28)) = w0 at *
  generalize hvb : w.heap.size = H at *
  have HS : Hid (w.heap.size = H) := hvb
  have HBW : Hid (Below w.heap.size w w0) := by rw [hvb]; exact B0
  obtain ⟨a32, a33, a34, a35, a36⟩ := LA.out.cells hl
  clear hvb a32
  go_wp2_with fail
  refine (contains tr k.ts ⟨#[]⟩ _ HR.out.1 HI0.out.1.ts.1).mono ?_
  rintro e w1 ⟨rfl, rfl⟩
  generalize winB k.ts ⟨#[]⟩ = q1 at *
  cases q1 with
  | true =>
    go_wp2
    go_ret
    exact ⟨ret_b (by rw [HF.out]; rfl), HS.out ▸ HBW.out⟩
  | false =>
    go_wp2_with fail
    refine (contains pe k.ps ⟨#[]⟩ _ HR.out.2.1 HI0.out.1.ps.1).mono ?_
    rintro e w1 ⟨rfl, rfl⟩
    generalize winB k.ps ⟨#[]⟩ = q2 at *
    cases q2 with
    | true =>
      go_wp2
      go_ret
      exact ⟨ret_b (by rw [HF.out]; rfl), HS.out ▸ HBW.out⟩
    | false =>
      go_wp2_with fail
      refine (containsRun on k.rs _ HR.out.2.2.1 HI0.out.1.rs HI0.out.2).mono ?_
      rintro e w2 ⟨rfl, b2⟩
      have HB2 : Hid (Below w.heap.size w w2 ∧ RD (fun _ => True) w2 k.dn k.ky k.dv mo) := ⟨HBW.out.trans (b2.mono HBW.out.size), RD.move (fun _ h _ => h) b2.size (fun b _ hl => b2.block b hl) HR.out.2.2.2⟩
      have a36' := Below.cellS b2 (Nat.le_refl _) a36
      generalize k.rs.any srB = q3 at *
      clear b2 a33 a34 a35 a36 HR LA B0
      cases q3 with
      | true =>
        go_wp2
        go_ret
        exact ⟨ret_b (by rw [HF.out]; rfl), HS.out ▸ HB2.out.1⟩
      | false =>
        go_wp2_with fail
        refine (containsPair mo k.dn k.ky k.dv _ HB2.out.2 HI0.out.1.dn.1).mono ?_
        rintro e w3 ⟨rfl, b3⟩
        have HB3 : Hid (Below w.heap.size w w3) := HB2.out.1.trans (b3.mono HB2.out.1.size)
        generalize spA k.dn k.ky k.dv = q4 at *
        clear b3 HB2 a36'
        go_wp2
        go_ret
        exact ⟨ret_b (by rw [HF.out]; cases q4 <;> rfl), HS.out ▸ HB3.out⟩
end Go.Proofs.YtnpcbcfjnhjmmaaGreatDoor
