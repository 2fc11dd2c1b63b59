import Derived.Test.YtnpcbcfjnhjmmaaGreatDoorV25
import Derived.Test.YtnpcbcfjnhjmmaaGreatDoorV07
namespace Go.Proofs.YtnpcbcfjnhjmmaaGreatDoor
open Go.RowKit Go.Deep
/-- a run has a place -/
def hasB (x : Int × Int) (f : Int) : Bool := decide (0 < x.2) && (decide (x.1 ≤ f) && decide (f - x.2 < x.1))
def wantB (rs : List (Int × Int)) (f : Int) : Bool := if f < 0 then false else (rs.length == 0 || rs.any fun x => hasB x f)
theorem wrapU_id {x : Int} (h0 : 0 ≤ x) (h1 : x < 18446744073709551616) : IntKind.u64.wrap x = x := by
  simp [IntKind.wrap, IntKind.bits, IntKind.signed]; omega
theorem wrapU_sub {p f : Int} (hp : I64 p) (hf : I64 f) (h : f ≤ p) : IntKind.u64.wrap (IntKind.u64.wrap p - IntKind.u64.wrap f) = p - f := by
  obtain ⟨a1, a2⟩ := hp
  obtain ⟨b1, b2⟩ := hf
  simp [IntKind.wrap, IntKind.bits, IntKind.signed]; omega
set_option maxHeartbeats 1000000 in
theorem has (x : Int × Int) (f : Int) (w : World) (h1 : I64 x.1) (h2 : I64 x.2) (hf : I64 f) :
    Calls Tryz.prog 31 #[.agg #[.int .i64 x.1, .int .i64 x.2], .int .i64 f] w fun e w' => e = .returned (.bool (hasB x f)) ∧ Below w.heap.size w w' := by
  obtain ⟨a, b⟩ := x
  have HE : Hid (hasB (a, b) f = (decide (0 < b) && (decide (a ≤ f) && decide (f - b < a)))) := rfl
  have HB : Hid (Below w.heap.size w (w.alloc (Obj.cells #[.int .i64 a, .int .i64 b] 36))) := (Below.refl _ _).alloc (Nat.le_refl _) _
  show Calls Tryz.prog 31 #[.agg #[.int .i64 a, .int .i64 b], .int .i64 f] w _
  by_cases c1 : a ≤ f
  · by_cases c2 : 0 < b
    · have hw := wrapU_sub hf h1 c1
      have hw2 := wrapU_id (x := b) (by omega) (by have := h2.2; simp at this; omega)
      have HR : Hid (decide (f - a < b) = hasB (a, b) f) := by
        rw [HE.out, decide_eq_true c2, decide_eq_true c1, Bool.true_and, Bool.true_and]
        have h9 : decide (f - a < b) = decide (f - b < a) := by rw [decide_eq_decide]; omega
        exact h9
      clear HE h1 h2 hf
      go_enter Tryz.func31, Tryz.ntmps31
      go_wp2
      go_ret
      exact ⟨ret_b HR.out, HB.out⟩
    · have HR : Hid (false = hasB (a, b) f) := by
        rw [HE.out, decide_eq_false c2]; rfl
      clear HE h1 h2 hf
      go_enter Tryz.func31, Tryz.ntmps31
      go_wp2
      go_ret
      exact ⟨ret_b HR.out, HB.out⟩
  · have HR : Hid (false = hasB (a, b) f) := by
      rw [HE.out, decide_eq_false c1, Bool.false_and, Bool.and_false]; exact (rfl : false = false)
    clear HE h1 h2 hf
    go_enter Tryz.func31, Tryz.ntmps31
    go_wp2
    go_ret
    exact ⟨ret_b HR.out, HB.out⟩
set_option maxHeartbeats 1000000 in
theorem wanted1 (x : Int × Int) (f : Int) (b : Nat) (w : World) (hb : w.cell? ⟨b, 0, none⟩ = some (.int .i64 f)) (h1 : I64 x.1) (h2 : I64 x.2) (hf : I64 f) :
    Calls Tryz.prog 30 #[.agg #[.int .i64 x.1, .int .i64 x.2], .pointer (some ⟨b, 0, none⟩)] w fun e w' => e = .returned (.bool (hasB x f)) ∧ Below w.heap.size w w' := by
  have HB : Hid (Below w.heap.size w (w.alloc (Obj.cells #[.int .i64 x.1, .int .i64 x.2] 36))) := (Below.refl _ _).alloc (Nat.le_refl _) _
  have hb' := cell_alloc_old (o := Obj.cells #[.int .i64 x.1, .int .i64 x.2] 36) hb
  have HH : Hid (∀ w, Calls Tryz.prog 31 #[.agg #[.int .i64 x.1, .int .i64 x.2], .int .i64 f] w fun e w' => e = .returned (.bool (hasB x f)) ∧ Below w.heap.size w w') := fun w => has x f w h1 h2 hf
  clear h1 h2 hf
  generalize hasB x f = r at *
  go_enter Tryz.func30, Tryz.ntmps30
  go_wp2_with fail
  refine (HH.out _).mono ?_
  rintro e w1 ⟨rfl, b1⟩
  have HB1 : Hid (Below w.heap.size w w1) := HB.out.trans (b1.mono HB.out.size)
  clear b1 hb hb'
  go_wp2
  go_ret
  exact ⟨rfl, HB1.out⟩
set_option maxHeartbeats 1000000 in
theorem indexFunc (v : Value) (rs : List (Int × Int)) (f : Int) (b : Nat) (w : World) (h : RR (fun _ => True) w v rs) (hn : rs.length ≤ 140737488351232) (hi : ∀ x ∈ rs, I64 x.1 ∧ I64 x.2) (hf : I64 f) (hb : w.cell? ⟨b, 0, none⟩ = some (.int .i64 f)) :
    Calls Tryz.prog 56 #[v, .func (Fn.func 30) #[] #[.pointer (some ⟨b, 0, none⟩)]] w fun en w' => ∃ r : Int, en = .returned (.int .i64 r) ∧ decide (0 ≤ r) = rs.any (fun x => hasB x f) ∧ Below w.heap.size w w' := by
  obtain ⟨a, c, rfl, hx⟩ := h
  have HX := Lib.hid hx
  have HI0 : Hid ((∀ x ∈ rs, I64 x.1 ∧ I64 x.2) ∧ I64 f ∧ w.cell? ⟨b, 0, none⟩ = some (.int .i64 f)) := ⟨hi, hf, hb⟩
  generalize hnn : rs.length = n at *
  have HNN := Lib.hid hnn
  clear hx hnn hi hf hb
  go_enter Tryz.func56, Tryz.ntmps56
  go_wp2
  go_loopw [8] (fun t wr => ∃ i : Nat, i ≤ n ∧ t = .int .i64 i ∧ Hid (Below w.heap.size w wr ∧ ∀ (j : Nat) (y : Int × Int), j < i → rs[j]? = some y → hasB y f = false)) (fun t _ => n - (intOf t).toNat)
  case atStart => exact ⟨0, Nat.zero_le _, rfl, Below.refl _ _, fun j y hj => absurd hj (Nat.not_lt_zero _)⟩
  case round =>
    obtain ⟨i, hi, rfl, HI⟩ := hrel
    by_cases hlt : i < n
    · obtain ⟨x, hx⟩ : ∃ x, rs[i]? = some x := ⟨_, List.getElem?_eq_getElem (by rw [HNN.out]; exact hlt)⟩
      obtain ⟨g, o, rfl, _, hg, hc⟩ := HX.out.resolve_left (fun e => by rw [e] at hlt; omega)
      have g0 := Below.cellS HI.out.1 (Nat.le_refl _) (hc i x hx).1
      have g1 := Below.cellS HI.out.1 (Nat.le_refl _) (hc i x hx).2
      have HXI := Lib.hid hx
      have HW : Hid (Calls Tryz.prog 30 #[.agg #[.int .i64 x.1, .int .i64 x.2], .pointer (some ⟨b, 0, none⟩)] wr fun e w' => e = .returned (.bool (hasB x f)) ∧ Below wr.heap.size wr w') := wanted1 x f b wr (Below.cellS HI.out.1 (Nat.le_refl _) HI0.out.2.2) (HI0.out.1 x (List.mem_of_getElem? hx)).1 (HI0.out.1 x (List.mem_of_getElem? hx)).2 HI0.out.2.1
      clear hc hx
      go_wp2_with fail
      refine HW.out.mono ?_
      rintro en w1 ⟨rfl, b1⟩
      have HB1 : Hid (Below w.heap.size w w1) := HI.out.1.trans (b1.mono HI.out.1.size)
      clear g0 g1 b1 HW
      cases hid : hasB x f with
      | true =>
        have HE : Hid (rs.any (fun x => hasB x f) = true) := List.any_eq_true.2 ⟨_, List.mem_of_getElem? HXI.out, hid⟩
        clear hid HI
        go_wp2
        go_ret
        refine ⟨i, rfl, ?_, HB1.out⟩
        rw [HE.out]
        exact decide_eq_true (by omega)
      | false =>
        have HJ : Hid (Below w.heap.size w w1 ∧ ∀ (j : Nat) (y : Int × Int), j < i + 1 → rs[j]? = some y → hasB y f = false) := ⟨HB1.out, fun j y hj hy => by
          rcases Nat.lt_succ_iff_lt_or_eq.1 hj with h | rfl
          · exact HI.out.2 j y h hy
          · have h9 := HXI.out
            rw [hy] at h9
            cases h9
            exact hid⟩
        clear hid HI
        go_wp2
        exact ⟨⟨i + 1, by omega, by go_num, HJ⟩, by simp [intOf]; omega⟩
    · obtain rfl : i = n := by omega
      have HE : Hid (rs.any (fun x => hasB x f) = false) := by
        show _ = false
        rw [List.any_eq_false]
        intro x hx
        obtain ⟨j, hj⟩ := List.mem_iff_getElem?.1 hx
        have := HI.out.2 j x (by have := (List.getElem?_eq_some_iff.1 hj).1; have := HNN.out; omega) hj
        simp [this]
      have HB1 : Hid (Below w.heap.size w wr) := HI.out.1
      clear HI
      go_wp2
      go_ret
      exact ⟨-1, rfl, by rw [HE.out]; rfl, HB1.out⟩
set_option maxHeartbeats 1000000 in
theorem containsFunc (v : Value) (rs : List (Int × Int)) (f : Int) (b : Nat) (w : World) (h : RR (fun _ => True) w v rs) (hn : rs.length ≤ 140737488351232) (hi : ∀ x ∈ rs, I64 x.1 ∧ I64 x.2) (hf : I64 f) (hb : w.cell? ⟨b, 0, none⟩ = some (.int .i64 f)) :
    Calls Tryz.prog 29 #[v, .func (Fn.func 30) #[] #[.pointer (some ⟨b, 0, none⟩)]] w fun en w' => en = .returned (.bool (rs.any (fun x => hasB x f))) ∧ Below w.heap.size w w' := by
  have H := Lib.hid (indexFunc v rs f b w h hn hi hf hb)
  obtain ⟨a, c, rfl, -⟩ := h
  clear hi hf hb
  go_enter Tryz.func29, Tryz.ntmps29
  go_wp2_with fail
  refine H.out.mono ?_
  rintro en w1 ⟨r, rfl, hr, b1⟩
  have HB := Lib.hid b1
  have HR := Lib.hid hr
  clear b1 hr H
  go_wp2
  go_ret
  exact ⟨ret_b HR.out, HB.out⟩
end Go.Proofs.YtnpcbcfjnhjmmaaGreatDoor
namespace Go.Proofs.YtnpcbcfjnhjmmaaGreatDoor
open Go.RowKit Go.Deep
theorem Lk.ext_rs {rs : List (Int × Int)} (h : rs.length = 0) : rs = [] := List.length_eq_zero_iff.1 h
set_option maxHeartbeats 2000000 in
set_option maxRecDepth 100000 in
theorem wanted (k : Lk) (tr pe on mo : Value) (f : Int) (w : World) (hk : k.ok) (hi : ∀ x ∈ k.rs, I64 x.1 ∧ I64 x.2) (hf : I64 f) (hr : RL4 (fun _ => True) w k tr pe on mo) :
    Calls Tryz.prog 10 #[.agg (lkC k.l k.nm tr pe on mo), .int .i64 f] w fun e w' => e = .returned (.bool (wantB k.rs f)) ∧ Below w.heap.size w w' := by
  obtain ⟨oa, oc, rfl⟩ : ∃ a c, on = .slice a k.rs.length c := by obtain ⟨p, q, e, _⟩ := hr.2.2.1; exact ⟨p, q, e⟩
  have hl := hk.l
  have B0 : Hid (Below w.heap.size w ((w.alloc (Obj.cells (lkC k.l k.nm tr pe (.slice oa k.rs.length oc) mo) 28)).alloc (Obj.cells #[.int .i64 f] 3))) := ((Below.refl _ _).alloc (Nat.le_refl _) _).alloc (by simp) _
  have LA : Hid (LB ((w.alloc (Obj.cells (lkC k.l k.nm tr pe (.slice oa k.rs.length oc) mo) 28)).alloc (Obj.cells #[.int .i64 f] 3)) w.heap.size k.l k.nm tr pe (.slice oa k.rs.length oc) mo) := (Below.heap_alloc _ _ _ (by simp)).trans (heap_new _ _)
  have c0 : ((w.alloc (Obj.cells (lkC k.l k.nm tr pe (.slice oa k.rs.length oc) mo) 28)).alloc (Obj.cells #[.int .i64 f] 3)).cell? ⟨w.heap.size + 1, 0, none⟩ = some (.int .i64 f) := by go_simp
  have HC : Hid (Calls Tryz.prog 29 #[.slice oa k.rs.length oc, .func (Fn.func 30) #[] #[.pointer (some ⟨w.heap.size + 1, 0, none⟩)]] ((w.alloc (Obj.cells (lkC k.l k.nm tr pe (.slice oa k.rs.length oc) mo) 28)).alloc (Obj.cells #[.int .i64 f] 3)) fun en w' => en = .returned (.bool (k.rs.any (fun x => hasB x f))) ∧ Below ((w.alloc (Obj.cells (lkC k.l k.nm tr pe (.slice oa k.rs.length oc) mo) 28)).alloc (Obj.cells #[.int .i64 f] 3)).heap.size ((w.alloc (Obj.cells (lkC k.l k.nm tr pe (.slice oa k.rs.length oc) mo) 28)).alloc (Obj.cells #[.int .i64 f] 3)) w') :=
    containsFunc _ k.rs f (w.heap.size + 1) _ (hr.2.2.1.move (fun _ h _ => h) B0.out.size (fun b _ hl => B0.out.block b hl)) hk.rs hi hf c0
  clear hr hi hf
  go_enter Tryz.func10, Tryz.ntmps10
  go_upto_region 1 with fail
  generalize ((w.alloc (Obj.cells (lkC k.l k.nm tr pe (.slice oa k.rs.length oc) mo) 28)).alloc (Obj.cells #[.int .i64 f] 3)) = w0 at *
  generalize hvb : w.heap.size = H at *
  have HS : Hid (w.heap.size = H) := hvb
  have HBW : Hid (Below w.heap.size w w0) := by rw [hvb]; exact B0
  have a35 := (LA.out.cells hl).2.2.2.1
  clear hvb
  by_cases hneg : f < 0
  · have HR : Hid (false = wantB k.rs f) := by
      have h9 : wantB k.rs f = false := by rw [wantB, if_pos hneg]
      exact h9.symm
    clear HC
    go_wp2
    go_ret
    exact ⟨ret_b HR.out, HBW.out⟩
  · by_cases h0 : k.rs.length = 0
    · have HR : Hid (true = wantB k.rs f) := by
        have h9 : wantB k.rs f = true := by rw [wantB, if_neg hneg, h0]; rfl
        exact h9.symm
      rw [h0] at a35
      clear HC
      go_wp2
      go_ret
      exact ⟨ret_b HR.out, HBW.out⟩
    · have HR : Hid ((k.rs.any fun x => hasB x f) = wantB k.rs f) := by
        have h9 : wantB k.rs f = k.rs.any fun x => hasB x f := by rw [wantB, if_neg hneg, beq_eq_false_iff_ne.2 h0]; rfl
        exact h9.symm
      have h0' : ¬ (k.rs.length : Int) = 0 := by omega
      have H0B : Hid (((k.rs.length : Int) == 0) = false) := beq_eq_false_iff_ne.2 h0'
      go_wp2_with fail
      refine HC.out.mono ?_
      rintro e w1 ⟨rfl, b1⟩
      have HB1 : Hid (Below w.heap.size w w1) := HBW.out.trans (b1.mono HBW.out.size)
      clear b1 HC a35 c0
      generalize (k.rs.any fun x => hasB x f) = r at *
      go_wp2
      go_ret
      exact ⟨ret_b (by rw [H0B.out, Bool.false_or]; exact HR.out), HB1.out⟩
end Go.Proofs.YtnpcbcfjnhjmmaaGreatDoor
