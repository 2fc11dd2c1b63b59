import Derived.Test.YtgijbjipidbnkaaWk
namespace Go.Proofs.Ytgijbjipidbnkaa
open Go.RowKit Go.Deep
theorem Lk.ext_rs {rs : List (Int × Int)} (h : rs.length = 0) : rs = [] := List.length_eq_zero_iff.1 h
set_option maxHeartbeats 2000000 in
set_option maxRecDepth 100000 in
theorem wanted (k : Lk) (tr pe on mo : Value) (f : Int) (w : World) (hk : k.ok) (hi : ∀ x ∈ k.rs, I64 x.1 ∧ I64 x.2) (hf : I64 f) (hr : RL4 (fun _ => True) w k tr pe on mo) :
    Calls Try.prog 6 #[.agg (lkC k.l k.nm tr pe on mo), .int .i64 f] w fun e w' => e = .returned (.bool (wantB k.rs f)) ∧ Below w.heap.size w w' := by
  obtain ⟨oa, oc, rfl⟩ : ∃ a c, on = .slice a k.rs.length c := by obtain ⟨p, q, e, _⟩ := hr.2.2.1; exact ⟨p, q, e⟩
  have hl := hk.l
  have B0 : Hid (Below w.heap.size w ((w.alloc (Obj.cells (lkC k.l k.nm tr pe (.slice oa k.rs.length oc) mo) 28)).alloc (Obj.cells #[.int .i64 f] 3))) := ((Below.refl _ _).alloc (Nat.le_refl _) _).alloc (by simp) _
  have LA : Hid (LB ((w.alloc (Obj.cells (lkC k.l k.nm tr pe (.slice oa k.rs.length oc) mo) 28)).alloc (Obj.cells #[.int .i64 f] 3)) w.heap.size k.l k.nm tr pe (.slice oa k.rs.length oc) mo) := (Below.heap_alloc _ _ _ (by simp)).trans (heap_new _ _)
  have c0 : ((w.alloc (Obj.cells (lkC k.l k.nm tr pe (.slice oa k.rs.length oc) mo) 28)).alloc (Obj.cells #[.int .i64 f] 3)).cell? ⟨w.heap.size + 1, 0, none⟩ = some (.int .i64 f) := by go_simp
  have HC : Hid (Calls Try.prog 13 #[.slice oa k.rs.length oc, .func (Fn.func 14) #[] #[.pointer (some ⟨w.heap.size + 1, 0, none⟩)]] ((w.alloc (Obj.cells (lkC k.l k.nm tr pe (.slice oa k.rs.length oc) mo) 28)).alloc (Obj.cells #[.int .i64 f] 3)) fun en w' => en = .returned (.bool (k.rs.any (fun x => hasB x f))) ∧ Below ((w.alloc (Obj.cells (lkC k.l k.nm tr pe (.slice oa k.rs.length oc) mo) 28)).alloc (Obj.cells #[.int .i64 f] 3)).heap.size ((w.alloc (Obj.cells (lkC k.l k.nm tr pe (.slice oa k.rs.length oc) mo) 28)).alloc (Obj.cells #[.int .i64 f] 3)) w') :=
    containsFunc _ k.rs f (w.heap.size + 1) _ (hr.2.2.1.move (fun _ h _ => h) B0.out.size (fun b _ hl => B0.out.block b hl)) hk.rs hi hf c0
  clear hr hi hf
  go_enter Try.func6, Try.ntmps6
  go_upto_region 1 with fail
  generalize ((w.alloc (Obj.cells (lkC k.l k.nm tr pe (.slice oa k.rs.length oc) mo) 28)).alloc (Obj.cells #[.int .i64 f] 3)) = w0 at *
  generalize hvb : w.heap.size = H at *
  have HS : Hid (w.heap.size = H) := hvb
  have HBW : Hid (Below w.heap.size w w0) := by rw [hvb]; exact B0
  have a35 := (LA.out.cells hl).2.2.2.1
  clear hvb
  by_cases hneg : f < 0
  · have HR : Hid (false = wantB k.rs f) := by
      have h9 : wantB k.rs f = false := by rw [wantB, if_pos hneg]
      exact h9.symm
    clear HC
    go_wp2
    go_ret
    exact ⟨ret_b HR.out, HBW.out⟩
  · by_cases h0 : k.rs.length = 0
    · have HR : Hid (true = wantB k.rs f) := by
        have h9 : wantB k.rs f = true := by rw [wantB, if_neg hneg, h0]; rfl
        exact h9.symm
      rw [h0] at a35
      clear HC
      go_wp2
      go_ret
      exact ⟨ret_b HR.out, HBW.out⟩
    · have HR : Hid ((k.rs.any fun x => hasB x f) = wantB k.rs f) := by
        have h9 : wantB k.rs f = k.rs.any fun x => hasB x f := by rw [wantB, if_neg hneg, beq_eq_false_iff_ne.2 h0]; rfl
        exact h9.symm
      have h0' : ¬ (k.rs.length : Int) = 0 := by omega
      have H0B : Hid (((k.rs.length : Int) == 0) = false) := beq_eq_false_iff_ne.2 h0'
      go_wp2_with fail
      refine HC.out.mono ?_
      rintro e w1 ⟨rfl, b1⟩
      have HB1 : Hid (Below w.heap.size w w1) := HBW.out.trans (b1.mono HBW.out.size)
      clear b1 HC a35 c0
      generalize (k.rs.any fun x => hasB x f) = r at *
      go_wp2
      go_ret
      exact ⟨ret_b (by rw [H0B.out, Bool.false_or]; exact HR.out), HB1.out⟩
set_option maxHeartbeats 2000000 in
set_option maxRecDepth 100000 in
theorem rWanted (k : Lk) (tr pe on mo : Value) (f : Int) (w : World) (hk : k.ok) (hi : ∀ x ∈ k.rs, I64 x.1 ∧ I64 x.2) (hf : I64 f) (hr : RL4 (fun _ => True) w k tr pe on mo) :
    Calls Try.prog 7 #[.agg (lkC k.l k.nm tr pe on mo), .int .i64 f] w fun e w' => e = .returned (.bool (wantB k.rs f)) ∧ Below w.heap.size w w' := by
  obtain ⟨oa, oc, rfl⟩ : ∃ a c, on = .slice a k.rs.length c := by obtain ⟨p, q, e, _⟩ := hr.2.2.1; exact ⟨p, q, e⟩
  have hl := hk.l
  have B0 : Hid (Below w.heap.size w (w.alloc (Obj.cells (lkC k.l k.nm tr pe (.slice oa k.rs.length oc) mo) 28))) := (Below.refl _ _).alloc (Nat.le_refl _) _
  have LA : Hid (LB (w.alloc (Obj.cells (lkC k.l k.nm tr pe (.slice oa k.rs.length oc) mo) 28)) w.heap.size k.l k.nm tr pe (.slice oa k.rs.length oc) mo) := heap_new _ _
  have HR0 : Hid (RR (fun _ => True) w (.slice oa k.rs.length oc) k.rs) := hr.2.2.1
  have HI0 : Hid ((∀ x ∈ k.rs, I64 x.1 ∧ I64 x.2) ∧ I64 f ∧ k.rs.length ≤ 140737488351232) := ⟨hi, hf, hk.rs⟩
  clear hr hi hf hk
  go_enter Try.func7, Try.ntmps7
  go_upto_region 1 with fail
  generalize (w.alloc (Obj.cells (lkC k.l k.nm tr pe (.slice oa k.rs.length oc) mo) 28)) = w0 at *
  generalize hvb : w.heap.size = H at *
  have HS : Hid (w.heap.size = H) := hvb
  clear hvb
  by_cases hneg : f < 0
  · have HR : Hid (false = wantB k.rs f) := by
      have h9 : wantB k.rs f = false := by rw [wantB, if_pos hneg]
      exact h9.symm
    go_wp2
    go_ret
    exact ⟨ret_b HR.out, HS.out ▸ B0.out⟩
  have HW : Hid (wantB k.rs f = (k.rs.length == 0 || k.rs.any fun x => hasB x f)) := by
    have h9 : wantB k.rs f = (k.rs.length == 0 || k.rs.any fun x => hasB x f) := by rw [wantB, if_neg hneg]
    exact h9
  have hrl : k.rs.length ≤ 140737488351232 := HI0.out.2.2
  generalize hn : k.rs.length = n at *
  have HN : Hid (k.rs.length = n) := hn
  clear hn
  go_wp2
  go_loopw [5] (fun t wr => ∃ i : Nat, i ≤ n ∧ t = .int .i64 i ∧ Hid (Below H w wr ∧ LB wr H k.l k.nm tr pe (.slice oa n oc) mo ∧ ∀ (j : Nat) (y : Int × Int), j < i → k.rs[j]? = some y → hasB y f = false)) (fun t _ => n - (intOf t).toNat)
  case atStart => exact ⟨0, Nat.zero_le _, rfl, B0.out, LA.out, fun j y hj => absurd hj (Nat.not_lt_zero _)⟩
  case round =>
    obtain ⟨i, hi, rfl, HI⟩ := hrel
    have a35 := (HI.out.2.1.cells hl).2.2.2.1
    by_cases hlt : i < n
    · obtain ⟨x, hx⟩ : ∃ x, k.rs[i]? = some x := ⟨_, List.getElem?_eq_getElem (by rw [HN.out]; exact hlt)⟩
      obtain ⟨p, q, e9, hc⟩ := HR0.out
      rw [HN.out] at e9 hc
      simp only [Value.slice.injEq, true_and] at e9
      obtain ⟨rfl, rfl⟩ := e9
      rcases hc with h | ⟨g, o, rfl, _, hg, hc⟩
      · omega
      have hle : w.heap.size ≤ H := Nat.le_of_eq HS.out
      have g0 := Below.cellS HI.out.1 hle (hc i x hx).1
      have g1 := Below.cellS HI.out.1 hle (hc i x hx).2
      have HXI := Lib.hid hx
      obtain ⟨⟨r1, r2⟩, r3, r4⟩ := HI0.out.1 x (List.mem_of_getElem? hx)
      obtain ⟨f1, f2⟩ := HI0.out.2.1
      have HHB : Hid (hasB x f = (decide (0 < x.2) && (decide (x.1 ≤ f) && decide (f - x.2 < x.1)))) := rfl
      clear hc hx hle
      obtain ⟨xa, xb⟩ := x
      simp only at g0 g1 r1 r2 r3 r4 HHB
      have HST : Hid (∀ ob, Below H w (wr.alloc ob) ∧ LB (wr.alloc ob) H k.l k.nm tr pe (.slice (some ⟨g, o, none⟩) n oc) mo) := fun ob => ⟨HI.out.1.alloc (by have := HI.out.1.size; have := HS.out; omega) _, HI.out.2.1.keep (Below.heap_alloc _ _ _ HI.out.2.1.lt)⟩
      cases hid : hasB (xa, xb) f with
      | true =>
        have h3 := HHB.out
        rw [hid] at h3
        simp only [Bool.true_eq, Bool.and_eq_true, decide_eq_true_eq] at h3
        obtain ⟨h31, h32, h33⟩ := h3
        have HE : Hid (true = wantB k.rs f) := by
          have h9 : k.rs.any (fun x => hasB x f) = true := List.any_eq_true.2 ⟨_, List.mem_of_getElem? HXI.out, hid⟩
          have h8 : wantB k.rs f = true := by rw [HW.out, h9, Bool.or_true]
          exact h8.symm
        clear HHB hid HI
        go_wp2
        go_ret
        exact ⟨ret_b HE.out, HS.out ▸ (HST.out _).1⟩
      | false =>
        have HJ : Hid (∀ (j : Nat) (y : Int × Int), j < i + 1 → k.rs[j]? = some y → hasB y f = false) := fun j y hj hy => by
          rcases Nat.lt_succ_iff_lt_or_eq.1 hj with h | rfl
          · exact HI.out.2.2 j y h hy
          · have h9 := HXI.out
            rw [hy] at h9
            cases h9
            exact hid
        have h3 := HHB.out
        rw [hid] at h3
        clear HHB hid HI
        by_cases c1 : 0 < xb
        · by_cases c2 : xa ≤ f
          · have c3 : ¬ (f - xb < xa) := by
              intro c3
              rw [decide_eq_true c1, decide_eq_true c2, decide_eq_true c3] at h3
              cases h3
            clear h3
            go_wp2
            exact ⟨⟨i + 1, by omega, by go_num, (HST.out _).1, (HST.out _).2, HJ.out⟩, by simp [intOf]; omega⟩
          · clear h3
            go_wp2
            exact ⟨⟨i + 1, by omega, by go_num, (HST.out _).1, (HST.out _).2, HJ.out⟩, by simp [intOf]; omega⟩
        · clear h3
          go_wp2
          exact ⟨⟨i + 1, by omega, by go_num, (HST.out _).1, (HST.out _).2, HJ.out⟩, by simp [intOf]; omega⟩
    · obtain rfl : i = n := by omega
      have HE : Hid ((i == 0) = wantB k.rs f) := by
        have h9 : (k.rs.any fun x => hasB x f) = false := by
          rw [List.any_eq_false]
          intro x hx
          obtain ⟨j, hj⟩ := List.mem_iff_getElem?.1 hx
          have := HI.out.2.2 j x (by have := (List.getElem?_eq_some_iff.1 hj).1; have := HN.out; omega) hj
          simp [this]
        have h8 : wantB k.rs f = (i == 0) := by rw [HW.out, h9, Bool.or_false]
        exact h8.symm
      have HB1 : Hid (Below H w wr) := HI.out.1
      clear HI
      have hz : ((i : Int) == 0) = (i == 0) := by
        rw [Bool.eq_iff_iff, beq_iff_eq, beq_iff_eq]; omega
      go_wp2
      go_ret
      exact ⟨ret_b HE.out, HS.out ▸ HB1.out⟩
end Go.Proofs.Ytgijbjipidbnkaa
