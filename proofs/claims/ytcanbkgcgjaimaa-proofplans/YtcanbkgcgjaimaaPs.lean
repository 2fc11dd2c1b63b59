import Derived.Test.YtcanbkgcgjaimaaPr
namespace Go.Proofs.Ytcanbkgcgjaimaa
open Go.ChangeShapes Go.WideShapes Go.ChangeAt Go.RowKit Go.Joins
theorem cellByte {H : Type} {enc : TypeId × Value → H} {W : World} {cs : List Value} {o n : Nat} {x : DataW H × List MemPlace} (ho : o < cs.length)
    (h : DataW.trod enc Try.prog W 0 (fun _ => true) true n 5 ((cs.drop o).take 1) = some x) : ∃ a, cs[o]? = some (.int .u8 a) := by
  have e : (cs.drop o).take 1 = [cs[o]] := by rw [List.drop_eq_getElem_cons ho]; rfl
  rw [e] at h
  obtain ⟨a, e0, rfl, wa⟩ := DataW.trod_int Try.underlying5 h
  refine ⟨a, ?_⟩
  rw [List.getElem?_eq_getElem ho]
  simp at e0
  rw [e0]
theorem okArr {W : World} {base : Nat} {v : Value} (h : Value.okWide Try.prog W .any base 23 v) : ∃ cs, v = .agg cs ∧ cs.size = 32 := by
  have ht : Try.prog.underlying 23 = some (.array 32 5) := by kernel_rfl
  simp only [Value.okWide, ht] at h
  obtain ⟨cs, h1, h2, _⟩ := h
  exact ⟨cs, h1, h2.trans (by kernel_rfl)⟩
/-- an argument that is a hash: its cells -/
theorem openHash {H : Type} {enc : TypeId × Value → H} {W : World} {base : Nat} {v : Value} {d : DataW H} {p : List MemPlace} (hv : Value.okWide Try.prog W .any base 23 v)
    (h : DataW.Trod enc Try.prog W 0 (fun _ => true) true 23 v d p) : ∃ z, v = .agg (hs z) := by
  obtain ⟨cs, rfl, hsz⟩ := okArr hv
  obtain ⟨fuel, hf⟩ := h
  obtain ⟨xs, n, _, _, _, hlen, hf⟩ := DataW.trod_array (n := 32) (e := 5) (by kernel_rfl) hf
  have c5 : Try.prog.cellsOf 5 = 1 := by kernel_rfl
  have hcs : (Value.agg cs).cells.toList = cs.toList := by simp [Value.cells]
  rw [hcs, c5] at hf
  have K : ∀ i, i < 32 → ∃ a, cs.toList[i]? = some (.int .u8 a) := fun i hi => by
    have f := hf i hi
    rw [Nat.mul_one, List.getElem?_eq_getElem (show i < xs.length by omega)] at f
    exact cellByte (by simp; omega) f
  refine ⟨fun i => if hi : i < 32 then (K i hi).choose else 0, ?_⟩
  congr 1
  apply Array.ext_getElem?
  intro i
  by_cases hi : i < 32
  · have := (K i hi).choose_spec
    refine Array.getElem?_toList.symm.trans (this.trans ?_)
    unfold hs Ytcanbkgcgjaimaa.hl
    rw [List.getElem?_toArray, List.getElem?_map, List.getElem?_range hi]
    simp [hi]
  · rw [Array.getElem?_eq_none (by omega), Array.getElem?_eq_none (by rw [hs_size]; omega)]
/-- two plans: as many queries, the same cells -/
theorem PL.both {z : Nat → Int} {n low : Int} {w : World} {v v' : Value} {er er' : Int} (h : PL z n low w v er) (g : PL z n low w v' er') :
    ∃ m l pr, m ≤ 1048577 ∧ er = er' ∧ RQ w v m (qrow z low l pr m) ∧ RQ w v' m (qrow z low l pr m) := by
  obtain ⟨t, h1, h2⟩ := h
  obtain ⟨t', g1, g2⟩ := g
  obtain ⟨rfl, rfl⟩ := h1.unique g1
  rcases h2 with ⟨a1, rfl⟩ | ⟨a1, a2, m, a3, a4, a5⟩ <;> rcases g2 with ⟨b1, rfl⟩ | ⟨b1, b2, m', b3, b4, b5⟩
  · exact ⟨0, 0, 0, by omega, rfl, ⟨_, _, rfl, .inl rfl⟩, ⟨_, _, rfl, .inl rfl⟩⟩
  · rcases a1 with a1 | a1
    · exact absurd b1 a1
    · exact absurd a1 b2
  · rcases b1 with b1 | b1
    · exact absurd a1 b1
    · exact absurd b1 a2
  · obtain rfl := a4.unique b4
    exact ⟨m, _, _, a3, rfl, a5, b5⟩
set_option maxHeartbeats 1000000 in
theorem walk3 (z : Nat → Int) (n low : Int) (w : World) :
    Calls Try.prog 3 #[.int .i64 n, .int .i64 low, .agg (hs z)] w fun e w' => e = .returned (.bool true) ∧ Below w.heap.size w w' := by
  have A := plan5 z n low
  have B := plan6 z n low
  go_enter Try.func3, Try.ntmps3
  go_wp2_with (first | (refine wpList_load_row rfl 23 _ rfl w.heap.size rfl 23 (hs z) (0, 0) _ (heap_alloc_last w _) Try.underlying23 rfl (info23 z) ?_))
  refine (A _).mono ?_
  rintro e w1 ⟨v, er, rfl, h1, b1⟩
  have hh : w1.heap[w.heap.size]? = some (Obj.cells (hs z) 23) := (b1.block _ (by simp)).trans (heap_alloc_last w _)
  have B1 := ((Below.refl w.heap.size w).alloc (Nat.le_refl _) (Obj.cells (hs z) 23)).trans (b1.mono (by simp))
  have E1 : Hid (PL z n low w1 v er) := h1
  clear h1 b1 A
  go_wp2_with (first | (refine wpList_load_row rfl 23 _ rfl w.heap.size rfl 23 (hs z) (0, 0) _ hh Try.underlying23 rfl (info23 z) ?_))
  refine (B _).mono ?_
  rintro e w2 ⟨v2, er2, rfl, h2, b2⟩
  have B2 := B1.trans (b2.mono B1.size)
  obtain ⟨m, l, pr, hm, rfl, q1, q2⟩ := PL.both (E1.out.keep b2) h2
  have C := same7 z low l pr m hm v v2 w2 q1 q2
  clear h2 b2 B E1 hh q1 q2
  go_wp2_with fail
  refine C.mono ?_
  rintro e w3 ⟨rfl, nq, rfl⟩
  go_wp2
  go_ret
  exact ⟨by simp, B2.drewN _⟩
end Go.Proofs.Ytcanbkgcgjaimaa
namespace Go.Proofs.Ytcanbkgcgjaimaa.proofPlans
open Go.ChangeShapes Go.WideShapes Go.ChangeAt Go.RowKit Go.Joins
set_option maxRecDepth 100000 in
theorem lifted (os : Os) (started : os.Started) (H : Type) (enc : TypeId × Value → H) :
    ReturnsInHanded {} Try.checked os 3 .any (Rows.proofPlansSpec.pre6 enc Try.prog Try.f3 Rows.proofPlansRow.domain false) (Rows.proofPlansSpec.post enc Try.prog Try.f3 false true false false) := by
  refine returnsInHanded_of_change (C := Try.checked) ownKn started (by kernel_rfl) Try.func3
    (ChangeSpec.witness6 (enc := enc) (C := Try.checked) false ⟨#[], #[.int .i64 0, .int .i64 0, .agg #[.int .u8 0, .int .u8 0, .int .u8 0, .int .u8 0, .int .u8 0, .int .u8 0, .int .u8 0, .int .u8 0, .int .u8 0, .int .u8 0, .int .u8 0, .int .u8 0, .int .u8 0, .int .u8 0, .int .u8 0, .int .u8 0, .int .u8 0, .int .u8 0, .int .u8 0, .int .u8 0, .int .u8 0, .int .u8 0, .int .u8 0, .int .u8 0, .int .u8 0, .int .u8 0, .int .u8 0, .int .u8 0, .int .u8 0, .int .u8 0, .int .u8 0, .int .u8 0]], []⟩ 8 (by kernel_rfl) (by kernel_rfl) (by kernel_rfl) (by kernel_rfl)) ?_
  intro W base args ds gs before hval0 hW _ _
  have hval : ∀ (j : Nat) t v, Try.f3.params[j]? = some t → args[j]? = some v → Value.okWide Try.prog W .any base t v := hval0
  have hW' := hW
  obtain ⟨p, q, hA0, hV, rfl, _, _⟩ := hW
  have hA : DataW.TrodAll enc Try.prog W 0 (fun _ => true) true Try.f3.params.toList args.toList ds p := hA0
  rw [Try.params3] at hA hval
  obtain ⟨v0, v1, v2, d0, d1, d2, p0, p1, p2, rfl, rfl, rfl, h0, h1, h2⟩ := trodAll_three hA
  obtain ⟨rfl, rfl⟩ := trodVars_none hV
  have h2k := h2
  obtain ⟨a0, rfl, rfl, rfl, wa0⟩ := open_int Try.underlying3 (hval 0 3 v0 rfl rfl) h0
  obtain ⟨a1, rfl, rfl, rfl, wa1⟩ := open_int Try.underlying3 (hval 1 3 v1 rfl rfl) h1
  obtain ⟨z, rfl⟩ := openHash (hval 2 23 v2 rfl rfl) h2
  clear hA0 hval0
  simp only [List.append_nil] at hW'
  refine (walk3 z a0 a1 W).mono fun e W' ⟨he, bel⟩ => ?_
  subst he
  exact ⟨_, rfl, _, _, _, [], _, [], hW', trodAll_mk1 (shut_bool Try.underlying4 _), trodAll_mk3 (shut_int Try.underlying3 wa0) (shut_int Try.underlying3 wa1) (Below.trod laidO (by kernel_rfl) (of_decide_eq_true (by kernel_rfl)) h2k bel (trodLt h2k)), rfl, bel.frame _, fun h => by cases h⟩
end Go.Proofs.Ytcanbkgcgjaimaa.proofPlans
namespace Go.Proofs.Ytcanbkgcgjaimaa
theorem proofPlans_holds : Rows.ProofPlansSaid :=
  OpenClaim.holds_of_wide 3 Try.f3 rfl rfl rfl rfl rfl rfl rfl ⟨rfl, rfl, rfl, rfl, rfl⟩ rfl rfl rfl rfl rfl (by kernel_rfl) Try.func3 (by kernel_rfl)
    (of_decide_eq_true (by kernel_rfl)) (by unfold Func.isWrapper; first | (rw [if_pos (by decide +kernel)]; kernel_rfl) | (rw [if_neg (by decide +kernel)]; exact ⟨rfl, rfl⟩))
    (fun os started H enc _ => proofPlans.lifted os started H enc)
#print axioms proofPlans_holds
end Go.Proofs.Ytcanbkgcgjaimaa
