import Derived.Test.YtbnfgcbfdlfilaaHelloEq
namespace Go.Proofs.Ytbnfgcbfdlfilaa
open Go.ChangeShapes Go.WideShapes Go.ChangeAt Go.RowKit
theorem row_self {w : World} {g : Nat} {hb : List UInt8} {t : TypeId} (hg : w.heap[g]? = some (.cells (bc hb) t (0, 0))) : w.setRow g (bc hb) = w := setRow_self w g (bc hb) t (0, 0) hg
set_option maxHeartbeats 2000000 in
set_option maxRecDepth 100000 in
theorem meetsLaw (v : Value) (l : List UInt8) (hl : l.length ≤ 140737488351232) (w : World) (hr : RB w v l) :
    Calls Try.prog 5 #[v] w fun e w' => e = .returned (.bool true) ∧ Below w.heap.size w w' := by
  have HR : Hid (RB w v l) := hr
  obtain ⟨a, c, rfl, hr⟩ := hr
  clear hr
  have HL : Hid (l.length ≤ 140737488351232) := hl
  have hgd : Try.prog.eqGuardType Try.prog.depth 25 = false := by kernel_rfl
  have HH : Hid ((mtH l).length = 48) := mt_len l
  have heq := fun u => eq_hello u (mtH l) HH.out
  have M : Hid (∀ u v, RB u v l → Calls Try.prog 15 #[v] u fun e w' => e = .returned (.tuple #[.agg (bc (mtH l)), .int .i64 (mtE l)]) ∧ Below u.heap.size u w') := fun u v h => meet v l hl u h
  have MR : Hid (∀ u v, RB u v l → Calls Try.prog 16 #[v] u fun e w' => e = .returned (.tuple #[.agg (bc (mtH l)), .int .i64 (mtE l)]) ∧ Below u.heap.size u w') := fun u v h => meetR v l hl u h
  have hi := info_hello HH.out
  have hone := bc_one (mtH l)
  have hsz : (bc (zr 48)).size = (bc (mtH l)).size := by rw [bc_size, bc_size, HH.out, zr_len]
  generalize mtH l = mH at *
  generalize mtE l = mE at *
  go_enter Try.func5, Try.ntmps5
  go_wp2_with fail
  refine (copied HR.out hl).mono ?_
  rintro e w1 ⟨u, rfl, o1, b1⟩
  have R1 : Hid (RB w1 u l ∧ RB w1 (.slice a l.length c) l) := ⟨o1.rb, HR.out.keep b1⟩
  have B1 : Hid (Below w.heap.size w w1) := b1
  obtain ⟨ua, uc, rfl⟩ := o1.form
  clear o1 b1 HR
  go_wp2_with fail
  refine (M.out _ _ R1.out.1).mono ?_
  rintro e w2 ⟨rfl, b2⟩
  have R2 : Hid (RB w2 (.slice ua l.length uc) l ∧ RB w2 (.slice a l.length c) l) := ⟨R1.out.1.keep b2, R1.out.2.keep b2⟩
  have B2 : Hid (Below w.heap.size w w2) := B1.out.trans (b2.mono B1.out.size)
  clear b2 R1 B1 M
  go_wp2_with (first | (refine wpList_store_row rfl 25 _ _ rfl w2.heap.size (bc mH) rfl rfl 25 (bc (zr 48)) (heapNew w2 _) hi hsz hone ?_))
  generalize hw3 : (w2.alloc _).setRow w2.heap.size (bc mH) = w3
  have g3 : w3.heap[w2.heap.size]? = some (.cells (bc mH) 25 (0, 0)) := by rw [← hw3]; exact heapSetRow _ _ _ _ _ (heapNew w2 _)
  have b3 : Below w2.heap.size w2 w3 := by rw [← hw3]; exact belowSetRow ((Below.refl _ _).alloc (Nat.le_refl _) _) (Nat.le_refl _) _
  have s3 : w2.heap.size < w3.heap.size := by rw [← hw3, setRow_size]; simp
  have R3 : Hid (RB w3 (.slice ua l.length uc) l ∧ RB w3 (.slice a l.length c) l) := ⟨R2.out.1.keep b3, R2.out.2.keep b3⟩
  have B3 : Hid (Below w.heap.size w w3) := B2.out.trans (b3.mono B2.out.size)
  clear hw3 b3 R2 B2
  generalize w2.heap.size = g2 at *
  go_wp2_with fail
  refine (MR.out _ _ R3.out.2).mono ?_
  rintro e w4 ⟨rfl, b4⟩
  have R4 : Hid (RB w4 (.slice ua l.length uc) l ∧ RB w4 (.slice a l.length c) l) := ⟨R3.out.1.keep b4, R3.out.2.keep b4⟩
  have B4 : Hid (Below w.heap.size w w4) := B3.out.trans (b4.mono B3.out.size)
  have g4 : w4.heap[g2]? = some (.cells (bc mH) 25 (0, 0)) := (b4.block _ s3).trans g3
  have s4 : g2 < w4.heap.size := Nat.lt_of_lt_of_le s3 b4.size
  clear b4 R3 B3 MR g3 s3
  have b5 : Below w4.heap.size w4 ((w4.alloc (.cells (bc (zr 48)) 25)).setRow w4.heap.size (bc mH)) := belowSetRow ((Below.refl _ _).alloc (Nat.le_refl _) _) (Nat.le_refl _) _
  have g5 : ((w4.alloc (.cells (bc (zr 48)) 25)).setRow w4.heap.size (bc mH)).heap[w4.heap.size]? = some (.cells (bc mH) 25 (0, 0)) := heapSetRow _ _ _ _ _ (heapNew w4 _)
  have g52 : ((w4.alloc (.cells (bc (zr 48)) 25)).setRow w4.heap.size (bc mH)).heap[g2]? = some (.cells (bc mH) 25 (0, 0)) := (b5.block _ s4).trans g4
  have G5 : Hid _ := g5
  have G52 : Hid _ := g52
  have R5 : Hid (RB ((w4.alloc (.cells (bc (zr 48)) 25)).setRow w4.heap.size (bc mH)) (.slice ua l.length uc) l ∧ RB ((w4.alloc (.cells (bc (zr 48)) 25)).setRow w4.heap.size (bc mH)) (.slice a l.length c) l) := ⟨R4.out.1.keep b5, R4.out.2.keep b5⟩
  have B5 : Hid (Below w.heap.size w ((w4.alloc (.cells (bc (zr 48)) 25)).setRow w4.heap.size (bc mH))) := B4.out.trans (b5.mono B4.out.size)
  clear b5 R4 B4 g4 s4 g5 g52
  go_wp2_with (first | (refine wpList_store_row rfl 25 _ _ rfl w4.heap.size (bc mH) rfl rfl 25 (bc (zr 48)) (heapNew w4 _) hi hsz hone ?_) | (refine wpList_load_g rfl (.tmp 4) rfl g2 rfl mH G52.out HH.out ?_) | (refine wpList_load_g rfl (.tmp 6) rfl w4.heap.size rfl mH G5.out HH.out ?_))
  refine (same _ _ l _ HL.out R5.out.1 R5.out.2).mono ?_
  rintro e w6 ⟨rfl, n6, rfl⟩
  have B6 := belowN B5.out n6
  go_wp2
  go_ret
  exact ⟨rfl, B6⟩
set_option maxRecDepth 100000 in
theorem frameMeets_lifted (os : Os) (started : os.Started) (H : Type) (enc : TypeId × Value → H) :
    ReturnsInHanded {} Try.checked os 5 .any (Rows.frameMeetsSpec.pre6 enc Try.prog Try.f5 Rows.frameMeetsRow.domain false) (Rows.frameMeetsSpec.post enc Try.prog Try.f5 false true false false) := by
  refine returnsInHanded_of_change_sized (C := Try.checked) ownKn started (by kernel_rfl) Try.func5
    (ChangeSpec.witness6 (enc := enc) (C := Try.checked) false ⟨#[], #[.slice none 0 0], []⟩ 8 (by kernel_rfl) (by kernel_rfl) (by kernel_rfl) (by kernel_rfl)) ?_
  intro W base args ds gs before hval0 hW hcnd hsz0 _
  have hval : ∀ (j : Nat) t v, Try.f5.params[j]? = some t → args[j]? = some v → Value.okWide Try.prog W .any base t v := hval0
  have hsz : (DataW.weightsEach Try.prog (Try.f5.params.toList ++ Rows.frameMeetsSpec.plain.varTypes Try.prog) (ds ++ gs)).all (· ≤ reachBytes) = true := hsz0
  have hW' := hW
  obtain ⟨p, q, hA0, hV, rfl, _, _⟩ := hW
  have hA : DataW.TrodAll enc Try.prog W 0 (fun _ => true) true Try.f5.params.toList args.toList ds p := hA0
  rw [Try.params5] at hA hval hsz
  obtain ⟨v0, vs0, d0, ds0, p0, q0, hargs, rfl, rfl, h0, r0⟩ := trodAll_cons hA
  obtain ⟨rfl, rfl, rfl⟩ := trodAll_nil r0
  obtain rfl : args = #[v0] := by cases args; simp_all
  obtain ⟨rfl, rfl⟩ := trodVars_none hV
  have k0 := h0
  obtain ⟨x0, e0, g0⟩ := openBytes (hval 0 26 v0 rfl rfl) h0 (fun q hq => by
    have := List.all_eq_true.1 hsz q (by simp [DataW.weightsEach, hq])
    simpa using this)
  clear hA0 hval0
  simp only [List.append_nil] at hW'
  refine (meetsLaw v0 x0 g0 W e0).mono fun e W' ⟨he, bel⟩ => ?_
  subst he
  exact ⟨_, rfl, _, _, _, [], _, [], hW', trodAll_mk1 (shut_bool Try.underlying4 _), (trodAll_cons_mk (Below.trod laidO (by kernel_rfl) (of_decide_eq_true (by kernel_rfl)) k0 bel (trodLt k0)) trodAll_mk0), rfl, bel.frame _, fun h => by cases h⟩
theorem frameMeets_holds : Rows.FrameMeetsSaid :=
  OpenClaim.holds_of_wide 5 Try.f5 rfl rfl rfl rfl rfl rfl rfl ⟨rfl, rfl, rfl, rfl, rfl⟩ rfl rfl rfl rfl rfl (by kernel_rfl) Try.func5 (by kernel_rfl)
    (of_decide_eq_true (by kernel_rfl)) (by unfold Func.isWrapper; first | (rw [if_pos (by decide +kernel)]; kernel_rfl) | (rw [if_neg (by decide +kernel)]; exact ⟨rfl, rfl⟩))
    (fun os started H enc _ => frameMeets_lifted os started H enc)
#print axioms frameMeets_holds
end Go.Proofs.Ytbnfgcbfdlfilaa
