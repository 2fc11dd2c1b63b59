import Derived.Test.YtpembmfpgolniaaDoorAw
namespace Go.Proofs.YtpembmfpgolniaaDoor
open Go.RowKit
set_option maxHeartbeats 1000000 in
theorem numLT (w : World) (k : Int) : Calls Tryd.prog 12 #[.int .i64 k] w fun e w' => e = .returned (.int .i64 k) ∧ w = w' := by
  go_enter Tryd.func12, Tryd.ntmps12
  go_wp2
  go_ret
  exact ⟨rfl, rfl⟩
set_option maxHeartbeats 2000000 in
set_option maxRecDepth 100000 in
theorem awakeT (w : World) (hk : KT w) :
    Calls Tryd.prog 4 #[] w fun e w' => e = .returned (.bool true) ∧ Below w.heap.size w w' := by
  have hz := heapNew w (.cells z40 27)
  have hc := heapSetRow _ _ _ am40 _ hz
  have b0 : Below w.heap.size w ((w.alloc (.cells z40 27)).setRow w.heap.size am40) := belowSetRow ((Below.refl _ _).alloc (Nat.le_refl _) _) (Nat.le_refl _) _
  have HA : Hid (MB ((w.alloc (.cells z40 27)).setRow w.heap.size am40) w.heap.size am ∧ KT ((w.alloc (.cells z40 27)).setRow w.heap.size am40) ∧ Below w.heap.size w ((w.alloc (.cells z40 27)).setRow w.heap.size am40)) := ⟨hc, hk.below b0 hk.pos, b0⟩
  have hbt := am_built
  have hmi := am_info
  have hmo := am_one
  clear b0 hk
  go_enter Tryd.func4, Tryd.ntmps4
  go_wp2_with (first | (refine wpList_built rfl 27 _ rfl am40 hbt ?_) | (refine wpList_store_row rfl 27 _ _ rfl w.heap.size am40 rfl rfl 27 z40 hz hmi rfl hmo ?_) | (refine wpList_load_row rfl 27 _ rfl w.heap.size rfl 27 am40 (0, 0) _ hc Tryd.underlying27 rfl hmi ?_))
  generalize (w.alloc (.cells z40 27)).setRow w.heap.size am40 = X at *
  have HE := encodeT X am [] [] (MM.nil am_ok rfl rfl) HA.out.2.1
  rw [am_val, am_enc] at HE
  refine HE.mono ?_
  rintro e w1 ⟨v1, rfl, o1, b1⟩
  obtain ⟨va, vn, vc, rfl⟩ := o1.form3
  have HB : Hid (RB w1 (.slice va vn vc) ab13 ∧ MB w1 w.heap.size am ∧ KT w1 ∧ Below w.heap.size w w1) := ⟨o1.rb, HA.out.1.below b1, HA.out.2.1.below b1 HA.out.2.1.pos, HA.out.2.2.trans (b1.mono HA.out.2.2.size)⟩
  clear HA HE o1 b1 hz hc hbt
  have H13 : Hid (RB (w1.alloc (.cells (bc ab13) 5)) (.slice (some ⟨w1.heap.size, 0, none⟩) 13 13) ab13 ∧ RB (w1.alloc (.cells (bc ab13) 5)) (.slice va vn vc) ab13 ∧ Below w1.heap.size w1 (w1.alloc (.cells (bc ab13) 5))) := ⟨rb_new rfl, HB.out.1.keep ((Below.refl _ _).alloc (Nat.le_refl _) _), (Below.refl _ _).alloc (Nat.le_refl _) _⟩
  have e13 : bc ab13 = #[Value.int .u8 6, Value.int .u8 0, Value.int .u8 0, Value.int .u8 1, Value.int .u8 2, Value.int .u8 0, Value.int .u8 0, Value.int .u8 0, Value.int .u8 64, Value.int .u8 0, Value.int .u8 0, Value.int .u8 64, Value.int .u8 0] := rfl
  rw [e13] at H13
  clear e13
  go_wp2_with fail
  refine (numLT w1 0).mono ?_
  rintro e w9 ⟨rfl, rfl⟩
  go_wp2_with fail
  refine (same _ _ ab13 _ (by decide) H13.out.2.1 H13.out.1).mono ?_
  rintro e w2 ⟨rfl, nq, rfl⟩
  have HC : Hid (RB ((w1.alloc (.cells #[Value.int .u8 6, Value.int .u8 0, Value.int .u8 0, Value.int .u8 1, Value.int .u8 2, Value.int .u8 0, Value.int .u8 0, Value.int .u8 0, Value.int .u8 64, Value.int .u8 0, Value.int .u8 0, Value.int .u8 64, Value.int .u8 0] 5)).drewN nq) (.slice va vn vc) ab13 ∧ MB ((w1.alloc (.cells #[Value.int .u8 6, Value.int .u8 0, Value.int .u8 0, Value.int .u8 1, Value.int .u8 2, Value.int .u8 0, Value.int .u8 0, Value.int .u8 0, Value.int .u8 64, Value.int .u8 0, Value.int .u8 0, Value.int .u8 64, Value.int .u8 0] 5)).drewN nq) w.heap.size am ∧ KT ((w1.alloc (.cells #[Value.int .u8 6, Value.int .u8 0, Value.int .u8 0, Value.int .u8 1, Value.int .u8 2, Value.int .u8 0, Value.int .u8 0, Value.int .u8 0, Value.int .u8 64, Value.int .u8 0, Value.int .u8 0, Value.int .u8 64, Value.int .u8 0] 5)).drewN nq) ∧ Below w.heap.size w ((w1.alloc (.cells #[Value.int .u8 6, Value.int .u8 0, Value.int .u8 0, Value.int .u8 1, Value.int .u8 2, Value.int .u8 0, Value.int .u8 0, Value.int .u8 0, Value.int .u8 64, Value.int .u8 0, Value.int .u8 0, Value.int .u8 64, Value.int .u8 0] 5)).drewN nq)) := by
    have bb := belowN H13.out.2.2 nq
    exact ⟨HB.out.1.keep bb, HB.out.2.1.below bb, HB.out.2.2.1.below bb HB.out.2.2.1.pos, HB.out.2.2.2.trans (bb.mono HB.out.2.2.2.size)⟩
  generalize (w1.alloc (.cells #[Value.int .u8 6, Value.int .u8 0, Value.int .u8 0, Value.int .u8 1, Value.int .u8 2, Value.int .u8 0, Value.int .u8 0, Value.int .u8 0, Value.int .u8 64, Value.int .u8 0, Value.int .u8 0, Value.int .u8 64, Value.int .u8 0] 5)).drewN nq = w2 at *
  clear H13 HB
  go_wp2_with fail
  refine (decodeT w2 _ ab13 (by decide) HC.out.1 HC.out.2.2.1).mono ?_
  rintro e w3 ⟨d1, h1, rfl, q1, q2, q3⟩
  have HBW := back_way am am_ok [] [] am_val rfl rfl
  rw [am_enc] at HBW
  rw [HBW.1, HBW.2.2.2.1]
  have M1 : MM w3 { am with d := d1, h := h1 } [] [] := by
    have h9 := MM.of_dec q1 q2
    rw [HBW.2.1, HBW.2.2.1, HBW.2.2.2.1] at h9
    exact h9
  have hz2 := heapNew w3 (.cells z40 27)
  have hi1 := info_msg M1.ok
  have ho1 := M1.ok.one
  have hs1 : z40.size = (Mv.cs { am with d := d1, h := h1 }).size := M1.ok.size.symm
  have bX : Below w3.heap.size w3 ((w3.alloc (.cells z40 27)).setRow w3.heap.size (Mv.cs { am with d := d1, h := h1 })) := belowSetRow ((Below.refl _ _).alloc (Nat.le_refl _) _) (Nat.le_refl _) _
  have b9 : Below w2.heap.size w2 ((w3.alloc (.cells z40 27)).setRow w3.heap.size (Mv.cs { am with d := d1, h := h1 })) := q3.trans (bX.mono q3.size)
  have HD : Hid (MB ((w3.alloc (.cells z40 27)).setRow w3.heap.size (Mv.cs { am with d := d1, h := h1 })) w.heap.size am ∧ MB ((w3.alloc (.cells z40 27)).setRow w3.heap.size (Mv.cs { am with d := d1, h := h1 })) w3.heap.size { am with d := d1, h := h1 } ∧ MM ((w3.alloc (.cells z40 27)).setRow w3.heap.size (Mv.cs { am with d := d1, h := h1 })) { am with d := d1, h := h1 } [] [] ∧ KT ((w3.alloc (.cells z40 27)).setRow w3.heap.size (Mv.cs { am with d := d1, h := h1 })) ∧ Below w.heap.size w ((w3.alloc (.cells z40 27)).setRow w3.heap.size (Mv.cs { am with d := d1, h := h1 }))) := ⟨HC.out.2.1.below b9, MB.setRow (m := zm) hz2, M1.keep bX, HC.out.2.2.1.below b9 HC.out.2.2.1.pos, HC.out.2.2.2.trans (b9.mono HC.out.2.2.2.size)⟩
  clear q1 q2 q3 HBW bX b9 HC
  generalize hmm : ({ am with d := d1, h := h1 } : Mv) = mm at *
  have HMM : Hid (mm = { am with d := mm.d, h := mm.h }) := by subst hmm; rfl
  clear hmm M1
  have hca : ((w3.alloc (.cells z40 27)).setRow w3.heap.size mm.cs).heap[w.heap.size]? = some (.cells am40 27 (0, 0)) := HD.out.1
  have hkb := zk40_built (-1)
  go_wp2_with (first | (refine wpList_store_row rfl 27 _ _ rfl w3.heap.size mm.cs rfl rfl 27 z40 hz2 hi1 hs1 ho1 ?_) | (refine wpList_load_row rfl 27 _ rfl w.heap.size rfl 27 am40 (0, 0) _ hca Tryd.underlying27 rfl hmi ?_) | (refine wpList_built rfl 27 _ rfl (zk40 (-1)) hkb ?_) | (refine build_two rfl _ _ rfl rfl rfl ?_))
  have bY : Below ((w3.alloc (.cells z40 27)).setRow w3.heap.size mm.cs).heap.size ((w3.alloc (.cells z40 27)).setRow w3.heap.size mm.cs) (((w3.alloc (.cells z40 27)).setRow w3.heap.size mm.cs).alloc (.cells two80 27)) := (Below.refl _ _).alloc (Nat.le_refl _) _
  have HY : Hid (RMS (((w3.alloc (.cells z40 27)).setRow w3.heap.size mm.cs).alloc (.cells two80 27)) (.slice (some ⟨w3.heap.size + 1, 0, none⟩) 2 2) twoM ∧ KT (((w3.alloc (.cells z40 27)).setRow w3.heap.size mm.cs).alloc (.cells two80 27)) ∧ MB (((w3.alloc (.cells z40 27)).setRow w3.heap.size mm.cs).alloc (.cells two80 27)) w.heap.size am ∧ MB (((w3.alloc (.cells z40 27)).setRow w3.heap.size mm.cs).alloc (.cells two80 27)) w3.heap.size mm ∧ MM (((w3.alloc (.cells z40 27)).setRow w3.heap.size mm.cs).alloc (.cells two80 27)) mm [] [] ∧ Below w.heap.size w (((w3.alloc (.cells z40 27)).setRow w3.heap.size mm.cs).alloc (.cells two80 27))) := ⟨rms_two (heapLast _ _ (by simp [World.setRow])), HD.out.2.2.2.1.below bY HD.out.2.2.2.1.pos, HD.out.1.below bY, HD.out.2.1.below bY, HD.out.2.2.1.keep bY, HD.out.2.2.2.2.trans (bY.mono HD.out.2.2.2.2.size)⟩
  clear bY HD hca hz2 hkb
  generalize (((w3.alloc (.cells z40 27)).setRow w3.heap.size mm.cs).alloc (.cells two80 27)) = Y at *
  refine (wireT Y _ twoM HY.out.1 HY.out.2.1 (by decide)).mono ?_
  rintro e w4 ⟨v4, rfl, o4, b4⟩
  rw [two_wirE, if_pos rfl] at o4
  rw [two_wirE]
  obtain ⟨v4a, v4c, rfl⟩ := o4.form
  rw [two_len]
  have HZ : Hid (MB w4 w.heap.size am ∧ MB w4 w3.heap.size mm ∧ MM w4 mm [] [] ∧ Below w.heap.size w w4) := ⟨HY.out.2.2.1.below b4, HY.out.2.2.2.1.below b4, HY.out.2.2.2.2.1.keep b4, HY.out.2.2.2.2.2.trans (b4.mono HY.out.2.2.2.2.2.size)⟩
  clear o4 b4 HY
  have hc1 := HZ.out.1.cells
  have hc2 := HZ.out.2.1.cells
  have hia := info_msg am_ok
  have HN := fun u k => numLT u k
  go_wp2_with (first | (go_at_call 12; refine (numLT _ _).mono ?_; rintro e w9 ⟨rfl, rfl⟩) | (refine wpList_load_msg rfl _ rfl w.heap.size rfl am hc1 hia ?_) | (refine wpList_load_msg rfl _ rfl w3.heap.size rfl mm hc2 hi1 ?_) | (go_at_call 11; refine (msameT w4 am mm [] [] (MM.nil am_ok rfl rfl) HZ.out.2.2.1 HMM.out).mono ?_; rintro e w5 ⟨rfl, b5⟩; have HF : Hid (Below w.heap.size w w5) := HZ.out.2.2.2.trans (b5.mono HZ.out.2.2.2.size); clear b5))
  go_ret
  exact ⟨rfl, HF.out⟩
end Go.Proofs.YtpembmfpgolniaaDoor
