import Derived.Test.YtkmmiokcihphgaaDoorEw
namespace Go.Proofs.YtkmmiokcihphgaaDoor
open Go.RowKit
theorem encB_le {w : World} (m : Mv) (D hb : List UInt8) (hm : MM w m D hb) : (encB m D hb).length ≤ 140737488351232 := by
  unfold encB
  split
  · rename_i h0
    have hs := val_small m h0
    have h1 := hm.sd
    have h2 := hm.sh
    split
    · rename_i r hr
      have h3 := lays_le r.cs m hm.ok D hb (by omega) (by omega)
      have h4 := (rws_all r (rowFor_mem hr).1).2.2.2.2.2
      have h5 := Nat.mul_le_mul_right 1000000 h4
      omega
    · simp
  · simp
set_option maxHeartbeats 1000000 in
set_option maxRecDepth 100000 in
theorem encodesLaw (w : World) (m : Mv) (D hb : List UInt8) (hm : MM w m D hb) (hk : KT w) :
    Calls Tryd.prog 8 #[.agg m.cs] w fun e w' => e = .returned (.bool true) ∧ Below w.heap.size w w' := by
  have b0 : Below w.heap.size w (w.alloc (.cells m.cs 28)) := (Below.refl _ _).alloc (Nat.le_refl _) _
  have HA : Hid (KT (w.alloc (.cells m.cs 28)) ∧ MB (w.alloc (.cells m.cs 28)) w.heap.size m ∧ MM (w.alloc (.cells m.cs 28)) m D hb ∧ Below w.heap.size w (w.alloc (.cells m.cs 28)) ∧ w.heap.size < (w.alloc (.cells m.cs 28)).heap.size) := ⟨hk.below b0 hk.pos, heapNew w _, hm.keep b0, b0, by simp⟩
  have hc := HA.out.2.1.cells
  have him := info_msg hm.ok
  clear b0 hk
  go_enter Tryd.func8, Tryd.ntmps8
  go_wp2_with (first | (refine wpList_load_row rfl 28 _ rfl w.heap.size rfl 28 m.cs (0, 0) _ hc Tryd.underlying28 rfl him ?_))
  generalize w.alloc (.cells m.cs 28) = w0 at *
  refine (twinT w0 m D hb HA.out.2.2.1).mono ?_
  rintro e w1 ⟨d', h', rfl, hn, b1⟩
  clear hc
  have hn' : ({ m with d := d', h := h' } : Mv) = { m with d := d', h := h' } := rfl
  generalize hN : ({ m with d := d', h := h' } : Mv) = n at *
  have HN : Hid (n = { m with d := n.d, h := n.h } ∧ m.k = n.k) := by subst hN; exact ⟨rfl, rfl⟩
  have hsame : valE n = valE m ∧ encB n D hb = encB m D hb := by
    have h1 := hn.sd; have h2 := hm.sd; have h3 := hn.sh; have h4 := hm.sh
    have e1 : sln n.d = sln m.d := by omega
    have e2 : sln n.h = sln m.h := by omega
    subst hN
    exact ⟨valE_same m d' h' e1 e2, encB_same m d' h' D hb e1 e2⟩
  clear hN hn'
  have HB : Hid (KT w1 ∧ MB w1 w.heap.size m ∧ MM w1 m D hb ∧ MM w1 n D hb ∧ Below w.heap.size w w1 ∧ w.heap.size < w1.heap.size) := ⟨HA.out.1.below b1 HA.out.1.pos, HA.out.2.1.below b1, HA.out.2.2.1.keep b1, hn, HA.out.2.2.2.1.trans (b1.mono (Nat.le_of_lt HA.out.2.2.2.2)), Nat.lt_of_lt_of_le HA.out.2.2.2.2 b1.size⟩
  clear b1 HA
  have hz := heapNew w1 (.cells zm.cs 28)
  have hin := info_msg hn.ok
  have hone := hn.ok.one
  have hszn : zm.cs.size = n.cs.size := by rw [zm_ok.size, hn.ok.size]
  have C1 : ∃ X, (w1.alloc (.cells zm.cs 28)).setRow w1.heap.size n.cs = X ∧ MB X w.heap.size m ∧ MB X w1.heap.size n ∧ KT X ∧ MM X m D hb ∧ MM X n D hb ∧ Below w.heap.size w X ∧ w.heap.size < X.heap.size ∧ w1.heap.size < X.heap.size := by
    have bx : Below w1.heap.size w1 ((w1.alloc (.cells zm.cs 28)).setRow w1.heap.size n.cs) := belowSetRow ((Below.refl _ _).alloc (Nat.le_refl _) _) (Nat.le_refl _) _
    have hlt := HB.out.2.2.2.2.2
    exact ⟨_, rfl, HB.out.2.1.below bx, MB.setRow (m := zm) hz, HB.out.1.below bx HB.out.1.pos, HB.out.2.2.1.keep bx, HB.out.2.2.2.1.keep bx, HB.out.2.2.2.2.1.trans (bx.mono (by omega)), by simp [World.setRow]; omega, by simp [World.setRow]⟩
  obtain ⟨X, hX, C1⟩ := C1
  have HX : Hid (MB X w.heap.size m ∧ MB X w1.heap.size n ∧ KT X ∧ MM X m D hb ∧ MM X n D hb ∧ Below w.heap.size w X ∧ w.heap.size < X.heap.size ∧ w1.heap.size < X.heap.size) := C1
  have hc := C1.1.cells
  have HV : Hid (valE n = valE m ∧ encB n D hb = encB m D hb) := hsame
  have HS : Hid (MM w m D hb) := hm
  clear C1 hsame hm hn
  rw [← hX] at hc
  go_upto_region 2 with (first | (refine wpList_store_row rfl 28 _ _ rfl w1.heap.size n.cs rfl rfl 28 zm.cs hz hin hszn hone ?_))
  rw [z40_eq, hX]
  rw [hX] at hc
  clear hz hX hszn hone HB
  go_wp2_with (first | (refine wpList_load_row rfl 28 _ rfl w.heap.size rfl 28 m.cs (0, 0) _ hc Tryd.underlying28 rfl him ?_))
  refine (encodeT X m D hb HX.out.2.2.2.1 HX.out.2.2.1).mono ?_
  rintro e w2 ⟨u1, rfl, o1, b2⟩
  have H2 : Hid (MB w2 w.heap.size m ∧ MB w2 w1.heap.size n ∧ MM w2 m D hb ∧ MM w2 n D hb ∧ Below w.heap.size w w2 ∧ w.heap.size < w2.heap.size ∧ w1.heap.size < w2.heap.size ∧ RB w2 u1 (encB m D hb)) := ⟨HX.out.1.below b2, HX.out.2.1.below b2, HX.out.2.2.2.1.keep b2, HX.out.2.2.2.2.1.keep b2, HX.out.2.2.2.2.2.1.trans (b2.mono (Nat.le_of_lt HX.out.2.2.2.2.2.2.1)), Nat.lt_of_lt_of_le HX.out.2.2.2.2.2.2.1 b2.size, Nat.lt_of_lt_of_le HX.out.2.2.2.2.2.2.2 b2.size, o1.rb⟩
  obtain ⟨ua, un, uc, rfl⟩ := o1.form2
  clear b2 HX hc o1
  have hc := H2.out.2.1.cells
  go_wp2_with (first | (refine wpList_load_row rfl 28 _ rfl w1.heap.size rfl 28 n.cs (0, 0) _ hc Tryd.underlying28 rfl hin ?_))
  refine (rEncodeT w2 n D hb H2.out.2.2.2.1).mono ?_
  rintro e w3 ⟨u2, rfl, o2, b3⟩
  rw [HV.out.1]
  rw [HV.out.2] at o2
  have H3 : Hid (MB w3 w.heap.size m ∧ MB w3 w1.heap.size n ∧ MM w3 m D hb ∧ MM w3 n D hb ∧ Below w.heap.size w w3 ∧ w.heap.size < w3.heap.size ∧ RB w3 (.slice ua un uc) (encB m D hb) ∧ RB w3 u2 (encB m D hb) ∧ (encB m D hb).length ≤ 140737488351232) := ⟨H2.out.1.below b3, H2.out.2.1.below b3, H2.out.2.2.1.keep b3, H2.out.2.2.2.1.keep b3, H2.out.2.2.2.2.1.trans (b3.mono (Nat.le_of_lt H2.out.2.2.2.2.2.1)), Nat.lt_of_lt_of_le H2.out.2.2.2.2.2.1 b3.size, H2.out.2.2.2.2.2.2.2.keep b3, o2.rb, encB_le m D hb HS.out⟩
  obtain ⟨ua2, un2, uc2, rfl⟩ := o2.form2
  clear b3 H2 hc o2
  have hc : ∀ k, (w3.drewN k).heap[w.heap.size]? = some (.cells m.cs 28 (0, 0)) := fun _ => H3.out.1.cells
  have hc2 : ∀ k, (w3.drewN k).heap[w1.heap.size]? = some (.cells n.cs 28 (0, 0)) := fun _ => H3.out.2.1.cells
  generalize valE m = vE
  go_wp2_with (first | (go_at_call 15; refine (same _ _ (encB m D hb) w3 H3.out.2.2.2.2.2.2.2.2 H3.out.2.2.2.2.2.2.1 H3.out.2.2.2.2.2.2.2.1).mono ?_; rintro e w' ⟨rfl, nq, rfl⟩) | (refine wpList_load_msg rfl _ rfl w.heap.size rfl m (hc _) him ?_) | (refine wpList_load_msg rfl _ rfl w1.heap.size rfl n (hc2 _) hin ?_) | (go_at_call 12; refine (msameT (w3.drewN nq) m n D hb (H3.out.2.2.1.keep (belowDrew _ _)) (H3.out.2.2.2.1.keep (belowDrew _ _)) HN.out.1).mono ?_; rintro e w4 ⟨rfl, b4⟩; have H4 : Hid (Below w.heap.size w w4) := (belowN H3.out.2.2.2.2.1 nq).trans (b4.mono (Nat.le_of_lt H3.out.2.2.2.2.2.1)); clear b4))
  go_ret
  exact ⟨rfl, H4.out⟩
end Go.Proofs.YtkmmiokcihphgaaDoor
