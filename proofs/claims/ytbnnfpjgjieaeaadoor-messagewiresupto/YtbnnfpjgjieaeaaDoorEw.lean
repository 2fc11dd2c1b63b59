import Derived.Test.YtbnnfpjgjieaeaaDoorReA
import Derived.Test.YtbnnfpjgjieaeaaDoorReB
import Derived.Test.YtbnnfpjgjieaeaaDoorReC
import Derived.Test.YtbnnfpjgjieaeaaDoorReD
namespace Go.Proofs.YtbnnfpjgjieaeaaDoor
open Go.RowKit
theorem encB_same (m : Mv) (d h : Value) (D hb : List UInt8) (e1 : sln d = sln m.d) (e2 : sln h = sln m.h) : encB { m with d := d, h := h } D hb = encB m D hb := by
  unfold encB
  rw [valE_same m d h e1 e2]
  have hl : ∀ cs, lays cs { m with d := d, h := h } D hb = lays cs m D hb := by
    intro cs
    unfold lays
    congr 2
  simp only [hl]
set_option maxHeartbeats 1000000 in
set_option maxRecDepth 100000 in
theorem rEncodeT (w : World) (m : Mv) (D hb : List UInt8) (hm : MM w m D hb) :
    Calls Tryd.prog 33 #[.agg m.cs] w fun e w' => ∃ v, e = .returned (.tuple #[v, .int .i64 (valE m)]) ∧ OW w.heap.size w' v (encB m D hb) ∧ Below w.heap.size w w' := by
  by_cases h0 : refE m = 0
  · have hv : valE m = 0 := by rw [← ref_val]; exact h0
    have hk : kE m.k = false := by
      cases hk : kE m.k with
      | false => rfl
      | true => simp [refE, hk] at h0
    obtain ⟨r0, r1, r2, r3, r4, r5, r6, r7, r8, r9, r10, r11, r12, r13⟩ := rowFor_lit
    rw [hv]
    rcases kE_cases _ hk with h | h | h | h | h | h | h | h | h | h | h | h | h | h
    · have e : encB m D hb = lays [] m D hb := by unfold encB; rw [if_pos hv, h, r0]; rfl
      rw [e]; exact rEnc_0 w m D hb hm h0 h
    · have e : encB m D hb = lays [1] m D hb := by unfold encB; rw [if_pos hv, h, r1]; rfl
      rw [e]; exact rEnc_1 w m D hb hm h0 h
    · have e : encB m D hb = lays [1] m D hb := by unfold encB; rw [if_pos hv, h, r2]; rfl
      rw [e]; exact rEnc_2 w m D hb hm h0 h
    · have e : encB m D hb = lays [1] m D hb := by unfold encB; rw [if_pos hv, h, r3]; rfl
      rw [e]; exact rEnc_3 w m D hb hm h0 h
    · have e : encB m D hb = lays [1] m D hb := by unfold encB; rw [if_pos hv, h, r4]; rfl
      rw [e]; exact rEnc_4 w m D hb hm h0 h
    · have e : encB m D hb = lays [1, 3] m D hb := by unfold encB; rw [if_pos hv, h, r5]; rfl
      rw [e]; exact rEnc_5 w m D hb hm h0 h
    · have e : encB m D hb = lays [1, 10] m D hb := by unfold encB; rw [if_pos hv, h, r6]; rfl
      rw [e]; exact rEnc_6 w m D hb hm h0 h
    · have e : encB m D hb = lays [1, 3, 4, 6] m D hb := by unfold encB; rw [if_pos hv, h, r7]; rfl
      rw [e]; exact rEnc_7 w m D hb hm h0 h
    · have e : encB m D hb = lays [1, 3, 4, 10] m D hb := by unfold encB; rw [if_pos hv, h, r8]; rfl
      rw [e]; exact rEnc_8 w m D hb hm h0 h
    · have e : encB m D hb = lays [1, 3, 4, 6] m D hb := by unfold encB; rw [if_pos hv, h, r9]; rfl
      rw [e]; exact rEnc_9 w m D hb hm h0 h
    · have e : encB m D hb = lays [1, 7, 8, 3, 5, 9] m D hb := by unfold encB; rw [if_pos hv, h, r10]; rfl
      rw [e]; exact rEnc_10 w m D hb hm h0 h
    · have e : encB m D hb = lays [1, 7, 8, 3, 5, 9, 11] m D hb := by unfold encB; rw [if_pos hv, h, r11]; rfl
      rw [e]; exact rEnc_11 w m D hb hm h0 h
    · have e : encB m D hb = lays [1, 7, 8, 3, 5, 9] m D hb := by unfold encB; rw [if_pos hv, h, r12]; rfl
      rw [e]; exact rEnc_12 w m D hb hm h0 h
    · have e : encB m D hb = lays [2, 10] m D hb := by unfold encB; rw [if_pos hv, h, r13]; rfl
      rw [e]; exact rEnc_13 w m D hb hm h0 h
  · have hv : valE m ≠ 0 := by rw [← ref_val]; exact h0
    have HE : Hid (encB m D hb = []) := by unfold Hid encB; rw [if_neg hv]
    have b0 : Below w.heap.size w (w.alloc (.cells m.cs 47)) := (Below.refl _ _).alloc (Nat.le_refl _) _
    have HA : Hid (MB (w.alloc (.cells m.cs 47)) w.heap.size m ∧ Below w.heap.size w (w.alloc (.cells m.cs 47)) ∧ w.heap.size < (w.alloc (.cells m.cs 47)).heap.size ∧ m.ok) := ⟨heapNew w _, b0, by simp, hm.ok⟩
    have hc := HA.out.1.cells
    have him := info_msg hm.ok
    obtain ⟨ve, hve⟩ : ∃ ve, valE m = ve := ⟨_, rfl⟩
    have HVE : Hid (valE m = ve ∧ refE m = valE m) := ⟨hve, ref_val m⟩
    rw [hve] at hv
    clear b0 hm hve h0
    go_enter Tryd.func33, Tryd.ntmps33
    go_wp2_with (first | (refine wpList_load_row rfl 47 _ rfl w.heap.size rfl 47 m.cs (0, 0) _ hc Tryd.underlying47 rfl him ?_))
    generalize w.alloc (.cells m.cs 47) = w0 at *
    refine (rValidT w0 m HA.out.2.2.2).mono ?_
    rintro e w1 ⟨rfl, b1⟩
    rw [HVE.out.2, HVE.out.1]
    have HB : Hid (Below w.heap.size w w1) := HA.out.2.1.trans (b1.mono (Nat.le_of_lt HA.out.2.2.1))
    clear b1
    go_wp2
    go_ret2
    exact ⟨_, by rw [HVE.out.1]; rfl, by rw [HE.out]; exact World.ownsRow_nil _ _ _ _, HB.out⟩
end Go.Proofs.YtbnnfpjgjieaeaaDoor
