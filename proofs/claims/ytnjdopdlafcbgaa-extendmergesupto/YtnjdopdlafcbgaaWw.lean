import Derived.Test.YtnjdopdlafcbgaaWv
namespace Go.Proofs.Ytnjdopdlafcbgaa
open Go.RowKit Go.Deep
set_option maxHeartbeats 4000000 in
theorem namesLaw (w : World) (nv : Value) (sz qu : Int) (ag : ByteArray) (yv : Value) (s : ByteArray) (id : Int) (ns : List (ByteArray × Int)) (dn : Nat) (ky : Nat → ByteArray) (dv : Nat → T) (hns : RNs w nv ns) (hnl : ns.length * 24 ≤ 140737488351232)
    (hok : ∀ i, i < dn → (ky i).size ≤ 140737488351232 ∧ (dv i).ok) (hdn : dn ≤ 140737488351232) (hr : RD (fun _ => True) w dn ky dv yv) :
    Calls Try.prog 5 #[.agg #[nv, .int .i64 sz, .int .i64 qu, .string ag, yv], .string s, .int .i64 id] w fun e w' => e = .returned (.bool true) ∧ Below w.heap.size w w' := by
  have hns0 := hns
  have hr0 := hr
  obtain ⟨na, nc, rfl, -⟩ := hns
  obtain ⟨ma, mc, rfl, -⟩ := hr
  generalize hnn : ns.length = nn at *
  have HNN := Lib.hid hnn
  clear hnn
  have b0 : Below w.heap.size w (w.alloc (Obj.cells #[.slice na nn nc, .int .i64 sz, .int .i64 qu, .string ag, .slice ma dn mc] 35)) := (Below.refl _ _).alloc (Nat.le_refl _) _
  have HA : Hid (ow (w.alloc (Obj.cells #[.slice na nn nc, .int .i64 sz, .int .i64 qu, .string ag, .slice ma dn mc] 35)) w.heap.size (.slice na nn nc) (.int .i64 sz) (.int .i64 qu) (.string ag) (.slice ma dn mc)) := heap_new _ _
  have H0 : Hid (RNs (w.alloc (Obj.cells #[.slice na nn nc, .int .i64 sz, .int .i64 qu, .string ag, .slice ma dn mc] 35)) (.slice na nn nc) ns ∧ RD (fun _ => True) (w.alloc (Obj.cells #[.slice na nn nc, .int .i64 sz, .int .i64 qu, .string ag, .slice ma dn mc] 35)) dn ky dv (.slice ma dn mc) ∧ Below w.heap.size w (w.alloc (Obj.cells #[.slice na nn nc, .int .i64 sz, .int .i64 qu, .string ag, .slice ma dn mc] 35))) := ⟨hns0.keep b0, hr0.below b0, b0⟩
  have HL : Hid (nn * 24 ≤ 140737488351232 ∧ dn ≤ 140737488351232 ∧ ∀ i, i < dn → (dv i).ok) := ⟨hnl, hdn, fun i hi => (hok i hi).2⟩
  have HFar := Lib.hid (far14 dn ky dv (.slice ma dn mc) (w.alloc (Obj.cells #[.slice na nn nc, .int .i64 sz, .int .i64 qu, .string ag, .slice ma dn mc] 35)) hok hdn H0.out.2.1)
  clear hns0 hr0 b0 hok hdn hnl
  go_enter Try.func5, Try.ntmps5
  go_upto_region 1 with fail
  generalize w.alloc (Obj.cells #[.slice na nn nc, .int .i64 sz, .int .i64 qu, .string ag, .slice ma dn mc] 35) = w0 at *
  generalize hvb : w.heap.size = H at *
  have HS : Hid (w.heap.size = H) := hvb
  clear hvb
  obtain ⟨a0, a1, a2, a3, a4⟩ := HA.out.cells
  go_wp2_with fail
  refine HFar.out.mono ?_
  rintro e w1 ⟨r, rfl, b1, hsm⟩
  have hA1 := HA.out.keep (b1.block _ HA.out.lt)
  have H1 : Hid (RNs w1 (.slice na nn nc) ns ∧ RD (fun _ => True) w1 dn ky dv (.slice ma dn mc) ∧ Below H w w1 ∧ ow w1 H (.slice na nn nc) (.int .i64 sz) (.int .i64 qu) (.string ag) (.slice ma dn mc)) := ⟨H0.out.1.keep b1, H0.out.2.1.below b1, H0.out.2.2.trans (b1.mono (by have := H0.out.2.2.size; have := HS.out; omega)), hA1⟩
  clear a0 a1 a2 a3 a4 b1 HFar
  obtain ⟨a0, a1, a2, a3, a4⟩ := hA1.cells
  clear hA1
  cases r with
  | true =>
    clear hsm
    go_wp2
    go_ret
    exact ⟨rfl, by rw [HS.out]; exact H1.out.2.2.1⟩
  | false =>
    have HSM := Lib.hid (hsm rfl)
    clear hsm
    go_wp2_with fail
    refine (twin15 w1 (.slice na nn nc) sz qu ag (.slice ma dn mc) ns dn ky dv H1.out.1 (by rw [HNN.out]; exact HL.out.1) (fun i hi => ⟨HL.out.2.2 i hi, HSM.out.2 i hi⟩) HSM.out.1 H1.out.2.1).mono ?_
    rintro e w2 ⟨nv', yv', rfl, hn2, hd2, b2, -, -⟩
    have hn2' := hn2
    have hd2' := hd2
    obtain ⟨na2, nc2, rfl, -⟩ := hn2'
    obtain ⟨ma2, mc2, rfl, -⟩ := hd2'
    rw [HNN.out] at hn2 ⊢
    have b3 : Below w2.heap.size w2 (w2.alloc (Obj.cells #[.slice na2 nn nc2, .int .i64 sz, .int .i64 qu, .string ag, .slice ma2 dn mc2] 35)) := (Below.refl _ _).alloc (Nat.le_refl _) _
    have b23 : Below w1.heap.size w1 (w2.alloc (Obj.cells #[.slice na2 nn nc2, .int .i64 sz, .int .i64 qu, .string ag, .slice ma2 dn mc2] 35)) := b2.trans (b3.mono b2.size)
    have hG3 : ow (w2.alloc (Obj.cells #[.slice na2 nn nc2, .int .i64 sz, .int .i64 qu, .string ag, .slice ma2 dn mc2] 35)) w2.heap.size (.slice na2 nn nc2) (.int .i64 sz) (.int .i64 qu) (.string ag) (.slice ma2 dn mc2) := heap_new _ _
    have H3 : Hid (RNs (w2.alloc (Obj.cells #[.slice na2 nn nc2, .int .i64 sz, .int .i64 qu, .string ag, .slice ma2 dn mc2] 35)) (.slice na nn nc) ns ∧ RNs (w2.alloc (Obj.cells #[.slice na2 nn nc2, .int .i64 sz, .int .i64 qu, .string ag, .slice ma2 dn mc2] 35)) (.slice na2 nn nc2) ns ∧ RD (fun _ => True) (w2.alloc (Obj.cells #[.slice na2 nn nc2, .int .i64 sz, .int .i64 qu, .string ag, .slice ma2 dn mc2] 35)) dn ky dv (.slice ma dn mc) ∧ RD (fun _ => True) (w2.alloc (Obj.cells #[.slice na2 nn nc2, .int .i64 sz, .int .i64 qu, .string ag, .slice ma2 dn mc2] 35)) dn ky dv (.slice ma2 dn mc2) ∧ Below H w (w2.alloc (Obj.cells #[.slice na2 nn nc2, .int .i64 sz, .int .i64 qu, .string ag, .slice ma2 dn mc2] 35))) :=
      ⟨H1.out.1.keep b23, hn2.keep b3, H1.out.2.1.below b23, hd2.below b3, H1.out.2.2.1.trans (b23.mono (by have := H1.out.2.2.1.size; have := HS.out; omega))⟩
    have HK : Hid (∀ w', Below (w2.alloc (Obj.cells #[.slice na2 nn nc2, .int .i64 sz, .int .i64 qu, .string ag, .slice ma2 dn mc2] 35)).heap.size (w2.alloc (Obj.cells #[.slice na2 nn nc2, .int .i64 sz, .int .i64 qu, .string ag, .slice ma2 dn mc2] 35)) w' → ow w' H (.slice na nn nc) (.int .i64 sz) (.int .i64 qu) (.string ag) (.slice ma dn mc) ∧ ow w' w2.heap.size (.slice na2 nn nc2) (.int .i64 sz) (.int .i64 qu) (.string ag) (.slice ma2 dn mc2)) := fun w' hw =>
      ⟨(H1.out.2.2.2.keep (b23.block _ H1.out.2.2.2.lt)).keep (hw.block _ (H1.out.2.2.2.keep (b23.block _ H1.out.2.2.2.lt)).lt), hG3.keep (hw.block _ hG3.lt)⟩
    clear a0 a1 a2 a3 a4 hn2 hd2 b2 b3 b23 hG3
    go_upto_region 4 with fail
    generalize w2.alloc (Obj.cells #[.slice na2 nn nc2, .int .i64 sz, .int .i64 qu, .string ag, .slice ma2 dn mc2] 35) = w3 at *
    generalize w2.heap.size = G at *
    obtain ⟨hA, hG⟩ := HK.out w3 (Below.refl _ _)
    obtain ⟨a0, a1, a2, a3, a4⟩ := hA.cells
    obtain ⟨g0, g1, g2, g3, g4⟩ := hG.cells
    clear hA hG
    have HL2 : Hid (ns.length ≤ 140737488351232) := by have := HL.out.1; have h9 := HNN.out; show ns.length ≤ _; omega
    go_wp2_with fail
    refine (number16 w3 (.slice na2 nn nc2) sz qu ag (.slice ma2 dn mc2) s ns H3.out.2.1 HL2.out).mono ?_
    rintro e w4 ⟨rfl, b4⟩
    have H4 : Hid (Below w3.heap.size w3 w4) := b4
    obtain ⟨hA, hG⟩ := HK.out w4 b4
    clear a0 a1 a2 a3 a4 g0 g1 g2 g3 g4
    obtain ⟨a0, a1, a2, a3, a4⟩ := hA.cells
    obtain ⟨g0, g1, g2, g3, g4⟩ := hG.cells
    clear hA hG b4
    go_wp2_with fail
    refine (number17 w4 (.slice na nn nc) sz qu ag (.slice ma dn mc) s ns (H3.out.1.keep H4.out) HL2.out).mono ?_
    rintro e w5 ⟨rfl, b5⟩
    have H5 : Hid (Below w3.heap.size w3 w5) := H4.out.trans (b5.mono H4.out.size)
    obtain ⟨hA, hG⟩ := HK.out w5 H5.out
    clear a0 a1 a2 a3 a4 g0 g1 g2 g3 g4
    obtain ⟨a0, a1, a2, a3, a4⟩ := hA.cells
    obtain ⟨g0, g1, g2, g3, g4⟩ := hG.cells
    clear hA hG b5
    go_wp2_with fail
    refine (name18 w5 (.slice na2 nn nc2) sz qu ag (.slice ma2 dn mc2) id ns (H3.out.2.1.keep H5.out) HL2.out).mono ?_
    rintro e w6 ⟨rfl, b6⟩
    have H6 : Hid (Below w3.heap.size w3 w6) := H5.out.trans (b6.mono H5.out.size)
    obtain ⟨hA, hG⟩ := HK.out w6 H6.out
    clear a0 a1 a2 a3 a4 g0 g1 g2 g3 g4
    obtain ⟨a0, a1, a2, a3, a4⟩ := hA.cells
    obtain ⟨g0, g1, g2, g3, g4⟩ := hG.cells
    clear hA hG b6
    go_wp2_with fail
    refine (name19 w6 (.slice na nn nc) sz qu ag (.slice ma dn mc) id ns (H3.out.1.keep H6.out) HL2.out).mono ?_
    rintro e w7 ⟨rfl, b7⟩
    have H7 : Hid (Below w3.heap.size w3 w7) := H6.out.trans (b7.mono H6.out.size)
    obtain ⟨hA, hG⟩ := HK.out w7 H7.out
    clear a0 a1 a2 a3 a4 g0 g1 g2 g3 g4
    obtain ⟨a0, a1, a2, a3, a4⟩ := hA.cells
    obtain ⟨g0, g1, g2, g3, g4⟩ := hG.cells
    clear hA hG b7
    go_wp2_with fail
    refine (same20 w7 (.slice na2 nn nc2) (.slice na nn nc) sz qu ag (.slice ma2 dn mc2) (.slice ma dn mc) ns dn ky dv (H3.out.2.1.keep H7.out) (H3.out.1.keep H7.out) HL2.out HL.out.2.2 HL.out.2.1 (H3.out.2.2.2.1.below H7.out) (H3.out.2.2.1.below H7.out)).mono ?_
    rintro e w8 ⟨rfl, b8⟩
    have H8 : Hid (Below H w w8) := H3.out.2.2.2.2.trans ((H7.out.trans (b8.mono H7.out.size)).mono (by have := H3.out.2.2.2.2.size; have := HS.out; omega))
    clear a0 a1 a2 a3 a4 g0 g1 g2 g3 g4 b8
    go_wp2
    go_ret
    exact ⟨rfl, by rw [HS.out]; exact H8.out⟩
end Go.Proofs.Ytnjdopdlafcbgaa
