import Derived.Test.YtegfdeiamnlfhaaDoorSw
namespace Go.Proofs.YtegfdeiamnlfhaaDoor
open Go.RowKit Go.Deep
set_option maxHeartbeats 4000000 in
theorem same8 (k p t : Int) (v v2 : Value) (l : List UInt8) (w : World) (hr : Bs.RB w v l) (hr2 : Bs.RB w v2 l) (hl : l.length ≤ 140737488351232) :
    Calls Tryd.prog 8 #[.agg #[.int .i64 k, .int .i64 p, .int .i64 t, v], .agg #[.int .i64 k, .int .i64 p, .int .i64 t, v2]] w fun e w' => e = .returned (.bool true) ∧ Below w.heap.size w w' := by
  have hr0 := hr
  have hr20 := hr2
  obtain ⟨a, c, rfl, _, _⟩ := hr
  obtain ⟨a2, c2, rfl, _, _⟩ := hr2
  generalize hnn : l.length = n at *
  have HNN := Lib.hid hnn
  clear hnn
  have b0 : Below w.heap.size w ((w.alloc (.cells #[.int .i64 k, .int .i64 p, .int .i64 t, .slice a n c] 24)).alloc (.cells #[.int .i64 k, .int .i64 p, .int .i64 t, .slice a2 n c2] 24)) := ((Below.refl _ _).alloc (Nat.le_refl _) _).alloc (by simp) _
  have H0 : Hid (Below w.heap.size w ((w.alloc (.cells #[.int .i64 k, .int .i64 p, .int .i64 t, .slice a n c] 24)).alloc (.cells #[.int .i64 k, .int .i64 p, .int .i64 t, .slice a2 n c2] 24)) ∧ Bs.RB ((w.alloc (.cells #[.int .i64 k, .int .i64 p, .int .i64 t, .slice a n c] 24)).alloc (.cells #[.int .i64 k, .int .i64 p, .int .i64 t, .slice a2 n c2] 24)) (.slice a n c) l ∧ Bs.RB ((w.alloc (.cells #[.int .i64 k, .int .i64 p, .int .i64 t, .slice a n c] 24)).alloc (.cells #[.int .i64 k, .int .i64 p, .int .i64 t, .slice a2 n c2] 24)) (.slice a2 n c2) l ∧ l.length ≤ 140737488351232) := ⟨b0, hr0.keep b0, hr20.keep b0, by rw [HNN.out]; exact hl⟩
  clear hr0 hr20 b0
  go_enter Tryd.func8, Tryd.ntmps8
  go_wp2_with fail
  refine (Bs.same _ _ l _ H0.out.2.2.2 H0.out.2.1 H0.out.2.2.1).mono ?_
  rintro e w2 ⟨rfl, nn, rfl⟩
  have HE : Hid (Below w.heap.size w (World.drewN ((w.alloc (.cells #[.int .i64 k, .int .i64 p, .int .i64 t, .slice a n c] 24)).alloc (.cells #[.int .i64 k, .int .i64 p, .int .i64 t, .slice a2 n c2] 24)) nn)) := Bs.belowN H0.out.1 nn
  go_wp2
  go_ret
  exact ⟨rfl, HE.out⟩
theorem esL_len (k p t : Int) (l : List UInt8) : (esL k p t l).length ≤ 140737488351232 := by
  unfold esL
  split
  · rename_i h
    rw [List.length_append]
    omega
  · simp
set_option maxHeartbeats 4000000 in
set_option maxRecDepth 100000 in
theorem sheetsLaw (k p t : Int) (v : Value) (l : List UInt8) (w : World) (hk : i64 k) (hp : i64 p) (ht : i64 t) (hr : Bs.RB w v l) (hl : l.length ≤ 140737488351232) (hT : TB w.heap.size w) :
    Calls Tryd.prog 3 #[.agg #[.int .i64 k, .int .i64 p, .int .i64 t, v]] w fun e w' => e = .returned (.bool true) ∧ Below w.heap.size w w' := by
  have hr0 := hr
  obtain ⟨a, c, rfl, _, _⟩ := hr
  have HRW0 := Lib.hid hr0
  have HL : Hid (i64 k ∧ i64 p ∧ i64 t ∧ l.length ≤ 140737488351232 ∧ TB w.heap.size w) := ⟨hk, hp, ht, hl, hT⟩
  generalize hnn : l.length = n at *
  have HNN := Lib.hid hnn
  clear hnn
  have b0 : Below w.heap.size w ((w.alloc (.cells #[.int .i64 k, .int .i64 p, .int .i64 t, .slice a n c] 24)).alloc (.cells #[.int .i64 k, .int .i64 p, .int .i64 t, .slice a n c] 24)) := ((Below.refl _ _).alloc (Nat.le_refl _) _).alloc (by simp) _
  have H0 : Hid (Below w.heap.size w ((w.alloc (.cells #[.int .i64 k, .int .i64 p, .int .i64 t, .slice a n c] 24)).alloc (.cells #[.int .i64 k, .int .i64 p, .int .i64 t, .slice a n c] 24)) ∧ Bs.RB ((w.alloc (.cells #[.int .i64 k, .int .i64 p, .int .i64 t, .slice a n c] 24)).alloc (.cells #[.int .i64 k, .int .i64 p, .int .i64 t, .slice a n c] 24)) (.slice a n c) l ∧ ((w.alloc (.cells #[.int .i64 k, .int .i64 p, .int .i64 t, .slice a n c] 24)).alloc (.cells #[.int .i64 k, .int .i64 p, .int .i64 t, .slice a n c] 24)).heap[w.heap.size]? = some (.cells #[.int .i64 k, .int .i64 p, .int .i64 t, .slice a n c] 24 (0, 0)) ∧ ((w.alloc (.cells #[.int .i64 k, .int .i64 p, .int .i64 t, .slice a n c] 24)).alloc (.cells #[.int .i64 k, .int .i64 p, .int .i64 t, .slice a n c] 24)).heap[w.heap.size + 1]? = some (.cells #[.int .i64 k, .int .i64 p, .int .i64 t, .slice a n c] 24 (0, 0)) ∧ ((w.alloc (.cells #[.int .i64 k, .int .i64 p, .int .i64 t, .slice a n c] 24)).alloc (.cells #[.int .i64 k, .int .i64 p, .int .i64 t, .slice a n c] 24)).heap.size = w.heap.size + 2) := ⟨b0, hr0.keep b0, (Below.heap_alloc _ _ _ (by simp)).trans (heap_new _ _), by have := heap_new (w.alloc (.cells #[.int .i64 k, .int .i64 p, .int .i64 t, .slice a n c] 24)) (.cells #[.int .i64 k, .int .i64 p, .int .i64 t, .slice a n c] 24); simpa using this, by simp⟩
  clear hr0 b0 hk hp ht hl hT
  go_enter Tryd.func3, Tryd.ntmps3
  go_upto_region 2 with fail
  have HRW : Hid (Bs.RB w (.slice a n c) l) := HRW0.out
  clear HRW0
  generalize ((w.alloc (.cells #[.int .i64 k, .int .i64 p, .int .i64 t, .slice a n c] 24)).alloc (.cells #[.int .i64 k, .int .i64 p, .int .i64 t, .slice a n c] 24)) = w0 at *
  generalize hvb : w.heap.size = H at *
  have HS := Lib.hid hvb
  clear hvb
  have h0 := H0.out.2.2.1
  have c3 : w0.cell? ⟨H, 3, none⟩ = some (.slice a n c) := by simp [World.cell?, h0]
  clear h0
  go_wp2_with fail
  refine (Bs.copied H0.out.2.1 (by rw [HNN.out]; exact HL.out.2.2.2.1)).mono ?_
  rintro e w1 ⟨v1, rfl, o1, b1⟩
  obtain ⟨a1, c1, rfl⟩ := o1.form
  rw [HNN.out] at o1 ⊢
  have z0 := H0.out.2.2.2.2
  have z1 := b1.size
  have hA1 : w1.heap[H]? = _ := (b1.block H (by omega)).trans H0.out.2.2.1
  have hG1 : w1.heap[H + 1]? = _ := (b1.block (H + 1) (by omega)).trans H0.out.2.2.2.1
  have hG2 := blk_set hG1 3 (.slice a1 n c1)
  have hA2 : (w1.setCell ⟨H + 1, 3, none⟩ (.slice a1 n c1)).heap[H]? = _ := (Below.heap_setCell _ _ _ _ (by show H ≠ H + 1; omega)).trans hA1
  have hb0w := H0.out.1
  have bs1 : Below H w (w1.setCell ⟨H + 1, 3, none⟩ (.slice a1 n c1)) := (hb0w.trans (b1.mono (by have := hb0w.size; have := HS.out; omega))).setCell (by show H ≤ H + 1; omega) _
  have fs : ∀ g, g ≠ H + 1 → (w1.setCell ⟨H + 1, 3, none⟩ (.slice a1 n c1)).heap[g]? = w1.heap[g]? := fun g hg => Below.heap_setCell _ _ _ _ hg
  have fr : Bs.Fr (fun k => k ≠ H + 1) w1 (w1.setCell ⟨H + 1, 3, none⟩ (.slice a1 n c1)) := (Bs.Fr.refl _ w1).setCell (H + 1) 3 _ (fun _ e => e rfl)
  have hrs : Bs.RB (w1.setCell ⟨H + 1, 3, none⟩ (.slice a1 n c1)) (.slice a n c) l := HRW.out.keep (by rw [HS.out]; exact bs1)
  have H2 : Hid (Below H w (w1.setCell ⟨H + 1, 3, none⟩ (.slice a1 n c1)) ∧ Bs.RB (w1.setCell ⟨H + 1, 3, none⟩ (.slice a1 n c1)) (.slice a1 n c1) l ∧ Bs.RB (w1.setCell ⟨H + 1, 3, none⟩ (.slice a1 n c1)) (.slice a n c) l ∧ (w1.setCell ⟨H + 1, 3, none⟩ (.slice a1 n c1)).heap[H]? = some (.cells #[.int .i64 k, .int .i64 p, .int .i64 t, .slice a n c] 24 (0, 0)) ∧ (w1.setCell ⟨H + 1, 3, none⟩ (.slice a1 n c1)).heap[H + 1]? = some (.cells #[.int .i64 k, .int .i64 p, .int .i64 t, .slice a1 n c1] 24 (0, 0)) ∧ H + 2 ≤ (w1.setCell ⟨H + 1, 3, none⟩ (.slice a1 n c1)).heap.size) := by
    refine ⟨bs1, o1.rb.fr fr (fun g hg => ?_), hrs, hA2, hG2, by simp; omega⟩
    have := (World.ownsRow.lt o1 g hg).1
    omega
  have s3 : w1.cell? ⟨H + 1, 3, none⟩ = some (.slice a n c) := by simp [World.cell?, hG1]
  have sf : w1.frozen? ⟨H + 1, 3, none⟩ = false := by simp [World.frozen?, hG1]
  clear o1 b1 c3 z0 z1 hA1 hG1 hG2 hA2 hb0w bs1 fs fr
  go_upto_region 3 with fail
  generalize w1.setCell ⟨H + 1, 3, none⟩ (.slice a1 n c1) = w2 at *
  clear s3 sf
  have HK : Hid (∀ w', Below w2.heap.size w2 w' → w'.heap[H]? = some (.cells #[.int .i64 k, .int .i64 p, .int .i64 t, .slice a n c] 24 (0, 0)) ∧ w'.heap[H + 1]? = some (.cells #[.int .i64 k, .int .i64 p, .int .i64 t, .slice a1 n c1] 24 (0, 0)) ∧ Below H w w' ∧ TB w'.heap.size w') := fun w' hw => by
    have z := H2.out.2.2.2.2.2
    have hb := H2.out.1.trans (hw.mono (by omega))
    refine ⟨(hw.block H (by omega)).trans H2.out.2.2.2.1, (hw.block (H + 1) (by omega)).trans H2.out.2.2.2.2.1, hb, ?_⟩
    have e := HS.out
    have hb' : Below w.heap.size w w' := by rw [e]; exact hb
    exact tb_up ((show TB w.heap.size w by rw [e]; exact HL.out.2.2.2.2).on hb') hb'.size
  obtain ⟨hA, hG, -, hT2⟩ := HK.out w2 (Below.refl _ _)
  have m0 : World.cell? w2 ⟨H, 0, none⟩ = some (.int .i64 k) := by simp [World.cell?, hA]
  have m1 : World.cell? w2 ⟨H, 1, none⟩ = some (.int .i64 p) := by simp [World.cell?, hA]
  have m2 : World.cell? w2 ⟨H, 2, none⟩ = some (.int .i64 t) := by simp [World.cell?, hA]
  have m3 : World.cell? w2 ⟨H, 3, none⟩ = some (.slice a n c) := by simp [World.cell?, hA]
  have g0 : World.cell? w2 ⟨H + 1, 0, none⟩ = some (.int .i64 k) := by simp [World.cell?, hG]
  have g1 : World.cell? w2 ⟨H + 1, 1, none⟩ = some (.int .i64 p) := by simp [World.cell?, hG]
  have g2 : World.cell? w2 ⟨H + 1, 2, none⟩ = some (.int .i64 t) := by simp [World.cell?, hG]
  have g3 : World.cell? w2 ⟨H + 1, 3, none⟩ = some (.slice a1 n c1) := by simp [World.cell?, hG]
  clear hA hG
  go_wp2_with fail
  refine (encode5 k p t (.slice a1 n c1) l w2 HL.out.1 HL.out.2.1 HL.out.2.2.1 H2.out.2.1 (by rw [HNN.out]; exact HL.out.2.2.2.1) hT2).mono ?_
  rintro e w3 ⟨a3, c3, rfl, r3, b3⟩
  have H3 : Hid (Below w2.heap.size w2 w3 ∧ Bs.RB w3 (.slice a3 (esL k p t l).length c3) (esL k p t l)) := ⟨b3, r3⟩
  clear hT2 b3 r3 m0 m1 m2 m3 g0 g1 g2 g3
  obtain ⟨hA, hG, -, hT3⟩ := HK.out w3 H3.out.1
  have m0 : World.cell? w3 ⟨H, 0, none⟩ = some (.int .i64 k) := by simp [World.cell?, hA]
  have m1 : World.cell? w3 ⟨H, 1, none⟩ = some (.int .i64 p) := by simp [World.cell?, hA]
  have m2 : World.cell? w3 ⟨H, 2, none⟩ = some (.int .i64 t) := by simp [World.cell?, hA]
  have m3 : World.cell? w3 ⟨H, 3, none⟩ = some (.slice a n c) := by simp [World.cell?, hA]
  have g0 : World.cell? w3 ⟨H + 1, 0, none⟩ = some (.int .i64 k) := by simp [World.cell?, hG]
  have g1 : World.cell? w3 ⟨H + 1, 1, none⟩ = some (.int .i64 p) := by simp [World.cell?, hG]
  have g2 : World.cell? w3 ⟨H + 1, 2, none⟩ = some (.int .i64 t) := by simp [World.cell?, hG]
  have g3 : World.cell? w3 ⟨H + 1, 3, none⟩ = some (.slice a1 n c1) := by simp [World.cell?, hG]
  clear hA hG
  go_wp2_with fail
  refine (encode6 k p t (.slice a n c) l w3 HL.out.1 HL.out.2.1 HL.out.2.2.1 (H2.out.2.2.1.keep H3.out.1) (by rw [HNN.out]; exact HL.out.2.2.2.1) hT3).mono ?_
  rintro e w4 ⟨a4, c4, rfl, r4, b4⟩
  have H4 : Hid (Below w2.heap.size w2 w4 ∧ Bs.RB w4 (.slice a3 (esL k p t l).length c3) (esL k p t l) ∧ Bs.RB w4 (.slice a4 (esL k p t l).length c4) (esL k p t l)) := ⟨H3.out.1.trans (b4.mono H3.out.1.size), H3.out.2.keep b4, r4⟩
  clear hT3 b4 r4 m0 m1 m2 m3 g0 g1 g2 g3
  go_wp2_with fail
  refine (Bs.same _ _ _ w4 (esL_len k p t l) H4.out.2.1 H4.out.2.2).mono ?_
  rintro e w5 ⟨rfl, nn, rfl⟩
  have H5 : Hid (Below w2.heap.size w2 (w4.drewN nn)) := Bs.belowN H4.out.1 nn
  obtain ⟨hA, hG, -, -⟩ := HK.out w4 H4.out.1
  have m0 : World.cell? (w4.drewN nn) ⟨H, 0, none⟩ = some (.int .i64 k) := by simp [World.cell?, hA]
  have m1 : World.cell? (w4.drewN nn) ⟨H, 1, none⟩ = some (.int .i64 p) := by simp [World.cell?, hA]
  have m2 : World.cell? (w4.drewN nn) ⟨H, 2, none⟩ = some (.int .i64 t) := by simp [World.cell?, hA]
  have m3 : World.cell? (w4.drewN nn) ⟨H, 3, none⟩ = some (.slice a n c) := by simp [World.cell?, hA]
  have g0 : World.cell? (w4.drewN nn) ⟨H + 1, 0, none⟩ = some (.int .i64 k) := by simp [World.cell?, hG]
  have g1 : World.cell? (w4.drewN nn) ⟨H + 1, 1, none⟩ = some (.int .i64 p) := by simp [World.cell?, hG]
  have g2 : World.cell? (w4.drewN nn) ⟨H + 1, 2, none⟩ = some (.int .i64 t) := by simp [World.cell?, hG]
  have g3 : World.cell? (w4.drewN nn) ⟨H + 1, 3, none⟩ = some (.slice a1 n c1) := by simp [World.cell?, hG]
  clear hA hG
  go_wp2_with fail
  refine (same8 k p t (.slice a1 n c1) (.slice a n c) l (w4.drewN nn) (H2.out.2.1.keep H5.out) (H2.out.2.2.1.keep H5.out) (by rw [HNN.out]; exact HL.out.2.2.2.1)).mono ?_
  rintro e w6 ⟨rfl, b6⟩
  have HE : Hid (Below H w w6) := (HK.out _ (H5.out.trans (b6.mono H5.out.size))).2.2.1
  clear b6 m0 m1 m2 m3 g0 g1 g2 g3
  go_wp2
  go_ret
  exact ⟨rfl, by rw [HS.out]; exact HE.out⟩
end Go.Proofs.YtegfdeiamnlfhaaDoor
