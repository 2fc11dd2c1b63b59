import Derived.Test.YtinagikfemdmbaaHexBack
namespace Go.Proofs.Ytinagikfemdmbaa
open Go.RowKit
theorem Reads.drewN {w : World} {v : Value} {xs : List Int} (h : Reads w v xs) (n : Nat) : Reads (w.drewN n) v xs := h.below (below_drewN (Below.refl _ _) n)
set_option maxHeartbeats 1000000 in
theorem hexes7 (v0 : Value) (s : ByteArray) (xs : List Int) (w : World) (h : Reads w v0 xs) (hl : xs.length ≤ 1048576) (hb8 : ∀ x ∈ xs, 0 ≤ x ∧ x ≤ 255) (hs : s.size ≤ 2097152) :
    Calls Try.prog 7 #[v0, .string s] w fun e w' => e = .returned (.bool true) ∧ Below w.heap.size w w' := by
  have hm : xs.length ≤ maxLen := by unfold maxLen; omega
  have HB : Hid (∀ x ∈ xs, 0 ≤ x ∧ x ≤ 255) := hb8
  have H0 : Hid (Reads w v0 xs) := h
  clear h hb8
  go_enter Try.func7, Try.ntmps7
  go_wp2_with fail
  refine (copied17 H0.out hl).mono ?_
  rintro e w1 ⟨vg, rfl, hg1, hb1⟩
  have G1 : Hid (Reads w1 vg xs) := hg1
  have R1 : Hid (Reads w1 v0 xs) := H0.out.below hb1
  clear hg1 H0
  go_wp2_with fail
  refine (hex18 G1.out hl HB.out).mono ?_
  rintro e w2 ⟨rfl, hb2⟩
  have G2 : Hid (Reads w2 vg xs) := G1.out.below hb2
  have R2 : Hid (Reads w2 v0 xs) := R1.out.below hb2
  have B2 : Below w.heap.size w w2 := hb1.trans (hb2.mono hb1.size)
  clear G1 R1 hb1 hb2
  go_wp2_with fail
  refine (hex19 R2.out hl HB.out).mono ?_
  rintro e w3 ⟨rfl, hb3⟩
  have G3 : Hid (Reads w3 vg xs) := G2.out.below hb3
  have R3 : Hid (Reads w3 v0 xs) := R2.out.below hb3
  have B3 : Below w.heap.size w w3 := B2.trans (hb3.mono B2.size)
  clear G2 R2 B2 hb3
  have N20 : Hid (resN (strI (hexI xs)) = 0 ∧ resL (strI (hexI xs)) = xs ∧ (strI (hexI xs)).size ≤ 2097152) := ⟨back_N HB.out, back_L HB.out, by rw [strI_size, hexI_len]; omega⟩
  generalize strI (hexI xs) = t at *
  have H : Hid (∀ wx, wx = w3 → Calls Try.prog 12 #[vg, v0] wx fun e w' => e = .returned (.bool true) ∧ ∃ n, w' = wx.drewN n) := fun wx e => same12 hm (e ▸ G3.out) (e ▸ R3.out)
  clear G3
  go_wp2_with (go_at_call 12; refine (H.out _ rfl).mono ?_; rintro e w4 ⟨rfl, nq, rfl⟩)
  refine (unhex20 t _ N20.out.2.2).mono ?_
  rintro e w5 ⟨vb, rfl, hr5, hb5⟩
  rw [N20.out.1]
  rw [N20.out.2.1] at hr5
  have R5 : Hid (Reads w5 v0 xs) := (R3.out.drewN nq).below hb5
  have B5 : Below w.heap.size w w5 := (below_drewN B3 nq).trans (hb5.mono B3.size)
  have Hb : Hid (∀ wx, wx = w5 → Calls Try.prog 12 #[vb, v0] wx fun e w' => e = .returned (.bool true) ∧ ∃ n, w' = wx.drewN n) := fun wx e => same12 hm (e ▸ hr5) (e ▸ R5.out)
  clear hr5 hb5 R3 B3 R5 H N20 HB hl
  go_wp2_with (go_at_call 12; refine (Hb.out _ rfl).mono ?_; rintro e w6 ⟨rfl, nq6, rfl⟩)
  refine (unhex20 s _ hs).mono ?_
  rintro e w7 ⟨vx, rfl, hr7, hb7⟩
  have X7 : Hid (Reads w7 vx (resL s)) := hr7
  have B7 : Below w.heap.size w w7 := (below_drewN B5 nq6).trans (hb7.mono B5.size)
  clear hr7 hb7 B5 Hb hm
  go_wp2_with fail
  refine (unhex21 s _ hs).mono ?_
  rintro e w8 ⟨vy, rfl, hr8, hb8⟩
  have X8 := X7.out.below hb8
  have B8 : Below w.heap.size w w8 := B7.trans (hb8.mono B7.size)
  have hm8 : (resL s).length ≤ maxLen := by
    unfold maxLen
    by_cases hg : goodS s
    · rw [resL_yes hg, unL_len]; omega
    · rw [resL_no hg]; simp
  have Hc : Hid (∀ wx, wx = w8 → Calls Try.prog 12 #[vx, vy] wx fun e w' => e = .returned (.bool true) ∧ ∃ n, w' = wx.drewN n) := fun wx e => same12 hm8 (e ▸ X8) (e ▸ hr8)
  clear hr8 hb8 X7 X8 B7 hm8
  generalize resN s = r at *
  go_wp2_with (go_at_call 12; refine (Hc.out _ rfl).mono ?_; rintro e w9 ⟨rfl, nq9, rfl⟩)
  go_ret
  exact ⟨rfl, below_drewN B8 _⟩
end Go.Proofs.Ytinagikfemdmbaa
