import Derived.Test.YtglknmelcianjaaRh2
namespace Go.Proofs.Ytglknmelcianjaa
open Go.RowKit
theorem seen_sec {D : Dk} (hg : Gd D) (s : Nat) (hs : 64 * s + 64 ≤ D.last.length) : seen D s = sec (img D.last D.ws) s := by
  have hil := img_len D.last D.ws
  have hsl : (seen D s).length = 64 := by
    unfold seen
    cases hn : nw s D.ws with
    | none => exact sec_len _ _ hs
    | some d => exact (hg.nw hn).2
  apply byt_ext (by rw [hsl, sec_len _ _ (by rw [hil]; exact hs)])
  intro i hi
  rw [hsl] at hi
  rw [sec_byt _ _ _ hi]
  unfold img
  rw [lf_byt _ _ _ (by omega)]
  unfold imB seen
  rw [show (64 * s + i) / 64 = s by omega, show (64 * s + i) % 64 = i by omega]
  cases hn : nw s D.ws with
  | none => exact sec_byt _ _ _ hi
  | some d => rfl
theorem take_sec (l : List UInt8) (i : Nat) : l.take (64 * i) ++ sec l i = l.take (64 * (i + 1)) := by
  unfold sec
  rw [show 64 * (i + 1) = 64 * i + 64 by omega, List.take_add]
section
variable {S : Nat → Prop} {w w' : World} {q lb cap : Nat} {wv : Value} {ps : List (Wt × Value)} {lf : Int} {D : Dk}
set_option maxHeartbeats 2000000 in
set_option maxRecDepth 100000 in
theorem rimageT (h : RI S w q lb cap wv ps lf D) (hn : ps.length ≤ 1073741824) : Calls Try.prog 27 #[.pointer (some ⟨q, 0, none⟩)] w (LisE w (img D.last D.ws)) := by
  have H : Hid (RI S w q lb cap wv ps lf D) := h
  have HG := Lib.hid h.gd
  have HN := Lib.hid hn
  have hc0 : ∀ u, Below w.heap.size w u → u.cell? ⟨q, 0, none⟩ = some (.slice (some ⟨lb, 0, none⟩) D.last.length cap) := fun u hu => (h.fr (Fr.of_below hu)).c0
  have HC0 := Lib.hid hc0
  unfold LisE
  obtain ⟨m, hm⟩ : ∃ m, D.last.length = 64 * m := ⟨D.last.length / 64, by have := h.gd.mul; omega⟩
  have hmx : m ≤ 65536 := by have := h.gd.max; omega
  have HM := Lib.hid hm
  generalize hll : D.last.length = ll at *
  have HLL := Lib.hid hll
  have hq : Int.tdiv (ll : Int) 64 = (m : Int) := by
    rw [hm, show ((64 * m : Nat) : Int) = 64 * (m : Int) by omega]
    exact Int.mul_tdiv_cancel_left _ (by decide)
  have hqw : IntKind.i64.wrap (m : Int) = (m : Int) := IntWalk.i64_in _ (by omega)
  clear h hc0 hm hll
  go_enter Try.func27, Try.ntmps27
  go_wp2_with fail
  go_loopw [3, 4] (fun v t wr => ∃ i : Nat, i ≤ m ∧ t = .int .i64 i ∧ Hid (OW w.heap.size wr v ((img D.last D.ws).take (64 * i)) ∧ Below w.heap.size w wr)) (fun _ t _ => m - (intOf t).toNat)
  case atStart => exact ⟨0, Nat.zero_le _, rfl, ⟨by rw [Nat.mul_zero, List.take_zero]; exact World.ownsRow_nil _ _ _ _, Below.refl _ _⟩⟩
  case round =>
    obtain ⟨i, hi, rfl, HI⟩ := hrel
    have c0 := HC0.out wr HI.out.2
    by_cases hlt : i < m
    · have HCal := Lib.hid (seenT (H.out.fr (Fr.of_below HI.out.2)) i (by rw [HLL.out, HM.out]; omega) HN.out)
      go_wp2_with fail
      refine HCal.out.mono ?_
      rintro e w1 ⟨v1, rfl, o1, b1⟩
      have HO : Hid (OW w.heap.size w1 u3 ((img D.last D.ws).take (64 * i)) ∧ w.heap.size ≤ w1.heap.size ∧ Below w.heap.size w w1 ∧ RB w1 v1 (sec (img D.last D.ws) i)) := ⟨ownsRow_fr (S := fun _ => True) HI.out.1 (Fr.of_below b1) (fun _ _ => trivial), Nat.le_trans HI.out.2.size b1.size, HI.out.2.trans (b1.mono HI.out.2.size), by rw [← seen_sec HG.out i (by rw [HLL.out, HM.out]; omega)]; exact o1.rb⟩
      have hil : (img D.last D.ws).length = ll := by rw [img_len, HLL.out]
      have hsl : (sec (img D.last D.ws) i).length = 64 := sec_len _ _ (by rw [hil, HM.out]; omega)
      have htl : ((img D.last D.ws).take (64 * i)).length ≤ 4194304 := by rw [List.length_take]; omega
      generalize hT : (img D.last D.ws).take (64 * i) = T at *
      have HT := Lib.hid hT
      clear hT
      generalize hV : seen D i = V at *
      obtain ⟨ua, uc', rfl⟩ := ownsRow_form HO.out.1
      obtain ⟨va, vc, rfl⟩ := ownsRow_form o1
      clear HI HCal o1 b1 c0 hV hil
      go_wp2_with (first | (at_builtin; go_loud (refine append_bytes (m := sec (img D.last D.ws) i) (l := T) rfl _ _ rfl rfl HO.out.1 rfl HO.out.2.2.2 HO.out.2.1 (by omega) ?_); intro v4 w4 o4 b4))
      rw [← HT.out, take_sec] at o4
      generalize hT2 : (img D.last D.ws).take (64 * (i + 1)) = T2 at o4
      obtain ⟨a4, c4, rfl⟩ := ownsRow_form o4
      have HN2 : Hid (OW w.heap.size w4 (.slice a4 T2.length c4) ((img D.last D.ws).take (64 * (i + 1))) ∧ Below w.heap.size w w4) := ⟨by rw [hT2]; exact o4, HO.out.2.2.1.trans b4⟩
      clear hT2
      clear o4 b4 HO
      go_wp2
      exact ⟨⟨i + 1, by omega, by go_num, HN2⟩, by simp [intOf]; omega⟩
    · have hin : m = i := by omega
      have HE : Hid (OW w.heap.size wr u3 (img D.last D.ws) ∧ Below w.heap.size w wr) := by
        have h1 := HI.out
        rw [List.take_of_length_le (by rw [img_len, HLL.out, HM.out]; omega)] at h1
        exact h1
      clear HI
      go_wp2
      go_ret
      exact ⟨_, rfl, HE.out.1, HE.out.2⟩
set_option maxHeartbeats 1000000 in
theorem rimage_nil (w : World) : Calls Try.prog 27 #[.pointer none] w fun e w' => e = .returned (.slice none 0 0) ∧ w' = w := by
  go_enter Try.func27, Try.ntmps27
  go_wp2
  go_ret
  exact ⟨rfl, rfl⟩
end
end Go.Proofs.Ytglknmelcianjaa
