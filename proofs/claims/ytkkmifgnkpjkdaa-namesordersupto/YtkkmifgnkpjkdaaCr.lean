import Derived.Test.YtkkmifgnkpjkdaaPl
namespace Go.Proofs.Ytkkmifgnkpjkdaa
open Go.RowKit
set_option maxHeartbeats 1000000 in
theorem clash7 (v : Value) (L : List (List ByteArray)) (w : World) (hf : PF L) (h1 : PR w L v) :
    Calls Try.prog 7 #[v] w fun e w' => ∃ (i j : Nat) (z : Int), e = .returned (.tuple #[.int .i64 i, .int .i64 j, .int .i64 z]) ∧ CL L i j z ∧ ∃ n, w' = w.drewN n := by
  have H1 : Hid (PR w L v) := h1
  have HF : Hid (PF L) := hf
  have hl := hf.1
  obtain ⟨a1, c1, rfl, _, _⟩ := h1
  clear hf
  generalize hn : L.length = n at *
  have HN : Hid (L.length = n) := hn
  clear hn
  go_enter Try.func7, Try.ntmps7
  go_wp2
  go_loopw [5] (fun i wr => ∃ k nq : Nat, k ≤ n ∧ i = .int .i64 k ∧ wr = w.drewN nq ∧ Hid (∀ b, b < k → ∀ a, a < b → er (la L a) (la L b) = 0)) (fun i _ => n - (intOf i).toNat)
  case atStart => exact ⟨0, 0, Nat.zero_le _, rfl, rfl, fun i h => by omega⟩
  case round =>
    obtain ⟨k, nq, hk, rfl, rfl, HA⟩ := hrel
    by_cases hlt : k < n
    · have hkl : k < L.length := by have := HN.out; omega
      go_wp2
      go_loopw [6] (fun i wr => ∃ j nr : Nat, j ≤ k ∧ i = .int .i64 j ∧ wr = w.drewN nr ∧ Hid (∀ a, a < j → er (la L a) (la L k) = 0)) (fun i _ => k - (intOf i).toNat)
      case atStart => exact ⟨0, nq, Nat.zero_le _, rfl, rfl, fun i h => by omega⟩
      case round =>
        obtain ⟨j, nr, hj, rfl, rfl, HB⟩ := hrel
        by_cases hjk : j < k
        · obtain ⟨b1, o1, rfl, _, x, k1, k2⟩ := H1.out.cellAt (k := j) (by omega)
          obtain ⟨b2, o2, he, _, y, g1, g2⟩ := H1.out.cellAt hkl
          simp at he
          obtain ⟨rfl, rfl⟩ := he
          have HC : Hid (∀ nn, Calls Try.prog 17 #[x, y] ((w.drewN nr).drewN nn) fun e w' => e = .returned (.int .i64 (er (la L j) (la L k))) ∧ ∃ n, w' = ((w.drewN nr).drewN nn).drewN n) := fun nn => by
            rw [dr2]
            exact both17 x y _ _ _ (HF.out.la (by omega)).1 (HF.out.la hkl).1 (k2.keep (drB _ _)) (g2.keep (drB _ _))
          have k1' : (w.drewN nr).cell? ⟨b1, o1 + j, none⟩ = some x := k1
          have g1' : (w.drewN nr).cell? ⟨b1, o1 + k, none⟩ = some y := g1
          have HW : Hid (∀ n2, ∃ n, (w.drewN nr).drewN n2 = w.drewN n) := fun n2 => ⟨_, dr2 _ _ _⟩
          clear k1 g1
          generalize w.drewN nr = wq at HC k1' g1' HW ⊢
          have hjn : j < n := by omega
          clear k2 g2
          by_cases hz : er (la L j) (la L k) = 0
          · have HB' : Hid (∀ a, a < j + 1 → er (la L a) (la L k) = 0) := fun a ha => by
              by_cases e : a = j
              · rw [e]; exact hz
              · exact HB.out a (by omega)
            rw [hz] at HC
            clear hz hkl
            go_wp2
            go_quiet ((go_at_call 17; exact Calls.quiet_of (HC.out _)))
            go_wp2
            obtain ⟨n9, h9⟩ := HW.out _
            exact ⟨⟨j + 1, n9, by omega, by go_num, h9, HB'⟩, by simp [intOf]; omega⟩
          · have hb : (er (la L j) (la L k) == 0) = false := by simp [hz]
            have HZ : Hid (CL L j k (er (la L j) (la L k))) := .inr ⟨rfl, hz, hjk, hkl, HA.out, HB.out⟩
            generalize er (la L j) (la L k) = z at *
            clear hz hkl
            go_wp2
            go_quiet ((go_at_call 17; exact Calls.quiet_of (HC.out _)))
            go_wp2
            exact bodyPost_ret (v := .tuple #[.int .i64 j, .int .i64 k, .int .i64 z]) (by simp [results, Try.results7, go_sem]) rfl ⟨j, k, z, rfl, HZ.out, HW.out _⟩
        · obtain rfl : j = k := by omega
          have HA' : Hid (∀ b, b < j + 1 → ∀ a, a < b → er (la L a) (la L b) = 0) := fun b hb a ha => by
            by_cases e : b = j
            · rw [e] at ha ⊢; exact HB.out a ha
            · exact HA.out b (by omega) a ha
          go_wp2
          exact ⟨⟨j + 1, _, by omega, by go_num, rfl, HA'⟩, by simp [intOf]; omega⟩
    · obtain rfl : k = n := by omega
      have HZ : Hid (CL L 0 0 0) := .inl ⟨rfl, rfl, rfl, by rw [HN.out]; exact HA.out⟩
      go_wp2
      exact bodyPost_ret (v := .tuple #[.int .i64 0, .int .i64 0, .int .i64 0]) (by simp [results, Try.results7, go_sem]) rfl ⟨0, 0, 0, rfl, HZ.out, _, rfl⟩
end Go.Proofs.Ytkkmifgnkpjkdaa
