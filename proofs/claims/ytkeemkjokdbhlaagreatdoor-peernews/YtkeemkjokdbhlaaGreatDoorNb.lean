import Derived.Test.YtkeemkjokdbhlaaGreatDoorNa
namespace Go.Proofs.YtkeemkjokdbhlaaGreatDoor
open Go.RowKit
theorem any_step {b : Int} {L : List Int} {k : Nat} (h : ∀ a, a < k → bad b (iz L a) = false) (hz : bad b (iz L k) = false) : ∀ a, a < k + 1 → bad b (iz L a) = false := fun a ha => by
  by_cases e : a = k
  · rw [e]; exact hz
  · exact h a (by omega)
theorem any_yes {b : Int} {L : List Int} {k : Nat} (hk : k < L.length) (hz : bad b (iz L k) = true) : L.any (bad b) = true := by
  rw [List.any_eq_true]
  refine ⟨L[k], List.getElem_mem _, ?_⟩
  simpa [iz, List.getD, List.getElem?_eq_getElem hk] using hz
theorem any_no {b : Int} {L : List Int} (h : ∀ a, a < L.length → bad b (iz L a) = false) : L.any (bad b) = false := by
  rw [List.any_eq_false]
  intro x hx
  obtain ⟨i, hi, rfl⟩ := List.getElem_of_mem hx
  have := h i hi
  simp only [iz, List.getD, List.getElem?_eq_getElem hi, Option.getD_some] at this
  simp [this]
set_option maxHeartbeats 1000000 in
theorem idx33 (v : Value) (L : List Int) (b : Int) (h0 : 64 ≤ b) (h1 : b ≤ 16384) (B : Nat) (w : World) (hl : L.length ≤ 140737488351232) (hr : RZ w v L) (hc : w.cell? ⟨B, 0, none⟩ = some (.int .i64 b)) :
    Calls Tryz.prog 33 #[v, .func (.func 9) #[] #[.pointer (some ⟨B, 0, none⟩)]] w fun e w' => ∃ r : Int, e = .returned (.int .i64 r) ∧ decide (0 ≤ r) = L.any (bad b) ∧ ∃ n, w' = w.drewN n := by
  obtain ⟨a1, c1, rfl, _, hr⟩ := hr
  have HR : Hid (L = [] ∨ ∃ g o, a1 = some (⟨g, o, none⟩ : Addr) ∧ g < w.heap.size ∧ ∀ i, i < L.length → w.cell? ⟨g, o + i, none⟩ = some (.int .i64 (iz L i))) := hr
  have HC : Hid (w.cell? ⟨B, 0, none⟩ = some (.int .i64 b)) := hc
  clear hr hc
  generalize hn : L.length = n at *
  have HN : Hid (L.length = n) := hn
  clear hn
  go_enter Tryz.func33, Tryz.ntmps33
  go_wp2
  go_loopw [8] (fun i wr => ∃ k nq : Nat, k ≤ n ∧ i = .int .i64 k ∧ wr = w.drewN nq ∧ Hid (∀ a, a < k → bad b (iz L a) = false)) (fun i _ => n - (intOf i).toNat)
  case atStart => exact ⟨0, 0, Nat.zero_le _, rfl, rfl, fun i h => by omega⟩
  case round =>
    obtain ⟨k, nq, hk, rfl, rfl, HA⟩ := hrel
    by_cases hlt : k < n
    · rcases HR.out with hnil | ⟨g, o, rfl, hg, hcs⟩
      · have := HN.out; rw [hnil] at this; simp at this; omega
      have k1 : (w.drewN nq).cell? ⟨g, o + k, none⟩ = some (.int .i64 (iz L k)) := hcs k hlt
      have HW : Hid (Calls Tryz.prog 9 #[.int .i64 (iz L k), .pointer (some ⟨B, 0, none⟩)] (w.drewN nq) fun e w' => e = .returned (.bool (bad b (iz L k))) ∧ w' = w.drewN nq) := wrong9 _ b h0 h1 B _ HC.out
      clear hcs
      cases hz : bad b (iz L k)
      · have HA' : Hid (∀ a, a < k + 1 → bad b (iz L a) = false) := any_step HA.out hz
        rw [hz] at HW
        clear hz HA
        generalize iz L k = x at *
        go_wp2_with fail
        refine HW.out.mono ?_
        rintro e w1 ⟨rfl, rfl⟩
        go_wp2
        go_roundw
        case rel => exact ⟨k + 1, _, by omega, by go_num, rfl, HA'⟩
        case measure => simp [intOf]; omega
      · have HZ : Hid (L.any (bad b) = true) := any_yes (by rw [HN.out]; exact hlt) hz
        rw [hz] at HW
        clear hz HA
        generalize iz L k = x at *
        go_wp2_with fail
        refine HW.out.mono ?_
        rintro e w1 ⟨rfl, rfl⟩
        go_wp2
        go_ret
        exact ⟨k, rfl, by rw [HZ.out]; simp, _, rfl⟩
    · have HZ : Hid (L.any (bad b) = false) := any_no (fun a ha => HA.out a (by have := HN.out; omega))
      clear HA
      go_wp2
      go_ret
      exact ⟨-1, rfl, by rw [HZ.out]; simp, _, rfl⟩
set_option maxHeartbeats 1000000 in
theorem contains10 (v : Value) (L : List Int) (b : Int) (h0 : 64 ≤ b) (h1 : b ≤ 16384) (B : Nat) (w : World) (hl : L.length ≤ 140737488351232) (hr : RZ w v L) (hc : w.cell? ⟨B, 0, none⟩ = some (.int .i64 b)) :
    Calls Tryz.prog 10 #[v, .func (.func 9) #[] #[.pointer (some ⟨B, 0, none⟩)]] w fun e w' => e = .returned (.bool (L.any (bad b))) ∧ ∃ n, w' = w.drewN n := by
  have HI : Hid (Calls Tryz.prog 33 #[v, .func (.func 9) #[] #[.pointer (some ⟨B, 0, none⟩)]] w fun e w' => ∃ r : Int, e = .returned (.int .i64 r) ∧ decide (0 ≤ r) = L.any (bad b) ∧ ∃ n, w' = w.drewN n) := idx33 v L b h0 h1 B w hl hr hc
  obtain ⟨a1, c1, rfl, _, _⟩ := hr
  clear hc
  go_enter Tryz.func10, Tryz.ntmps10
  go_wp2_with fail
  refine HI.out.mono ?_
  rintro e w1 ⟨r, rfl, hr, nq, rfl⟩
  have HA : Hid (decide (0 ≤ r) = L.any (bad b)) := hr
  clear hr HI
  go_wp2
  go_ret
  exact ⟨congrArg (fun x => Ending.returned (.bool x)) HA.out, _, rfl⟩
end Go.Proofs.YtkeemkjokdbhlaaGreatDoor
