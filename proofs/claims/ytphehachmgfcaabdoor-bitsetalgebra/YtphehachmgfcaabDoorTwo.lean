import Derived.Test.YtphehachmgfcaabDoorOfp
import Derived.Test.YtphehachmgfcaabDoorOnesR
import Derived.Test.YtphehachmgfcaabDoorPlace
namespace Go.Proofs.YtphehachmgfcaabDoor
open Go.RowKit
theorem iz_get (zs : List Int) (j : Nat) (h : j < zs.length) : iz zs j = zs[j] := by unfold iz; simp [List.getD, List.getElem?_eq_getElem h]
theorem mem_iz (zs : List Int) (x : Int) : x ∈ zs ↔ ∃ j, j < zs.length ∧ iz zs j = x := by
  rw [List.mem_iff_getElem]
  constructor
  · rintro ⟨j, h, rfl⟩; exact ⟨j, h, iz_get zs j h⟩
  · rintro ⟨j, h, rfl⟩; exact ⟨j, h, (iz_get zs j h).symm⟩
theorem inn_mem (zs : List Int) (i : Nat) : inn zs zs.length i = decide ((i : Int) ∈ zs) := by
  rw [Bool.eq_iff_iff, decide_eq_true_eq, mem_iz]
  unfold inn
  simp only [List.any_eq_true, List.mem_range, beq_iff_eq]
/-- those that are places below n -/
def fz (n : Nat) (zs : List Int) : List Int := zs.filter (fun z => decide (0 ≤ z) && decide (z < n))
theorem fz_mem {n : Nat} {zs : List Int} {z : Int} (h : z ∈ fz n zs) : 0 ≤ z ∧ z < n := by
  have := (List.mem_filter.1 h).2
  simpa using this
theorem fz_len (n : Nat) (zs : List Int) : (fz n zs).length ≤ zs.length := List.length_filter_le _ _
theorem take_snocZ (zs : List Int) (k : Nat) (h : k < zs.length) : zs.take (k + 1) = zs.take k ++ [iz zs k] := by
  rw [List.take_succ_eq_append_getElem h, iz_get zs k h]
theorem fz_yes {n : Nat} {zs : List Int} {k : Nat} (h : k < zs.length) (h0 : 0 ≤ iz zs k) (h1 : iz zs k < n) : fz n (zs.take (k + 1)) = fz n (zs.take k) ++ [iz zs k] := by
  unfold fz; rw [take_snocZ zs k h, List.filter_append]; simp [h0, h1]
theorem fz_no {n : Nat} {zs : List Int} {k : Nat} (h : k < zs.length) (h0 : ¬ (0 ≤ iz zs k ∧ iz zs k < n)) : fz n (zs.take (k + 1)) = fz n (zs.take k) := by
  unfold fz; rw [take_snocZ zs k h, List.filter_append]
  have : (decide (0 ≤ iz zs k) && decide (iz zs k < (n : Int))) = false := by
    rw [Bool.eq_false_iff]; intro h; simp at h; exact h0 h
  simp [this]
theorem on1_mem (l : List UInt8) (k : Nat) (x : Pl) : x ∈ on1 l k ↔ x.1 < k ∧ bit l x.1 = true := by
  unfold on1
  simp only [List.mem_filterMap, List.mem_range]
  constructor
  · rintro ⟨i, hi, h⟩
    split at h
    · split at h
      · injection h with h; subst h; exact ⟨hi, by assumption⟩
      · cases h
    · cases h
  · rintro ⟨h1, h2⟩
    exact ⟨x.1, h1, by rw [dif_pos x.2, if_pos h2]⟩
theorem onZ_mem (l : List UInt8) (hl : l.length ≤ 8192) (z : Int) : z ∈ onZ l ↔ ∃ x : Nat, z = x ∧ bit l x = true := by
  unfold onZ
  rw [List.mem_map]
  constructor
  · rintro ⟨x, hx, rfl⟩; exact ⟨x.1, rfl, ((on1_mem l _ x).1 hx).2⟩
  · rintro ⟨x, rfl, hx⟩
    have hx8 : x < 8 * l.length := by
      rcases Nat.lt_or_ge x (8 * l.length) with h | h
      · exact h
      · rw [bit_beyond l x h] at hx; cases hx
    exact ⟨⟨x, by omega⟩, (on1_mem l _ _).2 ⟨hx8, hx⟩, rfl⟩
theorem onZ_rise (l : List UInt8) (i j : Nat) (hij : i < j) (hj : j < (onZ l).length) : iz (onZ l) i < iz (onZ l) j := by
  have hp : (onZ l).Pairwise (· < ·) := by
    unfold onZ on1
    rw [List.pairwise_map]
    refine List.Pairwise.filterMap _ ?_ (List.pairwise_lt_range (n := 8 * l.length))
    intro a a' haa b hb b' hb'
    split at hb
    · split at hb
      · injection hb with hb
        split at hb'
        · split at hb'
          · injection hb' with hb'
            subst hb; subst hb'
            show (a : Int) < (a' : Int)
            omega
          · cases hb'
        · cases hb'
      · cases hb
    · cases hb
  rw [iz_get _ i (by omega), iz_get _ j hj]
  exact (List.pairwise_iff_getElem.1 hp) i j (by omega) hj hij
set_option maxHeartbeats 1000000 in
theorem has12 (v : Value) (zs : List Int) (x : Int) (w : World) (hr : RZ w v zs) (hl : zs.length ≤ 140737488351232) :
    Calls Tryd.prog 12 #[v, .int .i64 x] w fun e w' => e = .returned (.bool (decide (x ∈ zs))) ∧ ∃ n, w' = w.drewN n := by
  obtain ⟨a1, c1, rfl, k1⟩ := hr.form
  have HH : Hid (zs = [] ∨ ∃ g o, a1 = some ⟨g, o, none⟩ ∧ g < w.heap.size ∧ ∀ i, i < zs.length → w.cell? ⟨g, o + i, none⟩ = some (.int .i64 (iz zs i))) := k1
  clear hr k1
  generalize hD : decide (x ∈ zs) = D
  have HD : Hid (decide (x ∈ zs) = D) := hD
  clear hD
  go_enter Tryd.func12, Tryd.ntmps12
  go_wp2
  go_loopw [5] (fun i wr => ∃ k nq : Nat, k ≤ zs.length ∧ i = .int .i64 k ∧ wr = w.drewN nq ∧ ∀ j, j < k → iz zs j ≠ x) (fun i _ => zs.length - (intOf i).toNat)
  case atStart => exact ⟨0, 0, Nat.zero_le _, rfl, rfl, fun j hj => absurd hj (Nat.not_lt_zero _)⟩
  case round =>
    obtain ⟨k, nq, hk, rfl, rfl, hne⟩ := hrel
    have HNE : Hid (∀ j, j < k → iz zs j ≠ x) := hne
    clear hne
    by_cases hlt : k < zs.length
    · rcases HH.out with h | ⟨g1, o1, rfl, _, h1⟩
      · rw [h] at hlt; simp at hlt
      have q1 := h1 k hlt
      by_cases hx : iz zs k = x
      · have hDt : D = true := by rw [← HD.out, decide_eq_true_eq]; exact (mem_iz zs x).2 ⟨k, hlt, hx⟩
        rw [hx] at q1
        clear h1 HH hx
        go_wp2
        go_ret
        exact ⟨by subst hDt; rfl, _, rfl⟩
      · have hxb : (iz zs k == x) = false := beq_eq_false_iff_ne.2 hx
        have HN2 : Hid (∀ j, j < k + 1 → iz zs j ≠ x) := fun j hj => by
          by_cases h : j = k
          · rw [h]; exact hx
          · exact HNE.out j (by omega)
        clear h1 HH HNE hx
        generalize iz zs k = y at *
        go_wp2
        exact ⟨⟨k + 1, _, by omega, by go_num, rfl, HN2.out⟩, by simp [intOf]; omega⟩
    · have hDf : D = false := by
        rw [← HD.out, decide_eq_false_iff_not]
        intro h
        obtain ⟨j, hj, he⟩ := (mem_iz zs x).1 h
        exact HNE.out j (by omega) he
      go_wp2
      go_ret
      exact ⟨by subst hDf; rfl, _, rfl⟩
end Go.Proofs.YtphehachmgfcaabDoor
