import Derived.Test.YtinagikfemdmbaaUnhexRef
namespace Go.Proofs.Ytinagikfemdmbaa
open Go.RowKit
theorem foldl_push (ns : List Int) : ∀ r : ByteArray, (ns.foldl (fun r n => r.push (UInt8.ofNat n.toNat)) r).data.toList = r.data.toList ++ ns.map (fun n => UInt8.ofNat n.toNat) := by
  induction ns with
  | nil => intro r; simp
  | cons n ns ih => intro r; rw [List.foldl_cons, ih]; simp [ByteArray.push]
theorem strI_list (ns : List Int) : (strI ns).data.toList = ns.map (fun n => UInt8.ofNat n.toNat) := by
  unfold strI; rw [foldl_push]; rfl
theorem strI_size (ns : List Int) : (strI ns).size = ns.length := by
  have := congrArg List.length (strI_list ns)
  simpa using this
theorem bt_strI (ns : List Int) (i : Nat) (h : i < ns.length) (hb : ∀ x ∈ ns, 0 ≤ x ∧ x ≤ 255) : bt (strI ns) i = ns.getD i 0 := by
  have hs : i < (strI ns).size := by rw [strI_size]; exact h
  have hx := hb ns[i] (List.getElem_mem h)
  rw [bt, dif_pos hs]
  have e : (strI ns)[i] = UInt8.ofNat (ns[i]).toNat := by
    have h1 : (strI ns).data.toList[i]? = some (strI ns)[i] := by
      rw [Array.getElem?_toList]
      exact Array.getElem?_eq_getElem (xs := (strI ns).data) (i := i) hs
    rw [strI_list] at h1
    simp [List.getElem?_eq_getElem h] at h1
    exact h1.symm
  rw [e]
  simp [List.getD, List.getElem?_eq_getElem h]
  omega
theorem dgI_bd {d : Int} (h0 : 0 ≤ d) (h1 : d < 16) : 0 ≤ dgI d ∧ dgI d ≤ 255 := by unfold dgI; split <;> omega
theorem dv_dgI {d : Int} (h0 : 0 ≤ d) (h1 : d < 16) : dv (dgI d) = d := by unfold dv dgI; split <;> split <;> (try split) <;> omega
theorem hexI_bd {xs : List Int} (hb : ∀ x ∈ xs, 0 ≤ x ∧ x ≤ 255) : ∀ x ∈ hexI xs, 0 ≤ x ∧ x ≤ 255 := by
  intro c hc
  simp only [hexI, List.mem_flatMap] at hc
  obtain ⟨x, hx, hc⟩ := hc
  have := hb x hx
  simp at hc
  rcases hc with rfl | rfl <;> exact dgI_bd (by omega) (by omega)
theorem hexI_get (xs : List Int) : ∀ j, j < xs.length → (hexI xs).getD (2 * j) 0 = dgI (xs.getD j 0 / 16) ∧ (hexI xs).getD (2 * j + 1) 0 = dgI (xs.getD j 0 % 16) := by
  induction xs with
  | nil => intro j h; simp at h
  | cons x xs ih =>
    intro j h
    cases j with
    | zero => simp [hexI]
    | succ j =>
      have := ih j (by simpa using h)
      have e : hexI (x :: xs) = dgI (x / 16) :: dgI (x % 16) :: hexI xs := by simp [hexI]
      rw [e, show 2 * (j + 1) = 2 * j + 1 + 1 by omega]
      simpa using this
theorem back_good {xs : List Int} (hb : ∀ x ∈ xs, 0 ≤ x ∧ x ≤ 255) : goodS (strI (hexI xs)) ∧ unL (strI (hexI xs)) ((strI (hexI xs)).size / 2) = xs := by
  have hsz : (strI (hexI xs)).size = 2 * xs.length := by rw [strI_size, hexI_len]
  have hg : ∀ j, j < xs.length → dv (bt (strI (hexI xs)) (2 * j)) = xs.getD j 0 / 16 ∧ dv (bt (strI (hexI xs)) (2 * j + 1)) = xs.getD j 0 % 16 ∧ 0 ≤ xs.getD j 0 ∧ xs.getD j 0 ≤ 255 := by
    intro j hj
    have h1 := hexI_get xs j hj
    have hx : 0 ≤ xs.getD j 0 ∧ xs.getD j 0 ≤ 255 := by
      have := hb xs[j] (List.getElem_mem hj)
      simpa [List.getD, List.getElem?_eq_getElem hj] using this
    rw [bt_strI _ _ (by rw [hexI_len]; omega) (hexI_bd hb), bt_strI _ _ (by rw [hexI_len]; omega) (hexI_bd hb), h1.1, h1.2]
    exact ⟨dv_dgI (by omega) (by omega), dv_dgI (by omega) (by omega), hx⟩
  refine ⟨⟨by omega, fun i hi => ?_⟩, ?_⟩
  · by_cases hpar : i % 2 = 0
    · have := hg (i / 2) (by omega)
      rw [show 2 * (i / 2) = i by omega] at this
      omega
    · have := hg (i / 2) (by omega)
      rw [show 2 * (i / 2) + 1 = i by omega] at this
      omega
  · rw [hsz, show 2 * xs.length / 2 = xs.length by omega]
    apply List.ext_getElem
    · simp [unL]
    · intro j h1 h2
      have := hg j h2
      have e : xs.getD j 0 = xs[j] := by simp [List.getD, List.getElem?_eq_getElem h2]
      simp only [unL, List.getElem_map, List.getElem_range]
      rw [this.1, this.2.1, e]
      omega
theorem back_N {xs : List Int} (hb : ∀ x ∈ xs, 0 ≤ x ∧ x ≤ 255) : resN (strI (hexI xs)) = 0 := (resN_yes (back_good hb).1).symm
theorem back_L {xs : List Int} (hb : ∀ x ∈ xs, 0 ≤ x ∧ x ≤ 255) : resL (strI (hexI xs)) = xs := by rw [resL_yes (back_good hb).1, (back_good hb).2]
end Go.Proofs.Ytinagikfemdmbaa
