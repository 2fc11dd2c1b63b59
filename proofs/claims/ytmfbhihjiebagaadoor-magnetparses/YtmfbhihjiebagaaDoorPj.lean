import Derived.Test.YtmfbhihjiebagaaDoorPi
namespace Go.Proofs.YtmfbhihjiebagaaDoor
open Go.Shelf Go.RowKit Go.Deep
set_option maxHeartbeats 1000000 in
theorem hasPrefix28 (s p : ByteArray) (w : World) : Calls Tryd.prog 28 #[.string s, .string p] w fun e w' => e = .returned (.bool (Lib.hasPrefix s.data.toList p.data.toList)) ∧ w' = w := by
  rw [← Lib.hasPrefix_of_take, ← Lib.size_eq, ← Lib.size_eq]
  by_cases h : p.size ≤ s.size
  · have hsl : ∀ w : World, (Instr.slice 9 (.string s) none (some (.int .i64 (p.size : Int))) none).run Tryd.prog w = .ok (.string (s.extract 0 p.size)) w := fun w => by
      simp [go_sem, Tryd.underlying9]; omega
    have HR : Hid (((s.extract 0 p.size).toList == p.toList) = (decide (p.size ≤ s.size) && (s.data.toList.take p.size == p.data.toList))) := by
      have h9 : ((s.extract 0 p.size).toList == p.toList) = (decide (p.size ≤ s.size) && (s.data.toList.take p.size == p.data.toList)) := by
        rw [Lib.extract_toList, Lib.toList_data, decide_eq_true h, Bool.true_and]; simp
      exact h9
    have h2 : (p.size : Int) ≤ (s.size : Int) := by omega
    generalize (decide (p.size ≤ s.size) && (s.data.toList.take p.size == p.data.toList)) = r at *
    generalize s.extract 0 p.size = t at *
    clear h
    go_enter Tryd.func28, Tryd.ntmps28
    go_wp2
    go_ret
    exact ⟨ret_b HR.out, rfl⟩
  · have HR : Hid (false = (decide (p.size ≤ s.size) && (s.data.toList.take p.size == p.data.toList))) := by
      have h9 : (decide (p.size ≤ s.size) && (s.data.toList.take p.size == p.data.toList)) = false := by rw [decide_eq_false h, Bool.false_and]
      exact h9.symm
    generalize (decide (p.size ≤ s.size) && (s.data.toList.take p.size == p.data.toList)) = r at *
    have h2 : ¬ (p.size : Int) ≤ (s.size : Int) := by omega
    clear h
    go_enter Tryd.func28, Tryd.ntmps28
    go_wp2
    go_ret
    exact ⟨ret_b HR.out, rfl⟩
theorem hasPrefix34 (s p : ByteArray) (w : World) : Calls Tryd.prog 34 #[.string s, .string p] w fun e w' => e = .returned (.bool (Lib.hasPrefix s.data.toList p.data.toList)) ∧ w' = w := by
  have HC : Hid (∀ w, Calls Tryd.prog 28 #[.string s, .string p] w fun e w' => e = .returned (.bool (Lib.hasPrefix s.data.toList p.data.toList)) ∧ w' = w) := fun w => hasPrefix28 s p w
  generalize Lib.hasPrefix s.data.toList p.data.toList = r at *
  go_enter Tryd.func34, Tryd.ntmps34
  go_wp2_with fail
  refine (HC.out w).mono ?_
  rintro e w1 ⟨rfl, rfl⟩
  go_wp2
  go_ret
  exact ⟨rfl, rfl⟩
/-- a text without its beginning -/
def cpB (s p : ByteArray) : ByteArray := if Lib.hasPrefix s.data.toList p.data.toList = true then s.extract p.size s.size else s
theorem ret_sb {a b : ByteArray} {m n : Bool} (h1 : a = b) (h2 : m = n) : Ending.returned (.tuple #[.string a, .bool m]) = .returned (.tuple #[.string b, .bool n]) := by rw [h1, h2]
theorem hp_size {s p : ByteArray} (h : Lib.hasPrefix s.data.toList p.data.toList = true) : p.size ≤ s.size := by
  rw [← Lib.hasPrefix_of_take] at h
  rw [Lib.size_eq, Lib.size_eq]
  simp at h
  exact h.1
theorem cutPrefix14 (s p : ByteArray) (w : World) : Calls Tryd.prog 14 #[.string s, .string p] w fun e w' => e = .returned (.tuple #[.string (cpB s p), .bool (Lib.hasPrefix s.data.toList p.data.toList)]) ∧ w' = w := by
  have HC : Hid (∀ w, Calls Tryd.prog 28 #[.string s, .string p] w fun e w' => e = .returned (.bool (Lib.hasPrefix s.data.toList p.data.toList)) ∧ w' = w) := fun w => hasPrefix28 s p w
  have HD : Hid (cpB s p = if Lib.hasPrefix s.data.toList p.data.toList = true then s.extract p.size s.size else s) := rfl
  have HZ : Hid (Lib.hasPrefix s.data.toList p.data.toList = true → p.size ≤ s.size) := hp_size
  generalize Lib.hasPrefix s.data.toList p.data.toList = r at *
  generalize cpB s p = c at *
  go_enter Tryd.func14, Tryd.ntmps14
  go_wp2_with fail
  refine (HC.out w).mono ?_
  rintro e w1 ⟨rfl, rfl⟩
  cases r with
  | false =>
    have HE : Hid (s = c) := by have h9 := HD.out; rw [if_neg (by decide)] at h9; exact h9.symm
    go_wp2
    go_ret2
    exact ⟨ret_sb HE.out rfl, rfl⟩
  | true =>
    have h1 : p.size ≤ s.size := HZ.out rfl
    have HE : Hid (s.extract p.size s.size = c) := by have h9 := HD.out; rw [if_pos rfl] at h9; exact h9.symm
    have hsl : ∀ w : World, (Instr.slice 9 (.string s) (some (.int .i64 (p.size : Int))) none none).run Tryd.prog w = .ok (.string (s.extract p.size s.size)) w := fun w => by
      have hh := Lib.size_eq s
      simp [go_sem, Tryd.underlying9]; omega
    go_wp2
    go_ret2
    exact ⟨ret_sb HE.out rfl, rfl⟩
theorem cutPrefix7 (s p : ByteArray) (w : World) : Calls Tryd.prog 7 #[.string s, .string p] w fun e w' => e = .returned (.tuple #[.string (cpB s p), .bool (Lib.hasPrefix s.data.toList p.data.toList)]) ∧ w' = w := by
  have HC : Hid (∀ w, Calls Tryd.prog 14 #[.string s, .string p] w fun e w' => e = .returned (.tuple #[.string (cpB s p), .bool (Lib.hasPrefix s.data.toList p.data.toList)]) ∧ w' = w) := fun w => cutPrefix14 s p w
  generalize Lib.hasPrefix s.data.toList p.data.toList = r at *
  generalize cpB s p = c at *
  go_enter Tryd.func7, Tryd.ntmps7
  go_wp2_with fail
  refine (HC.out w).mono ?_
  rintro e w1 ⟨rfl, rfl⟩
  go_wp2
  go_ret2
  exact ⟨rfl, rfl⟩
theorem ret_str {a b : ByteArray} (h : a = b) : Ending.returned (.string a) = .returned (.string b) := by rw [h]
/-- the key of the last pair -/
def lkey (l : List (ByteArray × ByteArray)) : ByteArray := ((l.getLast?).map (·.1)).getD ⟨#[]⟩
theorem moC_get : ∀ (l : List (ByteArray × ByteArray)) (i : Nat) (x : ByteArray × ByteArray), l[i]? = some x → (moC l)[i * 6]? = some (.string x.1)
  | [], i, x, h => by simp at h
  | y :: l, 0, x, h => by simp at h; subst h; simp [moC]
  | y :: l, i + 1, x, h => by
    have h1 : l[i]? = some x := by simpa using h
    have h2 := moC_get l i x h1
    show (([.string y.1, .int .i64 2, .int .i64 0, .string y.2, .slice none 0 0, .slice none 0 0] : List Value) ++ moC l)[(i + 1) * 6]? = _
    rw [List.getElem?_append_right (by simp; omega)]
    have e : (i + 1) * 6 - ([.string y.1, .int .i64 2, .int .i64 0, .string y.2, .slice none 0 0, .slice none 0 0] : List Value).length = i * 6 := by simp; omega
    rw [e]; exact h2
theorem pairs_of {w : World} {B : Nat} {v : Value} {l : List (ByteArray × ByteArray)} (h : OM B w v l) (hne : l.length ≠ 0) : ∃ g c, v = .slice (some ⟨g, 0, none⟩) l.length c ∧ ∀ i x, l[i]? = some x → w.cell? ⟨g, i * 6, none⟩ = some (.string x.1) := by
  rcases h.2 with ⟨rfl, h0⟩ | ⟨g, cap, cur, rfl, hB, hg, _, _, hsz, hx⟩
  · exact absurd h0 hne
  · refine ⟨g, _, rfl, fun i x hi => ?_⟩
    have hlt := (List.getElem?_eq_some_iff.1 hi).1
    have h2 := moC_get l i x hi
    rw [← hx, List.getElem?_take_of_lt (by omega)] at h2
    simp only [Array.getElem?_toList] at h2
    simp only [World.cell?, hg]; simpa using h2
set_option maxHeartbeats 1000000 in
theorem lastKey36 (B b : Nat) (v : Value) (l : List (ByteArray × ByteArray)) (w : World) (hc : w.cell? ⟨b, 36, none⟩ = some v) (ho : OM B w v l) (hl : l.length ≤ 4096) :
    Calls Tryd.prog 36 #[.pointer (some ⟨b, 0, none⟩)] w fun e w' => e = .returned (.string (lkey l)) ∧ Below w.heap.size w w' := by
  by_cases hne : l.length = 0
  · obtain ⟨ma, mc, rfl⟩ := ownForm ho
    have hnil : l = [] := List.length_eq_zero_iff.1 hne
    subst hnil
    clear ho
    simp only [List.length_nil] at hc
    go_enter Tryd.func36, Tryd.ntmps36
    go_wp2
    go_ret
    exact ⟨rfl, Below.refl _ _⟩
  · obtain ⟨g, c, rfl, hcell⟩ := pairs_of ho hne
    obtain ⟨m, hm⟩ : ∃ m, l.length = m + 1 := ⟨l.length - 1, by omega⟩
    obtain ⟨x, hx⟩ : ∃ x, l[m]? = some x := ⟨_, List.getElem?_eq_getElem (by omega)⟩
    have hk := hcell m x hx
    have HR : Hid (x.1 = lkey l) := by
      have h9 : l.getLast? = some x := by rw [List.getLast?_eq_getElem?, hm]; exact hx
      have h8 : x.1 = lkey l := by rw [lkey, h9]; rfl
      exact h8
    clear hcell ho hx hne
    rw [hm] at hc
    have hml : m ≤ 4095 := by omega
    have hwm : IntKind.i64.wrap (m : Int) = (m : Int) := by simp only [IntKind.wrap, IntKind.bits, IntKind.signed]; simp; omega
    clear hm hl
    go_enter Tryd.func36, Tryd.ntmps36
    go_wp2
    refine wp_region_held_drew (S := fun y => y.cell? ⟨b, 36, none⟩ = some (.slice (some ⟨g, 0, none⟩) (m + 1) c) ∧ y.cell? ⟨g, m * 6, none⟩ = some (.string x.1)) (by kernel_rfl) ((⟨hc, hk⟩ : w.drew.cell? ⟨b, 36, none⟩ = some (.slice (some ⟨g, 0, none⟩) (m + 1) c) ∧ w.drew.cell? ⟨g, m * 6, none⟩ = some (.string x.1))) (fun hHeld => ?_)
    refine wpAnyH_take (i := 0) (v := .pointer (some ⟨b, 0, none⟩)) rfl (by kernel_rfl) (by kernel_rfl) (by kernel_rfl) (fun _ _ _ h => h) (Or.inl ⟨by rfl, fun w hw => by go_simp⟩) hHeld ?_
    simp only [Act.put, List.getElem_toArray, List.getElem_cons_zero, List.setIfInBounds_toArray, List.set_cons_zero, List.set_cons_succ]
    refine wpAnyH_take (i := 1) (v := .pointer (some ⟨b, 0, none⟩)) rfl (by kernel_rfl) (by kernel_rfl) (by kernel_rfl) (fun _ _ _ h => h) (Or.inl ⟨by rfl, fun w hw => by go_simp⟩) hHeld ?_
    simp only [Act.put, List.getElem_toArray, List.getElem_cons_zero, List.getElem_cons_succ, List.setIfInBounds_toArray, List.set_cons_zero, List.set_cons_succ]
    refine wpAnyH_take (i := 2) (v := .pointer (some ⟨b, 0, none⟩)) rfl (by kernel_rfl) (by kernel_rfl) (by kernel_rfl) (fun _ _ _ h => h) (Or.inl ⟨by rfl, fun w hw => by go_simp⟩) hHeld ?_
    simp only [Act.put, List.getElem_toArray, List.getElem_cons_zero, List.getElem_cons_succ, List.setIfInBounds_toArray, List.set_cons_zero, List.set_cons_succ]
    refine wpAnyH_take (i := 3) (v := .pointer (some ⟨b, 36, none⟩)) rfl (by kernel_rfl) (by kernel_rfl) (by kernel_rfl) (fun _ _ _ h => h) (Or.inl ⟨by rfl, fun w hw => by go_simp⟩) hHeld ?_
    simp only [Act.put, List.getElem_toArray, List.getElem_cons_zero, List.getElem_cons_succ, List.setIfInBounds_toArray, List.set_cons_zero, List.set_cons_succ]
    refine wpAnyH_take (i := 4) (v := (.slice (some ⟨g, 0, none⟩) (m + 1) c)) rfl (by kernel_rfl) (by kernel_rfl) (by kernel_rfl) (fun _ _ _ h => h) (Or.inl ⟨by rfl, fun w hw => by obtain ⟨s36, sk⟩ := hw; go_simp⟩) hHeld ?_
    simp only [Act.put, List.getElem_toArray, List.getElem_cons_zero, List.getElem_cons_succ, List.setIfInBounds_toArray, List.set_cons_zero, List.set_cons_succ]
    refine wpAnyH_take (i := 5) (v := .pointer (some ⟨b, 0, none⟩)) rfl (by kernel_rfl) (by kernel_rfl) (by kernel_rfl) (fun _ _ _ h => h) (Or.inl ⟨by rfl, fun w hw => by go_simp⟩) hHeld ?_
    simp only [Act.put, List.getElem_toArray, List.getElem_cons_zero, List.getElem_cons_succ, List.setIfInBounds_toArray, List.set_cons_zero, List.set_cons_succ]
    refine wpAnyH_take (i := 6) (v := .pointer (some ⟨b, 0, none⟩)) rfl (by kernel_rfl) (by kernel_rfl) (by kernel_rfl) (fun _ _ _ h => h) (Or.inl ⟨by rfl, fun w hw => by go_simp⟩) hHeld ?_
    simp only [Act.put, List.getElem_toArray, List.getElem_cons_zero, List.getElem_cons_succ, List.setIfInBounds_toArray, List.set_cons_zero, List.set_cons_succ]
    refine wpAnyH_take (i := 7) (v := .pointer (some ⟨b, 0, none⟩)) rfl (by kernel_rfl) (by kernel_rfl) (by kernel_rfl) (fun _ _ _ h => h) (Or.inl ⟨by rfl, fun w hw => by go_simp⟩) hHeld ?_
    simp only [Act.put, List.getElem_toArray, List.getElem_cons_zero, List.getElem_cons_succ, List.setIfInBounds_toArray, List.set_cons_zero, List.set_cons_succ]
    refine wpAnyH_take (i := 8) (v := .pointer (some ⟨b, 36, none⟩)) rfl (by kernel_rfl) (by kernel_rfl) (by kernel_rfl) (fun _ _ _ h => h) (Or.inl ⟨by rfl, fun w hw => by go_simp⟩) hHeld ?_
    simp only [Act.put, List.getElem_toArray, List.getElem_cons_zero, List.getElem_cons_succ, List.setIfInBounds_toArray, List.set_cons_zero, List.set_cons_succ]
    refine wpAnyH_take (i := 9) (v := (.slice (some ⟨g, 0, none⟩) (m + 1) c)) rfl (by kernel_rfl) (by kernel_rfl) (by kernel_rfl) (fun _ _ _ h => h) (Or.inl ⟨by rfl, fun w hw => by obtain ⟨s36, sk⟩ := hw; go_simp⟩) hHeld ?_
    simp only [Act.put, List.getElem_toArray, List.getElem_cons_zero, List.getElem_cons_succ, List.setIfInBounds_toArray, List.set_cons_zero, List.set_cons_succ]
    refine wpAnyH_take (i := 10) (v := .int .i64 ((m : Int) + 1)) rfl (by kernel_rfl) (by kernel_rfl) (by kernel_rfl) (fun _ _ _ h => h) (Or.inl ⟨by rfl, fun w hw => by go_simp⟩) hHeld ?_
    simp only [Act.put, List.getElem_toArray, List.getElem_cons_zero, List.getElem_cons_succ, List.setIfInBounds_toArray, List.set_cons_zero, List.set_cons_succ]
    refine wpAnyH_take (i := 11) (v := .int .i64 (m : Int)) rfl (by kernel_rfl) (by kernel_rfl) (by kernel_rfl) (fun _ _ _ h => h) (Or.inl ⟨by rfl, fun w hw => by go_simp⟩) hHeld ?_
    simp only [Act.put, List.getElem_toArray, List.getElem_cons_zero, List.getElem_cons_succ, List.setIfInBounds_toArray, List.set_cons_zero, List.set_cons_succ]
    refine wpAnyH_take (i := 12) (v := .pointer (some ⟨g, m * 6, none⟩)) rfl (by kernel_rfl) (by kernel_rfl) (by kernel_rfl) (fun _ _ _ h => h) (Or.inl ⟨by rfl, fun w hw => by go_simp; intro h9; exact absurd h9 (by omega)⟩) hHeld ?_
    simp only [Act.put, List.getElem_toArray, List.getElem_cons_zero, List.getElem_cons_succ, List.setIfInBounds_toArray, List.set_cons_zero, List.set_cons_succ]
    refine wpAnyH_take (i := 13) (v := .pointer (some ⟨g, m * 6, none⟩)) rfl (by kernel_rfl) (by kernel_rfl) (by kernel_rfl) (fun _ _ _ h => h) (Or.inl ⟨by rfl, fun w hw => by go_simp⟩) hHeld ?_
    simp only [Act.put, List.getElem_toArray, List.getElem_cons_zero, List.getElem_cons_succ, List.setIfInBounds_toArray, List.set_cons_zero, List.set_cons_succ]
    refine wpAnyH_take (i := 14) (v := .string x.1) rfl (by kernel_rfl) (by kernel_rfl) (by kernel_rfl) (fun _ _ _ h => h) (Or.inl ⟨by rfl, fun w hw => by obtain ⟨s36, sk⟩ := hw; go_simp⟩) hHeld ?_
    simp only [Act.put, List.getElem_toArray, List.getElem_cons_zero, List.getElem_cons_succ, List.setIfInBounds_toArray, List.set_cons_zero, List.set_cons_succ]
    refine wpAnyH_take (i := 15) (v := .string x.1) rfl (by kernel_rfl) (by kernel_rfl) (by kernel_rfl) (fun _ _ _ h => h) (Or.inl ⟨by rfl, fun w hw => by go_simp⟩) hHeld ?_
    simp only [Act.put, List.getElem_toArray, List.getElem_cons_zero, List.getElem_cons_succ, List.setIfInBounds_toArray, List.set_cons_zero, List.set_cons_succ]
    refine wpAnyH_done (by kernel_rfl) ?_ _
    clear hHeld
    go_wp2
    go_ret
    exact ⟨ret_str HR.out, belowDrew1 w⟩
end Go.Proofs.YtmfbhihjiebagaaDoor
