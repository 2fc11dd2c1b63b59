import Derived.Test.YtnpcbcfjnhjmmaaGreatDoorV13
import Derived.Shelf.Strconv.Itoa3
namespace Go.Proofs.YtnpcbcfjnhjmmaaGreatDoor
open Go.Shelf Go.RowKit Go.Deep
/-- a text cut at the first such byte -/
def ctR (s : ByteArray) (x : UInt8) : ByteArray × ByteArray × Bool :=
  if Lib.indexByte s.data.toList x < 0 then (s, ⟨#[]⟩, false) else (s.extract 0 (Lib.indexByte s.data.toList x).toNat, s.extract ((Lib.indexByte s.data.toList x).toNat + 1) s.size, true)
theorem ret_ssb {a b : ByteArray} {m : Bool} {q : ByteArray × ByteArray × Bool} (h : q = (a, b, m)) : Ending.returned (.tuple #[.string a, .string b, .bool m]) = .returned (.tuple #[.string q.1, .string q.2.1, .bool q.2.2]) := by rw [h]
theorem results_t3 {fn : Func} {p q r : Tmp} (h : fn.results = #[.tmp p, .tmp q, .tmp r]) (tmps : Array Value) (w : World) : (results fn tmps).run Tryz.prog w = .ok (.tuple #[tmps.getD p undef, tmps.getD q undef, tmps.getD r undef]) w := by
  simp [results, h]
theorem indexS_61 (s : ByteArray) (w : World) : Calls Tryz.prog 80 #[.string s, .string { data := #[61] }] w fun e w' => e = .returned (.int .i64 (Lib.indexByte s.data.toList 61)) ∧ w' = w := by
  have HC : Hid (∀ w, Calls Tryz.prog 59 #[.string s, .int .u8 61] w fun e w' => e = .returned (.int .i64 (Lib.indexByte s.data.toList 61)) ∧ w' = w) := fun w => slIndexByte s 61 w
  have H0 : Hid (([61] == s.toList) = true → 0 = Lib.indexByte s.data.toList 61) := fun h => by
    have e : s.data.toList = [61] := by rw [← Lib.toList_data]; exact (eq_of_beq h).symm
    rw [e]; decide
  generalize Lib.indexByte s.data.toList 61 = n at *
  have hx : ∀ w : World, (Instr.index 9 (.string { data := #[61] }) (.int .i64 0)).run Tryz.prog w = .ok (.int .u8 61) w := fun w => index_s { data := #[61] } 0 (by decide) 0 rfl w
  cases hb : ([61] == s.toList) with
  | true =>
    have HR := Lib.hid (H0.out hb)
    go_enter Tryz.func80, Tryz.ntmps80
    go_wp2
    go_ret
    exact ⟨ret_i HR.out, rfl⟩
  | false =>
    go_enter Tryz.func80, Tryz.ntmps80
    go_wp2_with fail
    refine (HC.out w).mono ?_
    rintro e w1 ⟨rfl, rfl⟩
    go_wp2
    go_ret
    exact ⟨rfl, rfl⟩
theorem slCut_61 (s : ByteArray) (w : World) (hs : s.size ≤ 140737488351232) : Calls Tryz.prog 60 #[.string s, .string { data := #[61] }] w fun e w' => e = .returned (.tuple #[.string (ctR s 61).1, .string (ctR s 61).2.1, .bool (ctR s 61).2.2]) ∧ Below w.heap.size w w' := by
  have HC : Hid (∀ w, Calls Tryz.prog 80 #[.string s, .string { data := #[61] }] w fun e w' => e = .returned (.int .i64 (Lib.indexByte s.data.toList 61)) ∧ w' = w) := fun w => indexS_61 s w
  have HQ : Hid (ctR s 61 = if Lib.indexByte s.data.toList 61 < 0 then (s, ⟨#[]⟩, false) else (s.extract 0 (Lib.indexByte s.data.toList 61).toNat, s.extract ((Lib.indexByte s.data.toList 61).toNat + 1) s.size, true)) := rfl
  have HX : Hid (∀ o : Nat, Lib.indexByte s.data.toList 61 = (o : Int) → o < s.size) := fun o h => by
    have h9 := (Lib.indexByte_some h).1
    have := (List.getElem?_eq_some_iff.1 h9).1
    rw [Lib.size_eq]; exact this
  generalize ctR s 61 = q at *
  go_enter Tryz.func60, Tryz.ntmps60
  go_wp2_with fail
  refine (HC.out w).mono ?_
  rintro e w1 ⟨rfl, rfl⟩
  clear HC
  generalize Lib.indexByte s.data.toList 61 = E at *
  by_cases hE : E < 0
  · have HE : Hid (q = (s, ⟨#[]⟩, false)) := by have h9 := HQ.out; rw [if_pos hE] at h9; exact h9
    go_wp2
    exact bodyPost_ret (results_t3 Tryz.results60 _ _) rfl ⟨ret_ssb HE.out, Below.refl _ _⟩
  · obtain ⟨n, rfl⟩ : ∃ n : Nat, E = (n : Int) := ⟨E.toNat, by omega⟩
    have hn2 : n < s.size := HX.out n rfl
    have HE : Hid (q = (s.extract 0 n, s.extract (n + 1) s.size, true)) := by have h9 := HQ.out; rw [if_neg hE, Int.toNat_natCast] at h9; exact h9
    clear hE HX HQ
    have hsl : ∀ w : World, (Instr.slice 9 (.string s) none (some (.int .i64 (n : Int))) none).run Tryz.prog w = .ok (.string (s.extract 0 n)) w := fun w => by
      have hh := Lib.size_eq s
      simp [go_sem, Tryz.underlying9]; omega
    have hsl2 : ∀ w : World, (Instr.slice 9 (.string s) (some (.int .i64 ((n : Int) + 1))) none none).run Tryz.prog w = .ok (.string (s.extract (n + 1) s.size)) w := fun w => by
      have hh := Lib.size_eq s
      have h3 : ((n : Int) + 1).toNat = n + 1 := by omega
      simp [go_sem, Tryz.underlying9, h3]; omega
    have hwn : IntKind.i64.wrap ((n : Int) + 1) = (n : Int) + 1 := by simp only [IntKind.wrap, IntKind.bits, IntKind.signed]; simp; omega
    go_upto_region 3 with fail
    refine wp_region_held_drew (S := fun _ => True) (by kernel_rfl) (trivial) (fun hHeld => ?_)
    refine wpAnyH_take (i := 0) (v := .string s) rfl (by kernel_rfl) (by kernel_rfl) (by kernel_rfl) (fun _ _ _ h => h) (Or.inl ⟨by rfl, fun w hw => by go_simp⟩) hHeld ?_
    simp only [Act.put, List.getElem_toArray, List.getElem_cons_zero, List.setIfInBounds_toArray, List.set_cons_zero, List.set_cons_succ]
    refine wpAnyH_take (i := 1) (v := .int .i64 (n : Int)) rfl (by kernel_rfl) (by kernel_rfl) (by kernel_rfl) (fun _ _ _ h => h) (Or.inl ⟨by rfl, fun w hw => by go_simp⟩) hHeld ?_
    simp only [Act.put, List.getElem_toArray, List.getElem_cons_zero, List.getElem_cons_succ, List.setIfInBounds_toArray, List.set_cons_zero, List.set_cons_succ]
    refine wpAnyH_take (i := 2) (v := .string (s.extract 0 n)) rfl (by kernel_rfl) (by kernel_rfl) (by kernel_rfl) (fun _ _ _ h => h) (Or.inl ⟨by rfl, fun w hw => by go_simp⟩) hHeld ?_
    simp only [Act.put, List.getElem_toArray, List.getElem_cons_zero, List.getElem_cons_succ, List.setIfInBounds_toArray, List.set_cons_zero, List.set_cons_succ]
    refine wpAnyH_take (i := 3) (v := .string s) rfl (by kernel_rfl) (by kernel_rfl) (by kernel_rfl) (fun _ _ _ h => h) (Or.inl ⟨by rfl, fun w hw => by go_simp⟩) hHeld ?_
    simp only [Act.put, List.getElem_toArray, List.getElem_cons_zero, List.getElem_cons_succ, List.setIfInBounds_toArray, List.set_cons_zero, List.set_cons_succ]
    refine wpAnyH_take (i := 4) (v := .int .i64 (n : Int)) rfl (by kernel_rfl) (by kernel_rfl) (by kernel_rfl) (fun _ _ _ h => h) (Or.inl ⟨by rfl, fun w hw => by go_simp⟩) hHeld ?_
    simp only [Act.put, List.getElem_toArray, List.getElem_cons_zero, List.getElem_cons_succ, List.setIfInBounds_toArray, List.set_cons_zero, List.set_cons_succ]
    refine wpAnyH_take (i := 5) (v := .string { data := #[61] }) rfl (by kernel_rfl) (by kernel_rfl) (by kernel_rfl) (fun _ _ _ h => h) (Or.inl ⟨by rfl, fun w hw => by go_simp⟩) hHeld ?_
    simp only [Act.put, List.getElem_toArray, List.getElem_cons_zero, List.getElem_cons_succ, List.setIfInBounds_toArray, List.set_cons_zero, List.set_cons_succ]
    refine wpAnyH_take (i := 6) (v := .int .i64 1) rfl (by kernel_rfl) (by kernel_rfl) (by kernel_rfl) (fun _ _ _ h => h) (Or.inl ⟨by rfl, fun w hw => by go_simp⟩) hHeld ?_
    simp only [Act.put, List.getElem_toArray, List.getElem_cons_zero, List.getElem_cons_succ, List.setIfInBounds_toArray, List.set_cons_zero, List.set_cons_succ]
    refine wpAnyH_take (i := 7) (v := .int .i64 ((n : Int) + 1)) rfl (by kernel_rfl) (by kernel_rfl) (by kernel_rfl) (fun _ _ _ h => h) (Or.inl ⟨by rfl, fun w hw => by go_simp⟩) hHeld ?_
    simp only [Act.put, List.getElem_toArray, List.getElem_cons_zero, List.getElem_cons_succ, List.setIfInBounds_toArray, List.set_cons_zero, List.set_cons_succ]
    refine wpAnyH_take (i := 8) (v := .string (s.extract (n + 1) s.size)) rfl (by kernel_rfl) (by kernel_rfl) (by kernel_rfl) (fun _ _ _ h => h) (Or.inl ⟨by rfl, fun w hw => by go_simp⟩) hHeld ?_
    simp only [Act.put, List.getElem_toArray, List.getElem_cons_zero, List.getElem_cons_succ, List.setIfInBounds_toArray, List.set_cons_zero, List.set_cons_succ]
    refine wpAnyH_take (i := 9) (v := .string (s.extract 0 n)) rfl (by kernel_rfl) (by kernel_rfl) (by kernel_rfl) (fun _ _ _ h => h) (Or.inl ⟨by rfl, fun w hw => by go_simp⟩) hHeld ?_
    simp only [Act.put, List.getElem_toArray, List.getElem_cons_zero, List.getElem_cons_succ, List.setIfInBounds_toArray, List.set_cons_zero, List.set_cons_succ]
    refine wpAnyH_take (i := 10) (v := .string (s.extract (n + 1) s.size)) rfl (by kernel_rfl) (by kernel_rfl) (by kernel_rfl) (fun _ _ _ h => h) (Or.inl ⟨by rfl, fun w hw => by go_simp⟩) hHeld ?_
    simp only [Act.put, List.getElem_toArray, List.getElem_cons_zero, List.getElem_cons_succ, List.setIfInBounds_toArray, List.set_cons_zero, List.set_cons_succ]
    refine wpAnyH_take (i := 11) (v := .bool true) rfl (by kernel_rfl) (by kernel_rfl) (by kernel_rfl) (fun _ _ _ h => h) (Or.inl ⟨by rfl, fun w hw => by go_simp⟩) hHeld ?_
    simp only [Act.put, List.getElem_toArray, List.getElem_cons_zero, List.getElem_cons_succ, List.setIfInBounds_toArray, List.set_cons_zero, List.set_cons_succ]
    refine wpAnyH_done (by kernel_rfl) ?_ _
    clear hHeld
    go_wp2
    exact bodyPost_ret (results_t3 Tryz.results60 _ _) rfl ⟨ret_ssb HE.out, belowDrew1 _⟩
theorem cut_61 (s : ByteArray) (w : World) (hs : s.size ≤ 140737488351232) : Calls Tryz.prog 37 #[.string s, .string { data := #[61] }] w fun e w' => e = .returned (.tuple #[.string (ctR s 61).1, .string (ctR s 61).2.1, .bool (ctR s 61).2.2]) ∧ Below w.heap.size w w' := by
  have HC : Hid (∀ w, Calls Tryz.prog 60 #[.string s, .string { data := #[61] }] w fun e w' => e = .returned (.tuple #[.string (ctR s 61).1, .string (ctR s 61).2.1, .bool (ctR s 61).2.2]) ∧ Below w.heap.size w w') := fun w => slCut_61 s w hs
  generalize ctR s 61 = q at *
  obtain ⟨q1, q2, q3⟩ := q
  go_enter Tryz.func37, Tryz.ntmps37
  go_wp2_with fail
  refine (HC.out w).mono ?_
  rintro e w1 ⟨rfl, b1⟩
  go_wp2
  exact bodyPost_ret (results_t3 Tryz.results37 _ _) rfl ⟨rfl, b1⟩
theorem indexS_45 (s : ByteArray) (w : World) : Calls Tryz.prog 80 #[.string s, .string { data := #[45] }] w fun e w' => e = .returned (.int .i64 (Lib.indexByte s.data.toList 45)) ∧ w' = w := by
  have HC : Hid (∀ w, Calls Tryz.prog 59 #[.string s, .int .u8 45] w fun e w' => e = .returned (.int .i64 (Lib.indexByte s.data.toList 45)) ∧ w' = w) := fun w => slIndexByte s 45 w
  have H0 : Hid (([45] == s.toList) = true → 0 = Lib.indexByte s.data.toList 45) := fun h => by
    have e : s.data.toList = [45] := by rw [← Lib.toList_data]; exact (eq_of_beq h).symm
    rw [e]; decide
  generalize Lib.indexByte s.data.toList 45 = n at *
  have hx : ∀ w : World, (Instr.index 9 (.string { data := #[45] }) (.int .i64 0)).run Tryz.prog w = .ok (.int .u8 45) w := fun w => index_s { data := #[45] } 0 (by decide) 0 rfl w
  cases hb : ([45] == s.toList) with
  | true =>
    have HR := Lib.hid (H0.out hb)
    go_enter Tryz.func80, Tryz.ntmps80
    go_wp2
    go_ret
    exact ⟨ret_i HR.out, rfl⟩
  | false =>
    go_enter Tryz.func80, Tryz.ntmps80
    go_wp2_with fail
    refine (HC.out w).mono ?_
    rintro e w1 ⟨rfl, rfl⟩
    go_wp2
    go_ret
    exact ⟨rfl, rfl⟩
theorem slCut_45 (s : ByteArray) (w : World) (hs : s.size ≤ 140737488351232) : Calls Tryz.prog 60 #[.string s, .string { data := #[45] }] w fun e w' => e = .returned (.tuple #[.string (ctR s 45).1, .string (ctR s 45).2.1, .bool (ctR s 45).2.2]) ∧ Below w.heap.size w w' := by
  have HC : Hid (∀ w, Calls Tryz.prog 80 #[.string s, .string { data := #[45] }] w fun e w' => e = .returned (.int .i64 (Lib.indexByte s.data.toList 45)) ∧ w' = w) := fun w => indexS_45 s w
  have HQ : Hid (ctR s 45 = if Lib.indexByte s.data.toList 45 < 0 then (s, ⟨#[]⟩, false) else (s.extract 0 (Lib.indexByte s.data.toList 45).toNat, s.extract ((Lib.indexByte s.data.toList 45).toNat + 1) s.size, true)) := rfl
  have HX : Hid (∀ o : Nat, Lib.indexByte s.data.toList 45 = (o : Int) → o < s.size) := fun o h => by
    have h9 := (Lib.indexByte_some h).1
    have := (List.getElem?_eq_some_iff.1 h9).1
    rw [Lib.size_eq]; exact this
  generalize ctR s 45 = q at *
  go_enter Tryz.func60, Tryz.ntmps60
  go_wp2_with fail
  refine (HC.out w).mono ?_
  rintro e w1 ⟨rfl, rfl⟩
  clear HC
  generalize Lib.indexByte s.data.toList 45 = E at *
  by_cases hE : E < 0
  · have HE : Hid (q = (s, ⟨#[]⟩, false)) := by have h9 := HQ.out; rw [if_pos hE] at h9; exact h9
    go_wp2
    exact bodyPost_ret (results_t3 Tryz.results60 _ _) rfl ⟨ret_ssb HE.out, Below.refl _ _⟩
  · obtain ⟨n, rfl⟩ : ∃ n : Nat, E = (n : Int) := ⟨E.toNat, by omega⟩
    have hn2 : n < s.size := HX.out n rfl
    have HE : Hid (q = (s.extract 0 n, s.extract (n + 1) s.size, true)) := by have h9 := HQ.out; rw [if_neg hE, Int.toNat_natCast] at h9; exact h9
    clear hE HX HQ
    have hsl : ∀ w : World, (Instr.slice 9 (.string s) none (some (.int .i64 (n : Int))) none).run Tryz.prog w = .ok (.string (s.extract 0 n)) w := fun w => by
      have hh := Lib.size_eq s
      simp [go_sem, Tryz.underlying9]; omega
    have hsl2 : ∀ w : World, (Instr.slice 9 (.string s) (some (.int .i64 ((n : Int) + 1))) none none).run Tryz.prog w = .ok (.string (s.extract (n + 1) s.size)) w := fun w => by
      have hh := Lib.size_eq s
      have h3 : ((n : Int) + 1).toNat = n + 1 := by omega
      simp [go_sem, Tryz.underlying9, h3]; omega
    have hwn : IntKind.i64.wrap ((n : Int) + 1) = (n : Int) + 1 := by simp only [IntKind.wrap, IntKind.bits, IntKind.signed]; simp; omega
    go_upto_region 3 with fail
    refine wp_region_held_drew (S := fun _ => True) (by kernel_rfl) (trivial) (fun hHeld => ?_)
    refine wpAnyH_take (i := 0) (v := .string s) rfl (by kernel_rfl) (by kernel_rfl) (by kernel_rfl) (fun _ _ _ h => h) (Or.inl ⟨by rfl, fun w hw => by go_simp⟩) hHeld ?_
    simp only [Act.put, List.getElem_toArray, List.getElem_cons_zero, List.setIfInBounds_toArray, List.set_cons_zero, List.set_cons_succ]
    refine wpAnyH_take (i := 1) (v := .int .i64 (n : Int)) rfl (by kernel_rfl) (by kernel_rfl) (by kernel_rfl) (fun _ _ _ h => h) (Or.inl ⟨by rfl, fun w hw => by go_simp⟩) hHeld ?_
    simp only [Act.put, List.getElem_toArray, List.getElem_cons_zero, List.getElem_cons_succ, List.setIfInBounds_toArray, List.set_cons_zero, List.set_cons_succ]
    refine wpAnyH_take (i := 2) (v := .string (s.extract 0 n)) rfl (by kernel_rfl) (by kernel_rfl) (by kernel_rfl) (fun _ _ _ h => h) (Or.inl ⟨by rfl, fun w hw => by go_simp⟩) hHeld ?_
    simp only [Act.put, List.getElem_toArray, List.getElem_cons_zero, List.getElem_cons_succ, List.setIfInBounds_toArray, List.set_cons_zero, List.set_cons_succ]
    refine wpAnyH_take (i := 3) (v := .string s) rfl (by kernel_rfl) (by kernel_rfl) (by kernel_rfl) (fun _ _ _ h => h) (Or.inl ⟨by rfl, fun w hw => by go_simp⟩) hHeld ?_
    simp only [Act.put, List.getElem_toArray, List.getElem_cons_zero, List.getElem_cons_succ, List.setIfInBounds_toArray, List.set_cons_zero, List.set_cons_succ]
    refine wpAnyH_take (i := 4) (v := .int .i64 (n : Int)) rfl (by kernel_rfl) (by kernel_rfl) (by kernel_rfl) (fun _ _ _ h => h) (Or.inl ⟨by rfl, fun w hw => by go_simp⟩) hHeld ?_
    simp only [Act.put, List.getElem_toArray, List.getElem_cons_zero, List.getElem_cons_succ, List.setIfInBounds_toArray, List.set_cons_zero, List.set_cons_succ]
    refine wpAnyH_take (i := 5) (v := .string { data := #[45] }) rfl (by kernel_rfl) (by kernel_rfl) (by kernel_rfl) (fun _ _ _ h => h) (Or.inl ⟨by rfl, fun w hw => by go_simp⟩) hHeld ?_
    simp only [Act.put, List.getElem_toArray, List.getElem_cons_zero, List.getElem_cons_succ, List.setIfInBounds_toArray, List.set_cons_zero, List.set_cons_succ]
    refine wpAnyH_take (i := 6) (v := .int .i64 1) rfl (by kernel_rfl) (by kernel_rfl) (by kernel_rfl) (fun _ _ _ h => h) (Or.inl ⟨by rfl, fun w hw => by go_simp⟩) hHeld ?_
    simp only [Act.put, List.getElem_toArray, List.getElem_cons_zero, List.getElem_cons_succ, List.setIfInBounds_toArray, List.set_cons_zero, List.set_cons_succ]
    refine wpAnyH_take (i := 7) (v := .int .i64 ((n : Int) + 1)) rfl (by kernel_rfl) (by kernel_rfl) (by kernel_rfl) (fun _ _ _ h => h) (Or.inl ⟨by rfl, fun w hw => by go_simp⟩) hHeld ?_
    simp only [Act.put, List.getElem_toArray, List.getElem_cons_zero, List.getElem_cons_succ, List.setIfInBounds_toArray, List.set_cons_zero, List.set_cons_succ]
    refine wpAnyH_take (i := 8) (v := .string (s.extract (n + 1) s.size)) rfl (by kernel_rfl) (by kernel_rfl) (by kernel_rfl) (fun _ _ _ h => h) (Or.inl ⟨by rfl, fun w hw => by go_simp⟩) hHeld ?_
    simp only [Act.put, List.getElem_toArray, List.getElem_cons_zero, List.getElem_cons_succ, List.setIfInBounds_toArray, List.set_cons_zero, List.set_cons_succ]
    refine wpAnyH_take (i := 9) (v := .string (s.extract 0 n)) rfl (by kernel_rfl) (by kernel_rfl) (by kernel_rfl) (fun _ _ _ h => h) (Or.inl ⟨by rfl, fun w hw => by go_simp⟩) hHeld ?_
    simp only [Act.put, List.getElem_toArray, List.getElem_cons_zero, List.getElem_cons_succ, List.setIfInBounds_toArray, List.set_cons_zero, List.set_cons_succ]
    refine wpAnyH_take (i := 10) (v := .string (s.extract (n + 1) s.size)) rfl (by kernel_rfl) (by kernel_rfl) (by kernel_rfl) (fun _ _ _ h => h) (Or.inl ⟨by rfl, fun w hw => by go_simp⟩) hHeld ?_
    simp only [Act.put, List.getElem_toArray, List.getElem_cons_zero, List.getElem_cons_succ, List.setIfInBounds_toArray, List.set_cons_zero, List.set_cons_succ]
    refine wpAnyH_take (i := 11) (v := .bool true) rfl (by kernel_rfl) (by kernel_rfl) (by kernel_rfl) (fun _ _ _ h => h) (Or.inl ⟨by rfl, fun w hw => by go_simp⟩) hHeld ?_
    simp only [Act.put, List.getElem_toArray, List.getElem_cons_zero, List.getElem_cons_succ, List.setIfInBounds_toArray, List.set_cons_zero, List.set_cons_succ]
    refine wpAnyH_done (by kernel_rfl) ?_ _
    clear hHeld
    go_wp2
    exact bodyPost_ret (results_t3 Tryz.results60 _ _) rfl ⟨ret_ssb HE.out, belowDrew1 _⟩
theorem cut_45 (s : ByteArray) (w : World) (hs : s.size ≤ 140737488351232) : Calls Tryz.prog 37 #[.string s, .string { data := #[45] }] w fun e w' => e = .returned (.tuple #[.string (ctR s 45).1, .string (ctR s 45).2.1, .bool (ctR s 45).2.2]) ∧ Below w.heap.size w w' := by
  have HC : Hid (∀ w, Calls Tryz.prog 60 #[.string s, .string { data := #[45] }] w fun e w' => e = .returned (.tuple #[.string (ctR s 45).1, .string (ctR s 45).2.1, .bool (ctR s 45).2.2]) ∧ Below w.heap.size w w') := fun w => slCut_45 s w hs
  generalize ctR s 45 = q at *
  obtain ⟨q1, q2, q3⟩ := q
  go_enter Tryz.func37, Tryz.ntmps37
  go_wp2_with fail
  refine (HC.out w).mono ?_
  rintro e w1 ⟨rfl, b1⟩
  go_wp2
  exact bodyPost_ret (results_t3 Tryz.results37 _ _) rfl ⟨rfl, b1⟩
end Go.Proofs.YtnpcbcfjnhjmmaaGreatDoor
namespace Go.Proofs.YtnpcbcfjnhjmmaaGreatDoor
open Go.Shelf Go.RowKit Go.Deep Go.Sort
shelf_lay LaysM.n171 Nm 171 at Tryz as laysItoa
theorem below_grow (w : World) (k : Nat) (os : Array Obj) : Below w.heap.size w (grow (w.drewN k) os) := by
  have h := belowDrewN w k
  refine ⟨h.os, h.tape, h.output, ?_, fun q hq => ?_⟩
  · show w.heap.size ≤ (w.heap ++ os).size
    simp
  · exact (heap_grow_old (w.drewN k) os hq).trans (h.block q hq)
/-- a number written out; the table of powers lies where the program's start put it -/
theorem itoa65 (n : Nat) (hn : n ≤ 4096) (w : World) (htab : Lib.TabIs Tryz.prog w "internal/strconv.uint64pow10" .u64 Lib.pow10Tab) :
    Calls Tryz.prog 99 #[.int .i64 (n : Int)] w fun e w' => e = .returned (.string ⟨(Lib.itoa (n : Int)).toArray⟩) ∧ Below w.heap.size w w' :=
  (Any.strconv_Itoa laysItoa (n : Int) (by omega) (by omega) w htab).mono fun e w' ⟨h1, k, os, h2⟩ => ⟨h1, h2 ▸ below_grow w k os⟩
end Go.Proofs.YtnpcbcfjnhjmmaaGreatDoor
