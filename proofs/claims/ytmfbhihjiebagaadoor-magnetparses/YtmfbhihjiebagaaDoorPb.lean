import Derived.Test.YtmfbhihjiebagaaDoorPa
namespace Go.Proofs.YtmfbhihjiebagaaDoor
open Go.Shelf Go.RowKit Go.Deep
set_option maxHeartbeats 1000000 in
theorem rstarts (s p : ByteArray) (w : World) : Calls Tryd.prog 10 #[.string s, .string p] w fun e w' => e = .returned (.bool (Lib.hasPrefix s.data.toList p.data.toList)) ∧ w' = w := by
  rw [← Lib.hasPrefix_of_take, ← Lib.size_eq, ← Lib.size_eq]
  by_cases h : p.size ≤ s.size
  · have hsl : ∀ w : World, (Instr.slice 9 (.string s) none (some (.int .i64 (p.size : Int))) none).run Tryd.prog w = .ok (.string (s.extract 0 p.size)) w := fun w => by
      simp [go_sem, Tryd.underlying9]; omega
    have HR : Hid (((s.extract 0 p.size).toList == p.toList) = (decide (p.size ≤ s.size) && (s.data.toList.take p.size == p.data.toList))) := by
      have h9 : ((s.extract 0 p.size).toList == p.toList) = (decide (p.size ≤ s.size) && (s.data.toList.take p.size == p.data.toList)) := by
        rw [Lib.extract_toList, Lib.toList_data, decide_eq_true h, Bool.true_and]; simp
      exact h9
    have h2 : (p.size : Int) ≤ (s.size : Int) := by omega
    generalize (decide (p.size ≤ s.size) && (s.data.toList.take p.size == p.data.toList)) = r at *
    generalize s.extract 0 p.size = t at *
    clear h
    go_enter Tryd.func10, Tryd.ntmps10
    go_wp2
    go_ret
    exact ⟨ret_b HR.out, rfl⟩
  · have HR : Hid (false = (decide (p.size ≤ s.size) && (s.data.toList.take p.size == p.data.toList))) := by
      have h9 : (decide (p.size ≤ s.size) && (s.data.toList.take p.size == p.data.toList)) = false := by rw [decide_eq_false h, Bool.false_and]
      exact h9.symm
    generalize (decide (p.size ≤ s.size) && (s.data.toList.take p.size == p.data.toList)) = r at *
    have h2 : ¬ (p.size : Int) ≤ (s.size : Int) := by omega
    clear h
    go_enter Tryd.func10, Tryd.ntmps10
    go_wp2
    go_ret
    exact ⟨ret_b HR.out, rfl⟩
/-- a digit -/
def dgt (x : UInt8) : Bool := decide (48 ≤ x.toNat) && decide (x.toNat ≤ 57)
def numGo : Nat → List UInt8 → Nat → Nat → Nat × Nat
  | 0, _, n, c => (n, c)
  | _ + 1, [], n, c => (n, c)
  | f + 1, x :: r, n, c => if dgt x then numGo f r (10 * n + (x.toNat - 48)) (c + 1) else (n, c)
/-- the number that a text begins with, and how many bytes stand for it -/
def numR (l : List UInt8) : Option (Nat × Nat) :=
  if (numGo 5 l 0 0).2 = 0 ∨ 4096 ≤ (numGo 5 l 0 0).1 ∨ (l.getD 0 0 = 48 ∧ 1 < (numGo 5 l 0 0).2) then none else some (numGo 5 l 0 0)
theorem numGo_stop {f : Nat} {l : List UInt8} {n c : Nat} (h : f = 0 ∨ l = [] ∨ dgt (l.getD 0 0) = false) : numGo f l n c = (n, c) := by
  cases f with
  | zero => rfl
  | succ f =>
    cases l with
    | nil => rfl
    | cons x r =>
      have h1 : dgt x = false := by
        rcases h with h | h | h
        · cases h
        · cases h
        · exact h
      rw [numGo, h1]; rfl
theorem numGo_step {f : Nat} {x : UInt8} {r : List UInt8} {n c : Nat} (h : dgt x = true) : numGo (f + 1) (x :: r) n c = numGo f r (10 * n + (x.toNat - 48)) (c + 1) := by rw [numGo, h]; rfl
theorem drop_cons (s : ByteArray) (k : Nat) (h : k < s.size) : s.data.toList.drop k = s[k] :: s.data.toList.drop (k + 1) := by
  have h2 : k < s.data.toList.length := by simpa using h
  rw [List.drop_eq_getElem_cons h2]
  congr 1
theorem ret_ii {a b c d : Int} (h1 : a = b) (h2 : c = d) : Ending.returned (.tuple #[.int .i64 a, .int .i64 c]) = .returned (.tuple #[.int .i64 b, .int .i64 d]) := by rw [h1, h2]
/-- what the reference's number answers at a place -/
def nmN (l : List UInt8) (i : Nat) : Int := match numR (l.drop i) with | some (n, _) => n | none => 0
def nmK (l : List UInt8) (i : Nat) : Int := match numR (l.drop i) with | some (_, c) => ((i + c : Nat) : Int) | none => -1
set_option maxHeartbeats 2000000 in
set_option maxRecDepth 100000 in
theorem rnumber (s : ByteArray) (i : Nat) (w : World) (hi : i ≤ s.size) (hs : s.size ≤ 140737488351232) :
    Calls Tryd.prog 54 #[.string s, .int .i64 (i : Int)] w fun e w' => e = .returned (.tuple #[.int .i64 (nmN s.data.toList i), .int .i64 (nmK s.data.toList i)]) ∧ w' = w := by
  have HZ : Hid (s.data.toList.length = s.size) := (by simp : s.data.toList.length = s.size)
  go_enter Tryd.func54, Tryd.ntmps54
  go_wp2
  go_loopw [6, 7] (fun t u wr => ∃ k n : Nat, i ≤ k ∧ k ≤ i + 5 ∧ k ≤ s.size ∧ n ≤ 99999 ∧ t = .int .i64 n ∧ u = .int .i64 (k : Int) ∧ wr = w ∧ Hid (n < 10 ^ (k - i) ∧ numGo 5 (s.data.toList.drop i) 0 0 = numGo (5 - (k - i)) (s.data.toList.drop k) n (k - i))) (fun _ u _ => s.size - (intOf u).toNat)
  case atStart => exact ⟨i, 0, Nat.le_refl _, by omega, hi, by omega, rfl, rfl, rfl, (⟨by rw [Nat.sub_self]; omega, by rw [Nat.sub_self]⟩ : 0 < 10 ^ (i - i) ∧ numGo 5 (s.data.toList.drop i) 0 0 = numGo (5 - (i - i)) (s.data.toList.drop i) 0 (i - i))⟩
  case round =>
    obtain ⟨k, n, hik, hk5, hks, hn, rfl, rfl, rfl, HI⟩ := hrel
    have hzz := HZ.out
    by_cases h1 : k < s.size
    · have h1' : (k : Int) < (s.size : Int) := by omega
      have hx := index_s s k h1 (k : Int) rfl
      have HD : Hid (s.data.toList.drop k = s[k] :: s.data.toList.drop (k + 1)) := drop_cons s k h1
      have HXY : Hid (∀ w, (Instr.index 9 (.string s) (.int .i64 (k : Int))).run Tryd.prog w = .ok (.int .u8 (s[k].toNat : Int)) w) := hx
      generalize s[k] = x at *
      by_cases h2 : 48 ≤ x.toNat
      · have h2' : (48 : Int) ≤ (x.toNat : Int) := by omega
        by_cases h3 : x.toNat ≤ 57
        · have h3' : (x.toNat : Int) ≤ 57 := by omega
          by_cases h4 : k < i + 5
          · have h4' : (k : Int) < (i : Int) + 5 := by omega
            have HJ : Hid (10 * n + (x.toNat - 48) < 10 ^ (k + 1 - i) ∧ numGo 5 (s.data.toList.drop i) 0 0 = numGo (5 - (k + 1 - i)) (s.data.toList.drop (k + 1)) (10 * n + (x.toNat - 48)) (k + 1 - i)) := by
              have e9 : k + 1 - i = (k - i) + 1 := by omega
              have h7 : 10 * n + (x.toNat - 48) < 10 ^ (k + 1 - i) := by have := HI.out.1; rw [e9, Nat.pow_succ]; omega
              have h8 : numGo 5 (s.data.toList.drop i) 0 0 = numGo (5 - (k + 1 - i)) (s.data.toList.drop (k + 1)) (10 * n + (x.toNat - 48)) (k + 1 - i) := by
                rw [HI.out.2, HD.out, show 5 - (k - i) = (5 - (k + 1 - i)) + 1 by omega, numGo_step (by unfold dgt; rw [decide_eq_true h2, decide_eq_true h3]; rfl), e9]
              exact (⟨h7, h8⟩ : 10 * n + (x.toNat - 48) < 10 ^ (k + 1 - i) ∧ numGo 5 (s.data.toList.drop i) 0 0 = numGo (5 - (k + 1 - i)) (s.data.toList.drop (k + 1)) (10 * n + (x.toNat - 48)) (k + 1 - i))
            have hb5 : 10 * n + (x.toNat - 48) ≤ 99999 := by
              have h5 : 10 ^ (k + 1 - i) ≤ 10 ^ 5 := Nat.pow_le_pow_right (by omega) (by omega)
              have h6 := Nat.lt_of_lt_of_le HJ.out.1 h5
              have h7 : 10 ^ 5 = 100000 := by decide
              rw [h7] at h6
              omega
            clear HI HD HZ hzz
            go_wp2
            exact ⟨⟨k + 1, 10 * n + (x.toNat - 48), by omega, by omega, by omega, hb5, by go_num, by go_num, by trivial, HJ⟩, by simp [intOf]; omega⟩
          · have h4' : ¬ (k : Int) < (i : Int) + 5 := by omega
            have HP : Hid (numR (s.data.toList.drop i) = if k - i = 0 ∨ 4096 ≤ n ∨ ((s.data.toList.drop i).getD 0 0 = 48 ∧ 1 < k - i) then none else some (n, k - i)) := by
              have h8 : numGo 5 (s.data.toList.drop i) 0 0 = (n, k - i) := by rw [HI.out.2]; exact numGo_stop (.inl (by omega))
              have h9 : numR (s.data.toList.drop i) = if k - i = 0 ∨ 4096 ≤ n ∨ ((s.data.toList.drop i).getD 0 0 = 48 ∧ 1 < k - i) then none else some (n, k - i) := by unfold numR; rw [h8]
              exact h9
            by_cases e1 : k = i
            · have HN0 : Hid (k - i = 0) := (by omega : k - i = 0)
              have e1s : i = k := e1.symm
              clear e1
              subst e1s
              have HR : Hid (0 = nmN s.data.toList i ∧ -1 = nmK s.data.toList i) := by
                have h9 : numR (s.data.toList.drop i) = none := by rw [HP.out]; exact if_pos (.inl HN0.out)
                exact (⟨by rw [nmN, h9], by rw [nmK, h9]⟩ : 0 = nmN s.data.toList i ∧ -1 = nmK s.data.toList i)
              clear HP HI HZ
              go_wp2
              all_goals go_ret2
              all_goals exact ⟨ret_ii HR.out.1 HR.out.2, rfl⟩
            · have hi2 : i < s.size := by omega
              have e1' : ¬ (k : Int) = (i : Int) := by omega
              by_cases e2 : 4096 ≤ n
              · have e2' : (4096 : Int) ≤ (n : Int) := by omega
                have HR : Hid (0 = nmN s.data.toList i ∧ -1 = nmK s.data.toList i) := by
                  have h9 : numR (s.data.toList.drop i) = none := by rw [HP.out]; exact if_pos (.inr (.inl e2))
                  exact (⟨by rw [nmN, h9], by rw [nmK, h9]⟩ : 0 = nmN s.data.toList i ∧ -1 = nmK s.data.toList i)
                clear HP HI HZ
                go_wp2
                all_goals go_ret2
                all_goals exact ⟨ret_ii HR.out.1 HR.out.2, rfl⟩
              · have e2' : ¬ (4096 : Int) ≤ (n : Int) := by omega
                have hxi := index_s s i hi2 i rfl
                have hg : (s.data.toList.drop i).getD 0 0 = s[i] := by rw [drop_getD, Nat.add_zero, bgetD s i hi2]
                rw [hg] at HP
                generalize s[i] = y at *
                by_cases e3 : y = 48
                · subst e3
                  by_cases e4 : i + 1 < k
                  · have e4' : (i : Int) + 1 < (k : Int) := by omega
                    have HR : Hid (0 = nmN s.data.toList i ∧ -1 = nmK s.data.toList i) := by
                      have h9 : numR (s.data.toList.drop i) = none := by rw [HP.out]; exact if_pos (.inr (.inr ⟨rfl, by omega⟩))
                      exact (⟨by rw [nmN, h9], by rw [nmK, h9]⟩ : 0 = nmN s.data.toList i ∧ -1 = nmK s.data.toList i)
                    clear HP HI HZ
                    go_wp2
                    all_goals go_ret2
                    all_goals exact ⟨ret_ii HR.out.1 HR.out.2, rfl⟩
                  · have e4' : ¬ (i : Int) + 1 < (k : Int) := by omega
                    have HR : Hid ((n : Int) = nmN s.data.toList i ∧ (k : Int) = nmK s.data.toList i) := by
                      have h9 : numR (s.data.toList.drop i) = some (n, k - i) := by rw [HP.out]; exact if_neg (by rintro (h | h | h) <;> omega)
                      exact (⟨by rw [nmN, h9], by rw [nmK, h9]; show (k : Int) = ((i + (k - i) : Nat) : Int); omega⟩ : (n : Int) = nmN s.data.toList i ∧ (k : Int) = nmK s.data.toList i)
                    clear HP HI HZ
                    go_wp2
                    all_goals go_ret2
                    all_goals exact ⟨ret_ii HR.out.1 HR.out.2, rfl⟩
                · have hne : ¬ ((y.toNat : Int) = 48) := by intro h; exact e3 (UInt8.toNat_inj.1 (by show y.toNat = 48; omega))
                  have HR : Hid ((n : Int) = nmN s.data.toList i ∧ (k : Int) = nmK s.data.toList i) := by
                    have h9 : numR (s.data.toList.drop i) = some (n, k - i) := by rw [HP.out]; exact if_neg (fun h => h.elim (fun h => e1 (by omega)) (fun h => h.elim e2 (fun h => e3 h.1)))
                    exact (⟨by rw [nmN, h9], by rw [nmK, h9]; show (k : Int) = ((i + (k - i) : Nat) : Int); omega⟩ : (n : Int) = nmN s.data.toList i ∧ (k : Int) = nmK s.data.toList i)
                  clear HP HI HZ
                  go_wp2
                  all_goals go_ret2
                  all_goals exact ⟨ret_ii HR.out.1 HR.out.2, rfl⟩
        · have h3' : ¬ (x.toNat : Int) ≤ 57 := by omega
          have HP : Hid (numR (s.data.toList.drop i) = if k - i = 0 ∨ 4096 ≤ n ∨ ((s.data.toList.drop i).getD 0 0 = 48 ∧ 1 < k - i) then none else some (n, k - i)) := by
            have h8 : numGo 5 (s.data.toList.drop i) 0 0 = (n, k - i) := by rw [HI.out.2]; exact numGo_stop (.inr (.inr (by rw [HD.out]; show dgt x = false; unfold dgt; rw [decide_eq_false h3, Bool.and_false])))
            have h9 : numR (s.data.toList.drop i) = if k - i = 0 ∨ 4096 ≤ n ∨ ((s.data.toList.drop i).getD 0 0 = 48 ∧ 1 < k - i) then none else some (n, k - i) := by unfold numR; rw [h8]
            exact h9
          by_cases e1 : k = i
          · have HN0 : Hid (k - i = 0) := (by omega : k - i = 0)
            have e1s : i = k := e1.symm
            clear e1
            subst e1s
            have HR : Hid (0 = nmN s.data.toList i ∧ -1 = nmK s.data.toList i) := by
              have h9 : numR (s.data.toList.drop i) = none := by rw [HP.out]; exact if_pos (.inl HN0.out)
              exact (⟨by rw [nmN, h9], by rw [nmK, h9]⟩ : 0 = nmN s.data.toList i ∧ -1 = nmK s.data.toList i)
            clear HP HI HZ
            go_wp2
            all_goals go_ret2
            all_goals exact ⟨ret_ii HR.out.1 HR.out.2, rfl⟩
          · have hi2 : i < s.size := by omega
            have e1' : ¬ (k : Int) = (i : Int) := by omega
            by_cases e2 : 4096 ≤ n
            · have e2' : (4096 : Int) ≤ (n : Int) := by omega
              have HR : Hid (0 = nmN s.data.toList i ∧ -1 = nmK s.data.toList i) := by
                have h9 : numR (s.data.toList.drop i) = none := by rw [HP.out]; exact if_pos (.inr (.inl e2))
                exact (⟨by rw [nmN, h9], by rw [nmK, h9]⟩ : 0 = nmN s.data.toList i ∧ -1 = nmK s.data.toList i)
              clear HP HI HZ
              go_wp2
              all_goals go_ret2
              all_goals exact ⟨ret_ii HR.out.1 HR.out.2, rfl⟩
            · have e2' : ¬ (4096 : Int) ≤ (n : Int) := by omega
              have hxi := index_s s i hi2 i rfl
              have hg : (s.data.toList.drop i).getD 0 0 = s[i] := by rw [drop_getD, Nat.add_zero, bgetD s i hi2]
              rw [hg] at HP
              generalize s[i] = y at *
              by_cases e3 : y = 48
              · subst e3
                by_cases e4 : i + 1 < k
                · have e4' : (i : Int) + 1 < (k : Int) := by omega
                  have HR : Hid (0 = nmN s.data.toList i ∧ -1 = nmK s.data.toList i) := by
                    have h9 : numR (s.data.toList.drop i) = none := by rw [HP.out]; exact if_pos (.inr (.inr ⟨rfl, by omega⟩))
                    exact (⟨by rw [nmN, h9], by rw [nmK, h9]⟩ : 0 = nmN s.data.toList i ∧ -1 = nmK s.data.toList i)
                  clear HP HI HZ
                  go_wp2
                  all_goals go_ret2
                  all_goals exact ⟨ret_ii HR.out.1 HR.out.2, rfl⟩
                · have e4' : ¬ (i : Int) + 1 < (k : Int) := by omega
                  have HR : Hid ((n : Int) = nmN s.data.toList i ∧ (k : Int) = nmK s.data.toList i) := by
                    have h9 : numR (s.data.toList.drop i) = some (n, k - i) := by rw [HP.out]; exact if_neg (by rintro (h | h | h) <;> omega)
                    exact (⟨by rw [nmN, h9], by rw [nmK, h9]; show (k : Int) = ((i + (k - i) : Nat) : Int); omega⟩ : (n : Int) = nmN s.data.toList i ∧ (k : Int) = nmK s.data.toList i)
                  clear HP HI HZ
                  go_wp2
                  all_goals go_ret2
                  all_goals exact ⟨ret_ii HR.out.1 HR.out.2, rfl⟩
              · have hne : ¬ ((y.toNat : Int) = 48) := by intro h; exact e3 (UInt8.toNat_inj.1 (by show y.toNat = 48; omega))
                have HR : Hid ((n : Int) = nmN s.data.toList i ∧ (k : Int) = nmK s.data.toList i) := by
                  have h9 : numR (s.data.toList.drop i) = some (n, k - i) := by rw [HP.out]; exact if_neg (fun h => h.elim (fun h => e1 (by omega)) (fun h => h.elim e2 (fun h => e3 h.1)))
                  exact (⟨by rw [nmN, h9], by rw [nmK, h9]; show (k : Int) = ((i + (k - i) : Nat) : Int); omega⟩ : (n : Int) = nmN s.data.toList i ∧ (k : Int) = nmK s.data.toList i)
                clear HP HI HZ
                go_wp2
                all_goals go_ret2
                all_goals exact ⟨ret_ii HR.out.1 HR.out.2, rfl⟩
      · have h2' : ¬ (48 : Int) ≤ (x.toNat : Int) := by omega
        have HP : Hid (numR (s.data.toList.drop i) = if k - i = 0 ∨ 4096 ≤ n ∨ ((s.data.toList.drop i).getD 0 0 = 48 ∧ 1 < k - i) then none else some (n, k - i)) := by
          have h8 : numGo 5 (s.data.toList.drop i) 0 0 = (n, k - i) := by rw [HI.out.2]; exact numGo_stop (.inr (.inr (by rw [HD.out]; show dgt x = false; unfold dgt; rw [decide_eq_false h2, Bool.false_and])))
          have h9 : numR (s.data.toList.drop i) = if k - i = 0 ∨ 4096 ≤ n ∨ ((s.data.toList.drop i).getD 0 0 = 48 ∧ 1 < k - i) then none else some (n, k - i) := by unfold numR; rw [h8]
          exact h9
        by_cases e1 : k = i
        · have HN0 : Hid (k - i = 0) := (by omega : k - i = 0)
          have e1s : i = k := e1.symm
          clear e1
          subst e1s
          have HR : Hid (0 = nmN s.data.toList i ∧ -1 = nmK s.data.toList i) := by
            have h9 : numR (s.data.toList.drop i) = none := by rw [HP.out]; exact if_pos (.inl HN0.out)
            exact (⟨by rw [nmN, h9], by rw [nmK, h9]⟩ : 0 = nmN s.data.toList i ∧ -1 = nmK s.data.toList i)
          clear HP HI HZ
          go_wp2
          all_goals go_ret2
          all_goals exact ⟨ret_ii HR.out.1 HR.out.2, rfl⟩
        · have hi2 : i < s.size := by omega
          have e1' : ¬ (k : Int) = (i : Int) := by omega
          by_cases e2 : 4096 ≤ n
          · have e2' : (4096 : Int) ≤ (n : Int) := by omega
            have HR : Hid (0 = nmN s.data.toList i ∧ -1 = nmK s.data.toList i) := by
              have h9 : numR (s.data.toList.drop i) = none := by rw [HP.out]; exact if_pos (.inr (.inl e2))
              exact (⟨by rw [nmN, h9], by rw [nmK, h9]⟩ : 0 = nmN s.data.toList i ∧ -1 = nmK s.data.toList i)
            clear HP HI HZ
            go_wp2
            all_goals go_ret2
            all_goals exact ⟨ret_ii HR.out.1 HR.out.2, rfl⟩
          · have e2' : ¬ (4096 : Int) ≤ (n : Int) := by omega
            have hxi := index_s s i hi2 i rfl
            have hg : (s.data.toList.drop i).getD 0 0 = s[i] := by rw [drop_getD, Nat.add_zero, bgetD s i hi2]
            rw [hg] at HP
            generalize s[i] = y at *
            by_cases e3 : y = 48
            · subst e3
              by_cases e4 : i + 1 < k
              · have e4' : (i : Int) + 1 < (k : Int) := by omega
                have HR : Hid (0 = nmN s.data.toList i ∧ -1 = nmK s.data.toList i) := by
                  have h9 : numR (s.data.toList.drop i) = none := by rw [HP.out]; exact if_pos (.inr (.inr ⟨rfl, by omega⟩))
                  exact (⟨by rw [nmN, h9], by rw [nmK, h9]⟩ : 0 = nmN s.data.toList i ∧ -1 = nmK s.data.toList i)
                clear HP HI HZ
                go_wp2
                all_goals go_ret2
                all_goals exact ⟨ret_ii HR.out.1 HR.out.2, rfl⟩
              · have e4' : ¬ (i : Int) + 1 < (k : Int) := by omega
                have HR : Hid ((n : Int) = nmN s.data.toList i ∧ (k : Int) = nmK s.data.toList i) := by
                  have h9 : numR (s.data.toList.drop i) = some (n, k - i) := by rw [HP.out]; exact if_neg (by rintro (h | h | h) <;> omega)
                  exact (⟨by rw [nmN, h9], by rw [nmK, h9]; show (k : Int) = ((i + (k - i) : Nat) : Int); omega⟩ : (n : Int) = nmN s.data.toList i ∧ (k : Int) = nmK s.data.toList i)
                clear HP HI HZ
                go_wp2
                all_goals go_ret2
                all_goals exact ⟨ret_ii HR.out.1 HR.out.2, rfl⟩
            · have hne : ¬ ((y.toNat : Int) = 48) := by intro h; exact e3 (UInt8.toNat_inj.1 (by show y.toNat = 48; omega))
              have HR : Hid ((n : Int) = nmN s.data.toList i ∧ (k : Int) = nmK s.data.toList i) := by
                have h9 : numR (s.data.toList.drop i) = some (n, k - i) := by rw [HP.out]; exact if_neg (fun h => h.elim (fun h => e1 (by omega)) (fun h => h.elim e2 (fun h => e3 h.1)))
                exact (⟨by rw [nmN, h9], by rw [nmK, h9]; show (k : Int) = ((i + (k - i) : Nat) : Int); omega⟩ : (n : Int) = nmN s.data.toList i ∧ (k : Int) = nmK s.data.toList i)
              clear HP HI HZ
              go_wp2
              all_goals go_ret2
              all_goals exact ⟨ret_ii HR.out.1 HR.out.2, rfl⟩
    · have h1' : ¬ (k : Int) < (s.size : Int) := by omega
      have HP : Hid (numR (s.data.toList.drop i) = if k - i = 0 ∨ 4096 ≤ n ∨ ((s.data.toList.drop i).getD 0 0 = 48 ∧ 1 < k - i) then none else some (n, k - i)) := by
        have h8 : numGo 5 (s.data.toList.drop i) 0 0 = (n, k - i) := by rw [HI.out.2]; exact numGo_stop (.inr (.inl (List.drop_eq_nil_of_le (by omega))))
        have h9 : numR (s.data.toList.drop i) = if k - i = 0 ∨ 4096 ≤ n ∨ ((s.data.toList.drop i).getD 0 0 = 48 ∧ 1 < k - i) then none else some (n, k - i) := by unfold numR; rw [h8]
        exact h9
      by_cases e1 : k = i
      · have HN0 : Hid (k - i = 0) := (by omega : k - i = 0)
        have e1s : i = k := e1.symm
        clear e1
        subst e1s
        have HR : Hid (0 = nmN s.data.toList i ∧ -1 = nmK s.data.toList i) := by
          have h9 : numR (s.data.toList.drop i) = none := by rw [HP.out]; exact if_pos (.inl HN0.out)
          exact (⟨by rw [nmN, h9], by rw [nmK, h9]⟩ : 0 = nmN s.data.toList i ∧ -1 = nmK s.data.toList i)
        clear HP HI HZ
        go_wp2
        all_goals go_ret2
        all_goals exact ⟨ret_ii HR.out.1 HR.out.2, rfl⟩
      · have hi2 : i < s.size := by omega
        have e1' : ¬ (k : Int) = (i : Int) := by omega
        by_cases e2 : 4096 ≤ n
        · have e2' : (4096 : Int) ≤ (n : Int) := by omega
          have HR : Hid (0 = nmN s.data.toList i ∧ -1 = nmK s.data.toList i) := by
            have h9 : numR (s.data.toList.drop i) = none := by rw [HP.out]; exact if_pos (.inr (.inl e2))
            exact (⟨by rw [nmN, h9], by rw [nmK, h9]⟩ : 0 = nmN s.data.toList i ∧ -1 = nmK s.data.toList i)
          clear HP HI HZ
          go_wp2
          all_goals go_ret2
          all_goals exact ⟨ret_ii HR.out.1 HR.out.2, rfl⟩
        · have e2' : ¬ (4096 : Int) ≤ (n : Int) := by omega
          have hxi := index_s s i hi2 i rfl
          have hg : (s.data.toList.drop i).getD 0 0 = s[i] := by rw [drop_getD, Nat.add_zero, bgetD s i hi2]
          rw [hg] at HP
          generalize s[i] = y at *
          by_cases e3 : y = 48
          · subst e3
            by_cases e4 : i + 1 < k
            · have e4' : (i : Int) + 1 < (k : Int) := by omega
              have HR : Hid (0 = nmN s.data.toList i ∧ -1 = nmK s.data.toList i) := by
                have h9 : numR (s.data.toList.drop i) = none := by rw [HP.out]; exact if_pos (.inr (.inr ⟨rfl, by omega⟩))
                exact (⟨by rw [nmN, h9], by rw [nmK, h9]⟩ : 0 = nmN s.data.toList i ∧ -1 = nmK s.data.toList i)
              clear HP HI HZ
              go_wp2
              all_goals go_ret2
              all_goals exact ⟨ret_ii HR.out.1 HR.out.2, rfl⟩
            · have e4' : ¬ (i : Int) + 1 < (k : Int) := by omega
              have HR : Hid ((n : Int) = nmN s.data.toList i ∧ (k : Int) = nmK s.data.toList i) := by
                have h9 : numR (s.data.toList.drop i) = some (n, k - i) := by rw [HP.out]; exact if_neg (by rintro (h | h | h) <;> omega)
                exact (⟨by rw [nmN, h9], by rw [nmK, h9]; show (k : Int) = ((i + (k - i) : Nat) : Int); omega⟩ : (n : Int) = nmN s.data.toList i ∧ (k : Int) = nmK s.data.toList i)
              clear HP HI HZ
              go_wp2
              all_goals go_ret2
              all_goals exact ⟨ret_ii HR.out.1 HR.out.2, rfl⟩
          · have hne : ¬ ((y.toNat : Int) = 48) := by intro h; exact e3 (UInt8.toNat_inj.1 (by show y.toNat = 48; omega))
            have HR : Hid ((n : Int) = nmN s.data.toList i ∧ (k : Int) = nmK s.data.toList i) := by
              have h9 : numR (s.data.toList.drop i) = some (n, k - i) := by rw [HP.out]; exact if_neg (fun h => h.elim (fun h => e1 (by omega)) (fun h => h.elim e2 (fun h => e3 h.1)))
              exact (⟨by rw [nmN, h9], by rw [nmK, h9]; show (k : Int) = ((i + (k - i) : Nat) : Int); omega⟩ : (n : Int) = nmN s.data.toList i ∧ (k : Int) = nmK s.data.toList i)
            clear HP HI HZ
            go_wp2
            all_goals go_ret2
            all_goals exact ⟨ret_ii HR.out.1 HR.out.2, rfl⟩
end Go.Proofs.YtmfbhihjiebagaaDoor
