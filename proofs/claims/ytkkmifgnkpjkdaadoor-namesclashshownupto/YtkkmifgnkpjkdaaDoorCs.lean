import Derived.Test.YtkkmifgnkpjkdaaDoorBg
namespace Go.Proofs.YtkkmifgnkpjkdaaDoor
open Go.RowKit
theorem qShift {P : Program} {f : FuncId} {args : Array Value} {w : World} {v : Value} (h : ∀ nq, Calls P f args (w.drewN nq) fun e w' => e = .returned v ∧ ∃ n, w' = (w.drewN nq).drewN n) (a : Nat) :
    ∀ nq, Calls P f args ((w.drewN a).drewN nq) fun e w' => e = .returned v ∧ ∃ n, w' = ((w.drewN a).drewN nq).drewN n := fun nq => by rw [dr2]; exact h _
theorem places {L : List (List ByteArray)} {i j m n : Nat} (h : ∀ b, b < j → ∀ a, a < b → er (la L a) (la L b) = 0) (h2 : ∀ a, a < i → er (la L a) (la L j) = 0) (hm : m < n) (he : er (la L m) (la L n) ≠ 0) : j < n ∨ (j = n ∧ i ≤ m) := by
  rcases Nat.lt_trichotomy j n with h1 | h1 | h1
  · exact .inl h1
  · subst h1
    refine .inr ⟨rfl, ?_⟩
    rcases Nat.lt_or_ge m i with h3 | h3
    · exact absurd (h2 m h3) he
    · exact h3
  · exact absurd (h n h1 m hm) he
/-- the two places are asked about -/
def inR (m n : Int) (k : Nat) : Prop := 0 ≤ m ∧ m < n ∧ n < (k : Int)
set_option maxHeartbeats 2000000 in
set_option maxRecDepth 100000 in
theorem shown3 (AWK : ∀ w, Calls Tryd.prog 6 #[] w fun e w' => e = .returned (.bool true) ∧ Below w.heap.size w w') (v : Value) (L : List (List ByteArray)) (m n : Int) (w : World) (hf : PF L) (h1 : PR w L v) :
    Calls Tryd.prog 3 #[v, .int .i64 m, .int .i64 n] w fun e w' => e = .returned (.bool true) ∧ Below w.heap.size w w' := by
  have H1 : Hid (PR w L v) := h1
  have HF : Hid (PF L) := hf
  have hl := hf.1
  obtain ⟨a1, c1, rfl, _, _⟩ := h1
  clear hf
  generalize hk : L.length = k at *
  have HK : Hid (L.length = k) := hk
  clear hk
  go_enter Tryd.func3, Tryd.ntmps3
  go_wp2_with fail
  refine (AWK _).mono ?_
  rintro e w1 ⟨rfl, hb1⟩
  have B1 : Hid (PR w1 L (.slice a1 k c1) ∧ Below w.heap.size w w1) := ⟨H1.out.keep hb1, hb1⟩
  clear hb1 AWK
  go_wp2_with fail
  refine (clash6 _ L _ HF.out B1.out.1).mono ?_
  rintro e w2 ⟨i, j, z, rfl, hz, hb2⟩
  have B2 : Hid (PR w2 L (.slice a1 k c1) ∧ Below w.heap.size w w2) := ⟨B1.out.1.keep hb2, B1.out.2.trans (hb2.mono B1.out.2.size)⟩
  clear hb2 B1
  rcases hz with ⟨rfl, rfl, rfl, hno⟩ | ⟨hze, hz0, hij, hjl, hno, hfi⟩
  · by_cases hr : inR m n k
    · obtain ⟨r1, r2, r3⟩ := hr
      obtain ⟨mm, rfl⟩ := Int.eq_ofNat_of_zero_le r1
      obtain ⟨nn, rfl⟩ := Int.eq_ofNat_of_zero_le (by omega : 0 ≤ n)
      have q1 : mm < nn := by omega
      have q2 : nn < L.length := by have := HK.out; omega
      have q3 : mm < L.length := by omega
      have he := hno nn q2 mm q1
      obtain ⟨b1, o1, rfl, _, x, k1, k2⟩ := B2.out.1.cellAt q3
      obtain ⟨b2, o2, he2, _, y, g1, g2⟩ := B2.out.1.cellAt q2
      simp at he2
      obtain ⟨rfl, rfl⟩ := he2
      have f1 : stB (la L mm) (la L nn) = false := by cases h : stB (la L mm) (la L nn) with | false => rfl | true => exact absurd he (er_ne.2 (.inl h))
      have f2 : stB (la L nn) (la L mm) = false := by cases h : stB (la L nn) (la L mm) with | false => rfl | true => exact absurd he (er_ne.2 (.inr h))
      have C1 : Hid (∀ nq, Calls Tryd.prog 9 #[x, y] (w2.drewN nq) fun e w' => e = .returned (.bool false) ∧ ∃ n, w' = (w2.drewN nq).drewN n) := begC HF.out q3 q2 f1 k2 g2
      have C2 : Hid (∀ nq, Calls Tryd.prog 9 #[y, x] (w2.drewN nq) fun e w' => e = .returned (.bool false) ∧ ∃ n, w' = (w2.drewN nq).drewN n) := begC HF.out q2 q3 f2 g2 k2
      clear hno he f1 f2 k2 g2
      have q4 : mm < k := by omega
      have q5 : nn < k := by omega
      go_wp2
      go_quiet ((go_at_call 9; first | (with_reducible exact Calls.quiet_of (C1.out _)) | (with_reducible exact Calls.quiet_of (C2.out _))))
      go_wp2
      go_ret
      exact ⟨rfl, B2.out.2.trans ((drB _ _).mono B2.out.2.size)⟩
    · clear hno
      unfold inR at hr
      by_cases r1 : m < 0
      · go_wp2
        go_ret
        exact ⟨rfl, B2.out.2⟩
      · by_cases r2 : n ≤ m
        · go_wp2
          go_ret
          exact ⟨rfl, B2.out.2⟩
        · have r3 : (k : Int) ≤ n := by omega
          go_wp2
          go_ret
          exact ⟨rfl, B2.out.2⟩
  · obtain ⟨bx, hbx⟩ : ∃ b, stB (la L i) (la L j) = b := ⟨_, rfl⟩
    obtain ⟨by', hby⟩ : ∃ b, stB (la L j) (la L i) = b := ⟨_, rfl⟩
    have hil : i < L.length := by omega
    obtain ⟨b1, o1, rfl, _, x, k1, k2⟩ := B2.out.1.cellAt hil
    obtain ⟨b2, o2, he2, _, y, g1, g2⟩ := B2.out.1.cellAt hjl
    simp at he2
    obtain ⟨rfl, rfl⟩ := he2
    have C1 : Hid (∀ nq, Calls Tryd.prog 9 #[x, y] (w2.drewN nq) fun e w' => e = .returned (.bool bx) ∧ ∃ n, w' = (w2.drewN nq).drewN n) := begC HF.out hil hjl hbx k2 g2
    have C2 : Hid (∀ nq, Calls Tryd.prog 9 #[y, x] (w2.drewN nq) fun e w' => e = .returned (.bool by') ∧ ∃ n, w' = (w2.drewN nq).drewN n) := begC HF.out hjl hil hby g2 k2
    have hzz : (z = 56 ∧ bx = true ∧ by' = true) ∨ (z = 57 ∧ ((bx = true ∧ by' = false) ∨ (bx = false ∧ by' = true))) := by rw [hze, ← hbx, ← hby]; exact er_bools (by rw [← hze]; exact hz0)
    have q1 : i < k := by have := HK.out; omega
    have q2 : j < k := by have := HK.out; omega
    have HNO : Hid ((∀ b, b < j → ∀ a, a < b → er (la L a) (la L b) = 0) ∧ ∀ a, a < i → er (la L a) (la L j) = 0) := ⟨hno, hfi⟩
    clear hno hfi hze hbx hby k2 g2 hil hjl hz0
    rcases hzz with ⟨rfl, rfl, rfl⟩ | ⟨rfl, ⟨rfl, rfl⟩ | ⟨rfl, rfl⟩⟩
    · go_wp2
      go_quiet ((go_at_call 9; with_reducible exact Calls.quiet_of (C1.out _)))
      go_wp2
      generalize hw3 : World.drewN w2 _ = w3
      have k3 : w3.cell? ⟨b1, o1 + i, none⟩ = some x := by rw [← hw3]; exact k1
      have g3 : w3.cell? ⟨b1, o1 + j, none⟩ = some y := by rw [← hw3]; exact g1
      have D2 : Hid (∀ nq, Calls Tryd.prog 9 #[y, x] (w3.drewN nq) fun e w' => e = .returned (.bool true) ∧ ∃ n, w' = (w3.drewN nq).drewN n) := by rw [← hw3]; exact qShift C2.out _
      have B3 : Hid (PR w3 L (.slice (some ⟨b1, o1, none⟩) k c1) ∧ Below w.heap.size w w3) := by rw [← hw3]; exact ⟨B2.out.1.keep (drB _ _), B2.out.2.trans ((drB _ _).mono B2.out.2.size)⟩
      clear hw3 k1 g1 C1 C2 B2
      go_quiet ((go_at_call 9; with_reducible exact Calls.quiet_of (D2.out _)))
      generalize hw4 : World.drewN w3 _ = w4
      have B4 : Hid (PR w4 L (.slice (some ⟨b1, o1, none⟩) k c1) ∧ Below w.heap.size w w4) := by rw [← hw4]; exact ⟨B3.out.1.keep (drB _ _), B3.out.2.trans ((drB _ _).mono B3.out.2.size)⟩
      clear hw4 k3 g3 D2 B3
      by_cases hr : inR m n k
      · obtain ⟨r1, r2, r3⟩ := hr
        obtain ⟨mm, rfl⟩ := Int.eq_ofNat_of_zero_le r1
        obtain ⟨nn, rfl⟩ := Int.eq_ofNat_of_zero_le (by omega : 0 ≤ n)
        have p1 : mm < nn := by omega
        have p2 : nn < L.length := by have := HK.out; omega
        have p3 : mm < L.length := by omega
        have p4 : mm < k := by omega
        have p5 : nn < k := by omega
        have T : stB (la L mm) (la L nn) = true ∨ stB (la L nn) (la L mm) = true → j < nn ∨ (j = nn ∧ i ≤ mm) := fun h => places HNO.out.1 HNO.out.2 p1 (er_ne.2 h)
        obtain ⟨b3, o3, he3, _, x', k4, k5⟩ := B4.out.1.cellAt p3
        simp at he3
        obtain ⟨rfl, rfl⟩ := he3
        obtain ⟨b3, o3, he3, _, y', g4, g5⟩ := B4.out.1.cellAt p2
        simp at he3
        obtain ⟨rfl, rfl⟩ := he3
        have E1 := fun b h => begC (b := b) HF.out p3 p2 h k5 g5
        have E2 := fun b h => begC (b := b) HF.out p2 p3 h g5 k5
        clear k5 g5 HNO
        cases e1 : stB (la L mm) (la L nn) with
        | true =>
          have E1 : Hid _ := E1 _ e1
          have E2 : Hid _ := E2 _ rfl
          have T1 := T (.inl e1)
          clear T e1
          rcases T1 with t | ⟨t0, t⟩
          · have tt : ((j : Int) < (nn : Int)) := by omega
            go_wp2
            go_quiet ((go_at_call 9; first | (with_reducible exact Calls.quiet_of (E1.out _)) | (with_reducible exact Calls.quiet_of (E2.out _))))
            go_wp2
            go_ret
            exact ⟨rfl, B4.out.2.trans ((drB _ _).mono B4.out.2.size)⟩
          · have tt : ((i : Int) ≤ (mm : Int)) := by omega
            have t1 : ¬ (j < nn) := by omega
            have t2 : ((j : Int) == (nn : Int)) = true := by simp [t0]
            clear t0
            go_wp2
            go_quiet ((go_at_call 9; first | (with_reducible exact Calls.quiet_of (E1.out _)) | (with_reducible exact Calls.quiet_of (E2.out _))))
            go_wp2
            go_ret
            exact ⟨rfl, B4.out.2.trans ((drB _ _).mono B4.out.2.size)⟩
        | false =>
          cases e2 : stB (la L nn) (la L mm) with
          | true =>
            have E1 : Hid _ := E1 _ e1
            have E2 : Hid _ := E2 _ e2
            have T1 := T (.inr e2)
            clear T e1 e2
            rcases T1 with t | ⟨t0, t⟩
            · have tt : ((j : Int) < (nn : Int)) := by omega
              go_wp2
              go_quiet ((go_at_call 9; first | (with_reducible exact Calls.quiet_of (E1.out _)) | (with_reducible exact Calls.quiet_of (E2.out _))))
              go_wp2
              go_ret
              exact ⟨rfl, B4.out.2.trans ((drB _ _).mono B4.out.2.size)⟩
            · have tt : ((i : Int) ≤ (mm : Int)) := by omega
              have t1 : ¬ (j < nn) := by omega
              have t2 : ((j : Int) == (nn : Int)) = true := by simp [t0]
              clear t0
              go_wp2
              go_quiet ((go_at_call 9; first | (with_reducible exact Calls.quiet_of (E1.out _)) | (with_reducible exact Calls.quiet_of (E2.out _))))
              go_wp2
              go_ret
              exact ⟨rfl, B4.out.2.trans ((drB _ _).mono B4.out.2.size)⟩
          | false =>
            have E1 : Hid _ := E1 _ e1
            have E2 : Hid _ := E2 _ e2
            clear T e1 e2
            go_wp2
            go_quiet ((go_at_call 9; first | (with_reducible exact Calls.quiet_of (E1.out _)) | (with_reducible exact Calls.quiet_of (E2.out _))))
            go_wp2
            go_ret
            exact ⟨rfl, B4.out.2.trans ((drB _ _).mono B4.out.2.size)⟩
      · unfold inR at hr
        by_cases r1 : m < 0
        · go_wp2
          go_ret
          exact ⟨rfl, B4.out.2⟩
        · by_cases r2 : n ≤ m
          · go_wp2
            go_ret
            exact ⟨rfl, B4.out.2⟩
          · have r3 : (k : Int) ≤ n := by omega
            go_wp2
            go_ret
            exact ⟨rfl, B4.out.2⟩
    · go_wp2
      go_quiet ((go_at_call 9; with_reducible exact Calls.quiet_of (C1.out _)))
      go_wp2
      generalize hw3 : World.drewN w2 _ = w3
      have k3 : w3.cell? ⟨b1, o1 + i, none⟩ = some x := by rw [← hw3]; exact k1
      have g3 : w3.cell? ⟨b1, o1 + j, none⟩ = some y := by rw [← hw3]; exact g1
      have D2 : Hid (∀ nq, Calls Tryd.prog 9 #[y, x] (w3.drewN nq) fun e w' => e = .returned (.bool false) ∧ ∃ n, w' = (w3.drewN nq).drewN n) := by rw [← hw3]; exact qShift C2.out _
      have B3 : Hid (PR w3 L (.slice (some ⟨b1, o1, none⟩) k c1) ∧ Below w.heap.size w w3) := by rw [← hw3]; exact ⟨B2.out.1.keep (drB _ _), B2.out.2.trans ((drB _ _).mono B2.out.2.size)⟩
      clear hw3 k1 g1 C1 C2 B2
      go_quiet ((go_at_call 9; with_reducible exact Calls.quiet_of (D2.out _)))
      generalize hw4 : World.drewN w3 _ = w4
      have B4 : Hid (PR w4 L (.slice (some ⟨b1, o1, none⟩) k c1) ∧ Below w.heap.size w w4) := by rw [← hw4]; exact ⟨B3.out.1.keep (drB _ _), B3.out.2.trans ((drB _ _).mono B3.out.2.size)⟩
      clear hw4 k3 g3 D2 B3
      by_cases hr : inR m n k
      · obtain ⟨r1, r2, r3⟩ := hr
        obtain ⟨mm, rfl⟩ := Int.eq_ofNat_of_zero_le r1
        obtain ⟨nn, rfl⟩ := Int.eq_ofNat_of_zero_le (by omega : 0 ≤ n)
        have p1 : mm < nn := by omega
        have p2 : nn < L.length := by have := HK.out; omega
        have p3 : mm < L.length := by omega
        have p4 : mm < k := by omega
        have p5 : nn < k := by omega
        have T : stB (la L mm) (la L nn) = true ∨ stB (la L nn) (la L mm) = true → j < nn ∨ (j = nn ∧ i ≤ mm) := fun h => places HNO.out.1 HNO.out.2 p1 (er_ne.2 h)
        obtain ⟨b3, o3, he3, _, x', k4, k5⟩ := B4.out.1.cellAt p3
        simp at he3
        obtain ⟨rfl, rfl⟩ := he3
        obtain ⟨b3, o3, he3, _, y', g4, g5⟩ := B4.out.1.cellAt p2
        simp at he3
        obtain ⟨rfl, rfl⟩ := he3
        have E1 := fun b h => begC (b := b) HF.out p3 p2 h k5 g5
        have E2 := fun b h => begC (b := b) HF.out p2 p3 h g5 k5
        clear k5 g5 HNO
        cases e1 : stB (la L mm) (la L nn) with
        | true =>
          have E1 : Hid _ := E1 _ e1
          have E2 : Hid _ := E2 _ rfl
          have T1 := T (.inl e1)
          clear T e1
          rcases T1 with t | ⟨t0, t⟩
          · have tt : ((j : Int) < (nn : Int)) := by omega
            go_wp2
            go_quiet ((go_at_call 9; first | (with_reducible exact Calls.quiet_of (E1.out _)) | (with_reducible exact Calls.quiet_of (E2.out _))))
            go_wp2
            go_ret
            exact ⟨rfl, B4.out.2.trans ((drB _ _).mono B4.out.2.size)⟩
          · have tt : ((i : Int) ≤ (mm : Int)) := by omega
            have t1 : ¬ (j < nn) := by omega
            have t2 : ((j : Int) == (nn : Int)) = true := by simp [t0]
            clear t0
            go_wp2
            go_quiet ((go_at_call 9; first | (with_reducible exact Calls.quiet_of (E1.out _)) | (with_reducible exact Calls.quiet_of (E2.out _))))
            go_wp2
            go_ret
            exact ⟨rfl, B4.out.2.trans ((drB _ _).mono B4.out.2.size)⟩
        | false =>
          cases e2 : stB (la L nn) (la L mm) with
          | true =>
            have E1 : Hid _ := E1 _ e1
            have E2 : Hid _ := E2 _ e2
            have T1 := T (.inr e2)
            clear T e1 e2
            rcases T1 with t | ⟨t0, t⟩
            · have tt : ((j : Int) < (nn : Int)) := by omega
              go_wp2
              go_quiet ((go_at_call 9; first | (with_reducible exact Calls.quiet_of (E1.out _)) | (with_reducible exact Calls.quiet_of (E2.out _))))
              go_wp2
              go_ret
              exact ⟨rfl, B4.out.2.trans ((drB _ _).mono B4.out.2.size)⟩
            · have tt : ((i : Int) ≤ (mm : Int)) := by omega
              have t1 : ¬ (j < nn) := by omega
              have t2 : ((j : Int) == (nn : Int)) = true := by simp [t0]
              clear t0
              go_wp2
              go_quiet ((go_at_call 9; first | (with_reducible exact Calls.quiet_of (E1.out _)) | (with_reducible exact Calls.quiet_of (E2.out _))))
              go_wp2
              go_ret
              exact ⟨rfl, B4.out.2.trans ((drB _ _).mono B4.out.2.size)⟩
          | false =>
            have E1 : Hid _ := E1 _ e1
            have E2 : Hid _ := E2 _ e2
            clear T e1 e2
            go_wp2
            go_quiet ((go_at_call 9; first | (with_reducible exact Calls.quiet_of (E1.out _)) | (with_reducible exact Calls.quiet_of (E2.out _))))
            go_wp2
            go_ret
            exact ⟨rfl, B4.out.2.trans ((drB _ _).mono B4.out.2.size)⟩
      · unfold inR at hr
        by_cases r1 : m < 0
        · go_wp2
          go_ret
          exact ⟨rfl, B4.out.2⟩
        · by_cases r2 : n ≤ m
          · go_wp2
            go_ret
            exact ⟨rfl, B4.out.2⟩
          · have r3 : (k : Int) ≤ n := by omega
            go_wp2
            go_ret
            exact ⟨rfl, B4.out.2⟩
    · go_wp2
      go_quiet ((go_at_call 9; with_reducible exact Calls.quiet_of (C1.out _)))
      go_wp2
      generalize hw3 : World.drewN w2 _ = w3
      have k3 : w3.cell? ⟨b1, o1 + i, none⟩ = some x := by rw [← hw3]; exact k1
      have g3 : w3.cell? ⟨b1, o1 + j, none⟩ = some y := by rw [← hw3]; exact g1
      have D2 : Hid (∀ nq, Calls Tryd.prog 9 #[y, x] (w3.drewN nq) fun e w' => e = .returned (.bool true) ∧ ∃ n, w' = (w3.drewN nq).drewN n) := by rw [← hw3]; exact qShift C2.out _
      have B3 : Hid (PR w3 L (.slice (some ⟨b1, o1, none⟩) k c1) ∧ Below w.heap.size w w3) := by rw [← hw3]; exact ⟨B2.out.1.keep (drB _ _), B2.out.2.trans ((drB _ _).mono B2.out.2.size)⟩
      clear hw3 k1 g1 C1 C2 B2
      go_quiet ((go_at_call 9; with_reducible exact Calls.quiet_of (D2.out _)))
      generalize hw4 : World.drewN w3 _ = w4
      have B4 : Hid (PR w4 L (.slice (some ⟨b1, o1, none⟩) k c1) ∧ Below w.heap.size w w4) := by rw [← hw4]; exact ⟨B3.out.1.keep (drB _ _), B3.out.2.trans ((drB _ _).mono B3.out.2.size)⟩
      clear hw4 k3 g3 D2 B3
      by_cases hr : inR m n k
      · obtain ⟨r1, r2, r3⟩ := hr
        obtain ⟨mm, rfl⟩ := Int.eq_ofNat_of_zero_le r1
        obtain ⟨nn, rfl⟩ := Int.eq_ofNat_of_zero_le (by omega : 0 ≤ n)
        have p1 : mm < nn := by omega
        have p2 : nn < L.length := by have := HK.out; omega
        have p3 : mm < L.length := by omega
        have p4 : mm < k := by omega
        have p5 : nn < k := by omega
        have T : stB (la L mm) (la L nn) = true ∨ stB (la L nn) (la L mm) = true → j < nn ∨ (j = nn ∧ i ≤ mm) := fun h => places HNO.out.1 HNO.out.2 p1 (er_ne.2 h)
        obtain ⟨b3, o3, he3, _, x', k4, k5⟩ := B4.out.1.cellAt p3
        simp at he3
        obtain ⟨rfl, rfl⟩ := he3
        obtain ⟨b3, o3, he3, _, y', g4, g5⟩ := B4.out.1.cellAt p2
        simp at he3
        obtain ⟨rfl, rfl⟩ := he3
        have E1 := fun b h => begC (b := b) HF.out p3 p2 h k5 g5
        have E2 := fun b h => begC (b := b) HF.out p2 p3 h g5 k5
        clear k5 g5 HNO
        cases e1 : stB (la L mm) (la L nn) with
        | true =>
          have E1 : Hid _ := E1 _ e1
          have E2 : Hid _ := E2 _ rfl
          have T1 := T (.inl e1)
          clear T e1
          rcases T1 with t | ⟨t0, t⟩
          · have tt : ((j : Int) < (nn : Int)) := by omega
            go_wp2
            go_quiet ((go_at_call 9; first | (with_reducible exact Calls.quiet_of (E1.out _)) | (with_reducible exact Calls.quiet_of (E2.out _))))
            go_wp2
            go_ret
            exact ⟨rfl, B4.out.2.trans ((drB _ _).mono B4.out.2.size)⟩
          · have tt : ((i : Int) ≤ (mm : Int)) := by omega
            have t1 : ¬ (j < nn) := by omega
            have t2 : ((j : Int) == (nn : Int)) = true := by simp [t0]
            clear t0
            go_wp2
            go_quiet ((go_at_call 9; first | (with_reducible exact Calls.quiet_of (E1.out _)) | (with_reducible exact Calls.quiet_of (E2.out _))))
            go_wp2
            go_ret
            exact ⟨rfl, B4.out.2.trans ((drB _ _).mono B4.out.2.size)⟩
        | false =>
          cases e2 : stB (la L nn) (la L mm) with
          | true =>
            have E1 : Hid _ := E1 _ e1
            have E2 : Hid _ := E2 _ e2
            have T1 := T (.inr e2)
            clear T e1 e2
            rcases T1 with t | ⟨t0, t⟩
            · have tt : ((j : Int) < (nn : Int)) := by omega
              go_wp2
              go_quiet ((go_at_call 9; first | (with_reducible exact Calls.quiet_of (E1.out _)) | (with_reducible exact Calls.quiet_of (E2.out _))))
              go_wp2
              go_ret
              exact ⟨rfl, B4.out.2.trans ((drB _ _).mono B4.out.2.size)⟩
            · have tt : ((i : Int) ≤ (mm : Int)) := by omega
              have t1 : ¬ (j < nn) := by omega
              have t2 : ((j : Int) == (nn : Int)) = true := by simp [t0]
              clear t0
              go_wp2
              go_quiet ((go_at_call 9; first | (with_reducible exact Calls.quiet_of (E1.out _)) | (with_reducible exact Calls.quiet_of (E2.out _))))
              go_wp2
              go_ret
              exact ⟨rfl, B4.out.2.trans ((drB _ _).mono B4.out.2.size)⟩
          | false =>
            have E1 : Hid _ := E1 _ e1
            have E2 : Hid _ := E2 _ e2
            clear T e1 e2
            go_wp2
            go_quiet ((go_at_call 9; first | (with_reducible exact Calls.quiet_of (E1.out _)) | (with_reducible exact Calls.quiet_of (E2.out _))))
            go_wp2
            go_ret
            exact ⟨rfl, B4.out.2.trans ((drB _ _).mono B4.out.2.size)⟩
      · unfold inR at hr
        by_cases r1 : m < 0
        · go_wp2
          go_ret
          exact ⟨rfl, B4.out.2⟩
        · by_cases r2 : n ≤ m
          · go_wp2
            go_ret
            exact ⟨rfl, B4.out.2⟩
          · have r3 : (k : Int) ≤ n := by omega
            go_wp2
            go_ret
            exact ⟨rfl, B4.out.2⟩
end Go.Proofs.YtkkmifgnkpjkdaaDoor
