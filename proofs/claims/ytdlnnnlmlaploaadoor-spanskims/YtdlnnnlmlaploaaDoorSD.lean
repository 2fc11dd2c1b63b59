import Derived.Test.YtdlnnnlmlaploaaDoorSC
namespace Go.Proofs.YtdlnnnlmlaploaaDoor
open Go.RowKit Go.Deep
theorem due_of {i n : Nat} {ls : List Lv} (h : okL (i + 1) ls) (h1 : ∀ l r, ls = l :: r → 1 ≤ l.pa ∧ okL i r) (hi : i ≤ 1048576) :
    DUE ls.length (usW ls) (dueV ls i n).up (dueV ls i n).nt (dueV ls i n).ky (dueV ls i n).fi := by
  match ls, h, h1 with
  | [], _, _ => exact .inl ⟨rfl, rfl, rfl, rfl, rfl⟩
  | l :: r, h, h1 =>
    have a := h.2 l (by simp)
    have b := (h1 l r rfl).1
    have c : r.length + 1 ≤ 32 := h.1
    exact .inr ⟨r.length, rfl, by rw [List.length_cons]; omega, usW_at l r 7, by rw [usW_at l r 9]; show some (Value.int .i64 l.pa) = some (.int .i64 (l.pa - 1 + 1)); rw [show l.pa - 1 + 1 = l.pa by omega], usW_at l r 10, usW_at l r 11, by show 0 ≤ l.pa - 1; omega, by show l.pa - 1 ≤ _; omega⟩
theorem due_dp (ls : List Lv) (i n : Nat) : (dueV ls i n).dp = (ls.length : Nat) := by cases ls <;> rfl
theorem due_fr' (ls : List Lv) (i n : Nat) : (dueV ls i n).fr = (i : Int) ∧ (dueV ls i n).to = 0 ∧ (dueV ls i n).pl = (n : Int) ∧ (dueV ls i n).kd = 0 := by cases ls <;> exact ⟨rfl, rfl, rfl, rfl⟩
/-- what reading a value answers -/
theorem value40 {B rb : Nat} {w : World} {a : Option Addr} {c : Nat} {b : List UInt8} {i n : Nat} {ov : Value} {ls : List Lv} (h : SR B rb w a c b i n ov ls.length (usW ls)) (hok : okS b (.val ls i n)) :
    Calls Tryd.prog 40 #[.pointer (some ⟨rb, 0, none⟩)] w fun e w' => ∃ v er ov' ls' i', e = .returned (.tuple #[.agg (Vi.cs v), .int .i64 er]) ∧ SR B rb w' a c b i' (n + 1) ov' ls'.length (usW ls') ∧ Near rb ov w w' ∧ ((er = 0 ∧ VG b ls i n v ls' i') ∨ (er ≠ 0 ∧ VBd b ls i er i')) := by
  obtain ⟨a1, a2, a3, a4⟩ := hok
  have hl := h.lim
  have D := due_of (n := n) a3 a4 (by omega)
  obtain ⟨f1, f2, f3, f4⟩ := due_fr' ls i n
  have f5 := due_dp ls i n
  by_cases c1 : byt b i = 108
  · have hi : i < b.length := by
      rcases Nat.lt_or_ge i b.length with g | g
      · exact g
      · rw [byt_end g] at c1; cases c1
    by_cases c3 : ls.length < 32
    · refine (value40L h (by omega) D hi c1 c3).mono ?_
      rintro e w' ⟨ov', rfl, h1, h2⟩
      refine ⟨{ dueV ls i n with kd := 3 }, 0, ov', newL { dueV ls i n with kd := 3 } :: ls, i + 1, ?_, ?_, h2, .inl ⟨rfl, .inr ⟨hi, c3, .inl ⟨c1, rfl⟩, rfl, rfl⟩⟩⟩
      · simp only [Vi.cs, f1, f2, f3, f5]
      · have e : usW (newL { dueV ls i n with kd := 3 } :: ls) = usW ls ++ [.int .i64 3, .int .i64 i, .int .i64 0, .int .i64 ls.length, .int .i64 (dueV ls i n).up, .int .i64 (dueV ls i n).nt, .string (dueV ls i n).ky, .int .i64 n, .int .i64 (dueV ls i n).fi, .int .i64 0, .string ByteArray.empty, .int .i64 0] := by
          show usW ls ++ Lv.W _ = _
          simp only [Lv.W, newL, f1, f3, f5]
        rw [e]
        exact h1
    · refine (value40xL h (by omega) D hi c1 (by omega)).mono ?_
      rintro e w' ⟨rfl, h1, h2⟩
      refine ⟨{ dueV ls i n with kd := 3 }, 24, ov, ls, i, ?_, h1, Near.of h2, .inr ⟨by decide, .inr ⟨hi, by omega, .inl c1, rfl, rfl⟩⟩⟩
      simp only [Vi.cs, f1, f2, f3, f5]
  · by_cases c2 : byt b i = 100
    · have hi : i < b.length := by
        rcases Nat.lt_or_ge i b.length with g | g
        · exact g
        · rw [byt_end g] at c2; cases c2
      by_cases c3 : ls.length < 32
      · refine (value40D h (by omega) D hi c2 c3).mono ?_
        rintro e w' ⟨ov', rfl, h1, h2⟩
        refine ⟨{ dueV ls i n with kd := 4 }, 0, ov', newL { dueV ls i n with kd := 4 } :: ls, i + 1, ?_, ?_, h2, .inl ⟨rfl, .inr ⟨hi, c3, .inr ⟨c2, rfl⟩, rfl, rfl⟩⟩⟩
        · simp only [Vi.cs, f1, f2, f3, f5]
        · have e : usW (newL { dueV ls i n with kd := 4 } :: ls) = usW ls ++ [.int .i64 4, .int .i64 i, .int .i64 0, .int .i64 ls.length, .int .i64 (dueV ls i n).up, .int .i64 (dueV ls i n).nt, .string (dueV ls i n).ky, .int .i64 n, .int .i64 (dueV ls i n).fi, .int .i64 0, .string ByteArray.empty, .int .i64 0] := by
            show usW ls ++ Lv.W _ = _
            simp only [Lv.W, newL, f1, f3, f5]
          rw [e]
          exact h1
      · refine (value40xD h (by omega) D hi c2 (by omega)).mono ?_
        rintro e w' ⟨rfl, h1, h2⟩
        refine ⟨{ dueV ls i n with kd := 4 }, 24, ov, ls, i, ?_, h1, Near.of h2, .inr ⟨by decide, .inr ⟨hi, by omega, .inr c2, rfl, rfl⟩⟩⟩
        simp only [Vi.cs, f1, f2, f3, f5]
    · refine (value40l h (by omega) D c1 c2).mono ?_
      rintro e w' ⟨t, j, er, rfl, h0, h1, h2, h3⟩
      refine ⟨{ dueV ls i n with kd := t.k, to := (i : Int) + (j : Int) }, er, ov, ls, i + j, ?_, h2, Near.of h3, ?_⟩
      · simp only [Vi.cs, f1, f3, f5]
      · rcases h0 with ⟨e0, h0⟩ | ⟨e0, h0⟩
        · exact .inl ⟨e0, .inl ⟨t, j, c1, c2, h0, rfl, rfl, rfl⟩⟩
        · exact .inr ⟨e0, .inl ⟨c1, c2, j, h0, rfl⟩⟩
/-- an element or a pair begins -/
theorem part43 {B rb : Nat} {w : World} {a : Option Addr} {c : Nat} {b : List UInt8} {i n : Nat} {ov : Value} {l : Lv} {r : List Lv} (h : SR B rb w a c b i n ov (r.length + 1) (usW (l :: r))) (hok : okS b (.mid (l :: r) i n)) :
    Calls Tryd.prog 43 #[.pointer (some ⟨rb, 0, none⟩)] w fun e w' => ∃ er i' us', e = .returned (.int .i64 er) ∧ SR B rb w' a c b i' n ov (r.length + 1) us' ∧ Near rb ov w w' ∧ ((er = 0 ∧ ∃ l', us' = usW (l' :: r) ∧ PGd b l i l' i') ∨ (er ≠ 0 ∧ PBd b l i er i')) := by
  obtain ⟨a1, a2, a3⟩ := hok
  have hl := h.lim
  have hm : r.length + 1 ≤ 32 := a3.1
  obtain ⟨hk, hp0, hp1⟩ := a3.2 l (by simp)
  have t9 := usW_at l r 9
  have t10 := usW_at l r 10
  have t11 := usW_at l r 11
  have t0 := usW_at l r 0
  have S1 : ((usW (l :: r)).set (r.length * 12 + 11) (.int .i64 i)).set (r.length * 12 + 9) (.int .i64 (l.pa + 1)) = usW ({ l with be := i, pa := l.pa + 1 } :: r) := by
    rw [usW_set l r 11 (.int .i64 i)]
    exact usW_set { l with be := i } r 9 (.int .i64 (l.pa + 1))
  rcases hk with hk | hk
  · refine (part43L h (by omega) (p := l.pa) (x := l.be) (by rw [← hk]; exact t0) t9 t11 hp0 (by omega)).mono ?_
    rintro e w' ⟨rfl, h1, h2⟩
    exact ⟨0, i, _, rfl, h1, h2, .inl ⟨rfl, _, S1, .inl ⟨hk, rfl, rfl⟩⟩⟩
  · refine (part43D h (by omega) (p := l.pa) (x := l.be) (lk := l.kk) (by rw [← hk]; exact t0) t10 t9 t11 hp0 (by omega)).mono ?_
    rintro e w' ⟨i', us', er, rfl, h1, h2, h3⟩
    refine ⟨er, i', us', rfl, h1, h2, ?_⟩
    rcases h3 with ⟨h3, h4, h5⟩ | ⟨h3, h4⟩
    · exact .inr ⟨by rw [h4]; decide, hk, .inl ⟨h3, h4, h5⟩⟩
    · rcases h4 with ⟨j, h4, h5, h6⟩ | ⟨t, j, h4, h5⟩
      · exact .inr ⟨h5, hk, .inr ⟨h3, .inl ⟨j, h4, h5, h6⟩⟩⟩
      · rcases h5 with ⟨h5, h6, h7, h8⟩ | ⟨h5, h6, h7, h8⟩
        · exact .inr ⟨by rw [h7]; decide, hk, .inr ⟨h3, .inr ⟨t, j, h4, h5, h6, h7, h8⟩⟩⟩
        · refine .inl ⟨h6, { l with be := i, pa := l.pa + 1, kk := t.s }, ?_, .inr ⟨hk, h3, t, j, h4, h5, rfl, h7⟩⟩
          rw [h8, S1]
          exact usW_set { l with be := i, pa := l.pa + 1 } r 10 (.string t.s)
/-- a list or a dictionary ends -/
theorem close42 {B rb : Nat} {w : World} {a : Option Addr} {c : Nat} {b : List UInt8} {i n : Nat} {ov : Value} {l : Lv} {r : List Lv} (h : SR B rb w a c b i n ov (r.length + 1) (usW (l :: r))) (hok : okS b (.mid (l :: r) i n)) (hi : i < b.length) :
    Calls Tryd.prog 42 #[.pointer (some ⟨rb, 0, none⟩)] w fun e w' => ∃ ov', e = .returned (.agg (Vi.cs (endV l i))) ∧ SR B rb w' a c b (i + 1) n ov' r.length (usW r) ∧ Besides rb w w' := by
  obtain ⟨a1, a2, a3⟩ := hok
  have hm : r.length + 1 ≤ 32 := a3.1
  refine (end42 h hi (by omega) (usW_at0 l r) (usW_at l r 1) (usW_at l r 2) (usW_at l r 3) (usW_at l r 4) (usW_at l r 5) (usW_at l r 6) (usW_at l r 7) (usW_at l r 8)).mono ?_
  rintro e w' ⟨ov', rfl, h1, h2⟩
  rw [usW_take] at h1
  exact ⟨ov', rfl, h1, h2⟩
end Go.Proofs.YtdlnnnlmlaploaaDoor
