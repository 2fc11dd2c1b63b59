import Derived.Test.YtdlnnnlmlaploaaDoorPre
namespace Go.Proofs.YtdlnnnlmlaploaaDoor
open Go.RowKit Go.Deep
/-- what Decode answers of a text: value, place, error -/
def DOUT (b : List UInt8) (t : T) (k : Nat) (er : Int) : Prop :=
  (er = 0 ∧ k = 0 ∧ b.length ≤ 1048576 ∧ ∃ n, Run b (.go [] 0) (.val t n) ∧ b.length ≤ n) ∨
  (t = t0 ∧ ((er = 26 ∧ k < b.length ∧ b.length ≤ 1048576 ∧ ∃ u, Run b (.go [] 0) (.val u k)) ∨ (Run b (.go [] 0) (.bad k er) ∧ b.length ≤ 1048576) ∨ (1048576 < b.length ∧ k = 0 ∧ er = 20)))
theorem DOUT.unique {b : List UInt8} {t t' : T} {k k' : Nat} {er er' : Int} (h : DOUT b t k er) (h' : DOUT b t' k' er') : t = t' ∧ k = k' ∧ er = er' := by
  rcases h with ⟨rfl, rfl, h2, n, h1, h3⟩ | ⟨rfl, ⟨rfl, h3, h2, u, h1⟩ | ⟨h1, h2⟩ | ⟨h1, rfl, rfl⟩⟩
  · rcases h' with ⟨rfl, rfl, g2, m, g1, g3⟩ | ⟨rfl, ⟨rfl, g3, g2, u', g1⟩ | ⟨g1, g2⟩ | ⟨g1, rfl, rfl⟩⟩
    · have := Run.unique h1 g1 trivial trivial
      injection this with e1 e2
      exact ⟨e1, rfl, rfl⟩
    · have := Run.unique h1 g1 trivial trivial
      injection this with e1 e2
      omega
    · have := Run.unique h1 g1 trivial trivial
      cases this
    · omega
  · rcases h' with ⟨rfl, rfl, g2, m, g1, g3⟩ | ⟨rfl, ⟨rfl, g3, g2, u', g1⟩ | ⟨g1, g2⟩ | ⟨g1, rfl, rfl⟩⟩
    · have := Run.unique h1 g1 trivial trivial
      injection this with e1 e2
      omega
    · have := Run.unique h1 g1 trivial trivial
      injection this with e1 e2
      exact ⟨rfl, e2, rfl⟩
    · have := Run.unique h1 g1 trivial trivial
      cases this
    · omega
  · rcases h' with ⟨rfl, rfl, g2, m, g1, g3⟩ | ⟨rfl, ⟨rfl, g3, g2, u', g1⟩ | ⟨g1, g2⟩ | ⟨g1, rfl, rfl⟩⟩
    · have := Run.unique h1 g1 trivial trivial
      cases this
    · have := Run.unique h1 g1 trivial trivial
      cases this
    · have := Run.unique h1 g1 trivial trivial
      injection this with e1 e2
      exact ⟨rfl, e1, e2⟩
    · omega
  · rcases h' with ⟨rfl, rfl, g2, m, g1, g3⟩ | ⟨rfl, ⟨rfl, g3, g2, u', g1⟩ | ⟨g1, g2⟩ | ⟨g1, rfl, rfl⟩⟩
    · omega
    · omega
    · omega
    · exact ⟨rfl, rfl, rfl⟩
theorem step_er {b : List UInt8} {st : List Fr} {i p : Nat} {e : Int} (h : step b st i = .bad p e) : 21 ≤ e ∧ e ≤ 25 := by
  have hscal : ∀ st, scal b st i = .bad p e → 21 ≤ e ∧ e ≤ 25 := by
    intro st h
    unfold scal at h
    split at h
    · cases hn : numb b i with
      | ok n j => rw [hn] at h; cases st <;> cases h
      | bad p' e' => rw [hn] at h; cases h; have := numb_er hn; omega
    · split at h
      · cases hn : strg b i with
        | ok n j => rw [hn] at h; cases st <;> cases h
        | bad p' e' => rw [hn] at h; cases h; have := strg_er hn; omega
      · cases h; omega
  have hopn : ∀ st, opn b st i = .bad p e → 21 ≤ e ∧ e ≤ 25 := by
    intro st h
    unfold opn at h
    split at h
    · split at h
      · cases h; omega
      · cases h
    · split at h
      · split at h
        · cases h; omega
        · cases h
      · exact hscal st h
  unfold step at h
  split at h
  · cases h; omega
  · match st with
    | [] => exact hopn _ h
    | f :: r =>
      dsimp only at h
      split at h
      · split at h
        · cases r <;> cases h
        · unfold keyy at h
          split at h
          · cases h; omega
          · cases hn : strg b i with
            | ok n j =>
              rw [hn] at h
              dsimp only at h
              split at h
              · cases h; omega
              · cases h
            | bad p' e' => rw [hn] at h; cases h; have := strg_er hn; omega
      · split at h
        · cases r <;> cases h
        · exact hopn _ h
theorem run_er0 {b : List UInt8} {o q : Out} (h : Run b o q) : (∀ k er, o = .bad k er → 21 ≤ er ∧ er ≤ 25) → ∀ k er, q = .bad k er → 21 ≤ er ∧ er ≤ 25 := by
  induction h with
  | refl o => exact fun h => h
  | more _ ih => exact fun _ => ih fun k er he => step_er he
theorem run_er {b : List UInt8} {st : List Fr} {i k : Nat} {er : Int} (h : Run b (.go st i) (.bad k er)) : 21 ≤ er ∧ er ≤ 25 :=
  run_er0 h (fun k er he => by cases he) k er rfl
theorem out_good {b : List UInt8} {t : T} {k : Nat} (h : OUT b t k 0) : Run b (.go [] 0) (.val t k) ∧ b.length ≤ 1048576 := by
  rcases h with ⟨_, h1, h2⟩ | ⟨_, ⟨h1, _⟩ | ⟨_, _, h3⟩⟩
  · exact ⟨h1, h2⟩
  · exact absurd (run_er h1).1 (by omega)
  · omega
theorem out_bad {b : List UInt8} {t : T} {k : Nat} {er : Int} (h : OUT b t k er) (he : er ≠ 0) : DOUT b t0 k er := by
  rcases h with ⟨h0, _⟩ | ⟨rfl, ⟨h1, h2⟩ | ⟨h1, h2, h3⟩⟩
  · exact absurd h0 he
  · exact .inr ⟨rfl, .inr (.inl ⟨h1, h2⟩)⟩
  · exact .inr ⟨rfl, .inr (.inr ⟨h1, h2, h3⟩)⟩
theorem objAlloc {w : World} {b : Nat} {c0 c1 c2 c3 c4 : Value} (h : obj w b c0 c1 c2 c3 c4) (o : Obj) : obj (w.alloc o) b c0 c1 c2 c3 c4 := h.keep (Below.heap_alloc _ _ _ h.lt)
theorem readO (v : Value) (b : List UInt8) (w : World) (hr : RB w v b) (hev : EVw w) :
    Calls Tryd.prog 58 #[v] w fun e w' => ∃ t x y k er, e = .returned (.tuple #[vv t x y, .int .i64 (k : Nat), .int .i64 er]) ∧ RV (fun x => w.heap.size ≤ x) w' t x y ∧ t.ok ∧ OUT b t k er ∧ Below w.heap.size w w' := by
  obtain ⟨a, c, rfl, hcap, hx⟩ := hr
  refine (read20 a c b w hcap hev hx).mono ?_
  rintro e w' ⟨hb, hp⟩
  rcases hp with ⟨t, x, y, j, rfl, hrv, htok, hrun, hlen⟩ | ⟨p, er, rfl, hbad⟩
  · exact ⟨t, x, y, j, 0, rfl, hrv, htok.2.2, .inl ⟨rfl, hrun, hlen⟩, hb⟩
  · exact ⟨t0, _, _, p, er, rfl, rv_t0 _ _, t0_ok, .inr ⟨rfl, hbad⟩, hb⟩
set_option maxRecDepth 10000 in
set_option maxHeartbeats 4000000 in
theorem decode10 (v : Value) (b : List UInt8) (w : World) (hr : RB w v b) (hev : EVw w) :
    Calls Tryd.prog 48 #[v] w fun e w' => ∃ t x y k er, e = .returned (.tuple #[vv t x y, .int .i64 (k : Nat), .int .i64 er]) ∧ RV (fun _ => True) w' t x y ∧ t.ok ∧ DOUT b t k er ∧ Below w.heap.size w w' := by
  have hb0 : Below w.heap.size w (w.alloc (Obj.cells #[.int .i64 0, .int .i64 0, .string { data := #[] }, .slice none 0 0, .slice none 0 0] 60)) := (Below.refl _ _).alloc (Nat.le_refl _) _
  have HX : Hid (obj (w.alloc (Obj.cells #[.int .i64 0, .int .i64 0, .string { data := #[] }, .slice none 0 0, .slice none 0 0] 60)) w.heap.size (.int .i64 0) (.int .i64 0) (.string { data := #[] }) (.slice none 0 0) (.slice none 0 0) ∧ Below w.heap.size w (w.alloc (Obj.cells #[.int .i64 0, .int .i64 0, .string { data := #[] }, .slice none 0 0, .slice none 0 0] 60)) ∧ (w.alloc (Obj.cells #[.int .i64 0, .int .i64 0, .string { data := #[] }, .slice none 0 0, .slice none 0 0] 60)).heap.size = w.heap.size + 1 ∧ RB (w.alloc (Obj.cells #[.int .i64 0, .int .i64 0, .string { data := #[] }, .slice none 0 0, .slice none 0 0] 60)) v b ∧ EVw (w.alloc (Obj.cells #[.int .i64 0, .int .i64 0, .string { data := #[] }, .slice none 0 0, .slice none 0 0] 60))) :=
    ⟨heap_new _ _, hb0, by simp, hr.keep hb0, hev.keep hb0⟩
  clear hb0 hev
  obtain ⟨a, c, rfl, _⟩ := hr
  go_enter Tryd.func48, Tryd.ntmps48
  go_wp2_with fail
  generalize (w.alloc (Obj.cells #[.int .i64 0, .int .i64 0, .string { data := #[] }, .slice none 0 0, .slice none 0 0] 60)) = w0 at *
  generalize hH : w.heap.size = H at *
  have HH := Lib.hid hH
  clear hH
  refine (readO _ b _ HX.out.2.2.2.1 HX.out.2.2.2.2).mono ?_
  rintro e w2 ⟨t, x, y, k, er, rfl, hrv, htok, hout, hb2⟩
  obtain ⟨⟨xa, xn, xc, rfl⟩, ⟨ya, yn, yc, rfl⟩⟩ := hrv.slices
  have O2 : Hid (obj w2 H (.int .i64 0) (.int .i64 0) (.string { data := #[] }) (.slice none 0 0) (.slice none 0 0) ∧ Below H w w2 ∧ H < w0.heap.size ∧ RV (fun x => w0.heap.size ≤ x) w2 t (.slice xa xn xc) (.slice ya yn yc)) := by
    obtain ⟨q1, q2, q3, _⟩ := HX.out
    exact ⟨q1.keep (hb2.block _ q1.lt), q2.trans (hb2.mono (by omega)), q1.lt, hrv⟩
  have HO := Lib.hid hout
  have HT := Lib.hid htok
  obtain ⟨c0, c1, c2, c3, c4⟩ := O2.out.1.cells
  have cf0 := O2.out.1.frozen 0
  have cf1 := O2.out.1.frozen 1
  have cf2 := O2.out.1.frozen 2
  have cf3 := O2.out.1.frozen 3
  have cf4 := O2.out.1.frozen 4
  have hlt : H < w2.heap.size := O2.out.1.lt
  clear HX hrv hout hb2 htok
  unfold vv
  by_cases he : er = 0
  · subst he
    have HG := Lib.hid (out_good HO.out)
    by_cases hk : k < b.length
    · have hki : (k : Int) < (b.length : Int) := by omega
      go_wp2
      refine bodyPost_ret (v := .tuple #[vv t0 (.slice none 0 0) (.slice none 0 0), .int .i64 (k : Nat), .int .i64 26]) (results_cell3 Tryd.results48 _ _ H _ rfl (objAlloc (((((O2.out.1.set0 _).set1 _).set2 _).set3 _).set4 _) _) rfl) rfl ?_
      exact ⟨t0, _, _, k, 26, rfl, rv_t0 _ _, t0_ok, .inr ⟨rfl, .inl ⟨rfl, hk, HG.out.2, t, HG.out.1⟩⟩, by rw [HH.out]; exact (below_set5 O2.out.2.1).alloc (by simp [World.setCell]; omega) _⟩
    · have hki : ¬ (k : Int) < (b.length : Int) := by omega
      go_wp2
      refine bodyPost_ret (v := .tuple #[vv t (.slice xa xn xc) (.slice ya yn yc), .int .i64 ((0 : Nat) : Int), .int .i64 0]) (results_cell3 Tryd.results48 _ _ H _ rfl (objAlloc (((((O2.out.1.set0 _).set1 _).set2 _).set3 _).set4 _) _) rfl) rfl ?_
      refine ⟨t, _, _, 0, 0, rfl, ?_, HT.out, .inl ⟨rfl, rfl, HG.out.2, k, HG.out.1, by omega⟩, by rw [HH.out]; exact (below_set5 O2.out.2.1).alloc (by simp [World.setCell]; omega) _⟩
      refine RV.keep (w := w2) (fun _ _ => trivial) (by simp [World.setCell]) (fun k hk hl => ?_) _ _ _ O2.out.2.2.2
      have hn : k ≠ H := by have h1 := O2.out.2.2.1; have h2 : w0.heap.size ≤ k := hk; omega
      rw [Below.heap_alloc _ _ _ (by simp [World.setCell]; exact hl), Below.heap_setCell _ _ _ _ hn, Below.heap_setCell _ _ _ _ hn, Below.heap_setCell _ _ _ _ hn, Below.heap_setCell _ _ _ _ hn, Below.heap_setCell _ _ _ _ hn]
  · have he' : (er == 0) = false := beq_eq_false_iff_ne.2 he
    have HG := Lib.hid (out_bad HO.out he)
    go_wp2
    refine bodyPost_ret (v := .tuple #[vv t0 (.slice none 0 0) (.slice none 0 0), .int .i64 (k : Nat), .int .i64 er]) (results_cell3 Tryd.results48 _ _ H _ rfl (objAlloc (((((O2.out.1.set0 _).set1 _).set2 _).set3 _).set4 _) _) rfl) rfl ?_
    exact ⟨t0, _, _, k, er, rfl, rv_t0 _ _, t0_ok, HG.out, by rw [HH.out]; exact (below_set5 O2.out.2.1).alloc (by simp [World.setCell]; omega) _⟩
end Go.Proofs.YtdlnnnlmlaploaaDoor
