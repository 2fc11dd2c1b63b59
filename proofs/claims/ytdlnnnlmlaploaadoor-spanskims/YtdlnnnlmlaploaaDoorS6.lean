import Derived.Test.YtdlnnnlmlaploaaDoorS5
namespace Go.Proofs.YtdlnnnlmlaploaaDoor
open Go.RowKit Go.Deep
/-- how the beginning of a pair ends -/
def PDx (b : List UInt8) (i : Nat) (p : Int) (lk : ByteArray) (us1 : List Value) (o : Nat) (i' : Nat) (us' : List Value) (er : Int) : Prop :=
  ((byt b i = 105 ∨ byt b i = 108 ∨ byt b i = 100) ∧ er = 22 ∧ i' = i) ∨
  (¬ (byt b i = 105 ∨ byt b i = 108 ∨ byt b i = 100) ∧ ((∃ j, leafO b i = .bad j er ∧ er ≠ 0 ∧ i' = i + j) ∨
    ∃ t j, leafO b i = .val t j ∧ ((1 ≤ p ∧ leB t.s lk = true ∧ er = 25 ∧ i' = i) ∨ (¬ (1 ≤ p ∧ leB t.s lk = true) ∧ er = 0 ∧ i' = i + j ∧ us' = us1.set o (.string t.s)))))
set_option maxRecDepth 10000 in
set_option maxHeartbeats 1000000 in
/-- a pair of a dictionary begins -/
theorem part43D {B rb : Nat} {w : World} {a : Option Addr} {c : Nat} {b : List UInt8} {i n m : Nat} {ov : Value} {us : List Value} (h : SR B rb w a c b i n ov (m + 1) us) (hm : m ≤ 1048577) {p x : Int} {lk : ByteArray}
    (t0 : us[m * 12]? = some (.int .i64 4)) (t10 : us[m * 12 + 10]? = some (.string lk)) (t9 : us[m * 12 + 9]? = some (.int .i64 p)) (t11 : us[m * 12 + 11]? = some (.int .i64 x)) (hp0 : 0 ≤ p) (hp1 : p ≤ 1048577) :
    Calls Tryd.prog 43 #[.pointer (some ⟨rb, 0, none⟩)] w fun e w' => ∃ i' us' er, e = .returned (.int .i64 er) ∧ SR B rb w' a c b i' n ov (m + 1) us' ∧ Near rb ov w w' ∧ PDx b i p lk ((us.set (m * 12 + 11) (.int .i64 i)).set (m * 12 + 9) (.int .i64 (p + 1))) (m * 12 + 10) i' us' er := by
  obtain ⟨c0, c1, c2, c3, f1, f2, f3⟩ := h.cells
  have hov : ∃ g oc, ov = .slice (some ⟨g, 0, none⟩) (m + 1) oc := by
    rcases h.own.2 with ⟨_, e⟩ | ⟨g, cap, cur, q1, _⟩
    · omega
    · exact ⟨_, _, q1⟩
  obtain ⟨g, oc, rfl⟩ := hov
  have hgr : g ≠ rb := fun e => h.ne (by show some g = some rb; rw [e])
  have hrg : rb ≠ g := fun e => hgr e.symm
  obtain ⟨_, -, hcl⟩ := own_form h.own (g := g) rfl
  have r0 := hcl _ _ t0
  have r9 := hcl _ _ t9
  have r11 := hcl _ _ t11
  have r10 := hcl _ _ t10
  have hfr : ∀ o, w.frozen? ⟨g, o, none⟩ = false := by
    rcases h.own.2 with ⟨e, _⟩ | ⟨g', cap, cur, q1, q2, q3, _⟩
    · cases e
    · injection q1 with e1
      injection e1 with e1
      injection e1 with e1
      subst e1
      exact fun o => blk.frozen (show blk w g 94 cur from q3) o
  have y9 := hfr (m * 12 + 9)
  have y11 := hfr (m * 12 + 11)
  have y10 := hfr (m * 12 + 10)
  have km2 : (m : Int) + 1 - 1 = (m : Int) := by omega
  have km3 : (m : Int) < (m : Int) + 1 := by omega
  have km4 : (m : Int) ≤ 1048577 := by omega
  have m0i : (0 : Int) ≤ (m : Int) := by omega
  have HX := Lib.hid h
  have HT : Hid (((us.set (m * 12 + 11) (.int .i64 i)).set (m * 12 + 9) (.int .i64 (p + 1)))[m * 12 + 9]? = some (.int .i64 (p + 1)) ∧ ((us.set (m * 12 + 11) (.int .i64 i)).set (m * 12 + 9) (.int .i64 (p + 1)))[m * 12 + 10]? = some (.string lk) ∧ ((us.set (m * 12 + 11) (.int .i64 i)).set (m * 12 + 9) (.int .i64 (p + 1)))[m * 12 + 11]? = some (.int .i64 i)) := by
    have hlen : us.length = (m + 1) * 12 := h.own.1
    refine ⟨?_, ?_, ?_⟩
    · rw [List.getElem?_set_self (by rw [List.length_set]; omega)]
    · rw [List.getElem?_set_ne (by omega), List.getElem?_set_ne (by omega)]; exact t10
    · rw [List.getElem?_set_ne (by omega), List.getElem?_set_self (by omega)]
  clear h hcl hfr t0 t9 t10 t11
  go_enter Tryd.func43, Tryd.ntmps43
  go_wp2_with fail
  go_quiet (fail)
  go_wp2_with fail
  have HW : Hid (SR B rb (((w.drewN nq).setCell ⟨g, m * 12 + 11, none⟩ (.int .i64 i)).setCell ⟨g, m * 12 + 9, none⟩ (.int .i64 (p + 1))) a c b i n (.slice (some ⟨g, 0, none⟩) (m + 1) oc) (m + 1) ((us.set (m * 12 + 11) (.int .i64 i)).set (m * 12 + 9) (.int .i64 (p + 1))) ∧ Near rb (.slice (some ⟨g, 0, none⟩) (m + 1) oc) w (((w.drewN nq).setCell ⟨g, m * 12 + 11, none⟩ (.int .i64 i)).setCell ⟨g, m * 12 + 9, none⟩ (.int .i64 (p + 1)))) := by
    have hd : Below w.heap.size w (w.drewN nq) := ⟨rfl, rfl, rfl, Nat.le_refl _, fun _ _ => rfl⟩
    have s1 := (HX.out.keep hd).setRow (g := g) (o := m * 12 + 11) rfl (by omega) (.int .i64 i)
    have s2 := s1.setRow (g := g) (o := m * 12 + 9) rfl (by omega) (.int .i64 (p + 1))
    exact ⟨s2, ((Near.of (Besides.of_below hd)).trans (Near.row (g := g) rfl _)).trans (Near.row (g := g) rfl _)⟩
  generalize ((w.drewN nq).setCell ⟨g, m * 12 + 11, none⟩ (.int .i64 i)).setCell ⟨g, m * 12 + 9, none⟩ (.int .i64 (p + 1)) = W1 at *
  clear c0 c1 c2 c3 f1 f2 f3 r0 r9 r10 r11 y9 y10 y11
  refine (next41 HW.out.1).mono ?_
  rintro e w2 ⟨rfl, hb2⟩
  have H2 := Lib.hid (And.intro (HW.out.1.keep hb2) (HW.out.2.trans (Near.of (Besides.of_below hb2))))
  clear hb2 HW
  by_cases h105 : byt b i = 105
  · rw [h105]
    go_wp2
    go_ret
    exact ⟨i, _, 22, rfl, H2.out.1, H2.out.2, .inl ⟨.inl h105, rfl, rfl⟩⟩
  by_cases h108 : byt b i = 108
  · rw [h108]
    go_wp2
    go_ret
    exact ⟨i, _, 22, rfl, H2.out.1, H2.out.2, .inl ⟨.inr (.inl h108), rfl, rfl⟩⟩
  by_cases h100 : byt b i = 100
  · rw [h100]
    go_wp2
    go_ret
    exact ⟨i, _, 22, rfl, H2.out.1, H2.out.2, .inl ⟨.inr (.inr h100), rfl, rfl⟩⟩
  have hno : ¬ (byt b i = 105 ∨ byt b i = 108 ∨ byt b i = 100) := by rintro (h | h | h) <;> contradiction
  have HN := Lib.hid hno
  have z105 : ((byt b i).toNat : Int) ≠ 105 := u8_ne h105
  have z108 : ((byt b i).toNat : Int) ≠ 108 := u8_ne h108
  have z100 : ((byt b i).toNat : Int) ≠ 100 := u8_ne h100
  have HL := Lib.hid (leaf55 H2.out.1 h108 h100)
  clear hno h105 h108 h100
  generalize ((byt b i).toNat : Int) = zz at *
  go_wp2_with fail
  refine HL.out.mono ?_
  rintro e w3 ⟨t, xa, xn, xc, ya, yn, yc, j, er, rfl, hO, hij, hs3, hb3⟩
  have H3 := Lib.hid (And.intro hs3 (H2.out.2.trans (Near.of hb3)))
  have HV : Hid ((er = 0 ∧ leafO b i = .val t j) ∨ (er ≠ 0 ∧ leafO b i = .bad j er)) := hO
  clear hO hs3 hb3 HL H2
  unfold vv
  have HA : Hid (SR B rb (w3.alloc (Obj.cells #[Value.int .i64 t.k, Value.int .i64 t.n, Value.string t.s, Value.slice xa xn xc, Value.slice ya yn yc] 60)) a c b (i + j) n (.slice (some ⟨g, 0, none⟩) (m + 1) oc) (m + 1) ((us.set (m * 12 + 11) (.int .i64 i)).set (m * 12 + 9) (.int .i64 (p + 1))) ∧ Near rb (.slice (some ⟨g, 0, none⟩) (m + 1) oc) w (w3.alloc (Obj.cells #[Value.int .i64 t.k, Value.int .i64 t.n, Value.string t.s, Value.slice xa xn xc, Value.slice ya yn yc] 60)) ∧ obj (w3.alloc (Obj.cells #[Value.int .i64 t.k, Value.int .i64 t.n, Value.string t.s, Value.slice xa xn xc, Value.slice ya yn yc] 60)) w3.heap.size (.int .i64 t.k) (.int .i64 t.n) (.string t.s) (.slice xa xn xc) (.slice ya yn yc)) := by
    have hba : Below w3.heap.size w3 (w3.alloc (Obj.cells #[Value.int .i64 t.k, Value.int .i64 t.n, Value.string t.s, Value.slice xa xn xc, Value.slice ya yn yc] 60)) := (Below.refl _ _).alloc (Nat.le_refl _) _
    exact ⟨H3.out.1.keep hba, H3.out.2.trans (Near.of (Besides.of_below hba)), heap_new _ _⟩
  by_cases he : er = 0
  · subst he
    have hv : leafO b i = .val t j := by
      rcases HV.out with ⟨_, h⟩ | ⟨h, _⟩
      · exact h
      · exact absurd rfl h
    have HVV := Lib.hid hv
    obtain ⟨_, d1, _, _, e1, _⟩ := HA.out.1.cells
    obtain ⟨_, -, hcl⟩ := own_form HA.out.1.own (g := g) rfl
    have r9 := hcl _ _ HT.out.1
    have r10 := hcl _ _ HT.out.2.1
    have r11 := hcl _ _ HT.out.2.2
    obtain ⟨o0, o1, o2, o3, o4⟩ := HA.out.2.2.cells
    have hfr : ∀ o, (w3.alloc (Obj.cells #[Value.int .i64 t.k, Value.int .i64 t.n, Value.string t.s, Value.slice xa xn xc, Value.slice ya yn yc] 60)).frozen? ⟨g, o, none⟩ = false := by
      rcases HA.out.1.own.2 with ⟨e, _⟩ | ⟨g', cap, cur, q1, q2, q3, _⟩
      · cases e
      · injection q1 with e1
        injection e1 with e1
        injection e1 with e1
        subst e1
        exact fun o => blk.frozen (show blk (w3.alloc (Obj.cells #[Value.int .i64 t.k, Value.int .i64 t.n, Value.string t.s, Value.slice xa xn xc, Value.slice ya yn yc] 60)) g 94 cur from q3) o
    have y10 := hfr (m * 12 + 10)
    clear hcl hfr hv HV H3
    by_cases hp : 1 ≤ p
    · have hp2 : ¬ (p + 1 ≤ 1) := by omega
      have hp3 : (1 : Int) < p + 1 := by omega
      go_wp2
      generalize (w3.alloc (Obj.cells #[Value.int .i64 t.k, Value.int .i64 t.n, Value.string t.s, Value.slice xa xn xc, Value.slice ya yn yc] 60)) = A at *
      go_quiet (fail)
      go_wp2
      · rename_i hcmp
        go_ret
        have hd : Below A.heap.size A (A.drewN nq) := ⟨rfl, rfl, rfl, Nat.le_refl _, fun _ _ => rfl⟩
        have sA := HA.out.1.keep hd
        have nA := HA.out.2.1.trans (Near.of (Besides.of_below hd))
        have hle : leB t.s lk = true := by unfold leB; rcases hcmp with h | h <;> simp [h]
        exact ⟨i, _, 25, rfl, sA.set (o := 1) (i' := i) (n' := n) (Nat.le_trans (Nat.le_add_right _ _) hij) rfl, nA.trans (Near.of (Besides.refl rb _).set1), .inr ⟨HN.out, .inr ⟨t, j, HVV.out, .inl ⟨hp, hle, rfl, rfl⟩⟩⟩⟩
      · rename_i hcmp
        go_ret
        have hd : Below A.heap.size A (A.drewN nq) := ⟨rfl, rfl, rfl, Nat.le_refl _, fun _ _ => rfl⟩
        have sA := HA.out.1.keep hd
        have nA := HA.out.2.1.trans (Near.of (Besides.of_below hd))
        have hle : leB t.s lk = false := by unfold leB; simp [hcmp.1, hcmp.2]
        exact ⟨i + j, _, 0, rfl, sA.setRow (g := g) (o := m * 12 + 10) rfl (by omega) (.string t.s), nA.trans (Near.row (g := g) rfl _), .inr ⟨HN.out, .inr ⟨t, j, HVV.out, .inr ⟨(fun h => by rw [hle] at h; exact absurd h.2 (by decide)), rfl, rfl, rfl⟩⟩⟩⟩
    · obtain rfl : p = 0 := by omega
      go_wp2
      generalize (w3.alloc (Obj.cells #[Value.int .i64 t.k, Value.int .i64 t.n, Value.string t.s, Value.slice xa xn xc, Value.slice ya yn yc] 60)) = A at *
      go_quiet (fail)
      go_wp2
      go_ret
      have hd : Below A.heap.size A (A.drewN nq) := ⟨rfl, rfl, rfl, Nat.le_refl _, fun _ _ => rfl⟩
      have sA := HA.out.1.keep hd
      have nA := HA.out.2.1.trans (Near.of (Besides.of_below hd))
      exact ⟨i + j, _, 0, rfl, sA.setRow (g := g) (o := m * 12 + 10) rfl (by omega) (.string t.s), nA.trans (Near.row (g := g) rfl _), .inr ⟨HN.out, .inr ⟨t, j, HVV.out, .inr ⟨(fun h => by have := h.1; omega), rfl, rfl, rfl⟩⟩⟩⟩
  · have he' : (er == 0) = false := beq_eq_false_iff_ne.2 he
    have hbad : leafO b i = .bad j er := by
      rcases HV.out with ⟨h, _⟩ | ⟨_, h⟩
      · exact absurd h he
      · exact h
    have HBD := Lib.hid hbad
    clear hbad
    go_wp2
    go_ret
    exact ⟨i + j, _, er, rfl, HA.out.1, HA.out.2.1, .inr ⟨HN.out, .inl ⟨j, HBD.out, he, rfl⟩⟩⟩
end Go.Proofs.YtdlnnnlmlaploaaDoor
