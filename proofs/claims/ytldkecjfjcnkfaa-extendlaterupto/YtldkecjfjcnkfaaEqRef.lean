import Derived.Test.YtldkecjfjcnkfaaSame
namespace Go.Proofs.Ytldkecjfjcnkfaa
open Go.RowKit Go.Deep
def allB (f : Nat → Bool) : Nat → Bool
  | 0 => true
  | n + 1 => allB f n && f n
theorem allB_stop {f : Nat → Bool} {j n : Nat} (h : j < n) (h1 : f j = false) : allB f n = false := by
  induction n with
  | zero => omega
  | succ n ih =>
    unfold allB
    by_cases hj : j = n
    · subst hj; rw [h1, Bool.and_false]
    · rw [ih (by omega), Bool.false_and]
theorem allB_go {f : Nat → Bool} {j : Nat} (h0 : allB f j = true) (h1 : f j = true) : allB f (j + 1) = true := by unfold allB; rw [h0, h1]; rfl
theorem allB_all {f : Nat → Bool} {n : Nat} (h : ∀ i, i < n → f i = true) : allB f n = true := by
  induction n with
  | zero => rfl
  | succ n ih => exact allB_go (ih fun i hi => h i (by omega)) (h n (by omega))
/-- are two values the same? -/
def eqT : T → T → Bool
  | .no => fun _ => false
  | .mk k n s ln l dn ky dv => fun t2 => match t2 with
    | .no => false
    | .mk k' n' s' ln' l' dn' ky' dv' => decide (k = k' ∧ n = n' ∧ s.toList = s'.toList ∧ ln = ln' ∧ dn = dn') && (allB (fun i => eqT (l i) (l' i)) ln && allB (fun i => (ky i).toList == (ky' i).toList && eqT (dv i) (dv' i)) dn)
theorem eqT_same : ∀ t : T, ∀ (S : Nat → Prop) (w : World) (x y : Value), RV S w t x y → eqT t t = true := by
  intro t
  induction t with
  | no => intro S w x y h; exact h.elim
  | mk k n s ln l dn ky dv il id =>
    rintro S w x y ⟨⟨a, ca, rfl, hL⟩, ⟨a', ca', rfl, hD⟩⟩
    simp only [eqT]
    rw [allB_all, allB_all]
    · simp
    · intro i hi
      rcases hD with h | ⟨b, o, _, _, _, hD⟩
      · omega
      obtain ⟨x', y', h1, _⟩ := hD i hi
      rw [id i _ _ _ _ h1]; simp
    · intro i hi
      rcases hL with h | ⟨b, o, _, _, _, hL⟩
      · omega
      obtain ⟨x', y', h1, _⟩ := hL i hi
      exact il i _ _ _ _ h1
def EC (f : Nat) (t t2 : T) : Prop := ∀ (x y x2 y2 : Value) (w : World), t.ok → t2.ok → RV (fun _ => True) w t x y → RV (fun _ => True) w t2 x2 y2 →
  Calls Try.prog f #[vv t x y, vv t2 x2 y2] w fun e w' => e = .returned (.bool (eqT t t2)) ∧ Below w.heap.size w w'
set_option maxHeartbeats 4000000 in
theorem equal10 (t : T) : ∀ t2, EC 29 t t2 := by
  induction t with
  | no => intro t2 x y x2 y2 w _ _ h; exact h.elim
  | mk k n s ln l dn ky dv il id =>
    intro t2 x y x2 y2 w hok hok2 hr hr2
    cases t2 with
    | no => exact hr2.elim
    | mk k' n' s' ln' l' dn' ky' dv' =>
    obtain ⟨ok1, ok2, ok3, ok4, ok5⟩ := hok
    obtain ⟨ok1', ok2', ok3', ok4', ok5'⟩ := hok2
    obtain ⟨⟨a, ca, rfl, hL⟩, ⟨a', ca', rfl, hD⟩⟩ := hr
    obtain ⟨⟨a2, ca2, rfl, hL2⟩, ⟨a2', ca2', rfl, hD2⟩⟩ := hr2
    show Calls Try.prog 29 #[.agg #[.int .i64 k, .int .i64 n, .string s, .slice a ln ca, .slice a' dn ca'], .agg #[.int .i64 k', .int .i64 n', .string s', .slice a2 ln' ca2, .slice a2' dn' ca2']] w _
    have HR : Hid (eqT (.mk k n s ln l dn ky dv) (.mk k' n' s' ln' l' dn' ky' dv') = (decide (k = k' ∧ n = n' ∧ s.toList = s'.toList ∧ ln = ln' ∧ dn = dn') && (allB (fun i => eqT (l i) (l' i)) ln && allB (fun i => (ky i).toList == (ky' i).toList && eqT (dv i) (dv' i)) dn))) := by
      show eqT _ _ = _
      simp only [eqT]
    generalize eqT (.mk k n s ln l dn ky dv) (.mk k' n' s' ln' l' dn' ky' dv') = R at *
    by_cases hne : k = k' ∧ n = n' ∧ s.toList = s'.toList ∧ ln = ln' ∧ dn = dn'
    case neg =>
      have hR : R = false := by rw [HR.out, decide_eq_false hne]; rfl
      subst hR
      have HN : Hid (¬ (k = k' ∧ n = n' ∧ s.toList = s'.toList ∧ ln = ln' ∧ dn = dn')) := hne
      clear hne
      go_enter Try.func29, Try.ntmps29
      go_wp2_with fail
      all_goals first
        | (go_ret
           exact ⟨rfl, ((Below.refl _ _).alloc (Nat.le_refl _) _).alloc (by simp) _⟩)
        | (exfalso
           have q1 : (ln : Int) = (ln' : Int) := by assumption
           have q2 : ((dn : Int) != (dn' : Int)) = false := by assumption
           have q3 : (dn : Int) = (dn' : Int) := by simpa using q2
           exact HN.out ⟨by assumption, by assumption, by assumption, by omega, by omega⟩)
    case pos =>
      obtain ⟨rfl, rfl, hst, rfl, rfl⟩ := hne
      have HR2 : Hid (R = (allB (fun i => eqT (l i) (l' i)) ln && allB (fun i => (ky i).toList == (ky' i).toList && eqT (dv i) (dv' i)) dn)) := by
        show R = _
        rw [HR.out, decide_eq_true ⟨rfl, rfl, hst, rfl, rfl⟩, Bool.true_and]
      clear HR
      go_enter Try.func29, Try.ntmps29
      go_wp2
      have HI : Hid ((∀ i t2, EC 29 (l i) t2) ∧ (∀ i t2, EC 29 (dv i) t2) ∧ (∀ i, i < ln → (l i).ok ∧ (l' i).ok) ∧ (∀ i, i < dn → (dv i).ok ∧ (dv' i).ok) ∧
          (ln = 0 ∨ ∃ b o, a = some ⟨b, o, none⟩ ∧ True ∧ b < w.heap.size ∧ ∀ i, i < ln → ∃ x' y', RV (fun _ => True) w (l i) x' y' ∧ five w b (o + i * 5) (l i) x' y') ∧
          (ln = 0 ∨ ∃ b o, a2 = some ⟨b, o, none⟩ ∧ True ∧ b < w.heap.size ∧ ∀ i, i < ln → ∃ x' y', RV (fun _ => True) w (l' i) x' y' ∧ five w b (o + i * 5) (l' i) x' y') ∧
          (dn = 0 ∨ ∃ b o, a' = some ⟨b, o, none⟩ ∧ True ∧ b < w.heap.size ∧ ∀ i, i < dn → ∃ x' y', RV (fun _ => True) w (dv i) x' y' ∧ w.cell? ⟨b, o + i * 6, none⟩ = some (.string (ky i)) ∧ five w b (o + i * 6 + 1) (dv i) x' y') ∧
          (dn = 0 ∨ ∃ b o, a2' = some ⟨b, o, none⟩ ∧ True ∧ b < w.heap.size ∧ ∀ i, i < dn → ∃ x' y', RV (fun _ => True) w (dv' i) x' y' ∧ w.cell? ⟨b, o + i * 6, none⟩ = some (.string (ky' i)) ∧ five w b (o + i * 6 + 1) (dv' i) x' y')) :=
        ⟨il, id, fun i hi => ⟨ok4 i hi, ok4' i hi⟩, fun i hi => ⟨(ok5 i hi).2, (ok5' i hi).2⟩, hL, hL2, hD, hD2⟩
      clear il id ok4 ok5 hL hL2 hD hD2 ok4' ok5' ok2' ok3'
      have HB : Hid (Below w.heap.size w ((w.alloc (Obj.cells #[.int .i64 k, .int .i64 n, .string s, .slice a ln ca, .slice a' dn ca'] 56)).alloc (Obj.cells #[.int .i64 k, .int .i64 n, .string s', .slice a2 ln ca2, .slice a2' dn ca2'] 56))) := ((Below.refl _ _).alloc (Nat.le_refl _) _).alloc (by simp) _
      have e3 : ((w.alloc (Obj.cells #[.int .i64 k, .int .i64 n, .string s, .slice a ln ca, .slice a' dn ca'] 56)).alloc (Obj.cells #[.int .i64 k, .int .i64 n, .string s', .slice a2 ln ca2, .slice a2' dn ca2'] 56)).cell? ⟨w.heap.size, 3, none⟩ = some (.slice a ln ca) := by go_simp
      have e4 : ((w.alloc (Obj.cells #[.int .i64 k, .int .i64 n, .string s, .slice a ln ca, .slice a' dn ca'] 56)).alloc (Obj.cells #[.int .i64 k, .int .i64 n, .string s', .slice a2 ln ca2, .slice a2' dn ca2'] 56)).cell? ⟨w.heap.size, 4, none⟩ = some (.slice a' dn ca') := by go_simp
      have f3 : ((w.alloc (Obj.cells #[.int .i64 k, .int .i64 n, .string s, .slice a ln ca, .slice a' dn ca'] 56)).alloc (Obj.cells #[.int .i64 k, .int .i64 n, .string s', .slice a2 ln ca2, .slice a2' dn ca2'] 56)).cell? ⟨w.heap.size + 1, 3, none⟩ = some (.slice a2 ln ca2) := by go_simp
      have f4 : ((w.alloc (Obj.cells #[.int .i64 k, .int .i64 n, .string s, .slice a ln ca, .slice a' dn ca'] 56)).alloc (Obj.cells #[.int .i64 k, .int .i64 n, .string s', .slice a2 ln ca2, .slice a2' dn ca2'] 56)).cell? ⟨w.heap.size + 1, 4, none⟩ = some (.slice a2' dn ca2') := by go_simp
      generalize ((w.alloc (Obj.cells #[.int .i64 k, .int .i64 n, .string s, .slice a ln ca, .slice a' dn ca'] 56)).alloc (Obj.cells #[.int .i64 k, .int .i64 n, .string s', .slice a2 ln ca2, .slice a2' dn ca2'] 56)) = w0 at *
      generalize hvb : w.heap.size = vb at *
      have HS : Hid (w.heap.size = vb) := hvb
      clear hvb hst
      go_loopw [5] (fun i wr => ∃ j : Nat, j ≤ ln ∧ i = .int .i64 j ∧ Hid (Below w0.heap.size w0 wr) ∧ Hid (allB (fun i => eqT (l i) (l' i)) j = true)) (fun i _ => ln - (intOf i).toNat)
      case atStart => exact ⟨0, Nat.zero_le _, rfl, Below.refl _ _, rfl⟩
      case round =>
        obtain ⟨j, hj, rfl, hb, hz⟩ := hrel
        replace e3 := Below.cellS hb.out (Nat.le_refl _) e3
        replace e4 := Below.cellS hb.out (Nat.le_refl _) e4
        replace f3 := Below.cellS hb.out (Nat.le_refl _) f3
        replace f4 := Below.cellS hb.out (Nat.le_refl _) f4
        have hw : Hid (Below vb w _) := HB.out.trans (hb.out.mono (HS.out ▸ HB.out.size))
        by_cases hlt : j < ln
        · obtain ⟨il, _, ok4, _, hL, hL2, _, _⟩ := HI.out
          rcases hL with h | ⟨b, o, rfl, _, hbl, hL⟩
          · omega
          rcases hL2 with h | ⟨b2, o2, rfl, _, hbl2, hL2⟩
          · omega
          obtain ⟨x1, y1, hv, g1, g2, g3, g4, g5⟩ := hL j hlt
          obtain ⟨x2, y2, hv2, p1, p2, p3, p4, p5⟩ := hL2 j hlt
          have hle : w.heap.size ≤ vb := Nat.le_of_eq HS.out
          replace g1 := Below.cellS hw.out hle g1
          replace g2 := Below.cellS hw.out hle g2
          replace g3 := Below.cellS hw.out hle g3
          replace g4 := Below.cellS hw.out hle g4
          replace g5 := Below.cellS hw.out hle g5
          replace p1 := Below.cellS hw.out hle p1
          replace p2 := Below.cellS hw.out hle p2
          replace p3 := Below.cellS hw.out hle p3
          replace p4 := Below.cellS hw.out hle p4
          replace p5 := Below.cellS hw.out hle p5
          have hv' := Below.rv hw.out hle hv
          have hv2' := Below.rv hw.out hle hv2
          have HC : Hid (∀ w', w'.heap = wr.heap → Calls Try.prog 29 #[vv (l j) x1 y1, vv (l' j) x2 y2] w' fun e w'' => e = .returned (.bool (eqT (l j) (l' j))) ∧ Below w'.heap.size w' w'') := by
            intro w' hh
            refine il j _ _ _ _ _ _ (ok4 j hlt).1 (ok4 j hlt).2 (RV.lift (w := wr) (by rw [hh]; exact Nat.le_refl _) (fun b _ => by rw [hh]) (fun _ _ => trivial) _ _ _ hv') (RV.lift (w := wr) (by rw [hh]; exact Nat.le_refl _) (fun b _ => by rw [hh]) (fun _ _ => trivial) _ _ _ hv2')
          have HG : Hid (eqT (l j) (l' j) = true → allB (fun i => eqT (l i) (l' i)) (j + 1) = true) := fun h => allB_go hz.out h
          have HF : Hid (eqT (l j) (l' j) = false → R = false) := fun h => by rw [HR2.out, allB_stop (f := fun i => eqT (l i) (l' i)) hlt h, Bool.false_and]
          clear il ok4 hL hL2 hv hv2 hv' hv2' hbl hbl2 hle hz
          generalize eqT (l j) (l' j) = q at *
          go_wp2
          go_region_held3 (fun w' => w'.cell? ⟨vb, 3, none⟩ = some (.slice (some ⟨b, o, none⟩) ln ca) ∧ w'.cell? ⟨vb + 1, 3, none⟩ = some (.slice (some ⟨b2, o2, none⟩) ln ca2) ∧
              w'.cell? ⟨b, o + j * 5, none⟩ = some (.int .i64 (l j).k) ∧ w'.cell? ⟨b, o + j * 5 + 1, none⟩ = some (.int .i64 (l j).n) ∧ w'.cell? ⟨b, o + j * 5 + 2, none⟩ = some (.string (l j).s) ∧ w'.cell? ⟨b, o + j * 5 + 3, none⟩ = some x1 ∧ w'.cell? ⟨b, o + j * 5 + 4, none⟩ = some y1 ∧
              w'.cell? ⟨b2, o2 + j * 5, none⟩ = some (.int .i64 (l' j).k) ∧ w'.cell? ⟨b2, o2 + j * 5 + 1, none⟩ = some (.int .i64 (l' j).n) ∧ w'.cell? ⟨b2, o2 + j * 5 + 2, none⟩ = some (.string (l' j).s) ∧ w'.cell? ⟨b2, o2 + j * 5 + 3, none⟩ = some x2 ∧ w'.cell? ⟨b2, o2 + j * 5 + 4, none⟩ = some y2)
            (first | (exact ⟨e3, f3, g1, g2, g3, g4, g5, p1, p2, p3, p4, p5⟩) | (exact ⟨Below.cellS hq.out (Nat.le_refl _) e3, Below.cellS hq.out (Nat.le_refl _) f3, Below.cellS hq.out (Nat.le_refl _) g1, Below.cellS hq.out (Nat.le_refl _) g2, Below.cellS hq.out (Nat.le_refl _) g3, Below.cellS hq.out (Nat.le_refl _) g4, Below.cellS hq.out (Nat.le_refl _) g5, Below.cellS hq.out (Nat.le_refl _) p1, Below.cellS hq.out (Nat.le_refl _) p2, Below.cellS hq.out (Nat.le_refl _) p3, Below.cellS hq.out (Nat.le_refl _) p4, Below.cellS hq.out (Nat.le_refl _) p5⟩))
            (first | (go_at_call 29; refine (HC.out wr.drew rfl).mono ?_; rintro e wq ⟨rfl, hq0⟩; have hq : Hid (Below wr.heap.size wr wq) := ⟨hq0.os, hq0.tape, hq0.output, hq0.size, hq0.block⟩; clear hq0))
          clear g1 g2 g3 g4 g5 p1 p2 p3 p4 p5 HC e3 e4 f3 f4
          cases q with
          | true =>
            have HG2 : Hid _ := HG.out rfl
            clear HG HF
            go_wp2
            go_roundw
            case rel => exact ⟨j + 1, by omega, by go_num, hb.out.trans (hq.out.mono hb.out.size), HG2.out⟩
            case measure => simp [intOf]; omega
          | false =>
            have hR : R = false := HF.out rfl
            clear HG HF HR2
            subst hR
            go_wp2
            go_ret
            exact ⟨rfl, by rw [HS.out]; exact hw.out.trans (hq.out.mono (HS.out ▸ hw.out.size))⟩
        · obtain rfl : j = ln := by omega
          have HR3 : Hid (R = allB (fun i => (ky i).toList == (ky' i).toList && eqT (dv i) (dv' i)) dn) := by
            show R = _
            rw [HR2.out, hz.out, Bool.true_and]
          clear HR2 hz
          go_wp2
          clear e3 f3
          go_loopw [7] (fun i wr2 => ∃ j : Nat, j ≤ dn ∧ i = .int .i64 j ∧ Hid (Below wr.heap.size wr wr2) ∧ Hid (allB (fun i => (ky i).toList == (ky' i).toList && eqT (dv i) (dv' i)) j = true)) (fun i _ => dn - (intOf i).toNat)
          case atStart => exact ⟨0, Nat.zero_le _, rfl, Below.refl _ _, rfl⟩
          case round =>
            obtain ⟨j, hj, rfl, hb2, hz⟩ := hrel
            replace e4 := Below.cellS hb2.out (Nat.le_refl _) e4
            replace f4 := Below.cellS hb2.out (Nat.le_refl _) f4
            replace hw : Hid (Below vb w _) := hw.out.trans (hb2.out.mono (HS.out ▸ hw.out.size))
            by_cases hlt : j < dn
            · obtain ⟨_, id, _, ok5, _, _, hD, hD2⟩ := HI.out
              rcases hD with h | ⟨b, o, rfl, _, hbl, hD⟩
              · omega
              rcases hD2 with h | ⟨b2, o2, rfl, _, hbl2, hD2⟩
              · omega
              obtain ⟨x1, y1, hv, g0, g1, g2, g3, g4, g5⟩ := hD j hlt
              obtain ⟨x2, y2, hv2, p0, p1, p2, p3, p4, p5⟩ := hD2 j hlt
              have hle : w.heap.size ≤ vb := Nat.le_of_eq HS.out
              replace g0 := Below.cellS hw.out hle g0
              replace g1 := Below.cellS hw.out hle g1
              replace g2 := Below.cellS hw.out hle g2
              replace g3 := Below.cellS hw.out hle g3
              replace g4 := Below.cellS hw.out hle g4
              replace g5 := Below.cellS hw.out hle g5
              replace p0 := Below.cellS hw.out hle p0
              replace p1 := Below.cellS hw.out hle p1
              replace p2 := Below.cellS hw.out hle p2
              replace p3 := Below.cellS hw.out hle p3
              replace p4 := Below.cellS hw.out hle p4
              replace p5 := Below.cellS hw.out hle p5
              have hv' := Below.rv hw.out hle hv
              have hv2' := Below.rv hw.out hle hv2
              have HC : Hid (∀ w', w'.heap = wr.heap → Calls Try.prog 29 #[vv (dv j) x1 y1, vv (dv' j) x2 y2] w' fun e w'' => e = .returned (.bool (eqT (dv j) (dv' j))) ∧ Below w'.heap.size w' w'') := by
                intro w' hh
                refine id j _ _ _ _ _ _ (ok5 j hlt).1 (ok5 j hlt).2 (RV.lift (w := wr) (by rw [hh]; exact Nat.le_refl _) (fun b _ => by rw [hh]) (fun _ _ => trivial) _ _ _ hv') (RV.lift (w := wr) (by rw [hh]; exact Nat.le_refl _) (fun b _ => by rw [hh]) (fun _ _ => trivial) _ _ _ hv2')
              have HG : Hid ((ky j).toList = (ky' j).toList → eqT (dv j) (dv' j) = true → allB (fun i => (ky i).toList == (ky' i).toList && eqT (dv i) (dv' i)) (j + 1) = true) := fun h1 h => allB_go hz.out (by simp only [h]; simp [h1])
              have HF : Hid (eqT (dv j) (dv' j) = false → R = false) := fun h => by rw [HR3.out, allB_stop (f := fun i => (ky i).toList == (ky' i).toList && eqT (dv i) (dv' i)) hlt (by simp only [h]; simp)]
              have HF2 : Hid (¬ (ky j).toList = (ky' j).toList → R = false) := fun h => by rw [HR3.out, allB_stop (f := fun i => (ky i).toList == (ky' i).toList && eqT (dv i) (dv' i)) hlt (by simp [h])]
              clear id ok5 hD hD2 hv hv2 hv' hv2' hbl hbl2 hle hz HR3
              generalize eqT (dv j) (dv' j) = q at *
              by_cases hky : (ky j).toList = (ky' j).toList
              case neg =>
                have hR : R = false := HF2.out hky
                clear HG HF HF2 HC
                subst hR
                have hky' : ((ky j).toList == (ky' j).toList) = false := by simpa using hky
                go_wp2
                go_quiet (fail)
                go_wp2
                go_ret
                exact ⟨rfl, by rw [HS.out]; exact ⟨hw.out.os, hw.out.tape, hw.out.output, hw.out.size, hw.out.block⟩⟩
              case pos =>
                have HG2 : Hid _ := HG.out hky
                have hky' : ((ky j).toList == (ky' j).toList) = true := by simpa using hky
                clear HG HF2 hky
                go_wp2
                go_quiet (fail)
                go_wp2_with fail
                go_region_held3 (fun w' => w'.cell? ⟨vb, 4, none⟩ = some (.slice (some ⟨b, o, none⟩) dn ca') ∧ w'.cell? ⟨vb + 1, 4, none⟩ = some (.slice (some ⟨b2, o2, none⟩) dn ca2') ∧
                    w'.cell? ⟨b, o + j * 6 + 1, none⟩ = some (.int .i64 (dv j).k) ∧ w'.cell? ⟨b, o + j * 6 + 1 + 1, none⟩ = some (.int .i64 (dv j).n) ∧ w'.cell? ⟨b, o + j * 6 + 1 + 2, none⟩ = some (.string (dv j).s) ∧ w'.cell? ⟨b, o + j * 6 + 1 + 3, none⟩ = some x1 ∧ w'.cell? ⟨b, o + j * 6 + 1 + 4, none⟩ = some y1 ∧
                    w'.cell? ⟨b2, o2 + j * 6 + 1, none⟩ = some (.int .i64 (dv' j).k) ∧ w'.cell? ⟨b2, o2 + j * 6 + 1 + 1, none⟩ = some (.int .i64 (dv' j).n) ∧ w'.cell? ⟨b2, o2 + j * 6 + 1 + 2, none⟩ = some (.string (dv' j).s) ∧ w'.cell? ⟨b2, o2 + j * 6 + 1 + 3, none⟩ = some x2 ∧ w'.cell? ⟨b2, o2 + j * 6 + 1 + 4, none⟩ = some y2)
                  (first | (exact ⟨e4, f4, g1, g2, g3, g4, g5, p1, p2, p3, p4, p5⟩) | (exact ⟨Below.cellS hq.out (Nat.le_refl _) e4, Below.cellS hq.out (Nat.le_refl _) f4, Below.cellS hq.out (Nat.le_refl _) g1, Below.cellS hq.out (Nat.le_refl _) g2, Below.cellS hq.out (Nat.le_refl _) g3, Below.cellS hq.out (Nat.le_refl _) g4, Below.cellS hq.out (Nat.le_refl _) g5, Below.cellS hq.out (Nat.le_refl _) p1, Below.cellS hq.out (Nat.le_refl _) p2, Below.cellS hq.out (Nat.le_refl _) p3, Below.cellS hq.out (Nat.le_refl _) p4, Below.cellS hq.out (Nat.le_refl _) p5⟩))
                  (first | (go_at_call 29; refine (HC.out (wr.drewN nq).drew rfl).mono ?_; rintro e wq ⟨rfl, hq0⟩; have hq : Hid (Below wr.heap.size wr wq) := ⟨hq0.os, hq0.tape, hq0.output, hq0.size, hq0.block⟩; clear hq0))
                clear g0 g1 g2 g3 g4 g5 p0 p1 p2 p3 p4 p5 HC e4 f4
                cases q with
                | true =>
                  have HG3 : Hid _ := HG2.out rfl
                  clear HG2 HF
                  go_wp2
                  go_roundw
                  case rel => exact ⟨j + 1, by omega, by go_num, hb2.out.trans (hq.out.mono hb2.out.size), HG3.out⟩
                  case measure => simp [intOf]; omega
                | false =>
                  have hR : R = false := HF.out rfl
                  clear HG2 HF
                  subst hR
                  go_wp2
                  go_ret
                  exact ⟨rfl, by rw [HS.out]; exact hw.out.trans (hq.out.mono (HS.out ▸ hw.out.size))⟩
            · obtain rfl : j = dn := by omega
              have hR : R = true := HR3.out.trans hz.out
              clear HR3 hz
              subst hR
              go_wp2
              go_ret
              exact ⟨rfl, HS.out ▸ hw.out⟩
end Go.Proofs.Ytldkecjfjcnkfaa
