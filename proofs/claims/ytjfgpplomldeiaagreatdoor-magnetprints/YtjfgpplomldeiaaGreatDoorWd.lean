import Derived.Test.YtjfgpplomldeiaaGreatDoorWc
namespace Go.Proofs.YtjfgpplomldeiaaGreatDoor
open Go.RowKit Go.Deep
/-- 'same' of two values that read as one tree -/
def SC (f : Nat) (t : T) : Prop := ∀ (x y x2 y2 : Value) (w : World), t.ok → RV (fun _ => True) w t x y → RV (fun _ => True) w t x2 y2 →
  Calls Tryz.prog f #[vv t x y, vv t x2 y2] w fun e w' => e = .returned (.bool true) ∧ Below w.heap.size w w'
set_option maxHeartbeats 2000000 in
theorem pairsSame (dn : Nat) (ky : Nat → ByteArray) (dv : Nat → T) (ih : ∀ i, i < dn → SC 33 (dv i)) (y y2 : Value) (w : World) (hdn : dn ≤ 140737488351232) (hok : ∀ i, i < dn → (dv i).ok) (hr : RD (fun _ => True) w dn ky dv y) (hr2 : RD (fun _ => True) w dn ky dv y2) :
    Calls Tryz.prog 22 #[y, y2] w fun e w' => e = .returned (.bool true) ∧ Below w.heap.size w w' := by
  obtain ⟨a, ca, rfl, hD⟩ := hr
  obtain ⟨a2, ca2, rfl, hD2⟩ := hr2
  have HI : Hid ((∀ i, i < dn → SC 33 (dv i)) ∧ (∀ i, i < dn → (dv i).ok) ∧ (dn = 0 ∨ ∃ b o, a = some ⟨b, o, none⟩ ∧ True ∧ b < w.heap.size ∧ ∀ i, i < dn → ∃ x' y', RV (fun _ => True) w (dv i) x' y' ∧ w.cell? ⟨b, o + i * 6, none⟩ = some (.string (ky i)) ∧ five w b (o + i * 6 + 1) (dv i) x' y') ∧ (dn = 0 ∨ ∃ b o, a2 = some ⟨b, o, none⟩ ∧ True ∧ b < w.heap.size ∧ ∀ i, i < dn → ∃ x' y', RV (fun _ => True) w (dv i) x' y' ∧ w.cell? ⟨b, o + i * 6, none⟩ = some (.string (ky i)) ∧ five w b (o + i * 6 + 1) (dv i) x' y')) := ⟨ih, hok, hD, hD2⟩
  clear ih hok hD hD2
  go_enter Tryz.func22, Tryz.ntmps22
  go_wp2
  go_loopw [5] (fun i wr => ∃ j : Nat, j ≤ dn ∧ i = .int .i64 j ∧ Hid (Below w.heap.size w wr)) (fun i _ => dn - (intOf i).toNat)
  case atStart => exact ⟨0, Nat.zero_le _, rfl, Below.refl _ _⟩
  case round =>
    obtain ⟨j, hj, rfl, hw⟩ := hrel
    by_cases hlt : j < dn
    · obtain ⟨id, ok5, hD, hD2⟩ := HI.out
      rcases hD with h | ⟨b, o, rfl, _, hbl, hD⟩
      · omega
      rcases hD2 with h | ⟨b2, o2, rfl, _, hbl2, hD2⟩
      · omega
      obtain ⟨x1, y1, hv, g0, g1, g2, g3, g4, g5⟩ := hD j hlt
      obtain ⟨x2, y2, hv2, p0, p1, p2, p3, p4, p5⟩ := hD2 j hlt
      have hle : w.heap.size ≤ w.heap.size := Nat.le_refl _
      replace g0 := Below.cellS hw.out hle g0
      replace g1 := Below.cellS hw.out hle g1
      replace g2 := Below.cellS hw.out hle g2
      replace g3 := Below.cellS hw.out hle g3
      replace g4 := Below.cellS hw.out hle g4
      replace g5 := Below.cellS hw.out hle g5
      replace p0 := Below.cellS hw.out hle p0
      replace p1 := Below.cellS hw.out hle p1
      replace p2 := Below.cellS hw.out hle p2
      replace p3 := Below.cellS hw.out hle p3
      replace p4 := Below.cellS hw.out hle p4
      replace p5 := Below.cellS hw.out hle p5
      have hv' := Below.rv hw.out hle hv
      have hv2' := Below.rv hw.out hle hv2
      have HC : Hid (∀ w', w'.heap = wr.heap → Calls Tryz.prog 33 #[vv (dv j) x1 y1, vv (dv j) x2 y2] w' fun e w'' => e = .returned (.bool true) ∧ Below w'.heap.size w' w'') := by
        intro w' hh
        refine id j hlt _ _ _ _ _ (ok5 j hlt) (RV.lift (w := wr) (by rw [hh]; exact Nat.le_refl _) (fun b _ => by rw [hh]) (fun _ _ => trivial) _ _ _ hv') (RV.lift (w := wr) (by rw [hh]; exact Nat.le_refl _) (fun b _ => by rw [hh]) (fun _ _ => trivial) _ _ _ hv2')
      clear id ok5 hD hD2 hv hv2 hv' hv2' hbl hbl2 hle
      go_wp2
      go_quiet (fail)
      go_wp2
      go_region_held3 (fun w' => 
          w'.cell? ⟨b, o + j * 6 + 1, none⟩ = some (.int .i64 (dv j).k) ∧ w'.cell? ⟨b, o + j * 6 + 1 + 1, none⟩ = some (.int .i64 (dv j).n) ∧ w'.cell? ⟨b, o + j * 6 + 1 + 2, none⟩ = some (.string (dv j).s) ∧ w'.cell? ⟨b, o + j * 6 + 1 + 3, none⟩ = some x1 ∧ w'.cell? ⟨b, o + j * 6 + 1 + 4, none⟩ = some y1 ∧
          w'.cell? ⟨b2, o2 + j * 6 + 1, none⟩ = some (.int .i64 (dv j).k) ∧ w'.cell? ⟨b2, o2 + j * 6 + 1 + 1, none⟩ = some (.int .i64 (dv j).n) ∧ w'.cell? ⟨b2, o2 + j * 6 + 1 + 2, none⟩ = some (.string (dv j).s) ∧ w'.cell? ⟨b2, o2 + j * 6 + 1 + 3, none⟩ = some x2 ∧ w'.cell? ⟨b2, o2 + j * 6 + 1 + 4, none⟩ = some y2)
        (first | (exact ⟨g1, g2, g3, g4, g5, p1, p2, p3, p4, p5⟩) | (exact ⟨Below.cellS hq.out (Nat.le_refl _) g1, Below.cellS hq.out (Nat.le_refl _) g2, Below.cellS hq.out (Nat.le_refl _) g3, Below.cellS hq.out (Nat.le_refl _) g4, Below.cellS hq.out (Nat.le_refl _) g5, Below.cellS hq.out (Nat.le_refl _) p1, Below.cellS hq.out (Nat.le_refl _) p2, Below.cellS hq.out (Nat.le_refl _) p3, Below.cellS hq.out (Nat.le_refl _) p4, Below.cellS hq.out (Nat.le_refl _) p5⟩))
        (first | (go_at_call 33; refine (HC.out (wr.drewN nq).drew rfl).mono ?_; rintro e wq ⟨rfl, hq0⟩; have hq : Hid (Below wr.heap.size wr wq) := ⟨hq0.os, hq0.tape, hq0.output, hq0.size, hq0.block⟩; clear hq0))
      clear g0 g1 g2 g3 g4 g5 p0 p1 p2 p3 p4 p5 HC
      go_wp2
      go_roundw
      case rel => exact ⟨j + 1, by omega, by go_num, hw.out.trans (hq.out.mono hw.out.size)⟩
      case measure => simp [intOf]; omega
    · obtain rfl : j = dn := by omega
      go_wp2
      go_ret
      exact ⟨rfl, hw.out⟩
set_option maxHeartbeats 2000000 in
theorem valueSame (t : T) : SC 33 t := by
  induction t with
  | no => intro x y x2 y2 w _ h; exact h.elim
  | mk k n s ln l dn ky dv il id =>
    intro x y x2 y2 w hok hr hr2
    obtain ⟨ok1, ok2, ok3, ok4, ok5⟩ := hok
    obtain ⟨⟨a, ca, rfl, hL⟩, ⟨a', ca', rfl, hD⟩⟩ := hr
    obtain ⟨⟨a2, ca2, rfl, hL2⟩, ⟨a2', ca2', rfl, hD2⟩⟩ := hr2
    show Calls Tryz.prog 33 #[.agg #[.int .i64 k, .int .i64 n, .string s, .slice a ln ca, .slice a' dn ca'], .agg #[.int .i64 k, .int .i64 n, .string s, .slice a2 ln ca2, .slice a2' dn ca2']] w _
    have HI : Hid ((∀ i, SC 33 (l i)) ∧ (∀ i, i < ln → (l i).ok) ∧ (ln = 0 ∨ ∃ b o, a = some ⟨b, o, none⟩ ∧ True ∧ b < w.heap.size ∧ ∀ i, i < ln → ∃ x' y', RV (fun _ => True) w (l i) x' y' ∧ five w b (o + i * 5) (l i) x' y') ∧ (ln = 0 ∨ ∃ b o, a2 = some ⟨b, o, none⟩ ∧ True ∧ b < w.heap.size ∧ ∀ i, i < ln → ∃ x' y', RV (fun _ => True) w (l i) x' y' ∧ five w b (o + i * 5) (l i) x' y')) := ⟨il, ok4, hL, hL2⟩
    have HP : Hid (∀ w', Below w.heap.size w w' → Calls Tryz.prog 22 #[.slice a' dn ca', .slice a2' dn ca2'] w' fun e w'' => e = .returned (.bool true) ∧ Below w'.heap.size w' w'') := fun w' hb => pairsSame dn ky dv (fun i _ => id i) _ _ w' ok3 (fun i hi => (ok5 i hi).2) (RD.move (fun _ _ _ => trivial) hb.size (fun b _ hl => hb.block b hl) ⟨_, _, rfl, hD⟩) (RD.move (fun _ _ _ => trivial) hb.size (fun b _ hl => hb.block b hl) ⟨_, _, rfl, hD2⟩)
    clear il id ok4 ok5 hL hL2 hD hD2
    have HB : Hid (Below w.heap.size w ((w.alloc (Obj.cells #[.int .i64 k, .int .i64 n, .string s, .slice a ln ca, .slice a' dn ca'] 46)).alloc (Obj.cells #[.int .i64 k, .int .i64 n, .string s, .slice a2 ln ca2, .slice a2' dn ca2'] 46))) := ((Below.refl _ _).alloc (Nat.le_refl _) _).alloc (by simp) _
    have e3 : ((w.alloc (Obj.cells #[.int .i64 k, .int .i64 n, .string s, .slice a ln ca, .slice a' dn ca'] 46)).alloc (Obj.cells #[.int .i64 k, .int .i64 n, .string s, .slice a2 ln ca2, .slice a2' dn ca2'] 46)).cell? ⟨w.heap.size, 3, none⟩ = some (.slice a ln ca) := by go_simp
    have e4 : ((w.alloc (Obj.cells #[.int .i64 k, .int .i64 n, .string s, .slice a ln ca, .slice a' dn ca'] 46)).alloc (Obj.cells #[.int .i64 k, .int .i64 n, .string s, .slice a2 ln ca2, .slice a2' dn ca2'] 46)).cell? ⟨w.heap.size, 4, none⟩ = some (.slice a' dn ca') := by go_simp
    have f3 : ((w.alloc (Obj.cells #[.int .i64 k, .int .i64 n, .string s, .slice a ln ca, .slice a' dn ca'] 46)).alloc (Obj.cells #[.int .i64 k, .int .i64 n, .string s, .slice a2 ln ca2, .slice a2' dn ca2'] 46)).cell? ⟨w.heap.size + 1, 3, none⟩ = some (.slice a2 ln ca2) := by go_simp
    have f4 : ((w.alloc (Obj.cells #[.int .i64 k, .int .i64 n, .string s, .slice a ln ca, .slice a' dn ca'] 46)).alloc (Obj.cells #[.int .i64 k, .int .i64 n, .string s, .slice a2 ln ca2, .slice a2' dn ca2'] 46)).cell? ⟨w.heap.size + 1, 4, none⟩ = some (.slice a2' dn ca2') := by go_simp
    go_enter Tryz.func33, Tryz.ntmps33
    go_wp2_with fail
    generalize ((w.alloc (Obj.cells #[.int .i64 k, .int .i64 n, .string s, .slice a ln ca, .slice a' dn ca'] 46)).alloc (Obj.cells #[.int .i64 k, .int .i64 n, .string s, .slice a2 ln ca2, .slice a2' dn ca2'] 46)) = w0 at *
    generalize hvb : w.heap.size = vb at *
    have HS : Hid (w.heap.size = vb) := hvb
    clear hvb
    refine (HP.out w0 HB.out).mono ?_
    rintro e w9 ⟨rfl, b9⟩
    have HB9 : Hid (Below vb w w9) := HB.out.trans (b9.mono (HS.out ▸ HB.out.size))
    replace e3 := Below.cellS b9 (Nat.le_refl _) e3
    replace f3 := Below.cellS b9 (Nat.le_refl _) f3
    clear b9 HB e4 f4 HP
    have HB : Hid (Below vb w w9) := HB9.out
    clear HB9
    generalize w9 = w0 at *
    go_wp2
    go_loopw [5] (fun i wr => ∃ j : Nat, j ≤ ln ∧ i = .int .i64 j ∧ Hid (Below w0.heap.size w0 wr)) (fun i _ => ln - (intOf i).toNat)
    case atStart => exact ⟨0, Nat.zero_le _, rfl, Below.refl _ _⟩
    case round =>
      obtain ⟨j, hj, rfl, hb⟩ := hrel
      replace e3 := Below.cellS hb.out (Nat.le_refl _) e3
      replace f3 := Below.cellS hb.out (Nat.le_refl _) f3
      have hw : Hid (Below vb w _) := HB.out.trans (hb.out.mono (HS.out ▸ HB.out.size))
      by_cases hlt : j < ln
      · obtain ⟨il, ok4, hL, hL2⟩ := HI.out
        rcases hL with h | ⟨b, o, rfl, _, hbl, hL⟩
        · omega
        rcases hL2 with h | ⟨b2, o2, rfl, _, hbl2, hL2⟩
        · omega
        obtain ⟨x1, y1, hv, g1, g2, g3, g4, g5⟩ := hL j hlt
        obtain ⟨x2, y2, hv2, p1, p2, p3, p4, p5⟩ := hL2 j hlt
        have hle : w.heap.size ≤ vb := Nat.le_of_eq HS.out
        replace g1 := Below.cellS hw.out hle g1
        replace g2 := Below.cellS hw.out hle g2
        replace g3 := Below.cellS hw.out hle g3
        replace g4 := Below.cellS hw.out hle g4
        replace g5 := Below.cellS hw.out hle g5
        replace p1 := Below.cellS hw.out hle p1
        replace p2 := Below.cellS hw.out hle p2
        replace p3 := Below.cellS hw.out hle p3
        replace p4 := Below.cellS hw.out hle p4
        replace p5 := Below.cellS hw.out hle p5
        have hv' := Below.rv hw.out hle hv
        have hv2' := Below.rv hw.out hle hv2
        have HC : Hid (∀ w', w'.heap = wr.heap → Calls Tryz.prog 33 #[vv (l j) x1 y1, vv (l j) x2 y2] w' fun e w'' => e = .returned (.bool true) ∧ Below w'.heap.size w' w'') := by
          intro w' hh
          refine il j _ _ _ _ _ (ok4 j hlt) (RV.lift (w := wr) (by rw [hh]; exact Nat.le_refl _) (fun b _ => by rw [hh]) (fun _ _ => trivial) _ _ _ hv') (RV.lift (w := wr) (by rw [hh]; exact Nat.le_refl _) (fun b _ => by rw [hh]) (fun _ _ => trivial) _ _ _ hv2')
        clear il ok4 hL hL2 hv hv2 hv' hv2' hbl hbl2 hle
        go_wp2
        go_region_held3 (fun w' => w'.cell? ⟨vb, 3, none⟩ = some (.slice (some ⟨b, o, none⟩) ln ca) ∧ w'.cell? ⟨vb + 1, 3, none⟩ = some (.slice (some ⟨b2, o2, none⟩) ln ca2) ∧
            w'.cell? ⟨b, o + j * 5, none⟩ = some (.int .i64 (l j).k) ∧ w'.cell? ⟨b, o + j * 5 + 1, none⟩ = some (.int .i64 (l j).n) ∧ w'.cell? ⟨b, o + j * 5 + 2, none⟩ = some (.string (l j).s) ∧ w'.cell? ⟨b, o + j * 5 + 3, none⟩ = some x1 ∧ w'.cell? ⟨b, o + j * 5 + 4, none⟩ = some y1 ∧
            w'.cell? ⟨b2, o2 + j * 5, none⟩ = some (.int .i64 (l j).k) ∧ w'.cell? ⟨b2, o2 + j * 5 + 1, none⟩ = some (.int .i64 (l j).n) ∧ w'.cell? ⟨b2, o2 + j * 5 + 2, none⟩ = some (.string (l j).s) ∧ w'.cell? ⟨b2, o2 + j * 5 + 3, none⟩ = some x2 ∧ w'.cell? ⟨b2, o2 + j * 5 + 4, none⟩ = some y2)
          (first | (exact ⟨e3, f3, g1, g2, g3, g4, g5, p1, p2, p3, p4, p5⟩) | (exact ⟨Below.cellS hq.out (Nat.le_refl _) e3, Below.cellS hq.out (Nat.le_refl _) f3, Below.cellS hq.out (Nat.le_refl _) g1, Below.cellS hq.out (Nat.le_refl _) g2, Below.cellS hq.out (Nat.le_refl _) g3, Below.cellS hq.out (Nat.le_refl _) g4, Below.cellS hq.out (Nat.le_refl _) g5, Below.cellS hq.out (Nat.le_refl _) p1, Below.cellS hq.out (Nat.le_refl _) p2, Below.cellS hq.out (Nat.le_refl _) p3, Below.cellS hq.out (Nat.le_refl _) p4, Below.cellS hq.out (Nat.le_refl _) p5⟩))
          (first | (go_at_call 33; refine (HC.out wr.drew rfl).mono ?_; rintro e wq ⟨rfl, hq0⟩; have hq : Hid (Below wr.heap.size wr wq) := ⟨hq0.os, hq0.tape, hq0.output, hq0.size, hq0.block⟩; clear hq0))
        clear g1 g2 g3 g4 g5 p1 p2 p3 p4 p5 HC e3 f3
        go_wp2
        go_roundw
        case rel => exact ⟨j + 1, by omega, by go_num, hb.out.trans (hq.out.mono hb.out.size)⟩
        case measure => simp [intOf]; omega
      · obtain rfl : j = ln := by omega
        go_wp2
        go_ret
        exact ⟨rfl, HS.out ▸ hw.out⟩
end Go.Proofs.YtjfgpplomldeiaaGreatDoor
