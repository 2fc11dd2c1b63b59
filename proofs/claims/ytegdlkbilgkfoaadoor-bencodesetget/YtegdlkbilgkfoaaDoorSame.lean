import Derived.Test.YtegdlkbilgkfoaaDoorFar
import Derived.Deep.RegionHeld3
namespace Go.Proofs.YtegdlkbilgkfoaaDoor
open Go.RowKit Go.Deep
theorem Below.cellS {B : Nat} {w w' : World} (h : Below B w w') {p : Addr} {v : Value} (hB : w.heap.size ≤ B) (hc : w.cell? p = some v) : w'.cell? p = some v :=
  (h.cell (Nat.lt_of_lt_of_le (World.block_lt_of_cell? w p hc) hB)).trans hc
theorem Below.rv {B : Nat} {w w' : World} (h : Below B w w') (hB : w.heap.size ≤ B) {S : Nat → Prop} {t : T} {x y : Value} (g : RV S w t x y) : RV (fun _ => True) w' t x y :=
  RV.lift h.size (fun b hb => h.block b (Nat.lt_of_lt_of_le hb hB)) (fun _ _ => trivial) _ _ _ g
/-- 'same' of two values that read as one tree -/
def SC (f : Nat) (t : T) : Prop := ∀ (x y x2 y2 : Value) (w : World), t.ok → RV (fun _ => True) w t x y → RV (fun _ => True) w t x2 y2 →
  Calls Tryd.prog f #[vv t x y, vv t x2 y2] w fun e w' => e = .returned (.bool true) ∧ Below w.heap.size w w'
set_option maxHeartbeats 2000000 in
theorem same11 (t : T) : SC 12 t := by
  induction t with
  | no => intro x y x2 y2 w _ h; exact h.elim
  | mk k n s ln l dn ky dv il id =>
    intro x y x2 y2 w hok hr hr2
    obtain ⟨ok1, ok2, ok3, ok4, ok5⟩ := hok
    obtain ⟨⟨a, ca, rfl, hL⟩, ⟨a', ca', rfl, hD⟩⟩ := hr
    obtain ⟨⟨a2, ca2, rfl, hL2⟩, ⟨a2', ca2', rfl, hD2⟩⟩ := hr2
    show Calls Tryd.prog 12 #[.agg #[.int .i64 k, .int .i64 n, .string s, .slice a ln ca, .slice a' dn ca'], .agg #[.int .i64 k, .int .i64 n, .string s, .slice a2 ln ca2, .slice a2' dn ca2']] w _
    go_enter Tryd.func12, Tryd.ntmps12
    go_wp2
    have HI : Hid ((∀ i, SC 12 (l i)) ∧ (∀ i, SC 12 (dv i)) ∧ (∀ i, i < ln → (l i).ok) ∧ (∀ i, i < dn → (dv i).ok) ∧
        (ln = 0 ∨ ∃ b o, a = some ⟨b, o, none⟩ ∧ True ∧ b < w.heap.size ∧ ∀ i, i < ln → ∃ x' y', RV (fun _ => True) w (l i) x' y' ∧ five w b (o + i * 5) (l i) x' y') ∧
        (ln = 0 ∨ ∃ b o, a2 = some ⟨b, o, none⟩ ∧ True ∧ b < w.heap.size ∧ ∀ i, i < ln → ∃ x' y', RV (fun _ => True) w (l i) x' y' ∧ five w b (o + i * 5) (l i) x' y') ∧
        (dn = 0 ∨ ∃ b o, a' = some ⟨b, o, none⟩ ∧ True ∧ b < w.heap.size ∧ ∀ i, i < dn → ∃ x' y', RV (fun _ => True) w (dv i) x' y' ∧ w.cell? ⟨b, o + i * 6, none⟩ = some (.string (ky i)) ∧ five w b (o + i * 6 + 1) (dv i) x' y') ∧
        (dn = 0 ∨ ∃ b o, a2' = some ⟨b, o, none⟩ ∧ True ∧ b < w.heap.size ∧ ∀ i, i < dn → ∃ x' y', RV (fun _ => True) w (dv i) x' y' ∧ w.cell? ⟨b, o + i * 6, none⟩ = some (.string (ky i)) ∧ five w b (o + i * 6 + 1) (dv i) x' y')) :=
      ⟨il, id, ok4, fun i hi => (ok5 i hi).2, hL, hL2, hD, hD2⟩
    clear il id ok4 ok5 hL hL2 hD hD2
    have HB : Hid (Below w.heap.size w ((w.alloc (Obj.cells #[.int .i64 k, .int .i64 n, .string s, .slice a ln ca, .slice a' dn ca'] 27)).alloc (Obj.cells #[.int .i64 k, .int .i64 n, .string s, .slice a2 ln ca2, .slice a2' dn ca2'] 27))) := ((Below.refl _ _).alloc (Nat.le_refl _) _).alloc (by simp) _
    have e3 : ((w.alloc (Obj.cells #[.int .i64 k, .int .i64 n, .string s, .slice a ln ca, .slice a' dn ca'] 27)).alloc (Obj.cells #[.int .i64 k, .int .i64 n, .string s, .slice a2 ln ca2, .slice a2' dn ca2'] 27)).cell? ⟨w.heap.size, 3, none⟩ = some (.slice a ln ca) := by go_simp
    have e4 : ((w.alloc (Obj.cells #[.int .i64 k, .int .i64 n, .string s, .slice a ln ca, .slice a' dn ca'] 27)).alloc (Obj.cells #[.int .i64 k, .int .i64 n, .string s, .slice a2 ln ca2, .slice a2' dn ca2'] 27)).cell? ⟨w.heap.size, 4, none⟩ = some (.slice a' dn ca') := by go_simp
    have f3 : ((w.alloc (Obj.cells #[.int .i64 k, .int .i64 n, .string s, .slice a ln ca, .slice a' dn ca'] 27)).alloc (Obj.cells #[.int .i64 k, .int .i64 n, .string s, .slice a2 ln ca2, .slice a2' dn ca2'] 27)).cell? ⟨w.heap.size + 1, 3, none⟩ = some (.slice a2 ln ca2) := by go_simp
    have f4 : ((w.alloc (Obj.cells #[.int .i64 k, .int .i64 n, .string s, .slice a ln ca, .slice a' dn ca'] 27)).alloc (Obj.cells #[.int .i64 k, .int .i64 n, .string s, .slice a2 ln ca2, .slice a2' dn ca2'] 27)).cell? ⟨w.heap.size + 1, 4, none⟩ = some (.slice a2' dn ca2') := by go_simp
    generalize ((w.alloc (Obj.cells #[.int .i64 k, .int .i64 n, .string s, .slice a ln ca, .slice a' dn ca'] 27)).alloc (Obj.cells #[.int .i64 k, .int .i64 n, .string s, .slice a2 ln ca2, .slice a2' dn ca2'] 27)) = w0 at *
    generalize hvb : w.heap.size = vb at *
    have HS : Hid (w.heap.size = vb) := hvb
    clear hvb
    go_loopw [5] (fun i wr => ∃ j : Nat, j ≤ ln ∧ i = .int .i64 j ∧ Hid (Below w0.heap.size w0 wr)) (fun i _ => ln - (intOf i).toNat)
    case atStart => exact ⟨0, Nat.zero_le _, rfl, Below.refl _ _⟩
    case round =>
      obtain ⟨j, hj, rfl, hb⟩ := hrel
      replace e3 := Below.cellS hb.out (Nat.le_refl _) e3
      replace e4 := Below.cellS hb.out (Nat.le_refl _) e4
      replace f3 := Below.cellS hb.out (Nat.le_refl _) f3
      replace f4 := Below.cellS hb.out (Nat.le_refl _) f4
      have hw : Hid (Below vb w _) := HB.out.trans (hb.out.mono (HS.out ▸ HB.out.size))
      by_cases hlt : j < ln
      · obtain ⟨il, _, ok4, _, hL, hL2, _, _⟩ := HI.out
        rcases hL with h | ⟨b, o, rfl, _, hbl, hL⟩
        · omega
        rcases hL2 with h | ⟨b2, o2, rfl, _, hbl2, hL2⟩
        · omega
        obtain ⟨x1, y1, hv, g1, g2, g3, g4, g5⟩ := hL j hlt
        obtain ⟨x2, y2, hv2, p1, p2, p3, p4, p5⟩ := hL2 j hlt
        have hle : w.heap.size ≤ vb := Nat.le_of_eq HS.out
        replace g1 := Below.cellS hw.out hle g1
        replace g2 := Below.cellS hw.out hle g2
        replace g3 := Below.cellS hw.out hle g3
        replace g4 := Below.cellS hw.out hle g4
        replace g5 := Below.cellS hw.out hle g5
        replace p1 := Below.cellS hw.out hle p1
        replace p2 := Below.cellS hw.out hle p2
        replace p3 := Below.cellS hw.out hle p3
        replace p4 := Below.cellS hw.out hle p4
        replace p5 := Below.cellS hw.out hle p5
        have hv' := Below.rv hw.out hle hv
        have hv2' := Below.rv hw.out hle hv2
        have HC : Hid (∀ w', w'.heap = wr.heap → Calls Tryd.prog 12 #[vv (l j) x1 y1, vv (l j) x2 y2] w' fun e w'' => e = .returned (.bool true) ∧ Below w'.heap.size w' w'') := by
          intro w' hh
          refine il j _ _ _ _ _ (ok4 j hlt) (RV.lift (w := wr) (by rw [hh]; exact Nat.le_refl _) (fun b _ => by rw [hh]) (fun _ _ => trivial) _ _ _ hv') (RV.lift (w := wr) (by rw [hh]; exact Nat.le_refl _) (fun b _ => by rw [hh]) (fun _ _ => trivial) _ _ _ hv2')
        clear il ok4 hL hL2 hv hv2 hv' hv2' hbl hbl2 hle
        go_wp2
        go_region_held3 (fun w' => w'.cell? ⟨vb, 3, none⟩ = some (.slice (some ⟨b, o, none⟩) ln ca) ∧ w'.cell? ⟨vb + 1, 3, none⟩ = some (.slice (some ⟨b2, o2, none⟩) ln ca2) ∧
            w'.cell? ⟨b, o + j * 5, none⟩ = some (.int .i64 (l j).k) ∧ w'.cell? ⟨b, o + j * 5 + 1, none⟩ = some (.int .i64 (l j).n) ∧ w'.cell? ⟨b, o + j * 5 + 2, none⟩ = some (.string (l j).s) ∧ w'.cell? ⟨b, o + j * 5 + 3, none⟩ = some x1 ∧ w'.cell? ⟨b, o + j * 5 + 4, none⟩ = some y1 ∧
            w'.cell? ⟨b2, o2 + j * 5, none⟩ = some (.int .i64 (l j).k) ∧ w'.cell? ⟨b2, o2 + j * 5 + 1, none⟩ = some (.int .i64 (l j).n) ∧ w'.cell? ⟨b2, o2 + j * 5 + 2, none⟩ = some (.string (l j).s) ∧ w'.cell? ⟨b2, o2 + j * 5 + 3, none⟩ = some x2 ∧ w'.cell? ⟨b2, o2 + j * 5 + 4, none⟩ = some y2)
          (first | (exact ⟨e3, f3, g1, g2, g3, g4, g5, p1, p2, p3, p4, p5⟩) | (exact ⟨Below.cellS hq.out (Nat.le_refl _) e3, Below.cellS hq.out (Nat.le_refl _) f3, Below.cellS hq.out (Nat.le_refl _) g1, Below.cellS hq.out (Nat.le_refl _) g2, Below.cellS hq.out (Nat.le_refl _) g3, Below.cellS hq.out (Nat.le_refl _) g4, Below.cellS hq.out (Nat.le_refl _) g5, Below.cellS hq.out (Nat.le_refl _) p1, Below.cellS hq.out (Nat.le_refl _) p2, Below.cellS hq.out (Nat.le_refl _) p3, Below.cellS hq.out (Nat.le_refl _) p4, Below.cellS hq.out (Nat.le_refl _) p5⟩))
          (first | (go_at_call 12; refine (HC.out wr.drew rfl).mono ?_; rintro e wq ⟨rfl, hq0⟩; have hq : Hid (Below wr.heap.size wr wq) := ⟨hq0.os, hq0.tape, hq0.output, hq0.size, hq0.block⟩; clear hq0))
        clear g1 g2 g3 g4 g5 p1 p2 p3 p4 p5 HC e3 e4 f3 f4
        go_wp2
        go_roundw
        case rel => exact ⟨j + 1, by omega, by go_num, hb.out.trans (hq.out.mono hb.out.size)⟩
        case measure => simp [intOf]; omega
      · obtain rfl : j = ln := by omega
        go_wp2
        clear e3 f3
        go_loopw [7] (fun i wr2 => ∃ j : Nat, j ≤ dn ∧ i = .int .i64 j ∧ Hid (Below wr.heap.size wr wr2)) (fun i _ => dn - (intOf i).toNat)
        case atStart => exact ⟨0, Nat.zero_le _, rfl, Below.refl _ _⟩
        case round =>
          obtain ⟨j, hj, rfl, hb2⟩ := hrel
          replace e4 := Below.cellS hb2.out (Nat.le_refl _) e4
          replace f4 := Below.cellS hb2.out (Nat.le_refl _) f4
          replace hw : Hid (Below vb w _) := hw.out.trans (hb2.out.mono (HS.out ▸ hw.out.size))
          by_cases hlt : j < dn
          · obtain ⟨_, id, _, ok5, _, _, hD, hD2⟩ := HI.out
            rcases hD with h | ⟨b, o, rfl, _, hbl, hD⟩
            · omega
            rcases hD2 with h | ⟨b2, o2, rfl, _, hbl2, hD2⟩
            · omega
            obtain ⟨x1, y1, hv, g0, g1, g2, g3, g4, g5⟩ := hD j hlt
            obtain ⟨x2, y2, hv2, p0, p1, p2, p3, p4, p5⟩ := hD2 j hlt
            have hle : w.heap.size ≤ vb := Nat.le_of_eq HS.out
            replace g0 := Below.cellS hw.out hle g0
            replace g1 := Below.cellS hw.out hle g1
            replace g2 := Below.cellS hw.out hle g2
            replace g3 := Below.cellS hw.out hle g3
            replace g4 := Below.cellS hw.out hle g4
            replace g5 := Below.cellS hw.out hle g5
            replace p0 := Below.cellS hw.out hle p0
            replace p1 := Below.cellS hw.out hle p1
            replace p2 := Below.cellS hw.out hle p2
            replace p3 := Below.cellS hw.out hle p3
            replace p4 := Below.cellS hw.out hle p4
            replace p5 := Below.cellS hw.out hle p5
            have hv' := Below.rv hw.out hle hv
            have hv2' := Below.rv hw.out hle hv2
            have HC : Hid (∀ w', w'.heap = wr.heap → Calls Tryd.prog 12 #[vv (dv j) x1 y1, vv (dv j) x2 y2] w' fun e w'' => e = .returned (.bool true) ∧ Below w'.heap.size w' w'') := by
              intro w' hh
              refine id j _ _ _ _ _ (ok5 j hlt) (RV.lift (w := wr) (by rw [hh]; exact Nat.le_refl _) (fun b _ => by rw [hh]) (fun _ _ => trivial) _ _ _ hv') (RV.lift (w := wr) (by rw [hh]; exact Nat.le_refl _) (fun b _ => by rw [hh]) (fun _ _ => trivial) _ _ _ hv2')
            clear id ok5 hD hD2 hv hv2 hv' hv2' hbl hbl2 hle
            go_wp2
            go_quiet (fail)
            go_wp2
            go_region_held3 (fun w' => w'.cell? ⟨vb, 4, none⟩ = some (.slice (some ⟨b, o, none⟩) dn ca') ∧ w'.cell? ⟨vb + 1, 4, none⟩ = some (.slice (some ⟨b2, o2, none⟩) dn ca2') ∧
                w'.cell? ⟨b, o + j * 6 + 1, none⟩ = some (.int .i64 (dv j).k) ∧ w'.cell? ⟨b, o + j * 6 + 1 + 1, none⟩ = some (.int .i64 (dv j).n) ∧ w'.cell? ⟨b, o + j * 6 + 1 + 2, none⟩ = some (.string (dv j).s) ∧ w'.cell? ⟨b, o + j * 6 + 1 + 3, none⟩ = some x1 ∧ w'.cell? ⟨b, o + j * 6 + 1 + 4, none⟩ = some y1 ∧
                w'.cell? ⟨b2, o2 + j * 6 + 1, none⟩ = some (.int .i64 (dv j).k) ∧ w'.cell? ⟨b2, o2 + j * 6 + 1 + 1, none⟩ = some (.int .i64 (dv j).n) ∧ w'.cell? ⟨b2, o2 + j * 6 + 1 + 2, none⟩ = some (.string (dv j).s) ∧ w'.cell? ⟨b2, o2 + j * 6 + 1 + 3, none⟩ = some x2 ∧ w'.cell? ⟨b2, o2 + j * 6 + 1 + 4, none⟩ = some y2)
              (first | (exact ⟨e4, f4, g1, g2, g3, g4, g5, p1, p2, p3, p4, p5⟩) | (exact ⟨Below.cellS hq.out (Nat.le_refl _) e4, Below.cellS hq.out (Nat.le_refl _) f4, Below.cellS hq.out (Nat.le_refl _) g1, Below.cellS hq.out (Nat.le_refl _) g2, Below.cellS hq.out (Nat.le_refl _) g3, Below.cellS hq.out (Nat.le_refl _) g4, Below.cellS hq.out (Nat.le_refl _) g5, Below.cellS hq.out (Nat.le_refl _) p1, Below.cellS hq.out (Nat.le_refl _) p2, Below.cellS hq.out (Nat.le_refl _) p3, Below.cellS hq.out (Nat.le_refl _) p4, Below.cellS hq.out (Nat.le_refl _) p5⟩))
              (first | (go_at_call 12; refine (HC.out (wr.drewN nq).drew rfl).mono ?_; rintro e wq ⟨rfl, hq0⟩; have hq : Hid (Below wr.heap.size wr wq) := ⟨hq0.os, hq0.tape, hq0.output, hq0.size, hq0.block⟩; clear hq0))
            clear g0 g1 g2 g3 g4 g5 p0 p1 p2 p3 p4 p5 HC e4 f4
            go_wp2
            go_roundw
            case rel => exact ⟨j + 1, by omega, by go_num, hb2.out.trans (hq.out.mono hb2.out.size)⟩
            case measure => simp [intOf]; omega
          · obtain rfl : j = dn := by omega
            go_wp2
            go_ret
            exact ⟨rfl, HS.out ▸ hw.out⟩
end Go.Proofs.YtegdlkbilgkfoaaDoor
