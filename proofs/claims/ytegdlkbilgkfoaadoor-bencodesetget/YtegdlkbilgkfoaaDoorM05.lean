import Derived.Test.YtegdlkbilgkfoaaDoorM04
import Derived.Test.YtegdlkbilgkfoaaDoorM01
import Derived.Lib.Bytealg
import Derived.Laws.Externs
import Derived.Test.YtegdlkbilgkfoaaDoorM02
import Derived.ProofKit
import Derived.OpenShut
import Derived.SizedLaws
import Derived.Carry
namespace Go.Proofs.YtegdlkbilgkfoaaDoor
open Go.RowKit Go.Deep
set_option maxRecDepth 20000
/-- few enough children everywhere, one more than 'small' lets in -/
def T.small1 : T → Prop
  | .no => True
  | .mk _ _ _ ln l dn _ dv => ln ≤ 2147483648 ∧ dn ≤ 2147483648 ∧ (∀ i, i < ln → (l i).small1) ∧ (∀ i, i < dn → (dv i).small1)
theorem T.small.one : ∀ t : T, t.small → t.small1 := by
  intro t
  induction t with
  | no => intro _; trivial
  | mk k n s ln l dn ky dv il id =>
    rintro ⟨h1, h2, h3, h4⟩
    exact ⟨by omega, by omega, fun i hi => il i (h3 i hi), fun i hi => id i (h4 i hi)⟩
def PC1 (t : T) : Prop := ∀ (u : Value) (S : Nat → Prop) (w : World), t.small1 → VT t → RN S w t u →
  Calls Tryd.prog 32 #[u] w fun e w' => ∃ x' y', e = .returned (vv t x' y') ∧ RV (fun b => w.heap.size ≤ b) w' t x' y' ∧ Below w.heap.size w w'
set_option maxHeartbeats 6000000 in
theorem plain28s (t : T) : PC1 t := by
  induction t with
  | no => intro u S w _ _ h; exact h.elim
  | mk k n s ln l dn ky dv il id =>
    intro u S w hsm hvt hr
    obtain ⟨sm1, sm2, sm3, sm4⟩ := hsm
    obtain ⟨hown, v1, v2⟩ := hvt
    obtain ⟨k1, k4, o1, o2, o3, o4⟩ := (ownB_iff _ _ _ _ _).1 hown
    have HO : Hid ((∀ i, PC1 (l i)) ∧ (∀ i, PC1 (dv i)) ∧ (∀ i, i < ln → (l i).small1 ∧ VT (l i)) ∧ (∀ i, i < dn → (dv i).small1 ∧ VT (dv i))) := ⟨il, id, fun i hi => ⟨sm3 i hi, v1 i hi⟩, fun i hi => ⟨sm4 i hi, (v2 i hi).2⟩⟩
    clear il id sm3 sm4 v1 v2 hown
    rcases hr with ⟨rfl, rfl⟩ | ⟨rfl, rfl⟩ | ⟨rfl, b, c, rfl, h1, h2, h3⟩ | ⟨rfl, b, c, rfl, h1, h2, h3⟩
    · obtain rfl : ln = 0 := by omega
      obtain rfl : dn = 0 := by omega
      have hs0 : s = { data := #[] } := empty_of (o2.resolve_left (by omega))
      subst hs0
      clear o1 o2 o3 o4 k1 k4
      have ha := as68_68
      go_enter Tryd.func32, Tryd.ntmps32
      go_wp2
      exact bodyPost_ret (v := .agg #[.int .i64 1, .int .i64 n, .string { data := #[] }, .slice none 0 0, .slice none 0 0]) (results_cell_row Tryd.results32 _ _ w.heap.size 27 _ (0, 0) _ rfl ((Below.heap_alloc _ _ _ (by simp)).trans (heap_new _ _)) Tryd.underlying27 rfl info25s) rfl
        ⟨_, _, rfl, ⟨⟨_, _, rfl, .inl rfl⟩, ⟨_, _, rfl, .inl rfl⟩⟩, ((Below.refl _ _).alloc (Nat.le_refl _) _).alloc (by simp) _⟩
    · obtain rfl : n = 0 := o1.resolve_left (by omega)
      obtain rfl : ln = 0 := o3.resolve_left (by omega)
      obtain rfl : dn = 0 := o4.resolve_left (by omega)
      clear o1 o2 o3 o4 k1 k4
      have ha := as53_68
      have hb := as53_53
      go_enter Tryd.func32, Tryd.ntmps32
      go_wp2
      exact bodyPost_ret (v := .agg #[.int .i64 2, .int .i64 0, .string s, .slice none 0 0, .slice none 0 0]) (results_cell_row Tryd.results32 _ _ w.heap.size 27 _ (0, 0) _ rfl ((Below.heap_alloc _ _ _ (by simp)).trans (heap_new _ _)) Tryd.underlying27 rfl info25s) rfl
        ⟨_, _, rfl, ⟨⟨_, _, rfl, .inl rfl⟩, ⟨_, _, rfl, .inl rfl⟩⟩, ((Below.refl _ _).alloc (Nat.le_refl _) _).alloc (by simp) _⟩
    · obtain rfl : n = 0 := o1.resolve_left (by omega)
      obtain rfl : dn = 0 := o4.resolve_left (by omega)
      have hs0 : s = { data := #[] } := empty_of (o2.resolve_left (by omega))
      subst hs0
      clear o1 o2 o3 o4 k1 k4
      obtain ⟨i0, hi, hz0, hz1, hz2⟩ := info_parts info25
      have hmk : ∀ u : World, (Instr.makeSlice 24 (.int .i64 (ln : Int)) (.int .i64 (ln : Int))).run Tryd.prog u =
          .ok (.slice (some ⟨u.heap.size, 0, none⟩) ln ln) (u.alloc (.cells (madeCells #[.int .i64 0, .int .i64 0, .string ByteArray.empty, .slice none 0 0, .slice none 0 0] (ln * 5)) 27)) := fun u => by
        have h := run_make (P := Tryd.prog) u 24 27 i0 _ Tryd.underlying24 hi hz0 .i64 .i64 ln ln (by omega) (by omega) (by rw [hz2]; omega) (by omega)
        simpa [hz1, Value.cells] using h
      have HN : Hid (∀ i, i < ln → ∃ u, w.cell? ⟨b, i, none⟩ = some u ∧ RN S w (l i) u) := h3
      have HBL : Hid (b < w.heap.size) := h2
      clear h1 h2 h3 hi hz0 hz1 hz2
      have ha := as70_68
      have hb := as70_53
      have hc := as70_70
      go_enter Tryd.func32, Tryd.ntmps32
      go_wp2
      clear ha hb hc
      go_region
      go_wp2
      clear hmk
      have HB0 : Hid (PB w.heap.size w (((w.alloc (Obj.cells #[.int .i64 0, .int .i64 0, .string { data := #[] }, .slice .none 0 0, .slice .none 0 0] 27)).alloc (Obj.cells #[.int .i64 3, .int .i64 0, .string { data := #[] }, .slice (some ⟨w.heap.size + 1 + 1, 0, none⟩) ln ln, .slice .none 0 0] 27)).alloc (Obj.cells (madeCells #[.int .i64 0, .int .i64 0, .string ByteArray.empty, .slice .none 0 0, .slice .none 0 0] (ln * 5)) 27)).drew (.int .i64 3) (.int .i64 0) (.string { data := #[] }) (.slice (some ⟨w.heap.size + 1 + 1, 0, none⟩) ln ln) (.slice .none 0 0) ∧
          PL (w.heap.size + 1 + 1) (((w.alloc (Obj.cells #[.int .i64 0, .int .i64 0, .string { data := #[] }, .slice .none 0 0, .slice .none 0 0] 27)).alloc (Obj.cells #[.int .i64 3, .int .i64 0, .string { data := #[] }, .slice (some ⟨w.heap.size + 1 + 1, 0, none⟩) ln ln, .slice .none 0 0] 27)).alloc (Obj.cells (madeCells #[.int .i64 0, .int .i64 0, .string ByteArray.empty, .slice .none 0 0, .slice .none 0 0] (ln * 5)) 27)).drew l ln 0 (madeCells #[.int .i64 0, .int .i64 0, .string ByteArray.empty, .slice .none 0 0, .slice .none 0 0] (ln * 5))) := by
        refine ⟨⟨((((Below.refl _ _).alloc (Nat.le_refl _) _).alloc (by simp) _).alloc (by simp; omega) _).drew, ?_, ?_⟩, ?_, by rw [size_madeCells], fun i hi => absurd hi (Nat.not_lt_zero _)⟩
        · exact (Below.heap_alloc _ _ _ (by simp; omega)).trans ((Below.heap_alloc _ _ _ (by simp)).trans (heap_new _ _))
        · refine (Below.heap_alloc _ _ _ (by simp)).trans ?_
          have := heap_new (w.alloc (Obj.cells #[.int .i64 0, .int .i64 0, .string { data := #[] }, .slice .none 0 0, .slice .none 0 0] 27)) (Obj.cells #[.int .i64 3, .int .i64 0, .string { data := #[] }, .slice (some ⟨w.heap.size + 1 + 1, 0, none⟩) ln ln, .slice .none 0 0] 27)
          simpa using this
        · have := heap_new ((w.alloc (Obj.cells #[.int .i64 0, .int .i64 0, .string { data := #[] }, .slice .none 0 0, .slice .none 0 0] 27)).alloc (Obj.cells #[.int .i64 3, .int .i64 0, .string { data := #[] }, .slice (some ⟨w.heap.size + 1 + 1, 0, none⟩) ln ln, .slice .none 0 0] 27)) (Obj.cells (madeCells #[.int .i64 0, .int .i64 0, .string ByteArray.empty, .slice .none 0 0, .slice .none 0 0] (ln * 5)) 27)
          have e : ((w.alloc (Obj.cells #[.int .i64 0, .int .i64 0, .string { data := #[] }, .slice .none 0 0, .slice .none 0 0] 27)).alloc (Obj.cells #[.int .i64 3, .int .i64 0, .string { data := #[] }, .slice (some ⟨w.heap.size + 1 + 1, 0, none⟩) ln ln, .slice .none 0 0] 27)).heap.size = w.heap.size + 1 + 1 := by simp
          rw [e] at this
          exact this
      generalize (((w.alloc (Obj.cells #[.int .i64 0, .int .i64 0, .string { data := #[] }, .slice .none 0 0, .slice .none 0 0] 27)).alloc (Obj.cells #[.int .i64 3, .int .i64 0, .string { data := #[] }, .slice (some ⟨w.heap.size + 1 + 1, 0, none⟩) ln ln, .slice .none 0 0] 27)).alloc (Obj.cells (madeCells #[.int .i64 0, .int .i64 0, .string ByteArray.empty, .slice .none 0 0, .slice .none 0 0] (ln * 5)) 27)).drew = w0 at *
      generalize hg : w.heap.size = H at *
      have HG : Hid (w.heap.size = H) := hg
      clear hg
      go_loopw [36] (fun i wr => ∃ (j : Nat) (cs : Array Value), j ≤ ln ∧ i = .int .i64 j ∧ Hid (PB H w wr (.int .i64 3) (.int .i64 0) (.string { data := #[] }) (.slice (some ⟨H + 1 + 1, 0, none⟩) ln ln) (.slice .none 0 0) ∧ PL (H + 1 + 1) wr l ln j cs)) (fun i _ => ln - (intOf i).toNat)
      case atStart => exact ⟨0, _, Nat.zero_le _, rfl, HB0⟩
      case round =>
        clear HB0
        obtain ⟨j, cs, hj, rfl, hinv⟩ := hrel
        by_cases hlt : j < ln
        · obtain ⟨u, hu, hrn⟩ := HN.out j hlt
          have hw := hinv.out.1.1
          have hle : w.heap.size ≤ H := Nat.le_of_eq HG.out
          replace hu := Below.cellS hw hle hu
          obtain ⟨ty, uu, rfl⟩ := hrn.iface
          obtain ⟨_, _, _, c3, _⟩ := hinv.out.1.2.2.cells
          have hne : H + 1 ≠ H + 1 + 1 := by omega
          have j0 : (0 : Int) ≤ (j : Int) := by omega
          have j1 : (j : Int) < (ln : Int) := by omega
          have HC : Hid (∀ w', w'.heap = wr.heap → w'.os = wr.os → w'.tape = wr.tape → w'.output = wr.output → Calls Tryd.prog 32 #[.iface ty uu] w' fun e w'' => ∃ xa xn xc ya yn yc, e = .returned (.agg #[.int .i64 (l j).k, .int .i64 (l j).n, .string (l j).s, .slice xa xn xc, .slice ya yn yc]) ∧
              ((∃ z, w''.cell? ⟨H + 1 + 1, j * 5, none⟩ = some z) ∧ (∃ z, w''.cell? ⟨H + 1 + 1, j * 5 + 1, none⟩ = some z) ∧ (∃ z, w''.cell? ⟨H + 1 + 1, j * 5 + 2, none⟩ = some z) ∧ (∃ z, w''.cell? ⟨H + 1 + 1, j * 5 + 3, none⟩ = some z) ∧ (∃ z, w''.cell? ⟨H + 1 + 1, j * 5 + 4, none⟩ = some z)) ∧
              (w''.frozen? ⟨H + 1 + 1, j * 5, none⟩ = false ∧ w''.frozen? ⟨H + 1 + 1, j * 5 + 1, none⟩ = false ∧ w''.frozen? ⟨H + 1 + 1, j * 5 + 2, none⟩ = false ∧ w''.frozen? ⟨H + 1 + 1, j * 5 + 3, none⟩ = false ∧ w''.frozen? ⟨H + 1 + 1, j * 5 + 4, none⟩ = false) ∧
              Hid (Below wr.heap.size wr w'') ∧
              Hid (∃ cs', PB H w (set5 w'' (H + 1 + 1) (j * 5) (.int .i64 (l j).k) (.int .i64 (l j).n) (.string (l j).s) (.slice xa xn xc) (.slice ya yn yc)) (.int .i64 3) (.int .i64 0) (.string { data := #[] }) (.slice (some ⟨H + 1 + 1, 0, none⟩) ln ln) (.slice .none 0 0) ∧ PL (H + 1 + 1) (set5 w'' (H + 1 + 1) (j * 5) (.int .i64 (l j).k) (.int .i64 (l j).n) (.string (l j).s) (.slice xa xn xc) (.slice ya yn yc)) l ln (j + 1) cs')) := by
            intro w' hh h1 h2 h3
            have hbw : Below wr.heap.size wr w' := ⟨h1, h2, h3, by rw [hh]; exact Nat.le_refl _, fun q _ => by rw [hh]⟩
            have hww := hw.trans (hbw.mono (HG.out ▸ hw.size))
            refine (HO.out.1 j _ (fun _ => True) w' (HO.out.2.2.1 j hlt).1 (HO.out.2.2.1 j hlt).2 (RN.move (fun _ _ _ => trivial) hww.size (fun q _ hq => hww.block q (by omega)) _ _ hrn)).mono ?_
            rintro e w2 ⟨X, Y, rfl, hrv, hb2⟩
            obtain ⟨⟨xa, xn, xc, rfl⟩, ⟨ya, yn, yc, rfl⟩⟩ := hrv.slices
            obtain ⟨hP, hE⟩ := hinv.out
            have hb3 : Below wr.heap.size wr w2 := hbw.trans (hb2.mono hbw.size)
            have hsz := hE.2.1
            have hglt := hE.1.lt
            have hblk2 := hE.1.keep (hb3.block _ hglt)
            have ex : ∀ r, r < 5 → ∃ z, w2.cell? ⟨H + 1 + 1, j * 5 + r, none⟩ = some z := fun r hr => ⟨cs[j * 5 + r], by rw [hblk2.cell]; exact Array.getElem?_eq_getElem (by omega)⟩
            obtain ⟨cs', hst⟩ := PL.step hlt hE hb3 hrv (by have := hbw.size; omega)
            refine ⟨xa, xn, xc, ya, yn, yc, rfl, ⟨ex 0 (by omega), ex 1 (by omega), ex 2 (by omega), ex 3 (by omega), ex 4 (by omega)⟩, ⟨hblk2.frozen _, hblk2.frozen _, hblk2.frozen _, hblk2.frozen _, hblk2.frozen _⟩, hb3, cs', ⟨?_, ?_, ?_⟩, hst⟩
            · exact set5_below (hP.1.trans (hb3.mono (HG.out ▸ hP.1.size))) (by omega) _ _ _ _ _ _
            · exact (hP.2.1.keep (hb3.block _ hP.2.1.lt)).keep (set5_block _ _ _ _ _ _ _ _ _ (by omega))
            · exact (hP.2.2.keep (hb3.block _ hP.2.2.lt)).keep (set5_block _ _ _ _ _ _ _ _ _ (by omega))
          have c3d : wr.drew.cell? ⟨H + 1, 3, none⟩ = some (.slice (some ⟨H + 1 + 1, 0, none⟩) ln ln) := c3
          clear hw hle hrn hinv
          go_wp2
          go_region_held3 (fun w' => w'.cell? ⟨H + 1, 3, none⟩ = some (.slice (some ⟨H + 1 + 1, 0, none⟩) ln ln))
            (first | (with_reducible exact c3) | (with_reducible exact c3d) | (with_reducible exact Below.cellS hq.out (Nat.le_refl _) c3) | (exact cell_set_ne (cell_set_ne (cell_set_ne (cell_set_ne (cell_set_ne (Below.cellS hq.out (Nat.le_refl _) c3) hne) hne) hne) hne) hne))
            (first | (go_at_call 32; refine (HC.out wr.drew rfl rfl rfl rfl).mono ?_; rintro e wq ⟨xa, xn, xc, ya, yn, yc, rfl, ⟨⟨z0, e0⟩, ⟨z1, e1⟩, ⟨z2, e2⟩, ⟨z3, e3⟩, ⟨z4, e4⟩⟩, ⟨f0, f1, f2, f3, f4⟩, hq, HN2⟩))
          clear HC c3 c3d hq e0 e1 e2 e3 e4 f0 f1 f2 f3 f4 hu
          go_wp2
          go_roundw
          case rel => exact ⟨j + 1, _, by omega, by go_num, HN2.out.choose_spec⟩
          case measure => simp [intOf]; omega
        · obtain rfl : j = ln := by omega
          obtain ⟨q0, q1, q2, q3, q4⟩ := hinv.out.1.2.2.cells
          obtain ⟨r0, r1, r2, r3, r4⟩ := hinv.out.1.2.1.cells
          have z0 := hinv.out.1.2.1.frozen 0
          have z1 := hinv.out.1.2.1.frozen 1
          have z2 := hinv.out.1.2.1.frozen 2
          have z3 := hinv.out.1.2.1.frozen 3
          have z4 := hinv.out.1.2.1.frozen 4
          go_wp2
          refine bodyPost_ret (v := .agg #[.int .i64 3, .int .i64 0, .string { data := #[] }, .slice (some ⟨H + 1 + 1, 0, none⟩) j j, .slice .none 0 0]) (results_cell_row Tryd.results32 _ _ H 27 _ (0, 0) _ rfl (((((hinv.out.1.2.1.set0 _).set1 _).set2 _).set3 _).set4 _) Tryd.underlying27 rfl info25s) rfl ⟨_, _, rfl, ?_, ?_⟩
          · have hbs := besides5 wr H (.int .i64 3) (.int .i64 0) (.string { data := #[] }) (.slice (some ⟨H + 1 + 1, 0, none⟩) j j) (.slice .none 0 0)
            exact ⟨PL.rl hinv.out.2 hbs.size (fun q h1 h2 => hbs.block q h2 (by omega)) (fun q hq => by have := HG.out; omega), ⟨_, _, rfl, .inl rfl⟩⟩
          · have hbs := besides5 wr H (.int .i64 3) (.int .i64 0) (.string { data := #[] }) (.slice (some ⟨H + 1 + 1, 0, none⟩) j j) (.slice .none 0 0)
            have h0 := hinv.out.1.1
            rw [HG.out]
            exact ⟨hbs.os.trans h0.os, hbs.tape.trans h0.tape, hbs.output.trans h0.output, Nat.le_trans h0.size hbs.size, fun q hq => (hbs.block q (by have := h0.size; have := HG.out; omega) (by omega)).trans (h0.block q hq)⟩
    · obtain rfl : n = 0 := o1.resolve_left (by omega)
      obtain rfl : ln = 0 := o3.resolve_left (by omega)
      have hs0 : s = { data := #[] } := empty_of (o2.resolve_left (by omega))
      subst hs0
      clear o1 o2 o3 o4 k1 k4
      obtain ⟨i0, hi, hz0, hz1, hz2⟩ := info_parts info42
      have hmk : ∀ u : World, (Instr.makeSlice 25 (.int .i64 (dn : Int)) (.int .i64 (dn : Int))).run Tryd.prog u =
          .ok (.slice (some ⟨u.heap.size, 0, none⟩) dn dn) (u.alloc (.cells (madeCells #[.string ByteArray.empty, .int .i64 0, .int .i64 0, .string ByteArray.empty, .slice none 0 0, .slice none 0 0] (dn * 6)) 48)) := fun u => by
        have h := run_make (P := Tryd.prog) u 25 48 i0 _ Tryd.underlying25 hi hz0 .i64 .i64 dn dn (by omega) (by omega) (by rw [hz2]; omega) (by omega)
        simpa [hz1, Value.cells] using h
      have HN : Hid (∀ i, i < dn → ∃ u, w.cell? ⟨b, i * 2, none⟩ = some (.string (ky i)) ∧ w.cell? ⟨b, i * 2 + 1, none⟩ = some u ∧ RN S w (dv i) u) := h3
      have HBL : Hid (b < w.heap.size) := h2
      clear h1 h2 h3 hi hz0 hz1 hz2
      have ha := as48_68
      have hb := as48_53
      have hc := as48_70
      have hd := as48_48
      go_enter Tryd.func32, Tryd.ntmps32
      go_wp2
      clear ha hb hc hd
      go_region
      go_wp2
      clear hmk
      have HB0 : Hid (PB w.heap.size w (((w.alloc (Obj.cells #[.int .i64 0, .int .i64 0, .string { data := #[] }, .slice .none 0 0, .slice .none 0 0] 27)).alloc (Obj.cells #[.int .i64 4, .int .i64 0, .string { data := #[] }, .slice .none 0 0, .slice (some ⟨w.heap.size + 1 + 1, 0, none⟩) dn dn] 27)).alloc (Obj.cells (madeCells #[.string ByteArray.empty, .int .i64 0, .int .i64 0, .string ByteArray.empty, .slice .none 0 0, .slice .none 0 0] (dn * 6)) 48)).drew (.int .i64 4) (.int .i64 0) (.string { data := #[] }) (.slice .none 0 0) (.slice (some ⟨w.heap.size + 1 + 1, 0, none⟩) dn dn) ∧
          PD (w.heap.size + 1 + 1) (((w.alloc (Obj.cells #[.int .i64 0, .int .i64 0, .string { data := #[] }, .slice .none 0 0, .slice .none 0 0] 27)).alloc (Obj.cells #[.int .i64 4, .int .i64 0, .string { data := #[] }, .slice .none 0 0, .slice (some ⟨w.heap.size + 1 + 1, 0, none⟩) dn dn] 27)).alloc (Obj.cells (madeCells #[.string ByteArray.empty, .int .i64 0, .int .i64 0, .string ByteArray.empty, .slice .none 0 0, .slice .none 0 0] (dn * 6)) 48)).drew ky dv dn 0 (madeCells #[.string ByteArray.empty, .int .i64 0, .int .i64 0, .string ByteArray.empty, .slice .none 0 0, .slice .none 0 0] (dn * 6))) := by
        refine ⟨⟨((((Below.refl _ _).alloc (Nat.le_refl _) _).alloc (by simp) _).alloc (by simp; omega) _).drew, ?_, ?_⟩, ?_, by rw [size_madeCells], fun i hi => absurd hi (Nat.not_lt_zero _)⟩
        · exact (Below.heap_alloc _ _ _ (by simp; omega)).trans ((Below.heap_alloc _ _ _ (by simp)).trans (heap_new _ _))
        · refine (Below.heap_alloc _ _ _ (by simp)).trans ?_
          have := heap_new (w.alloc (Obj.cells #[.int .i64 0, .int .i64 0, .string { data := #[] }, .slice .none 0 0, .slice .none 0 0] 27)) (Obj.cells #[.int .i64 4, .int .i64 0, .string { data := #[] }, .slice .none 0 0, .slice (some ⟨w.heap.size + 1 + 1, 0, none⟩) dn dn] 27)
          simpa using this
        · have := heap_new ((w.alloc (Obj.cells #[.int .i64 0, .int .i64 0, .string { data := #[] }, .slice .none 0 0, .slice .none 0 0] 27)).alloc (Obj.cells #[.int .i64 4, .int .i64 0, .string { data := #[] }, .slice .none 0 0, .slice (some ⟨w.heap.size + 1 + 1, 0, none⟩) dn dn] 27)) (Obj.cells (madeCells #[.string ByteArray.empty, .int .i64 0, .int .i64 0, .string ByteArray.empty, .slice .none 0 0, .slice .none 0 0] (dn * 6)) 48)
          have e : ((w.alloc (Obj.cells #[.int .i64 0, .int .i64 0, .string { data := #[] }, .slice .none 0 0, .slice .none 0 0] 27)).alloc (Obj.cells #[.int .i64 4, .int .i64 0, .string { data := #[] }, .slice .none 0 0, .slice (some ⟨w.heap.size + 1 + 1, 0, none⟩) dn dn] 27)).heap.size = w.heap.size + 1 + 1 := by simp
          rw [e] at this
          exact this
      generalize (((w.alloc (Obj.cells #[.int .i64 0, .int .i64 0, .string { data := #[] }, .slice .none 0 0, .slice .none 0 0] 27)).alloc (Obj.cells #[.int .i64 4, .int .i64 0, .string { data := #[] }, .slice .none 0 0, .slice (some ⟨w.heap.size + 1 + 1, 0, none⟩) dn dn] 27)).alloc (Obj.cells (madeCells #[.string ByteArray.empty, .int .i64 0, .int .i64 0, .string ByteArray.empty, .slice .none 0 0, .slice .none 0 0] (dn * 6)) 48)).drew = w0 at *
      generalize hg : w.heap.size = H at *
      have HG : Hid (w.heap.size = H) := hg
      clear hg
      go_loopw [58] (fun i wr => ∃ (j : Nat) (cs : Array Value), j ≤ dn ∧ i = .int .i64 j ∧ Hid (PB H w wr (.int .i64 4) (.int .i64 0) (.string { data := #[] }) (.slice .none 0 0) (.slice (some ⟨H + 1 + 1, 0, none⟩) dn dn) ∧ PD (H + 1 + 1) wr ky dv dn j cs)) (fun i _ => dn - (intOf i).toNat)
      case atStart => exact ⟨0, _, Nat.zero_le _, rfl, HB0⟩
      case round =>
        clear HB0
        obtain ⟨j, cs, hj, rfl, hinv⟩ := hrel
        by_cases hlt : j < dn
        · obtain ⟨u, hky, hu, hrn⟩ := HN.out j hlt
          have hw := hinv.out.1.1
          have hle : w.heap.size ≤ H := Nat.le_of_eq HG.out
          replace hu := Below.cellS hw hle hu
          replace hky := Below.cellS hw hle hky
          obtain ⟨ty, uu, rfl⟩ := hrn.iface
          have hne : H + 1 ≠ H + 1 + 1 := by omega
          have j0 : (0 : Int) ≤ (j : Int) := by omega
          have j1 : (j : Int) < (dn : Int) := by omega
          have hX : blk (wr.alloc (Obj.cells #[.string (ky j), .iface ty uu] 66)) wr.heap.size 66 #[.string (ky j), .iface ty uu] := heap_new _ _
          have hA : Below wr.heap.size wr (wr.alloc (Obj.cells #[.string (ky j), .iface ty uu] 66)) := (Below.refl _ _).alloc (Nat.le_refl _) _
          have HP : Hid (PB H w (wr.alloc (Obj.cells #[.string (ky j), .iface ty uu] 66)) (.int .i64 4) (.int .i64 0) (.string { data := #[] }) (.slice .none 0 0) (.slice (some ⟨H + 1 + 1, 0, none⟩) dn dn) ∧ PD (H + 1 + 1) (wr.alloc (Obj.cells #[.string (ky j), .iface ty uu] 66)) ky dv dn j cs) := by
            obtain ⟨hP, hE⟩ := hinv.out
            refine ⟨⟨hP.1.trans (hA.mono (HG.out ▸ hP.1.size)), hP.2.1.keep (hA.block _ hP.2.1.lt), hP.2.2.keep (hA.block _ hP.2.2.lt)⟩, hE.1.keep (hA.block _ hE.1.lt), hE.2.1, fun i hi => ?_⟩
            obtain ⟨X, Y, e1, e2⟩ := hE.2.2 i hi
            exact ⟨X, Y, e1, RV.move (fun b hb _ => hb) hA.size (fun b _ hl => hA.block b hl) _ _ _ e2⟩
          have hxg : wr.heap.size ≠ H + 1 + 1 := by have := hinv.out.2.1.lt; omega
          clear hinv hw hA
          go_wp2
          generalize hxb : wr.heap.size = xb at *
          clear hxb
          generalize wr.alloc (Obj.cells #[.string (ky j), .iface ty uu] 66) = w3 at *
          have hw := HP.out.1.1
          obtain ⟨_, _, _, _, c4⟩ := HP.out.1.2.2.cells
          have k0 : w3.cell? ⟨xb, 0, none⟩ = some (.string (ky j)) := hX.cell 0
          have k1 : w3.cell? ⟨xb, 1, none⟩ = some (.iface ty uu) := hX.cell 1
          have HC : Hid (∀ w', w'.heap = w3.heap → w'.os = w3.os → w'.tape = w3.tape → w'.output = w3.output → Calls Tryd.prog 32 #[.iface ty uu] w' fun e w'' => ∃ xa xn xc ya yn yc, e = .returned (.agg #[.int .i64 (dv j).k, .int .i64 (dv j).n, .string (dv j).s, .slice xa xn xc, .slice ya yn yc]) ∧
              ((∃ z, w''.cell? ⟨H + 1 + 1, j * 6, none⟩ = some z) ∧ (∃ z, w''.cell? ⟨H + 1 + 1, j * 6 + 1, none⟩ = some z) ∧ (∃ z, w''.cell? ⟨H + 1 + 1, j * 6 + 2, none⟩ = some z) ∧ (∃ z, w''.cell? ⟨H + 1 + 1, j * 6 + 3, none⟩ = some z) ∧ (∃ z, w''.cell? ⟨H + 1 + 1, j * 6 + 4, none⟩ = some z) ∧ (∃ z, w''.cell? ⟨H + 1 + 1, j * 6 + 5, none⟩ = some z)) ∧
              (w''.frozen? ⟨H + 1 + 1, j * 6, none⟩ = false ∧ w''.frozen? ⟨H + 1 + 1, j * 6 + 1, none⟩ = false ∧ w''.frozen? ⟨H + 1 + 1, j * 6 + 2, none⟩ = false ∧ w''.frozen? ⟨H + 1 + 1, j * 6 + 3, none⟩ = false ∧ w''.frozen? ⟨H + 1 + 1, j * 6 + 4, none⟩ = false ∧ w''.frozen? ⟨H + 1 + 1, j * 6 + 5, none⟩ = false) ∧
              Hid (Below w3.heap.size w3 w'') ∧
              Hid (∃ cs', PB H w (set6 w'' (H + 1 + 1) (j * 6) (.string (ky j)) (.int .i64 (dv j).k) (.int .i64 (dv j).n) (.string (dv j).s) (.slice xa xn xc) (.slice ya yn yc)) (.int .i64 4) (.int .i64 0) (.string { data := #[] }) (.slice .none 0 0) (.slice (some ⟨H + 1 + 1, 0, none⟩) dn dn) ∧ PD (H + 1 + 1) (set6 w'' (H + 1 + 1) (j * 6) (.string (ky j)) (.int .i64 (dv j).k) (.int .i64 (dv j).n) (.string (dv j).s) (.slice xa xn xc) (.slice ya yn yc)) ky dv dn (j + 1) cs')) := by
            intro w' hh h1 h2 h3
            have hbw : Below w3.heap.size w3 w' := ⟨h1, h2, h3, by rw [hh]; exact Nat.le_refl _, fun q _ => by rw [hh]⟩
            have hww := hw.trans (hbw.mono (HG.out ▸ hw.size))
            refine (HO.out.2.1 j _ (fun _ => True) w' (HO.out.2.2.2 j hlt).1 (HO.out.2.2.2 j hlt).2 (RN.move (fun _ _ _ => trivial) hww.size (fun q _ hq => hww.block q (by omega)) _ _ hrn)).mono ?_
            rintro e w2 ⟨X, Y, rfl, hrv, hb2⟩
            obtain ⟨⟨xa, xn, xc, rfl⟩, ⟨ya, yn, yc, rfl⟩⟩ := hrv.slices
            obtain ⟨hP, hE⟩ := HP.out
            have hb3 : Below w3.heap.size w3 w2 := hbw.trans (hb2.mono hbw.size)
            have hsz := hE.2.1
            have hglt := hE.1.lt
            have hblk2 := hE.1.keep (hb3.block _ hglt)
            have ex : ∀ r, r < 6 → ∃ z, w2.cell? ⟨H + 1 + 1, j * 6 + r, none⟩ = some z := fun r hr => ⟨cs[j * 6 + r], by rw [hblk2.cell]; exact Array.getElem?_eq_getElem (by omega)⟩
            obtain ⟨cs', hst⟩ := PD.step hlt hE hb3 hrv (by have := hbw.size; omega)
            refine ⟨xa, xn, xc, ya, yn, yc, rfl, ⟨ex 0 (by omega), ex 1 (by omega), ex 2 (by omega), ex 3 (by omega), ex 4 (by omega), ex 5 (by omega)⟩, ⟨hblk2.frozen _, hblk2.frozen _, hblk2.frozen _, hblk2.frozen _, hblk2.frozen _, hblk2.frozen _⟩, hb3, cs', ⟨?_, ?_, ?_⟩, hst⟩
            · exact set6_below (hP.1.trans (hb3.mono (HG.out ▸ hP.1.size))) (by omega) _ _ _ _ _ _ _
            · exact (hP.2.1.keep (hb3.block _ hP.2.1.lt)).keep (set6_block _ _ _ _ _ _ _ _ _ _ (by omega))
            · exact (hP.2.2.keep (hb3.block _ hP.2.2.lt)).keep (set6_block _ _ _ _ _ _ _ _ _ _ (by omega))
          have c4d : w3.drew.cell? ⟨H + 1, 4, none⟩ = some (.slice (some ⟨H + 1 + 1, 0, none⟩) dn dn) := c4
          have k0d : w3.drew.cell? ⟨xb, 0, none⟩ = some (.string (ky j)) := k0
          have k1d : w3.drew.cell? ⟨xb, 1, none⟩ = some (.iface ty uu) := k1
          clear hw hle hrn HP hX hky hu
          go_region_held3 (fun w' => w'.cell? ⟨H + 1, 4, none⟩ = some (.slice (some ⟨H + 1 + 1, 0, none⟩) dn dn) ∧ w'.cell? ⟨xb, 0, none⟩ = some (.string (ky j)) ∧ w'.cell? ⟨xb, 1, none⟩ = some (.iface ty uu))
            (first | (with_reducible exact ⟨c4, k0, k1⟩) | (with_reducible exact ⟨c4d, k0d, k1d⟩) | (with_reducible exact ⟨Below.cellS hq.out (Nat.le_refl _) c4, Below.cellS hq.out (Nat.le_refl _) k0, Below.cellS hq.out (Nat.le_refl _) k1⟩) | (exact ⟨cell_set_ne (cell_set_ne (cell_set_ne (cell_set_ne (cell_set_ne (cell_set_ne (Below.cellS hq.out (Nat.le_refl _) c4) hne) hne) hne) hne) hne) hne, cell_set_ne (cell_set_ne (cell_set_ne (cell_set_ne (cell_set_ne (cell_set_ne (Below.cellS hq.out (Nat.le_refl _) k0) hxg) hxg) hxg) hxg) hxg) hxg, cell_set_ne (cell_set_ne (cell_set_ne (cell_set_ne (cell_set_ne (cell_set_ne (Below.cellS hq.out (Nat.le_refl _) k1) hxg) hxg) hxg) hxg) hxg) hxg⟩))
            (first | (go_at_call 32; refine (HC.out w3.drew rfl rfl rfl rfl).mono ?_; rintro e wq ⟨xa, xn, xc, ya, yn, yc, rfl, ⟨⟨z0, e0⟩, ⟨z1, e1⟩, ⟨z2, e2⟩, ⟨z3, e3⟩, ⟨z4, e4⟩, ⟨z5, e5⟩⟩, ⟨f0, f1, f2, f3, f4, f5⟩, hq, HN2⟩))
          clear HC c4 c4d k0 k1 k0d k1d hq e0 e1 e2 e3 e4 e5 f0 f1 f2 f3 f4 f5
          go_wp2
          go_roundw
          case rel => exact ⟨j + 1, _, by omega, by go_num, HN2.out.choose_spec⟩
          case measure => simp [intOf]; omega
        · obtain rfl : j = dn := by omega
          obtain ⟨q0, q1, q2, q3, q4⟩ := hinv.out.1.2.2.cells
          obtain ⟨r0, r1, r2, r3, r4⟩ := hinv.out.1.2.1.cells
          have z0 := hinv.out.1.2.1.frozen 0
          have z1 := hinv.out.1.2.1.frozen 1
          have z2 := hinv.out.1.2.1.frozen 2
          have z3 := hinv.out.1.2.1.frozen 3
          have z4 := hinv.out.1.2.1.frozen 4
          go_wp2
          refine bodyPost_ret (v := .agg #[.int .i64 4, .int .i64 0, .string { data := #[] }, .slice .none 0 0, .slice (some ⟨H + 1 + 1, 0, none⟩) j j]) (results_cell_row Tryd.results32 _ _ H 27 _ (0, 0) _ rfl (((((hinv.out.1.2.1.set0 _).set1 _).set2 _).set3 _).set4 _) Tryd.underlying27 rfl info25s) rfl ⟨_, _, rfl, ?_, ?_⟩
          · have hbs := besides5 wr H (.int .i64 4) (.int .i64 0) (.string { data := #[] }) (.slice .none 0 0) (.slice (some ⟨H + 1 + 1, 0, none⟩) j j)
            exact ⟨⟨_, _, rfl, .inl rfl⟩, PD.rd hinv.out.2 hbs.size (fun q h1 h2 => hbs.block q h2 (by omega)) (fun q hq => by have := HG.out; omega)⟩
          · have hbs := besides5 wr H (.int .i64 4) (.int .i64 0) (.string { data := #[] }) (.slice .none 0 0) (.slice (some ⟨H + 1 + 1, 0, none⟩) j j)
            have h0 := hinv.out.1.1
            rw [HG.out]
            exact ⟨hbs.os.trans h0.os, hbs.tape.trans h0.tape, hbs.output.trans h0.output, Nat.le_trans h0.size hbs.size, fun q hq => (hbs.block q (by have := h0.size; have := HG.out; omega) (by omega)).trans (h0.block q hq)⟩
set_option maxHeartbeats 4000000 in
theorem dictOf24s (ln : Nat) (ky : Nat → ByteArray) (l : Nat → T) (x : Value) (w : World) (ih : ∀ i, NC (l i)) (hs : ln ≤ 2147483647) (ok4 : ∀ i, i < ln → (l i).ok ∧ (l i).small ∧ VT (l i)) (hL : RD (fun _ => True) w ln ky l x) :
    Calls Tryd.prog 29 #[x] w fun e w' => ∃ c, e = .returned (.slice (some ⟨w.heap.size, 0, none⟩) ln c) ∧ (∀ i, i < ln → ∃ u, w'.cell? ⟨w.heap.size, i * 2, none⟩ = some (.string (ky i)) ∧ w'.cell? ⟨w.heap.size, i * 2 + 1, none⟩ = some u ∧ RN (fun b => w.heap.size < b) w' (l i) u) ∧ w.heap.size < w'.heap.size ∧ Below w.heap.size w w' ∧ c = ln ∧ ∃ cs, blk w' w.heap.size 66 cs ∧ cs.size = ln * 2 := by
  obtain ⟨a, ca, rfl, hL⟩ := hL
  obtain ⟨i0, hi, hz0, hz1, hz2⟩ := info_parts info57
  have hmk : ∀ u : World, (Instr.makeSlice 59 (.int .i64 (ln : Int)) (.int .i64 (ln : Int))).run Tryd.prog u =
      .ok (.slice (some ⟨u.heap.size, 0, none⟩) ln ln) (u.alloc (.cells (madeCells #[.string ByteArray.empty, .nilIface] (ln * 2)) 66)) := fun u => by
    have h := run_make (P := Tryd.prog) u 59 66 i0 (.agg #[.string ByteArray.empty, .nilIface]) Tryd.underlying59 hi hz0 .i64 .i64 ln ln (by omega) (by omega) (by rw [hz2]; omega) (by omega)
    simpa [hz1, Value.cells] using h
  have HI : Hid ((∀ i, NC (l i)) ∧ (∀ i, i < ln → (l i).ok ∧ (l i).small ∧ VT (l i)) ∧ (ln = 0 ∨ ∃ b o, a = some ⟨b, o, none⟩ ∧ True ∧ b < w.heap.size ∧ ∀ i, i < ln → ∃ x' y', RV (fun _ => True) w (l i) x' y' ∧ w.cell? ⟨b, o + i * 6, none⟩ = some (.string (ky i)) ∧ five w b (o + i * 6 + 1) (l i) x' y')) := ⟨ih, ok4, hL⟩
  clear ih ok4 hL hi hz0 hz1 hz2
  go_enter Tryd.func29, Tryd.ntmps29
  go_wp2
  clear hmk
  have HB0 : Hid (Below w.heap.size w (w.alloc (.cells (madeCells #[.string ByteArray.empty, .nilIface] (ln * 2)) 66)) ∧ EInv w.heap.size (w.alloc (.cells (madeCells #[.string ByteArray.empty, .nilIface] (ln * 2)) 66)) ky l ln 0 (madeCells #[.string ByteArray.empty, .nilIface] (ln * 2))) :=
    ⟨(Below.refl _ _).alloc (Nat.le_refl _) _, heap_new _ _, by rw [size_madeCells], fun i hi => absurd hi (Nat.not_lt_zero _)⟩
  generalize w.alloc (.cells (madeCells #[.string ByteArray.empty, .nilIface] (ln * 2)) 66) = w0 at *
  generalize hg : w.heap.size = g at *
  have HG : Hid (w.heap.size = g) := hg
  clear hg
  go_loopw [11] (fun i wr => ∃ (j : Nat) (cs : Array Value), j ≤ ln ∧ i = .int .i64 j ∧ Hid (Below g w wr ∧ EInv g wr ky l ln j cs)) (fun i _ => ln - (intOf i).toNat)
  case atStart => exact ⟨0, _, Nat.zero_le _, rfl, HB0⟩
  case round =>
    obtain ⟨j, cs, hj, rfl, hinv⟩ := hrel
    by_cases hlt : j < ln
    · obtain ⟨il, ok4, hL⟩ := HI.out
      rcases hL with h | ⟨b, o, rfl, _, hbl, hL⟩
      · omega
      obtain ⟨x1, y1, hv, g0, g1, g2, g3, g4, g5⟩ := hL j hlt
      have hw := hinv.out.1
      have hle : w.heap.size ≤ g := Nat.le_of_eq HG.out
      replace g0 := Below.cellS hw hle g0
      replace g1 := Below.cellS hw hle g1
      replace g2 := Below.cellS hw hle g2
      replace g3 := Below.cellS hw hle g3
      replace g4 := Below.cellS hw hle g4
      replace g5 := Below.cellS hw hle g5
      obtain ⟨⟨xa, xn, xc, rfl⟩, ⟨ya, yn, yc, rfl⟩⟩ := hv.slices
      have HA : Hid (Below wr.heap.size wr (wr.alloc (Obj.cells #[.string (ky j), .int .i64 (l j).k, .int .i64 (l j).n, .string (l j).s, .slice xa xn xc, .slice ya yn yc] 48))) := (Below.refl _ _).alloc (Nat.le_refl _) _
      have hX : blk (wr.alloc (Obj.cells #[.string (ky j), .int .i64 (l j).k, .int .i64 (l j).n, .string (l j).s, .slice xa xn xc, .slice ya yn yc] 48)) wr.heap.size 48 #[.string (ky j), .int .i64 (l j).k, .int .i64 (l j).n, .string (l j).s, .slice xa xn xc, .slice ya yn yc] := heap_new _ _
      have HV : Hid (NC (l j) ∧ (l j).ok ∧ (l j).small ∧ VT (l j) ∧ RV (fun _ => True) wr (l j) (.slice xa xn xc) (.slice ya yn yc)) := ⟨il j, (ok4 j hlt).1, (ok4 j hlt).2.1, (ok4 j hlt).2.2, Below.rv hw hle hv⟩
      clear il ok4 hL hv hbl hw hle
      go_wp2
      have hxg : wr.heap.size ≠ g := by have := hinv.out.2.1.lt; omega
      generalize hxb : wr.heap.size = xb at *
      have HX : Hid (wr.heap.size = xb) := hxb
      clear hxb
      generalize (wr.alloc (Obj.cells #[.string (ky j), .int .i64 (l j).k, .int .i64 (l j).n, .string (l j).s, .slice xa xn xc, .slice ya yn yc] 48)) = w3 at *
      have k0 : w3.cell? ⟨xb, 0, none⟩ = some (.string (ky j)) := hX.cell 0
      have k1 : w3.cell? ⟨xb, 1, none⟩ = some (.int .i64 (l j).k) := hX.cell 1
      have k2 : w3.cell? ⟨xb, 2, none⟩ = some (.int .i64 (l j).n) := hX.cell 2
      have k3 : w3.cell? ⟨xb, 3, none⟩ = some (.string (l j).s) := hX.cell 3
      have k4 : w3.cell? ⟨xb, 4, none⟩ = some (.slice xa xn xc) := hX.cell 4
      have k5 : w3.cell? ⟨xb, 5, none⟩ = some (.slice ya yn yc) := hX.cell 5
      have j0 : (0 : Int) ≤ (j : Int) := by omega
      have j1 : (j : Int) < (ln : Int) := by omega
      have HC : Hid (∀ w', w'.heap = w3.heap → w'.os = w3.os → w'.tape = w3.tape → w'.output = w3.output → Calls Tryd.prog 27 #[vv (l j) (.slice xa xn xc) (.slice ya yn yc)] w' fun e w'' => ∃ ty uu, e = .returned (.iface ty uu) ∧ (∃ z, w''.cell? ⟨g, j * 2, none⟩ = some z) ∧ (∃ z, w''.cell? ⟨g, j * 2 + 1, none⟩ = some z) ∧ w''.frozen? ⟨g, j * 2, none⟩ = false ∧ w''.frozen? ⟨g, j * 2 + 1, none⟩ = false ∧ Hid (Below w3.heap.size w3 w'') ∧
          Hid (∃ cs', Below g w ((w''.setCell ⟨g, j * 2, none⟩ (.string (ky j))).setCell ⟨g, j * 2 + 1, none⟩ (.iface ty uu)) ∧ EInv g ((w''.setCell ⟨g, j * 2, none⟩ (.string (ky j))).setCell ⟨g, j * 2 + 1, none⟩ (.iface ty uu)) ky l ln (j + 1) cs')) := by
        intro w' hh h1 h2 h3
        have hbw : Below w3.heap.size w3 w' := ⟨h1, h2, h3, by rw [hh]; exact Nat.le_refl _, fun q _ => by rw [hh]⟩
        have hA3 : Below xb wr w' := HA.out.trans (hbw.mono (HX.out ▸ HA.out.size))
        refine (HV.out.1 _ _ w' HV.out.2.1 HV.out.2.2.1 HV.out.2.2.2.1 (Below.rv hA3 (Nat.le_of_eq HX.out) HV.out.2.2.2.2)).mono ?_
        rintro e w2 ⟨u, rfl, hrn, hb2, _⟩
        obtain ⟨ty, uu, rfl⟩ := hrn.iface
        obtain ⟨hbg, hE⟩ := hinv.out
        have hsz := hE.2.1
        have hglt := hE.1.lt
        have hb3 : Below wr.heap.size wr w2 := (HX.out ▸ hA3).trans (hb2.mono (HX.out ▸ hA3.size))
        have hblk2 := hE.1.keep (hb3.block _ hglt)
        refine ⟨ty, uu, rfl, ⟨cs[j * 2], by rw [hblk2.cell]; exact Array.getElem?_eq_getElem (by omega)⟩, ⟨cs[j * 2 + 1], by rw [hblk2.cell]; exact Array.getElem?_eq_getElem (by omega)⟩, hblk2.frozen _, hblk2.frozen _, hbw.trans (hb2.mono hbw.size), _, EInv.step hlt hbg hE hb3 hrn (by have := hA3.size; have := HX.out; omega)⟩
      clear HV HA hinv hX g0 g1 g2 g3 g4 g5
      go_region_held3 (fun w' => w'.cell? ⟨xb, 0, none⟩ = some (.string (ky j)) ∧ w'.cell? ⟨xb, 1, none⟩ = some (.int .i64 (l j).k) ∧ w'.cell? ⟨xb, 2, none⟩ = some (.int .i64 (l j).n) ∧ w'.cell? ⟨xb, 3, none⟩ = some (.string (l j).s) ∧ w'.cell? ⟨xb, 4, none⟩ = some (.slice xa xn xc) ∧ w'.cell? ⟨xb, 5, none⟩ = some (.slice ya yn yc))
        (first | (exact ⟨k0, k1, k2, k3, k4, k5⟩) | (exact ⟨Below.cellS hq.out (Nat.le_refl _) k0, Below.cellS hq.out (Nat.le_refl _) k1, Below.cellS hq.out (Nat.le_refl _) k2, Below.cellS hq.out (Nat.le_refl _) k3, Below.cellS hq.out (Nat.le_refl _) k4, Below.cellS hq.out (Nat.le_refl _) k5⟩) | (exact ⟨cell_set_ne (cell_set_ne (Below.cellS hq.out (Nat.le_refl _) k0) hxg) hxg, cell_set_ne (cell_set_ne (Below.cellS hq.out (Nat.le_refl _) k1) hxg) hxg, cell_set_ne (cell_set_ne (Below.cellS hq.out (Nat.le_refl _) k2) hxg) hxg, cell_set_ne (cell_set_ne (Below.cellS hq.out (Nat.le_refl _) k3) hxg) hxg, cell_set_ne (cell_set_ne (Below.cellS hq.out (Nat.le_refl _) k4) hxg) hxg, cell_set_ne (cell_set_ne (Below.cellS hq.out (Nat.le_refl _) k5) hxg) hxg⟩))
        (first | (go_at_call 27; refine (HC.out w3.drew rfl rfl rfl rfl).mono ?_; rintro e wq ⟨ty, uu, rfl, ⟨z0, cj0⟩, ⟨z1, cj1⟩, fj0, fj1, hq, HN⟩))
      clear k0 k1 k2 k3 k4 k5 HC cj0 cj1 fj0 fj1 hq
      go_wp2
      go_roundw
      case rel => exact ⟨j + 1, _, by omega, by go_num, HN.out.choose_spec⟩
      case measure => simp [intOf]; omega
    · obtain rfl : j = ln := by omega
      go_wp2
      go_ret
      obtain ⟨hbw, hblk, hsz, hel⟩ := hinv.out
      refine ⟨j, by rw [HG.out]; rfl, fun i hi => ?_, HG.out ▸ hblk.lt, HG.out ▸ hbw, rfl, cs, HG.out ▸ hblk, hsz⟩
      obtain ⟨u, q0, q1, q2⟩ := hel i hi
      exact ⟨u, by rw [HG.out, hblk.cell]; exact q0, by rw [HG.out, hblk.cell]; exact q1, RN.move (fun b hb _ => by have := HG.out; omega) (Nat.le_refl _) (fun _ _ _ => rfl) _ _ q2⟩
end Go.Proofs.YtegdlkbilgkfoaaDoor
namespace Go.Proofs.YtegdlkbilgkfoaaDoor
open Go.RowKit Go.Deep
set_option maxRecDepth 20000
/-- the pair itself: six cells -/
def pp (s : ByteArray) (t : T) (x y : Value) : Value := .agg #[.string s, .int .i64 t.k, .int .i64 t.n, .string t.s, x, y]
def cmpB (a b : ByteArray) : Int := Lib.compareBytes a.data.toList b.data.toList
theorem less_trans : ∀ x y z : List UInt8, Op.bytesLess x y = true → Op.bytesLess y z = true → Op.bytesLess x z = true
  | _, [], _ => by intro h; simp [Op.bytesLess] at h
  | _, _ :: _, [] => by intro _ h; simp [Op.bytesLess] at h
  | [], _ :: _, _ :: _ => by intro _ _; rfl
  | a :: x, b :: y, c :: z => by
    intro h1 h2
    have ih := less_trans x y z
    simp only [Op.bytesLess, Bool.or_eq_true, decide_eq_true_eq, Bool.and_eq_true, beq_iff_eq] at h1 h2 ⊢
    rcases h1 with h1 | ⟨rfl, h1⟩
    · rcases h2 with h2 | ⟨rfl, h2⟩
      · exact .inl (UInt8.lt_trans h1 h2)
      · exact .inl h1
    · rcases h2 with h2 | ⟨rfl, h2⟩
      · exact .inl h2
      · exact .inr ⟨rfl, ih h1 h2⟩
theorem cmp_less : ∀ x y : List UInt8, (Lib.compareBytes x y < 0 ↔ Op.bytesLess x y = true) ∧ (Lib.compareBytes x y = 0 ↔ x = y)
  | [], [] => by simp [Lib.compareBytes, Op.bytesLess]
  | [], b :: y => by simp [Lib.compareBytes, Op.bytesLess]
  | a :: x, [] => by simp [Lib.compareBytes, Op.bytesLess]
  | a :: x, b :: y => by
    have ih := cmp_less x y
    unfold Lib.compareBytes
    simp only [Op.bytesLess]
    rcases Nat.lt_trichotomy a.toNat b.toNat with h | h | h
    · have h1 : a < b := UInt8.lt_iff_toNat_lt.2 h
      have h3 : ¬ a = b := fun hc => by subst hc; omega
      simp [h1, h3]
    · have h1 : a = b := UInt8.toNat_inj.1 h
      subst h1
      have h2 : ¬ (a < a) := fun hc => by have := UInt8.lt_iff_toNat_lt.1 hc; omega
      simp only [h2, if_false, decide_false, Bool.false_or, beq_self_eq_true, Bool.true_and, List.cons.injEq, true_and]
      exact ih
    · have h1 : b < a := UInt8.lt_iff_toNat_lt.2 h
      have h2 : ¬ a < b := fun hc => by have := UInt8.lt_iff_toNat_lt.1 hc; omega
      have h3 : ¬ a = b := fun hc => by subst hc; omega
      simp [h1, h2, h3]
theorem cmpB_lt (a b : ByteArray) : cmpB a b < 0 ↔ Op.bytesLess a.toList b.toList = true := by unfold cmpB; rw [ByteArray.toList_eq, ByteArray.toList_eq]; exact (cmp_less _ _).1
theorem cmpB_eq (a b : ByteArray) : cmpB a b = 0 ↔ a.toList = b.toList := by unfold cmpB; rw [ByteArray.toList_eq, ByteArray.toList_eq]; exact (cmp_less _ _).2
/-- the keys rise -/
def Rise (ky : Nat → ByteArray) (dn : Nat) : Prop := ∀ p q, p < q → q < dn → Op.bytesLess (ky p).toList (ky q).toList = true
theorem rise_of_good {ky : Nat → ByteArray} {dn : Nat} (h : ∀ i, i < dn → keyBad ky i = false) : Rise ky dn := by
  have one : ∀ p, p + 1 < dn → Op.bytesLess (ky p).toList (ky (p + 1)).toList = true := fun p hp => by
    have h1 := h (p + 1) hp
    have h2 := bytes_tri (ky (p + 1)).toList (ky p).toList
    rw [show (Op.bytesLess (ky (p + 1)).toList (ky p).toList || (ky (p + 1)).toList == (ky p).toList) = false from h1] at h2
    simpa using h2
  intro p q hpq
  induction q with
  | zero => omega
  | succ q ih =>
    intro hq
    by_cases e : p = q
    · subst e; exact one p hq
    · exact less_trans _ _ _ (ih (by omega) (by omega)) (one q hq)
/-- where a key stands among the others, or would stand -/
def At (ky : Nat → ByteArray) (dn : Nat) (key : ByteArray) (at' : Nat) : Prop :=
  at' ≤ dn ∧ (∀ p, p < at' → Op.bytesLess (ky p).toList key.toList = true) ∧ (∀ p, at' ≤ p → p < dn → Op.bytesLess (ky p).toList key.toList = false)
theorem at_low {ky : Nat → ByteArray} {dn h : Nat} {key : ByteArray} (hr : Rise ky dn) (hh : h < dn) (hl : Op.bytesLess (ky h).toList key.toList = true) : ∀ p, p < h + 1 → Op.bytesLess (ky p).toList key.toList = true := by
  intro p hp
  by_cases e : p = h
  · subst e; exact hl
  · exact less_trans _ _ _ (hr p h (by omega) hh) hl
theorem at_high {ky : Nat → ByteArray} {dn h : Nat} {key : ByteArray} (hr : Rise ky dn) (hl : Op.bytesLess (ky h).toList key.toList = false) : ∀ p, h ≤ p → p < dn → Op.bytesLess (ky p).toList key.toList = false := by
  intro p hp hpd
  by_cases e : p = h
  · subst e; exact hl
  · cases hc : Op.bytesLess (ky p).toList key.toList with
    | false => rfl
    | true => rw [less_trans _ _ _ (hr h p (by omega) hpd) hc] at hl; cases hl
set_option maxHeartbeats 400000 in
theorem comp40 (a b : ByteArray) (w : World) :
    Calls Tryd.prog 60 #[.string a, .string b] w fun e w' => e = .returned (.int .i64 (cmpB a b)) ∧ w' = w := by
  go_enter Tryd.func60, Tryd.ntmps60
  go_wp2_with fail
  rw [run_callFunc_extern Tryd.func69 (by kernel_rfl) (by kernel_rfl) (by kernel_rfl) (e := Extern.BytealgCompare.compare) (by kernel_rfl), Lib.run_compareString]
  simp only [Result.andThen]
  rw [Oper.upon_value]
  go_wp2
  go_ret
  exact ⟨rfl, rfl⟩
set_option maxHeartbeats 400000 in
theorem comp36 (a b : ByteArray) (w : World) :
    Calls Tryd.prog 44 #[.string a, .string b] w fun e w' => e = .returned (.int .i64 (cmpB a b)) ∧ w' = w := by
  go_enter Tryd.func44, Tryd.ntmps44
  go_wp2_with fail
  refine (comp40 a b w).mono ?_
  rintro e w' ⟨rfl, rfl⟩
  go_wp2
  go_ret
  exact ⟨rfl, rfl⟩
set_option maxHeartbeats 400000 in
theorem lit35 (s key : ByteArray) (t : T) (x y : Value) (w : World) :
    Calls Tryd.prog 43 #[pp s t x y, .string key] w fun e w' => e = .returned (.int .i64 (cmpB s key)) ∧ Below w.heap.size w w' := by
  unfold pp
  go_enter Tryd.func43, Tryd.ntmps43
  go_wp2_with fail
  refine (comp36 s key _).mono ?_
  rintro e w' ⟨rfl, rfl⟩
  go_wp2
  go_ret
  exact ⟨rfl, (Below.refl _ _).alloc (Nat.le_refl _) _⟩
set_option maxHeartbeats 2000000 in
theorem bs34 (dn : Nat) (ky : Nat → ByteArray) (dv : Nat → T) (y : Value) (key : ByteArray) (w : World) (hr : RD (fun _ => True) w dn ky dv y) (hri : Rise ky dn) (hdn : dn ≤ 140737488351232) :
    Calls Tryd.prog 42 #[y, .string key, .func (Fn.func 43) #[] #[]] w fun e w' => ∃ (at' : Nat) (f : Bool), e = .returned (.tuple #[.int .i64 at', .bool f]) ∧ At ky dn key at' ∧ (f = true ↔ at' < dn ∧ (ky at').toList = key.toList) ∧ Below w.heap.size w w' := by
  obtain ⟨a, ca, rfl, hD⟩ := hr
  have HD : Hid (dn = 0 ∨ ∃ b o, a = some ⟨b, o, none⟩ ∧ True ∧ b < w.heap.size ∧ ∀ i, i < dn → ∃ x' y', RV (fun _ => True) w (dv i) x' y' ∧ w.cell? ⟨b, o + i * 6, none⟩ = some (.string (ky i)) ∧ five w b (o + i * 6 + 1) (dv i) x' y') := hD
  have HR : Hid (Rise ky dn) := hri
  clear hD hri
  go_enter Tryd.func42, Tryd.ntmps42
  go_wp2
  go_loopw [9, 10] (fun i j wr => ∃ lo hi : Nat, lo ≤ hi ∧ hi ≤ dn ∧ i = .int .i64 lo ∧ j = .int .i64 hi ∧ Hid ((∀ p, p < lo → Op.bytesLess (ky p).toList key.toList = true) ∧ (∀ p, hi ≤ p → p < dn → Op.bytesLess (ky p).toList key.toList = false) ∧ Below w.heap.size w wr)) (fun i j _ => (intOf j - intOf i).toNat)
  case atStart => exact ⟨0, dn, Nat.zero_le _, Nat.le_refl _, rfl, rfl, fun p hp => absurd hp (Nat.not_lt_zero _), fun p h1 h2 => absurd h2 (by omega), Below.refl _ _⟩
  case round =>
    obtain ⟨lo, hi, h1, h2, rfl, rfl, hinv⟩ := hrel
    by_cases hlt : lo < hi
    · rcases HD.out with h | ⟨b, o, rfl, _, hbl, hD⟩
      · omega
      obtain ⟨m, hm⟩ : ∃ m, m = (lo + hi) / 2 := ⟨_, rfl⟩
      have hm1 : m < dn := by omega
      obtain ⟨x1, y1, hv, g0, g1, g2, g3, g4, g5⟩ := hD m hm1
      have hle : w.heap.size ≤ w.heap.size := Nat.le_refl _
      have hw := hinv.out.2.2
      replace g0 := Below.cellS hw hle g0
      replace g1 := Below.cellS hw hle g1
      replace g2 := Below.cellS hw hle g2
      replace g3 := Below.cellS hw hle g3
      replace g4 := Below.cellS hw hle g4
      replace g5 := Below.cellS hw hle g5
      have hmI : ((lo : Int) + (hi : Int)) / 2 = (m : Int) := by omega
      have hm2 : lo ≤ m := by omega
      have hm3 : m < hi := by omega
      have HB : Hid (Below w.heap.size w wr) := hw
      clear hD hv hbl hle hw hm
      go_wp2_with fail
      refine (lit35 (ky m) key (dv m) x1 y1 wr).mono ?_
      rintro e w1 ⟨rfl, hb1⟩
      have HB1 : Hid (Below w.heap.size w w1) := HB.out.trans (hb1.mono HB.out.size)
      clear g0 g1 g2 g3 g4 g5 hb1 HB
      by_cases hl : cmpB (ky m) key < 0
      · have HT : Hid (Op.bytesLess (ky m).toList key.toList = true) := (cmpB_lt _ _).1 hl
        generalize cmpB (ky m) key = q at *
        go_wp2
        go_roundw
        case rel => exact ⟨m + 1, hi, by omega, h2, by go_num, rfl, at_low HR.out hm1 HT.out, hinv.out.2.1, HB1.out⟩
        case measure => simp [intOf]; omega
      · have HT : Hid (Op.bytesLess (ky m).toList key.toList = false) := by
          show _ = false
          cases hc : Op.bytesLess (ky m).toList key.toList with
          | false => rfl
          | true => exact absurd ((cmpB_lt _ _).2 hc) hl
        generalize cmpB (ky m) key = q at *
        go_wp2
        go_roundw
        case rel => exact ⟨lo, m, hm2, by omega, rfl, rfl, hinv.out.1, at_high HR.out HT.out, HB1.out⟩
        case measure => simp [intOf]; omega
    · obtain rfl : lo = hi := by omega
      by_cases hlo : lo < dn
      · rcases HD.out with h | ⟨b, o, rfl, _, hbl, hD⟩
        · omega
        obtain ⟨x1, y1, hv, g0, g1, g2, g3, g4, g5⟩ := hD lo hlo
        have hle : w.heap.size ≤ w.heap.size := Nat.le_refl _
        have hw := hinv.out.2.2
        replace g0 := Below.cellS hw hle g0
        replace g1 := Below.cellS hw hle g1
        replace g2 := Below.cellS hw hle g2
        replace g3 := Below.cellS hw hle g3
        replace g4 := Below.cellS hw hle g4
        replace g5 := Below.cellS hw hle g5
        have HB : Hid (Below w.heap.size w wr) := hw
        clear hD hv hbl hle hw
        go_wp2_with fail
        refine (lit35 (ky lo) key (dv lo) x1 y1 wr).mono ?_
        rintro e w1 ⟨rfl, hb1⟩
        have HB1 : Hid (Below w.heap.size w w1) := HB.out.trans (hb1.mono HB.out.size)
        have HT : Hid (cmpB (ky lo) key = 0 ↔ (ky lo).toList = key.toList) := cmpB_eq _ _
        clear g0 g1 g2 g3 g4 g5 hb1 HB
        generalize cmpB (ky lo) key = q at *
        go_wp2
        go_ret2
        refine ⟨lo, _, rfl, ⟨by omega, hinv.out.1, hinv.out.2.1⟩, ?_, HB1.out⟩
        rw [← HT.out]
        simp [hlo]
      · go_wp2
        go_ret2
        exact ⟨lo, false, rfl, ⟨by omega, hinv.out.1, hinv.out.2.1⟩, by simp; omega, hinv.out.2.2⟩
set_option maxHeartbeats 400000 in
theorem search25 (dn : Nat) (ky : Nat → ByteArray) (dv : Nat → T) (y : Value) (key : ByteArray) (w : World) (hr : RD (fun _ => True) w dn ky dv y) (hri : Rise ky dn) (hdn : dn ≤ 140737488351232) :
    Calls Tryd.prog 30 #[y, .string key] w fun e w' => ∃ (at' : Nat) (f : Bool), e = .returned (.tuple #[.int .i64 at', .bool f]) ∧ At ky dn key at' ∧ (f = true ↔ at' < dn ∧ (ky at').toList = key.toList) ∧ Below w.heap.size w w' := by
  have H1 : Hid (RD (fun _ => True) w dn ky dv y) := hr
  have H2 : Hid (Rise ky dn) := hri
  clear hr hri
  go_enter Tryd.func30, Tryd.ntmps30
  go_wp2_with fail
  refine (bs34 dn ky dv y key w H1.out H2.out hdn).mono ?_
  rintro e w1 ⟨at', f, rfl, h1, h2, h3⟩
  have HH : Hid (At ky dn key at' ∧ (f = true ↔ at' < dn ∧ (ky at').toList = key.toList) ∧ Below w.heap.size w w1) := ⟨h1, h2, h3⟩
  clear h1 h2 h3 H1 H2
  go_wp2
  go_ret2
  exact ⟨at', f, rfl, HH.out⟩
end Go.Proofs.YtegdlkbilgkfoaaDoor
namespace Go.Proofs.YtegdlkbilgkfoaaDoor
open Go.RowKit Go.Deep
set_option maxRecDepth 20000
/-- the keys and the values of a dictionary with one pair set -/
def nk (ky : Nat → ByteArray) (key : ByteArray) (at' : Nat) (f : Bool) : Nat → ByteArray := fun i => if i < at' then ky i else if i = at' then key else if f = true then ky i else ky (i - 1)
def nv (dv : Nat → T) (x : T) (at' : Nat) (f : Bool) : Nat → T := fun i => if i < at' then dv i else if i = at' then x else if f = true then dv i else dv (i - 1)
def nn (dn : Nat) (f : Bool) : Nat := if f = true then dn else dn + 1
def withT (dn : Nat) (ky : Nat → ByteArray) (dv : Nat → T) (key : ByteArray) (x : T) (at' : Nat) (f : Bool) : T :=
  .mk 4 0 { data := #[] } 0 (fun _ => .no) (nn dn f) (nk ky key at' f) (nv dv x at' f)
theorem nk_lt {ky : Nat → ByteArray} {key : ByteArray} {at' i : Nat} {f : Bool} (h : i < at') : nk ky key at' f i = ky i := if_pos h
theorem nk_at {ky : Nat → ByteArray} {key : ByteArray} {at' : Nat} {f : Bool} : nk ky key at' f at' = key := by unfold nk; rw [if_neg (by omega), if_pos rfl]
theorem nk_gt {ky : Nat → ByteArray} {key : ByteArray} {at' i : Nat} {f : Bool} (h : at' < i) : nk ky key at' f i = if f = true then ky i else ky (i - 1) := by unfold nk; rw [if_neg (by omega), if_neg (by omega)]
theorem nv_lt {dv : Nat → T} {x : T} {at' i : Nat} {f : Bool} (h : i < at') : nv dv x at' f i = dv i := if_pos h
theorem nv_at {dv : Nat → T} {x : T} {at' : Nat} {f : Bool} : nv dv x at' f at' = x := by unfold nv; rw [if_neg (by omega), if_pos rfl]
theorem nv_gt {dv : Nat → T} {x : T} {at' i : Nat} {f : Bool} (h : at' < i) : nv dv x at' f i = if f = true then dv i else dv (i - 1) := by unfold nv; rw [if_neg (by omega), if_neg (by omega)]
/-- what the search says: At, and found just if the key stands there -/
def Fd (ky : Nat → ByteArray) (dn : Nat) (key : ByteArray) (at' : Nat) (f : Bool) : Prop := At ky dn key at' ∧ (f = true ↔ at' < dn ∧ (ky at').toList = key.toList)
/-- behind the place the keys are greater -/
theorem key_gt {ky : Nat → ByteArray} {dn at' i : Nat} {key : ByteArray} {f : Bool} (hri : Rise ky dn) (h : Fd ky dn key at' f) (hi : i < dn) (h1 : at' ≤ i) (h2 : f = true → at' < i) : Op.bytesLess key.toList (ky i).toList = true := by
  obtain ⟨⟨_, _, h3⟩, hf⟩ := h
  have hnl := h3 i h1 hi
  have tri := bytes_tri (ky i).toList key.toList
  have hne : ((ky i).toList == key.toList) = false := by
    cases hc : ((ky i).toList == key.toList) with
    | false => rfl
    | true =>
      have he : (ky i).toList = key.toList := by simpa using hc
      by_cases e : at' = i
      · subst e
        have := h2 (hf.2 ⟨hi, he⟩)
        omega
      · have := h3 at' (Nat.le_refl _) (by omega)
        rw [← he, hri at' i (by omega) hi] at this
        cases this
  rw [hnl, hne] at tri
  simpa using tri
/-- the keys of the new dictionary rise -/
theorem nk_good {ky : Nat → ByteArray} {dn at' : Nat} {key : ByteArray} {f : Bool} (hri : Rise ky dn) (h : Fd ky dn key at' f) : ∀ i, i < nn dn f → keyBad (nk ky key at' f) i = false := by
  have good : ∀ a b : ByteArray, Op.bytesLess a.toList b.toList = true → (Op.bytesLess b.toList a.toList || b.toList == a.toList) = false := fun a b hab => by
    rw [← bytes_tri, hab]; rfl
  intro i hi
  cases i with
  | zero => rfl
  | succ p =>
    show (Op.bytesLess (nk ky key at' f (p + 1)).toList (nk ky key at' f p).toList || (nk ky key at' f (p + 1)).toList == (nk ky key at' f p).toList) = false
    refine good _ _ ?_
    have hle := h.1.1
    unfold nn at hi
    by_cases e1 : p + 1 < at'
    · rw [nk_lt e1, nk_lt (by omega)]
      exact hri p (p + 1) (by omega) (by omega)
    by_cases e2 : p + 1 = at'
    · rw [e2, nk_at, nk_lt (by omega)]
      exact h.1.2.1 p (by omega)
    by_cases e3 : p = at'
    · rw [e3, nk_at, nk_gt (by omega)]
      by_cases hf : f = true
      · rw [if_pos hf] at hi ⊢
        exact key_gt hri h (by omega) (by omega) (fun _ => by omega)
      · rw [if_neg hf] at hi ⊢
        exact key_gt hri h (by omega) (by omega) (fun hc => absurd hc hf)
    · rw [nk_gt (by omega), nk_gt (by omega)]
      by_cases hf : f = true
      · rw [if_pos hf] at hi
        rw [if_pos hf, if_pos hf]
        exact hri p (p + 1) (by omega) (by omega)
      · rw [if_neg hf] at hi
        rw [if_neg hf, if_neg hf]
        exact hri (p - 1) (p + 1 - 1) (by omega) (by omega)

theorem fstE_each {f : Nat → Int} {n : Nat} (h : ∀ i, i < n → f i = 0) : fstE f n = 0 := by
  induction n with
  | zero => rfl
  | succ n ih => exact fstE_go (ih fun i hi => h i (by omega)) (h n (by omega))
theorem wk_with {ky : Nat → ByteArray} {dn at' : Nat} {key : ByteArray} {f : Bool} {dv : Nat → T} {x : T} (hri : Rise ky dn) (h : Fd ky dn key at' f) (hv : ∀ i, i < dn → wk (dv i) 1 = 0) : wk (withT dn ky dv key x at' f) 0 = wk x 1 := by
  unfold withT
  rw [wk]
  dsimp only
  rw [if_neg (by simp [ownB, ByteArray.toList_eq]), if_neg (by omega), if_neg (by omega)]
  rw [show fstE (fun i => wk ((fun _ => T.no) i) (0 + 1)) 0 = 0 from rfl, if_neg (by simp)]
  have hle := h.1.1
  have hat : at' < nn dn f := by
    unfold nn
    by_cases hf : f = true
    · rw [if_pos hf]; exact (h.2.1 hf).1
    · rw [if_neg hf]; omega
  have val : ∀ i, i < nn dn f → i ≠ at' → wk (nv dv x at' f i) (0 + 1) = 0 := fun i hi hne => by
    unfold nn at hi
    by_cases e1 : i < at'
    · rw [nv_lt e1]; exact hv i (by omega)
    · rw [nv_gt (by omega)]
      by_cases hf : f = true
      · rw [if_pos hf] at hi ⊢; exact hv i hi
      · rw [if_neg hf] at hi ⊢; exact hv (i - 1) (by omega)
  have hfn : ∀ i, i < nn dn f → (fun i => if keyBad (nk ky key at' f) i = true then (25 : Int) else wk (nv dv x at' f i) (0 + 1)) i = wk (nv dv x at' f i) (0 + 1) := fun i hi => by
    show (if keyBad (nk ky key at' f) i = true then (25 : Int) else wk (nv dv x at' f i) (0 + 1)) = _
    rw [if_neg (by rw [nk_good hri h i hi]; simp)]
  by_cases hx : wk x (0 + 1) = 0
  · have : wk x 1 = 0 := hx
    rw [this]
    refine fstE_each fun i hi => (hfn i hi).trans ?_
    by_cases e : i = at'
    · subst e; rw [nv_at]; exact hx
    · exact val i hi e
  · have h0 : fstE (fun i => if keyBad (nk ky key at' f) i = true then (25 : Int) else wk (nv dv x at' f i) (0 + 1)) at' = 0 := fstE_each fun i hi => (hfn i (by omega)).trans (val i (by omega) (by omega))
    have h1 := (hfn at' hat).trans (by rw [nv_at] : wk (nv dv x at' f at') (0 + 1) = wk x (0 + 1))
    exact (fstE_stop hat h0 (fun hc => hx (h1.symm.trans hc))).trans h1
end Go.Proofs.YtegdlkbilgkfoaaDoor
namespace Go.Proofs.YtegdlkbilgkfoaaDoor
open Go.ChangeShapes Go.WideShapes Go.ChangeAt Go.RowKit Go.Deep
set_option maxHeartbeats 400000 in
theorem valid12 (t : T) (x y : Value) (w : World) (hok : t.ok) (hr : RV (fun _ => True) w t x y) :
    Calls Tryd.prog 16 #[vv t x y] w fun e w' => e = .returned (.int .i64 (wk t 0)) ∧ Below w.heap.size w w' := by
  have HR : Hid (RV (fun _ => True) w t x y) := hr
  clear hr
  unfold vv
  go_enter Tryd.func16, Tryd.ntmps16
  go_wp2_with fail
  refine (fault22 t x y _ 0 (by omega) (by omega) hok (Below.rv ((Below.refl _ _).alloc (Nat.le_refl _) _) (Nat.le_refl _) HR.out)).mono ?_
  rintro e w1 ⟨rfl, hb⟩
  go_wp2
  go_ret
  exact ⟨rfl, ((Below.refl _ _).alloc (Nat.le_refl _) _).trans (hb.mono (by simp))⟩

end Go.Proofs.YtegdlkbilgkfoaaDoor
