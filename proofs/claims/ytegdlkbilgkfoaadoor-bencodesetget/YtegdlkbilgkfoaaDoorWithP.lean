import Derived.Test.YtegdlkbilgkfoaaDoorInsert
namespace Go.Proofs.YtegdlkbilgkfoaaDoor
open Go.RowKit Go.Deep
set_option maxRecDepth 20000
/-- few enough children everywhere, one more than 'small' lets in -/
def T.small1 : T → Prop
  | .no => True
  | .mk _ _ _ ln l dn _ dv => ln ≤ 2147483648 ∧ dn ≤ 2147483648 ∧ (∀ i, i < ln → (l i).small1) ∧ (∀ i, i < dn → (dv i).small1)
theorem T.small.one : ∀ t : T, t.small → t.small1 := by
  intro t
  induction t with
  | no => intro _; trivial
  | mk k n s ln l dn ky dv il id =>
    rintro ⟨h1, h2, h3, h4⟩
    exact ⟨by omega, by omega, fun i hi => il i (h3 i hi), fun i hi => id i (h4 i hi)⟩
def PC1 (t : T) : Prop := ∀ (u : Value) (S : Nat → Prop) (w : World), t.small1 → VT t → RN S w t u →
  Calls Tryd.prog 32 #[u] w fun e w' => ∃ x' y', e = .returned (vv t x' y') ∧ RV (fun b => w.heap.size ≤ b) w' t x' y' ∧ Below w.heap.size w w'
set_option maxHeartbeats 6000000 in
theorem plain28s (t : T) : PC1 t := by
  induction t with
  | no => intro u S w _ _ h; exact h.elim
  | mk k n s ln l dn ky dv il id =>
    intro u S w hsm hvt hr
    obtain ⟨sm1, sm2, sm3, sm4⟩ := hsm
    obtain ⟨hown, v1, v2⟩ := hvt
    obtain ⟨k1, k4, o1, o2, o3, o4⟩ := (ownB_iff _ _ _ _ _).1 hown
    have HO : Hid ((∀ i, PC1 (l i)) ∧ (∀ i, PC1 (dv i)) ∧ (∀ i, i < ln → (l i).small1 ∧ VT (l i)) ∧ (∀ i, i < dn → (dv i).small1 ∧ VT (dv i))) := ⟨il, id, fun i hi => ⟨sm3 i hi, v1 i hi⟩, fun i hi => ⟨sm4 i hi, (v2 i hi).2⟩⟩
    clear il id sm3 sm4 v1 v2 hown
    rcases hr with ⟨rfl, rfl⟩ | ⟨rfl, rfl⟩ | ⟨rfl, b, c, rfl, h1, h2, h3⟩ | ⟨rfl, b, c, rfl, h1, h2, h3⟩
    · obtain rfl : ln = 0 := by omega
      obtain rfl : dn = 0 := by omega
      have hs0 : s = { data := #[] } := empty_of (o2.resolve_left (by omega))
      subst hs0
      clear o1 o2 o3 o4 k1 k4
      have ha := as68_68
      go_enter Tryd.func32, Tryd.ntmps32
      go_wp2
      exact bodyPost_ret (v := .agg #[.int .i64 1, .int .i64 n, .string { data := #[] }, .slice none 0 0, .slice none 0 0]) (results_cell_row Tryd.results32 _ _ w.heap.size 27 _ (0, 0) _ rfl ((Below.heap_alloc _ _ _ (by simp)).trans (heap_new _ _)) Tryd.underlying27 rfl info25s) rfl
        ⟨_, _, rfl, ⟨⟨_, _, rfl, .inl rfl⟩, ⟨_, _, rfl, .inl rfl⟩⟩, ((Below.refl _ _).alloc (Nat.le_refl _) _).alloc (by simp) _⟩
    · obtain rfl : n = 0 := o1.resolve_left (by omega)
      obtain rfl : ln = 0 := o3.resolve_left (by omega)
      obtain rfl : dn = 0 := o4.resolve_left (by omega)
      clear o1 o2 o3 o4 k1 k4
      have ha := as53_68
      have hb := as53_53
      go_enter Tryd.func32, Tryd.ntmps32
      go_wp2
      exact bodyPost_ret (v := .agg #[.int .i64 2, .int .i64 0, .string s, .slice none 0 0, .slice none 0 0]) (results_cell_row Tryd.results32 _ _ w.heap.size 27 _ (0, 0) _ rfl ((Below.heap_alloc _ _ _ (by simp)).trans (heap_new _ _)) Tryd.underlying27 rfl info25s) rfl
        ⟨_, _, rfl, ⟨⟨_, _, rfl, .inl rfl⟩, ⟨_, _, rfl, .inl rfl⟩⟩, ((Below.refl _ _).alloc (Nat.le_refl _) _).alloc (by simp) _⟩
    · obtain rfl : n = 0 := o1.resolve_left (by omega)
      obtain rfl : dn = 0 := o4.resolve_left (by omega)
      have hs0 : s = { data := #[] } := empty_of (o2.resolve_left (by omega))
      subst hs0
      clear o1 o2 o3 o4 k1 k4
      obtain ⟨i0, hi, hz0, hz1, hz2⟩ := info_parts info25
      have hmk : ∀ u : World, (Instr.makeSlice 24 (.int .i64 (ln : Int)) (.int .i64 (ln : Int))).run Tryd.prog u =
          .ok (.slice (some ⟨u.heap.size, 0, none⟩) ln ln) (u.alloc (.cells (madeCells #[.int .i64 0, .int .i64 0, .string ByteArray.empty, .slice none 0 0, .slice none 0 0] (ln * 5)) 27)) := fun u => by
        have h := run_make (P := Tryd.prog) u 24 27 i0 _ Tryd.underlying24 hi hz0 .i64 .i64 ln ln (by omega) (by omega) (by rw [hz2]; omega) (by omega)
        simpa [hz1, Value.cells] using h
      have HN : Hid (∀ i, i < ln → ∃ u, w.cell? ⟨b, i, none⟩ = some u ∧ RN S w (l i) u) := h3
      have HBL : Hid (b < w.heap.size) := h2
      clear h1 h2 h3 hi hz0 hz1 hz2
      have ha := as70_68
      have hb := as70_53
      have hc := as70_70
      go_enter Tryd.func32, Tryd.ntmps32
      go_wp2
      clear ha hb hc
      go_region
      go_wp2
      clear hmk
      have HB0 : Hid (PB w.heap.size w (((w.alloc (Obj.cells #[.int .i64 0, .int .i64 0, .string { data := #[] }, .slice .none 0 0, .slice .none 0 0] 27)).alloc (Obj.cells #[.int .i64 3, .int .i64 0, .string { data := #[] }, .slice (some ⟨w.heap.size + 1 + 1, 0, none⟩) ln ln, .slice .none 0 0] 27)).alloc (Obj.cells (madeCells #[.int .i64 0, .int .i64 0, .string ByteArray.empty, .slice .none 0 0, .slice .none 0 0] (ln * 5)) 27)).drew (.int .i64 3) (.int .i64 0) (.string { data := #[] }) (.slice (some ⟨w.heap.size + 1 + 1, 0, none⟩) ln ln) (.slice .none 0 0) ∧
          PL (w.heap.size + 1 + 1) (((w.alloc (Obj.cells #[.int .i64 0, .int .i64 0, .string { data := #[] }, .slice .none 0 0, .slice .none 0 0] 27)).alloc (Obj.cells #[.int .i64 3, .int .i64 0, .string { data := #[] }, .slice (some ⟨w.heap.size + 1 + 1, 0, none⟩) ln ln, .slice .none 0 0] 27)).alloc (Obj.cells (madeCells #[.int .i64 0, .int .i64 0, .string ByteArray.empty, .slice .none 0 0, .slice .none 0 0] (ln * 5)) 27)).drew l ln 0 (madeCells #[.int .i64 0, .int .i64 0, .string ByteArray.empty, .slice .none 0 0, .slice .none 0 0] (ln * 5))) := by
        refine ⟨⟨((((Below.refl _ _).alloc (Nat.le_refl _) _).alloc (by simp) _).alloc (by simp; omega) _).drew, ?_, ?_⟩, ?_, by rw [size_madeCells], fun i hi => absurd hi (Nat.not_lt_zero _)⟩
        · exact (Below.heap_alloc _ _ _ (by simp; omega)).trans ((Below.heap_alloc _ _ _ (by simp)).trans (heap_new _ _))
        · refine (Below.heap_alloc _ _ _ (by simp)).trans ?_
          have := heap_new (w.alloc (Obj.cells #[.int .i64 0, .int .i64 0, .string { data := #[] }, .slice .none 0 0, .slice .none 0 0] 27)) (Obj.cells #[.int .i64 3, .int .i64 0, .string { data := #[] }, .slice (some ⟨w.heap.size + 1 + 1, 0, none⟩) ln ln, .slice .none 0 0] 27)
          simpa using this
        · have := heap_new ((w.alloc (Obj.cells #[.int .i64 0, .int .i64 0, .string { data := #[] }, .slice .none 0 0, .slice .none 0 0] 27)).alloc (Obj.cells #[.int .i64 3, .int .i64 0, .string { data := #[] }, .slice (some ⟨w.heap.size + 1 + 1, 0, none⟩) ln ln, .slice .none 0 0] 27)) (Obj.cells (madeCells #[.int .i64 0, .int .i64 0, .string ByteArray.empty, .slice .none 0 0, .slice .none 0 0] (ln * 5)) 27)
          have e : ((w.alloc (Obj.cells #[.int .i64 0, .int .i64 0, .string { data := #[] }, .slice .none 0 0, .slice .none 0 0] 27)).alloc (Obj.cells #[.int .i64 3, .int .i64 0, .string { data := #[] }, .slice (some ⟨w.heap.size + 1 + 1, 0, none⟩) ln ln, .slice .none 0 0] 27)).heap.size = w.heap.size + 1 + 1 := by simp
          rw [e] at this
          exact this
      generalize (((w.alloc (Obj.cells #[.int .i64 0, .int .i64 0, .string { data := #[] }, .slice .none 0 0, .slice .none 0 0] 27)).alloc (Obj.cells #[.int .i64 3, .int .i64 0, .string { data := #[] }, .slice (some ⟨w.heap.size + 1 + 1, 0, none⟩) ln ln, .slice .none 0 0] 27)).alloc (Obj.cells (madeCells #[.int .i64 0, .int .i64 0, .string ByteArray.empty, .slice .none 0 0, .slice .none 0 0] (ln * 5)) 27)).drew = w0 at *
      generalize hg : w.heap.size = H at *
      have HG : Hid (w.heap.size = H) := hg
      clear hg
      go_loopw [36] (fun i wr => ∃ (j : Nat) (cs : Array Value), j ≤ ln ∧ i = .int .i64 j ∧ Hid (PB H w wr (.int .i64 3) (.int .i64 0) (.string { data := #[] }) (.slice (some ⟨H + 1 + 1, 0, none⟩) ln ln) (.slice .none 0 0) ∧ PL (H + 1 + 1) wr l ln j cs)) (fun i _ => ln - (intOf i).toNat)
      case atStart => exact ⟨0, _, Nat.zero_le _, rfl, HB0⟩
      case round =>
        clear HB0
        obtain ⟨j, cs, hj, rfl, hinv⟩ := hrel
        by_cases hlt : j < ln
        · obtain ⟨u, hu, hrn⟩ := HN.out j hlt
          have hw := hinv.out.1.1
          have hle : w.heap.size ≤ H := Nat.le_of_eq HG.out
          replace hu := Below.cellS hw hle hu
          obtain ⟨ty, uu, rfl⟩ := hrn.iface
          obtain ⟨_, _, _, c3, _⟩ := hinv.out.1.2.2.cells
          have hne : H + 1 ≠ H + 1 + 1 := by omega
          have j0 : (0 : Int) ≤ (j : Int) := by omega
          have j1 : (j : Int) < (ln : Int) := by omega
          have HC : Hid (∀ w', w'.heap = wr.heap → w'.os = wr.os → w'.tape = wr.tape → w'.output = wr.output → Calls Tryd.prog 32 #[.iface ty uu] w' fun e w'' => ∃ xa xn xc ya yn yc, e = .returned (.agg #[.int .i64 (l j).k, .int .i64 (l j).n, .string (l j).s, .slice xa xn xc, .slice ya yn yc]) ∧
              ((∃ z, w''.cell? ⟨H + 1 + 1, j * 5, none⟩ = some z) ∧ (∃ z, w''.cell? ⟨H + 1 + 1, j * 5 + 1, none⟩ = some z) ∧ (∃ z, w''.cell? ⟨H + 1 + 1, j * 5 + 2, none⟩ = some z) ∧ (∃ z, w''.cell? ⟨H + 1 + 1, j * 5 + 3, none⟩ = some z) ∧ (∃ z, w''.cell? ⟨H + 1 + 1, j * 5 + 4, none⟩ = some z)) ∧
              (w''.frozen? ⟨H + 1 + 1, j * 5, none⟩ = false ∧ w''.frozen? ⟨H + 1 + 1, j * 5 + 1, none⟩ = false ∧ w''.frozen? ⟨H + 1 + 1, j * 5 + 2, none⟩ = false ∧ w''.frozen? ⟨H + 1 + 1, j * 5 + 3, none⟩ = false ∧ w''.frozen? ⟨H + 1 + 1, j * 5 + 4, none⟩ = false) ∧
              Hid (Below wr.heap.size wr w'') ∧
              Hid (∃ cs', PB H w (set5 w'' (H + 1 + 1) (j * 5) (.int .i64 (l j).k) (.int .i64 (l j).n) (.string (l j).s) (.slice xa xn xc) (.slice ya yn yc)) (.int .i64 3) (.int .i64 0) (.string { data := #[] }) (.slice (some ⟨H + 1 + 1, 0, none⟩) ln ln) (.slice .none 0 0) ∧ PL (H + 1 + 1) (set5 w'' (H + 1 + 1) (j * 5) (.int .i64 (l j).k) (.int .i64 (l j).n) (.string (l j).s) (.slice xa xn xc) (.slice ya yn yc)) l ln (j + 1) cs')) := by
            intro w' hh h1 h2 h3
            have hbw : Below wr.heap.size wr w' := ⟨h1, h2, h3, by rw [hh]; exact Nat.le_refl _, fun q _ => by rw [hh]⟩
            have hww := hw.trans (hbw.mono (HG.out ▸ hw.size))
            refine (HO.out.1 j _ (fun _ => True) w' (HO.out.2.2.1 j hlt).1 (HO.out.2.2.1 j hlt).2 (RN.move (fun _ _ _ => trivial) hww.size (fun q _ hq => hww.block q (by omega)) _ _ hrn)).mono ?_
            rintro e w2 ⟨X, Y, rfl, hrv, hb2⟩
            obtain ⟨⟨xa, xn, xc, rfl⟩, ⟨ya, yn, yc, rfl⟩⟩ := hrv.slices
            obtain ⟨hP, hE⟩ := hinv.out
            have hb3 : Below wr.heap.size wr w2 := hbw.trans (hb2.mono hbw.size)
            have hsz := hE.2.1
            have hglt := hE.1.lt
            have hblk2 := hE.1.keep (hb3.block _ hglt)
            have ex : ∀ r, r < 5 → ∃ z, w2.cell? ⟨H + 1 + 1, j * 5 + r, none⟩ = some z := fun r hr => ⟨cs[j * 5 + r], by rw [hblk2.cell]; exact Array.getElem?_eq_getElem (by omega)⟩
            obtain ⟨cs', hst⟩ := PL.step hlt hE hb3 hrv (by have := hbw.size; omega)
            refine ⟨xa, xn, xc, ya, yn, yc, rfl, ⟨ex 0 (by omega), ex 1 (by omega), ex 2 (by omega), ex 3 (by omega), ex 4 (by omega)⟩, ⟨hblk2.frozen _, hblk2.frozen _, hblk2.frozen _, hblk2.frozen _, hblk2.frozen _⟩, hb3, cs', ⟨?_, ?_, ?_⟩, hst⟩
            · exact set5_below (hP.1.trans (hb3.mono (HG.out ▸ hP.1.size))) (by omega) _ _ _ _ _ _
            · exact (hP.2.1.keep (hb3.block _ hP.2.1.lt)).keep (set5_block _ _ _ _ _ _ _ _ _ (by omega))
            · exact (hP.2.2.keep (hb3.block _ hP.2.2.lt)).keep (set5_block _ _ _ _ _ _ _ _ _ (by omega))
          have c3d : wr.drew.cell? ⟨H + 1, 3, none⟩ = some (.slice (some ⟨H + 1 + 1, 0, none⟩) ln ln) := c3
          clear hw hle hrn hinv
          go_wp2
          go_region_held3 (fun w' => w'.cell? ⟨H + 1, 3, none⟩ = some (.slice (some ⟨H + 1 + 1, 0, none⟩) ln ln))
            (first | (with_reducible exact c3) | (with_reducible exact c3d) | (with_reducible exact Below.cellS hq.out (Nat.le_refl _) c3) | (exact cell_set_ne (cell_set_ne (cell_set_ne (cell_set_ne (cell_set_ne (Below.cellS hq.out (Nat.le_refl _) c3) hne) hne) hne) hne) hne))
            (first | (go_at_call 32; refine (HC.out wr.drew rfl rfl rfl rfl).mono ?_; rintro e wq ⟨xa, xn, xc, ya, yn, yc, rfl, ⟨⟨z0, e0⟩, ⟨z1, e1⟩, ⟨z2, e2⟩, ⟨z3, e3⟩, ⟨z4, e4⟩⟩, ⟨f0, f1, f2, f3, f4⟩, hq, HN2⟩))
          clear HC c3 c3d hq e0 e1 e2 e3 e4 f0 f1 f2 f3 f4 hu
          go_wp2
          go_roundw
          case rel => exact ⟨j + 1, _, by omega, by go_num, HN2.out.choose_spec⟩
          case measure => simp [intOf]; omega
        · obtain rfl : j = ln := by omega
          obtain ⟨q0, q1, q2, q3, q4⟩ := hinv.out.1.2.2.cells
          obtain ⟨r0, r1, r2, r3, r4⟩ := hinv.out.1.2.1.cells
          have z0 := hinv.out.1.2.1.frozen 0
          have z1 := hinv.out.1.2.1.frozen 1
          have z2 := hinv.out.1.2.1.frozen 2
          have z3 := hinv.out.1.2.1.frozen 3
          have z4 := hinv.out.1.2.1.frozen 4
          go_wp2
          refine bodyPost_ret (v := .agg #[.int .i64 3, .int .i64 0, .string { data := #[] }, .slice (some ⟨H + 1 + 1, 0, none⟩) j j, .slice .none 0 0]) (results_cell_row Tryd.results32 _ _ H 27 _ (0, 0) _ rfl (((((hinv.out.1.2.1.set0 _).set1 _).set2 _).set3 _).set4 _) Tryd.underlying27 rfl info25s) rfl ⟨_, _, rfl, ?_, ?_⟩
          · have hbs := besides5 wr H (.int .i64 3) (.int .i64 0) (.string { data := #[] }) (.slice (some ⟨H + 1 + 1, 0, none⟩) j j) (.slice .none 0 0)
            exact ⟨PL.rl hinv.out.2 hbs.size (fun q h1 h2 => hbs.block q h2 (by omega)) (fun q hq => by have := HG.out; omega), ⟨_, _, rfl, .inl rfl⟩⟩
          · have hbs := besides5 wr H (.int .i64 3) (.int .i64 0) (.string { data := #[] }) (.slice (some ⟨H + 1 + 1, 0, none⟩) j j) (.slice .none 0 0)
            have h0 := hinv.out.1.1
            rw [HG.out]
            exact ⟨hbs.os.trans h0.os, hbs.tape.trans h0.tape, hbs.output.trans h0.output, Nat.le_trans h0.size hbs.size, fun q hq => (hbs.block q (by have := h0.size; have := HG.out; omega) (by omega)).trans (h0.block q hq)⟩
    · obtain rfl : n = 0 := o1.resolve_left (by omega)
      obtain rfl : ln = 0 := o3.resolve_left (by omega)
      have hs0 : s = { data := #[] } := empty_of (o2.resolve_left (by omega))
      subst hs0
      clear o1 o2 o3 o4 k1 k4
      obtain ⟨i0, hi, hz0, hz1, hz2⟩ := info_parts info42
      have hmk : ∀ u : World, (Instr.makeSlice 25 (.int .i64 (dn : Int)) (.int .i64 (dn : Int))).run Tryd.prog u =
          .ok (.slice (some ⟨u.heap.size, 0, none⟩) dn dn) (u.alloc (.cells (madeCells #[.string ByteArray.empty, .int .i64 0, .int .i64 0, .string ByteArray.empty, .slice none 0 0, .slice none 0 0] (dn * 6)) 48)) := fun u => by
        have h := run_make (P := Tryd.prog) u 25 48 i0 _ Tryd.underlying25 hi hz0 .i64 .i64 dn dn (by omega) (by omega) (by rw [hz2]; omega) (by omega)
        simpa [hz1, Value.cells] using h
      have HN : Hid (∀ i, i < dn → ∃ u, w.cell? ⟨b, i * 2, none⟩ = some (.string (ky i)) ∧ w.cell? ⟨b, i * 2 + 1, none⟩ = some u ∧ RN S w (dv i) u) := h3
      have HBL : Hid (b < w.heap.size) := h2
      clear h1 h2 h3 hi hz0 hz1 hz2
      have ha := as48_68
      have hb := as48_53
      have hc := as48_70
      have hd := as48_48
      go_enter Tryd.func32, Tryd.ntmps32
      go_wp2
      clear ha hb hc hd
      go_region
      go_wp2
      clear hmk
      have HB0 : Hid (PB w.heap.size w (((w.alloc (Obj.cells #[.int .i64 0, .int .i64 0, .string { data := #[] }, .slice .none 0 0, .slice .none 0 0] 27)).alloc (Obj.cells #[.int .i64 4, .int .i64 0, .string { data := #[] }, .slice .none 0 0, .slice (some ⟨w.heap.size + 1 + 1, 0, none⟩) dn dn] 27)).alloc (Obj.cells (madeCells #[.string ByteArray.empty, .int .i64 0, .int .i64 0, .string ByteArray.empty, .slice .none 0 0, .slice .none 0 0] (dn * 6)) 48)).drew (.int .i64 4) (.int .i64 0) (.string { data := #[] }) (.slice .none 0 0) (.slice (some ⟨w.heap.size + 1 + 1, 0, none⟩) dn dn) ∧
          PD (w.heap.size + 1 + 1) (((w.alloc (Obj.cells #[.int .i64 0, .int .i64 0, .string { data := #[] }, .slice .none 0 0, .slice .none 0 0] 27)).alloc (Obj.cells #[.int .i64 4, .int .i64 0, .string { data := #[] }, .slice .none 0 0, .slice (some ⟨w.heap.size + 1 + 1, 0, none⟩) dn dn] 27)).alloc (Obj.cells (madeCells #[.string ByteArray.empty, .int .i64 0, .int .i64 0, .string ByteArray.empty, .slice .none 0 0, .slice .none 0 0] (dn * 6)) 48)).drew ky dv dn 0 (madeCells #[.string ByteArray.empty, .int .i64 0, .int .i64 0, .string ByteArray.empty, .slice .none 0 0, .slice .none 0 0] (dn * 6))) := by
        refine ⟨⟨((((Below.refl _ _).alloc (Nat.le_refl _) _).alloc (by simp) _).alloc (by simp; omega) _).drew, ?_, ?_⟩, ?_, by rw [size_madeCells], fun i hi => absurd hi (Nat.not_lt_zero _)⟩
        · exact (Below.heap_alloc _ _ _ (by simp; omega)).trans ((Below.heap_alloc _ _ _ (by simp)).trans (heap_new _ _))
        · refine (Below.heap_alloc _ _ _ (by simp)).trans ?_
          have := heap_new (w.alloc (Obj.cells #[.int .i64 0, .int .i64 0, .string { data := #[] }, .slice .none 0 0, .slice .none 0 0] 27)) (Obj.cells #[.int .i64 4, .int .i64 0, .string { data := #[] }, .slice .none 0 0, .slice (some ⟨w.heap.size + 1 + 1, 0, none⟩) dn dn] 27)
          simpa using this
        · have := heap_new ((w.alloc (Obj.cells #[.int .i64 0, .int .i64 0, .string { data := #[] }, .slice .none 0 0, .slice .none 0 0] 27)).alloc (Obj.cells #[.int .i64 4, .int .i64 0, .string { data := #[] }, .slice .none 0 0, .slice (some ⟨w.heap.size + 1 + 1, 0, none⟩) dn dn] 27)) (Obj.cells (madeCells #[.string ByteArray.empty, .int .i64 0, .int .i64 0, .string ByteArray.empty, .slice .none 0 0, .slice .none 0 0] (dn * 6)) 48)
          have e : ((w.alloc (Obj.cells #[.int .i64 0, .int .i64 0, .string { data := #[] }, .slice .none 0 0, .slice .none 0 0] 27)).alloc (Obj.cells #[.int .i64 4, .int .i64 0, .string { data := #[] }, .slice .none 0 0, .slice (some ⟨w.heap.size + 1 + 1, 0, none⟩) dn dn] 27)).heap.size = w.heap.size + 1 + 1 := by simp
          rw [e] at this
          exact this
      generalize (((w.alloc (Obj.cells #[.int .i64 0, .int .i64 0, .string { data := #[] }, .slice .none 0 0, .slice .none 0 0] 27)).alloc (Obj.cells #[.int .i64 4, .int .i64 0, .string { data := #[] }, .slice .none 0 0, .slice (some ⟨w.heap.size + 1 + 1, 0, none⟩) dn dn] 27)).alloc (Obj.cells (madeCells #[.string ByteArray.empty, .int .i64 0, .int .i64 0, .string ByteArray.empty, .slice .none 0 0, .slice .none 0 0] (dn * 6)) 48)).drew = w0 at *
      generalize hg : w.heap.size = H at *
      have HG : Hid (w.heap.size = H) := hg
      clear hg
      go_loopw [58] (fun i wr => ∃ (j : Nat) (cs : Array Value), j ≤ dn ∧ i = .int .i64 j ∧ Hid (PB H w wr (.int .i64 4) (.int .i64 0) (.string { data := #[] }) (.slice .none 0 0) (.slice (some ⟨H + 1 + 1, 0, none⟩) dn dn) ∧ PD (H + 1 + 1) wr ky dv dn j cs)) (fun i _ => dn - (intOf i).toNat)
      case atStart => exact ⟨0, _, Nat.zero_le _, rfl, HB0⟩
      case round =>
        clear HB0
        obtain ⟨j, cs, hj, rfl, hinv⟩ := hrel
        by_cases hlt : j < dn
        · obtain ⟨u, hky, hu, hrn⟩ := HN.out j hlt
          have hw := hinv.out.1.1
          have hle : w.heap.size ≤ H := Nat.le_of_eq HG.out
          replace hu := Below.cellS hw hle hu
          replace hky := Below.cellS hw hle hky
          obtain ⟨ty, uu, rfl⟩ := hrn.iface
          have hne : H + 1 ≠ H + 1 + 1 := by omega
          have j0 : (0 : Int) ≤ (j : Int) := by omega
          have j1 : (j : Int) < (dn : Int) := by omega
          have hX : blk (wr.alloc (Obj.cells #[.string (ky j), .iface ty uu] 66)) wr.heap.size 66 #[.string (ky j), .iface ty uu] := heap_new _ _
          have hA : Below wr.heap.size wr (wr.alloc (Obj.cells #[.string (ky j), .iface ty uu] 66)) := (Below.refl _ _).alloc (Nat.le_refl _) _
          have HP : Hid (PB H w (wr.alloc (Obj.cells #[.string (ky j), .iface ty uu] 66)) (.int .i64 4) (.int .i64 0) (.string { data := #[] }) (.slice .none 0 0) (.slice (some ⟨H + 1 + 1, 0, none⟩) dn dn) ∧ PD (H + 1 + 1) (wr.alloc (Obj.cells #[.string (ky j), .iface ty uu] 66)) ky dv dn j cs) := by
            obtain ⟨hP, hE⟩ := hinv.out
            refine ⟨⟨hP.1.trans (hA.mono (HG.out ▸ hP.1.size)), hP.2.1.keep (hA.block _ hP.2.1.lt), hP.2.2.keep (hA.block _ hP.2.2.lt)⟩, hE.1.keep (hA.block _ hE.1.lt), hE.2.1, fun i hi => ?_⟩
            obtain ⟨X, Y, e1, e2⟩ := hE.2.2 i hi
            exact ⟨X, Y, e1, RV.move (fun b hb _ => hb) hA.size (fun b _ hl => hA.block b hl) _ _ _ e2⟩
          have hxg : wr.heap.size ≠ H + 1 + 1 := by have := hinv.out.2.1.lt; omega
          clear hinv hw hA
          go_wp2
          generalize hxb : wr.heap.size = xb at *
          clear hxb
          generalize wr.alloc (Obj.cells #[.string (ky j), .iface ty uu] 66) = w3 at *
          have hw := HP.out.1.1
          obtain ⟨_, _, _, _, c4⟩ := HP.out.1.2.2.cells
          have k0 : w3.cell? ⟨xb, 0, none⟩ = some (.string (ky j)) := hX.cell 0
          have k1 : w3.cell? ⟨xb, 1, none⟩ = some (.iface ty uu) := hX.cell 1
          have HC : Hid (∀ w', w'.heap = w3.heap → w'.os = w3.os → w'.tape = w3.tape → w'.output = w3.output → Calls Tryd.prog 32 #[.iface ty uu] w' fun e w'' => ∃ xa xn xc ya yn yc, e = .returned (.agg #[.int .i64 (dv j).k, .int .i64 (dv j).n, .string (dv j).s, .slice xa xn xc, .slice ya yn yc]) ∧
              ((∃ z, w''.cell? ⟨H + 1 + 1, j * 6, none⟩ = some z) ∧ (∃ z, w''.cell? ⟨H + 1 + 1, j * 6 + 1, none⟩ = some z) ∧ (∃ z, w''.cell? ⟨H + 1 + 1, j * 6 + 2, none⟩ = some z) ∧ (∃ z, w''.cell? ⟨H + 1 + 1, j * 6 + 3, none⟩ = some z) ∧ (∃ z, w''.cell? ⟨H + 1 + 1, j * 6 + 4, none⟩ = some z) ∧ (∃ z, w''.cell? ⟨H + 1 + 1, j * 6 + 5, none⟩ = some z)) ∧
              (w''.frozen? ⟨H + 1 + 1, j * 6, none⟩ = false ∧ w''.frozen? ⟨H + 1 + 1, j * 6 + 1, none⟩ = false ∧ w''.frozen? ⟨H + 1 + 1, j * 6 + 2, none⟩ = false ∧ w''.frozen? ⟨H + 1 + 1, j * 6 + 3, none⟩ = false ∧ w''.frozen? ⟨H + 1 + 1, j * 6 + 4, none⟩ = false ∧ w''.frozen? ⟨H + 1 + 1, j * 6 + 5, none⟩ = false) ∧
              Hid (Below w3.heap.size w3 w'') ∧
              Hid (∃ cs', PB H w (set6 w'' (H + 1 + 1) (j * 6) (.string (ky j)) (.int .i64 (dv j).k) (.int .i64 (dv j).n) (.string (dv j).s) (.slice xa xn xc) (.slice ya yn yc)) (.int .i64 4) (.int .i64 0) (.string { data := #[] }) (.slice .none 0 0) (.slice (some ⟨H + 1 + 1, 0, none⟩) dn dn) ∧ PD (H + 1 + 1) (set6 w'' (H + 1 + 1) (j * 6) (.string (ky j)) (.int .i64 (dv j).k) (.int .i64 (dv j).n) (.string (dv j).s) (.slice xa xn xc) (.slice ya yn yc)) ky dv dn (j + 1) cs')) := by
            intro w' hh h1 h2 h3
            have hbw : Below w3.heap.size w3 w' := ⟨h1, h2, h3, by rw [hh]; exact Nat.le_refl _, fun q _ => by rw [hh]⟩
            have hww := hw.trans (hbw.mono (HG.out ▸ hw.size))
            refine (HO.out.2.1 j _ (fun _ => True) w' (HO.out.2.2.2 j hlt).1 (HO.out.2.2.2 j hlt).2 (RN.move (fun _ _ _ => trivial) hww.size (fun q _ hq => hww.block q (by omega)) _ _ hrn)).mono ?_
            rintro e w2 ⟨X, Y, rfl, hrv, hb2⟩
            obtain ⟨⟨xa, xn, xc, rfl⟩, ⟨ya, yn, yc, rfl⟩⟩ := hrv.slices
            obtain ⟨hP, hE⟩ := HP.out
            have hb3 : Below w3.heap.size w3 w2 := hbw.trans (hb2.mono hbw.size)
            have hsz := hE.2.1
            have hglt := hE.1.lt
            have hblk2 := hE.1.keep (hb3.block _ hglt)
            have ex : ∀ r, r < 6 → ∃ z, w2.cell? ⟨H + 1 + 1, j * 6 + r, none⟩ = some z := fun r hr => ⟨cs[j * 6 + r], by rw [hblk2.cell]; exact Array.getElem?_eq_getElem (by omega)⟩
            obtain ⟨cs', hst⟩ := PD.step hlt hE hb3 hrv (by have := hbw.size; omega)
            refine ⟨xa, xn, xc, ya, yn, yc, rfl, ⟨ex 0 (by omega), ex 1 (by omega), ex 2 (by omega), ex 3 (by omega), ex 4 (by omega), ex 5 (by omega)⟩, ⟨hblk2.frozen _, hblk2.frozen _, hblk2.frozen _, hblk2.frozen _, hblk2.frozen _, hblk2.frozen _⟩, hb3, cs', ⟨?_, ?_, ?_⟩, hst⟩
            · exact set6_below (hP.1.trans (hb3.mono (HG.out ▸ hP.1.size))) (by omega) _ _ _ _ _ _ _
            · exact (hP.2.1.keep (hb3.block _ hP.2.1.lt)).keep (set6_block _ _ _ _ _ _ _ _ _ _ (by omega))
            · exact (hP.2.2.keep (hb3.block _ hP.2.2.lt)).keep (set6_block _ _ _ _ _ _ _ _ _ _ (by omega))
          have c4d : w3.drew.cell? ⟨H + 1, 4, none⟩ = some (.slice (some ⟨H + 1 + 1, 0, none⟩) dn dn) := c4
          have k0d : w3.drew.cell? ⟨xb, 0, none⟩ = some (.string (ky j)) := k0
          have k1d : w3.drew.cell? ⟨xb, 1, none⟩ = some (.iface ty uu) := k1
          clear hw hle hrn HP hX hky hu
          go_region_held3 (fun w' => w'.cell? ⟨H + 1, 4, none⟩ = some (.slice (some ⟨H + 1 + 1, 0, none⟩) dn dn) ∧ w'.cell? ⟨xb, 0, none⟩ = some (.string (ky j)) ∧ w'.cell? ⟨xb, 1, none⟩ = some (.iface ty uu))
            (first | (with_reducible exact ⟨c4, k0, k1⟩) | (with_reducible exact ⟨c4d, k0d, k1d⟩) | (with_reducible exact ⟨Below.cellS hq.out (Nat.le_refl _) c4, Below.cellS hq.out (Nat.le_refl _) k0, Below.cellS hq.out (Nat.le_refl _) k1⟩) | (exact ⟨cell_set_ne (cell_set_ne (cell_set_ne (cell_set_ne (cell_set_ne (cell_set_ne (Below.cellS hq.out (Nat.le_refl _) c4) hne) hne) hne) hne) hne) hne, cell_set_ne (cell_set_ne (cell_set_ne (cell_set_ne (cell_set_ne (cell_set_ne (Below.cellS hq.out (Nat.le_refl _) k0) hxg) hxg) hxg) hxg) hxg) hxg, cell_set_ne (cell_set_ne (cell_set_ne (cell_set_ne (cell_set_ne (cell_set_ne (Below.cellS hq.out (Nat.le_refl _) k1) hxg) hxg) hxg) hxg) hxg) hxg⟩))
            (first | (go_at_call 32; refine (HC.out w3.drew rfl rfl rfl rfl).mono ?_; rintro e wq ⟨xa, xn, xc, ya, yn, yc, rfl, ⟨⟨z0, e0⟩, ⟨z1, e1⟩, ⟨z2, e2⟩, ⟨z3, e3⟩, ⟨z4, e4⟩, ⟨z5, e5⟩⟩, ⟨f0, f1, f2, f3, f4, f5⟩, hq, HN2⟩))
          clear HC c4 c4d k0 k1 k0d k1d hq e0 e1 e2 e3 e4 e5 f0 f1 f2 f3 f4 f5
          go_wp2
          go_roundw
          case rel => exact ⟨j + 1, _, by omega, by go_num, HN2.out.choose_spec⟩
          case measure => simp [intOf]; omega
        · obtain rfl : j = dn := by omega
          obtain ⟨q0, q1, q2, q3, q4⟩ := hinv.out.1.2.2.cells
          obtain ⟨r0, r1, r2, r3, r4⟩ := hinv.out.1.2.1.cells
          have z0 := hinv.out.1.2.1.frozen 0
          have z1 := hinv.out.1.2.1.frozen 1
          have z2 := hinv.out.1.2.1.frozen 2
          have z3 := hinv.out.1.2.1.frozen 3
          have z4 := hinv.out.1.2.1.frozen 4
          go_wp2
          refine bodyPost_ret (v := .agg #[.int .i64 4, .int .i64 0, .string { data := #[] }, .slice .none 0 0, .slice (some ⟨H + 1 + 1, 0, none⟩) j j]) (results_cell_row Tryd.results32 _ _ H 27 _ (0, 0) _ rfl (((((hinv.out.1.2.1.set0 _).set1 _).set2 _).set3 _).set4 _) Tryd.underlying27 rfl info25s) rfl ⟨_, _, rfl, ?_, ?_⟩
          · have hbs := besides5 wr H (.int .i64 4) (.int .i64 0) (.string { data := #[] }) (.slice .none 0 0) (.slice (some ⟨H + 1 + 1, 0, none⟩) j j)
            exact ⟨⟨_, _, rfl, .inl rfl⟩, PD.rd hinv.out.2 hbs.size (fun q h1 h2 => hbs.block q h2 (by omega)) (fun q hq => by have := HG.out; omega)⟩
          · have hbs := besides5 wr H (.int .i64 4) (.int .i64 0) (.string { data := #[] }) (.slice .none 0 0) (.slice (some ⟨H + 1 + 1, 0, none⟩) j j)
            have h0 := hinv.out.1.1
            rw [HG.out]
            exact ⟨hbs.os.trans h0.os, hbs.tape.trans h0.tape, hbs.output.trans h0.output, Nat.le_trans h0.size hbs.size, fun q hq => (hbs.block q (by have := h0.size; have := HG.out; omega) (by omega)).trans (h0.block q hq)⟩
set_option maxHeartbeats 4000000 in
theorem dictOf24s (ln : Nat) (ky : Nat → ByteArray) (l : Nat → T) (x : Value) (w : World) (ih : ∀ i, NC (l i)) (hs : ln ≤ 2147483647) (ok4 : ∀ i, i < ln → (l i).ok ∧ (l i).small ∧ VT (l i)) (hL : RD (fun _ => True) w ln ky l x) :
    Calls Tryd.prog 29 #[x] w fun e w' => ∃ c, e = .returned (.slice (some ⟨w.heap.size, 0, none⟩) ln c) ∧ (∀ i, i < ln → ∃ u, w'.cell? ⟨w.heap.size, i * 2, none⟩ = some (.string (ky i)) ∧ w'.cell? ⟨w.heap.size, i * 2 + 1, none⟩ = some u ∧ RN (fun b => w.heap.size < b) w' (l i) u) ∧ w.heap.size < w'.heap.size ∧ Below w.heap.size w w' ∧ c = ln ∧ ∃ cs, blk w' w.heap.size 66 cs ∧ cs.size = ln * 2 := by
  obtain ⟨a, ca, rfl, hL⟩ := hL
  obtain ⟨i0, hi, hz0, hz1, hz2⟩ := info_parts info57
  have hmk : ∀ u : World, (Instr.makeSlice 59 (.int .i64 (ln : Int)) (.int .i64 (ln : Int))).run Tryd.prog u =
      .ok (.slice (some ⟨u.heap.size, 0, none⟩) ln ln) (u.alloc (.cells (madeCells #[.string ByteArray.empty, .nilIface] (ln * 2)) 66)) := fun u => by
    have h := run_make (P := Tryd.prog) u 59 66 i0 (.agg #[.string ByteArray.empty, .nilIface]) Tryd.underlying59 hi hz0 .i64 .i64 ln ln (by omega) (by omega) (by rw [hz2]; omega) (by omega)
    simpa [hz1, Value.cells] using h
  have HI : Hid ((∀ i, NC (l i)) ∧ (∀ i, i < ln → (l i).ok ∧ (l i).small ∧ VT (l i)) ∧ (ln = 0 ∨ ∃ b o, a = some ⟨b, o, none⟩ ∧ True ∧ b < w.heap.size ∧ ∀ i, i < ln → ∃ x' y', RV (fun _ => True) w (l i) x' y' ∧ w.cell? ⟨b, o + i * 6, none⟩ = some (.string (ky i)) ∧ five w b (o + i * 6 + 1) (l i) x' y')) := ⟨ih, ok4, hL⟩
  clear ih ok4 hL hi hz0 hz1 hz2
  go_enter Tryd.func29, Tryd.ntmps29
  go_wp2
  clear hmk
  have HB0 : Hid (Below w.heap.size w (w.alloc (.cells (madeCells #[.string ByteArray.empty, .nilIface] (ln * 2)) 66)) ∧ EInv w.heap.size (w.alloc (.cells (madeCells #[.string ByteArray.empty, .nilIface] (ln * 2)) 66)) ky l ln 0 (madeCells #[.string ByteArray.empty, .nilIface] (ln * 2))) :=
    ⟨(Below.refl _ _).alloc (Nat.le_refl _) _, heap_new _ _, by rw [size_madeCells], fun i hi => absurd hi (Nat.not_lt_zero _)⟩
  generalize w.alloc (.cells (madeCells #[.string ByteArray.empty, .nilIface] (ln * 2)) 66) = w0 at *
  generalize hg : w.heap.size = g at *
  have HG : Hid (w.heap.size = g) := hg
  clear hg
  go_loopw [11] (fun i wr => ∃ (j : Nat) (cs : Array Value), j ≤ ln ∧ i = .int .i64 j ∧ Hid (Below g w wr ∧ EInv g wr ky l ln j cs)) (fun i _ => ln - (intOf i).toNat)
  case atStart => exact ⟨0, _, Nat.zero_le _, rfl, HB0⟩
  case round =>
    obtain ⟨j, cs, hj, rfl, hinv⟩ := hrel
    by_cases hlt : j < ln
    · obtain ⟨il, ok4, hL⟩ := HI.out
      rcases hL with h | ⟨b, o, rfl, _, hbl, hL⟩
      · omega
      obtain ⟨x1, y1, hv, g0, g1, g2, g3, g4, g5⟩ := hL j hlt
      have hw := hinv.out.1
      have hle : w.heap.size ≤ g := Nat.le_of_eq HG.out
      replace g0 := Below.cellS hw hle g0
      replace g1 := Below.cellS hw hle g1
      replace g2 := Below.cellS hw hle g2
      replace g3 := Below.cellS hw hle g3
      replace g4 := Below.cellS hw hle g4
      replace g5 := Below.cellS hw hle g5
      obtain ⟨⟨xa, xn, xc, rfl⟩, ⟨ya, yn, yc, rfl⟩⟩ := hv.slices
      have HA : Hid (Below wr.heap.size wr (wr.alloc (Obj.cells #[.string (ky j), .int .i64 (l j).k, .int .i64 (l j).n, .string (l j).s, .slice xa xn xc, .slice ya yn yc] 48))) := (Below.refl _ _).alloc (Nat.le_refl _) _
      have hX : blk (wr.alloc (Obj.cells #[.string (ky j), .int .i64 (l j).k, .int .i64 (l j).n, .string (l j).s, .slice xa xn xc, .slice ya yn yc] 48)) wr.heap.size 48 #[.string (ky j), .int .i64 (l j).k, .int .i64 (l j).n, .string (l j).s, .slice xa xn xc, .slice ya yn yc] := heap_new _ _
      have HV : Hid (NC (l j) ∧ (l j).ok ∧ (l j).small ∧ VT (l j) ∧ RV (fun _ => True) wr (l j) (.slice xa xn xc) (.slice ya yn yc)) := ⟨il j, (ok4 j hlt).1, (ok4 j hlt).2.1, (ok4 j hlt).2.2, Below.rv hw hle hv⟩
      clear il ok4 hL hv hbl hw hle
      go_wp2
      have hxg : wr.heap.size ≠ g := by have := hinv.out.2.1.lt; omega
      generalize hxb : wr.heap.size = xb at *
      have HX : Hid (wr.heap.size = xb) := hxb
      clear hxb
      generalize (wr.alloc (Obj.cells #[.string (ky j), .int .i64 (l j).k, .int .i64 (l j).n, .string (l j).s, .slice xa xn xc, .slice ya yn yc] 48)) = w3 at *
      have k0 : w3.cell? ⟨xb, 0, none⟩ = some (.string (ky j)) := hX.cell 0
      have k1 : w3.cell? ⟨xb, 1, none⟩ = some (.int .i64 (l j).k) := hX.cell 1
      have k2 : w3.cell? ⟨xb, 2, none⟩ = some (.int .i64 (l j).n) := hX.cell 2
      have k3 : w3.cell? ⟨xb, 3, none⟩ = some (.string (l j).s) := hX.cell 3
      have k4 : w3.cell? ⟨xb, 4, none⟩ = some (.slice xa xn xc) := hX.cell 4
      have k5 : w3.cell? ⟨xb, 5, none⟩ = some (.slice ya yn yc) := hX.cell 5
      have j0 : (0 : Int) ≤ (j : Int) := by omega
      have j1 : (j : Int) < (ln : Int) := by omega
      have HC : Hid (∀ w', w'.heap = w3.heap → w'.os = w3.os → w'.tape = w3.tape → w'.output = w3.output → Calls Tryd.prog 27 #[vv (l j) (.slice xa xn xc) (.slice ya yn yc)] w' fun e w'' => ∃ ty uu, e = .returned (.iface ty uu) ∧ (∃ z, w''.cell? ⟨g, j * 2, none⟩ = some z) ∧ (∃ z, w''.cell? ⟨g, j * 2 + 1, none⟩ = some z) ∧ w''.frozen? ⟨g, j * 2, none⟩ = false ∧ w''.frozen? ⟨g, j * 2 + 1, none⟩ = false ∧ Hid (Below w3.heap.size w3 w'') ∧
          Hid (∃ cs', Below g w ((w''.setCell ⟨g, j * 2, none⟩ (.string (ky j))).setCell ⟨g, j * 2 + 1, none⟩ (.iface ty uu)) ∧ EInv g ((w''.setCell ⟨g, j * 2, none⟩ (.string (ky j))).setCell ⟨g, j * 2 + 1, none⟩ (.iface ty uu)) ky l ln (j + 1) cs')) := by
        intro w' hh h1 h2 h3
        have hbw : Below w3.heap.size w3 w' := ⟨h1, h2, h3, by rw [hh]; exact Nat.le_refl _, fun q _ => by rw [hh]⟩
        have hA3 : Below xb wr w' := HA.out.trans (hbw.mono (HX.out ▸ HA.out.size))
        refine (HV.out.1 _ _ w' HV.out.2.1 HV.out.2.2.1 HV.out.2.2.2.1 (Below.rv hA3 (Nat.le_of_eq HX.out) HV.out.2.2.2.2)).mono ?_
        rintro e w2 ⟨u, rfl, hrn, hb2, _⟩
        obtain ⟨ty, uu, rfl⟩ := hrn.iface
        obtain ⟨hbg, hE⟩ := hinv.out
        have hsz := hE.2.1
        have hglt := hE.1.lt
        have hb3 : Below wr.heap.size wr w2 := (HX.out ▸ hA3).trans (hb2.mono (HX.out ▸ hA3.size))
        have hblk2 := hE.1.keep (hb3.block _ hglt)
        refine ⟨ty, uu, rfl, ⟨cs[j * 2], by rw [hblk2.cell]; exact Array.getElem?_eq_getElem (by omega)⟩, ⟨cs[j * 2 + 1], by rw [hblk2.cell]; exact Array.getElem?_eq_getElem (by omega)⟩, hblk2.frozen _, hblk2.frozen _, hbw.trans (hb2.mono hbw.size), _, EInv.step hlt hbg hE hb3 hrn (by have := hA3.size; have := HX.out; omega)⟩
      clear HV HA hinv hX g0 g1 g2 g3 g4 g5
      go_region_held3 (fun w' => w'.cell? ⟨xb, 0, none⟩ = some (.string (ky j)) ∧ w'.cell? ⟨xb, 1, none⟩ = some (.int .i64 (l j).k) ∧ w'.cell? ⟨xb, 2, none⟩ = some (.int .i64 (l j).n) ∧ w'.cell? ⟨xb, 3, none⟩ = some (.string (l j).s) ∧ w'.cell? ⟨xb, 4, none⟩ = some (.slice xa xn xc) ∧ w'.cell? ⟨xb, 5, none⟩ = some (.slice ya yn yc))
        (first | (exact ⟨k0, k1, k2, k3, k4, k5⟩) | (exact ⟨Below.cellS hq.out (Nat.le_refl _) k0, Below.cellS hq.out (Nat.le_refl _) k1, Below.cellS hq.out (Nat.le_refl _) k2, Below.cellS hq.out (Nat.le_refl _) k3, Below.cellS hq.out (Nat.le_refl _) k4, Below.cellS hq.out (Nat.le_refl _) k5⟩) | (exact ⟨cell_set_ne (cell_set_ne (Below.cellS hq.out (Nat.le_refl _) k0) hxg) hxg, cell_set_ne (cell_set_ne (Below.cellS hq.out (Nat.le_refl _) k1) hxg) hxg, cell_set_ne (cell_set_ne (Below.cellS hq.out (Nat.le_refl _) k2) hxg) hxg, cell_set_ne (cell_set_ne (Below.cellS hq.out (Nat.le_refl _) k3) hxg) hxg, cell_set_ne (cell_set_ne (Below.cellS hq.out (Nat.le_refl _) k4) hxg) hxg, cell_set_ne (cell_set_ne (Below.cellS hq.out (Nat.le_refl _) k5) hxg) hxg⟩))
        (first | (go_at_call 27; refine (HC.out w3.drew rfl rfl rfl rfl).mono ?_; rintro e wq ⟨ty, uu, rfl, ⟨z0, cj0⟩, ⟨z1, cj1⟩, fj0, fj1, hq, HN⟩))
      clear k0 k1 k2 k3 k4 k5 HC cj0 cj1 fj0 fj1 hq
      go_wp2
      go_roundw
      case rel => exact ⟨j + 1, _, by omega, by go_num, HN.out.choose_spec⟩
      case measure => simp [intOf]; omega
    · obtain rfl : j = ln := by omega
      go_wp2
      go_ret
      obtain ⟨hbw, hblk, hsz, hel⟩ := hinv.out
      refine ⟨j, by rw [HG.out]; rfl, fun i hi => ?_, HG.out ▸ hblk.lt, HG.out ▸ hbw, rfl, cs, HG.out ▸ hblk, hsz⟩
      obtain ⟨u, q0, q1, q2⟩ := hel i hi
      exact ⟨u, by rw [HG.out, hblk.cell]; exact q0, by rw [HG.out, hblk.cell]; exact q1, RN.move (fun b hb _ => by have := HG.out; omega) (Nat.le_refl _) (fun _ _ _ => rfl) _ _ q2⟩
end Go.Proofs.YtegdlkbilgkfoaaDoor
