import Derived.Test.YtldkecjfjcnkfaaWu
namespace Go.Proofs.Ytldkecjfjcnkfaa
open Go.RowKit Go.Deep
theorem belowDrew1 (w : World) : Below w.heap.size w w.drew := ⟨rfl, rfl, rfl, Nat.le_refl _, fun _ _ => rfl⟩
def SM (x : World) (H : Nat) (m1 m2 : Value) (b p b2 p2 : Nat) (ky : ByteArray) (t : T) (x1 y1 x2 y2 : Value) : Prop :=
  x.cell? ⟨H, 4, none⟩ = some m1 ∧ x.cell? ⟨H + 1, 4, none⟩ = some m2 ∧ five x b (p + 1) t x1 y1 ∧ x.cell? ⟨b, p, none⟩ = some (.string ky) ∧ five x b2 (p2 + 1) t x2 y2 ∧ x.cell? ⟨b2, p2, none⟩ = some (.string ky)
theorem SM.keep {x x' : World} {H : Nat} {m1 m2 : Value} {b p b2 p2 : Nat} {ky : ByteArray} {t : T} {x1 y1 x2 y2 : Value} (h : SM x H m1 m2 b p b2 p2 ky t x1 y1 x2 y2) (hb : Below x.heap.size x x') : SM x' H m1 m2 b p b2 p2 ky t x1 y1 x2 y2 := by
  obtain ⟨s0, s1, ⟨s2, s3, s4, s5, s6⟩, s7, ⟨t2, t3, t4, t5, t6⟩, t7⟩ := h
  have c : ∀ {p : Addr} {v : Value}, x.cell? p = some v → x'.cell? p = some v := fun h => Below.cellS hb (Nat.le_refl _) h
  exact ⟨c s0, c s1, ⟨c s2, c s3, c s4, c s5, c s6⟩, c s7, ⟨c t2, c t3, c t4, c t5, c t6⟩, c t7⟩
set_option maxHeartbeats 4000000 in
theorem same20 (w : World) (nv nv2 : Value) (sz qu : Int) (ag : ByteArray) (yv yv2 : Value) (ns : List (ByteArray × Int)) (dn : Nat) (ky : Nat → ByteArray) (dv : Nat → T) (hns : RNs w nv ns) (hns2 : RNs w nv2 ns) (hnl : ns.length ≤ 140737488351232)
    (hok : ∀ i, i < dn → (dv i).ok) (hdn : dn ≤ 140737488351232) (hr : RD (fun _ => True) w dn ky dv yv) (hr2 : RD (fun _ => True) w dn ky dv yv2) :
    Calls Try.prog 20 #[.agg #[nv, .int .i64 sz, .int .i64 qu, .string ag, yv], .agg #[nv2, .int .i64 sz, .int .i64 qu, .string ag, yv2]] w fun e w' => e = .returned (.bool true) ∧ Below w.heap.size w w' := by
  obtain ⟨na, nc, rfl, hN⟩ := hns
  obtain ⟨nb, nd, rfl, hN2⟩ := hns2
  obtain ⟨ma, mc, rfl, hD⟩ := hr
  obtain ⟨mb, md, rfl, hD2⟩ := hr2
  have HI0 : Hid ((∀ i, i < dn → (dv i).ok) ∧
        (dn = 0 ∨ ∃ b o, ma = some ⟨b, o, none⟩ ∧ True ∧ b < w.heap.size ∧ ∀ i, i < dn → ∃ x' y', RV (fun _ => True) w (dv i) x' y' ∧ w.cell? ⟨b, o + i * 6, none⟩ = some (.string (ky i)) ∧ five w b (o + i * 6 + 1) (dv i) x' y') ∧
        (dn = 0 ∨ ∃ b o, mb = some ⟨b, o, none⟩ ∧ True ∧ b < w.heap.size ∧ ∀ i, i < dn → ∃ x' y', RV (fun _ => True) w (dv i) x' y' ∧ w.cell? ⟨b, o + i * 6, none⟩ = some (.string (ky i)) ∧ five w b (o + i * 6 + 1) (dv i) x' y')) := ⟨hok, hD, hD2⟩
  have HNS := Lib.hid (And.intro hN hN2)
  generalize hnn : ns.length = nn at *
  have HNN := Lib.hid hnn
  have HB0 : Hid (Below w.heap.size w ((w.alloc (Obj.cells #[.slice na nn nc, .int .i64 sz, .int .i64 qu, .string ag, .slice ma dn mc] 35)).alloc (Obj.cells #[.slice nb nn nd, .int .i64 sz, .int .i64 qu, .string ag, .slice mb dn md] 35))) := ((Below.refl _ _).alloc (Nat.le_refl _) _).alloc (by simp) _
  have HC0 : Hid (ow ((w.alloc (Obj.cells #[.slice na nn nc, .int .i64 sz, .int .i64 qu, .string ag, .slice ma dn mc] 35)).alloc (Obj.cells #[.slice nb nn nd, .int .i64 sz, .int .i64 qu, .string ag, .slice mb dn md] 35)) w.heap.size (.slice na nn nc) (.int .i64 sz) (.int .i64 qu) (.string ag) (.slice ma dn mc) ∧ ow ((w.alloc (Obj.cells #[.slice na nn nc, .int .i64 sz, .int .i64 qu, .string ag, .slice ma dn mc] 35)).alloc (Obj.cells #[.slice nb nn nd, .int .i64 sz, .int .i64 qu, .string ag, .slice mb dn md] 35)) (w.heap.size + 1) (.slice nb nn nd) (.int .i64 sz) (.int .i64 qu) (.string ag) (.slice mb dn md) ∧ ((w.alloc (Obj.cells #[.slice na nn nc, .int .i64 sz, .int .i64 qu, .string ag, .slice ma dn mc] 35)).alloc (Obj.cells #[.slice nb nn nd, .int .i64 sz, .int .i64 qu, .string ag, .slice mb dn md] 35)).heap.size = w.heap.size + 2) := by
    refine ⟨?_, ?_, by simp⟩
    · exact (Below.heap_alloc _ _ _ (by simp)).trans (heap_new _ _)
    · have := heap_new (w.alloc (Obj.cells #[.slice na nn nc, .int .i64 sz, .int .i64 qu, .string ag, .slice ma dn mc] 35)) (Obj.cells #[.slice nb nn nd, .int .i64 sz, .int .i64 qu, .string ag, .slice mb dn md] 35)
      simpa [ow] using this
  clear hN hN2 hD hD2 hok hnn
  go_enter Try.func20, Try.ntmps20
  go_upto_region 3 with fail
  generalize ((w.alloc (Obj.cells #[.slice na nn nc, .int .i64 sz, .int .i64 qu, .string ag, .slice ma dn mc] 35)).alloc (Obj.cells #[.slice nb nn nd, .int .i64 sz, .int .i64 qu, .string ag, .slice mb dn md] 35)) = w0 at *
  generalize hvb : w.heap.size = H at *
  have HS : Hid (w.heap.size = H) := hvb
  clear hvb
  go_wp2_with fail
  go_loopw [5] (fun t wr => ∃ k : Nat, k ≤ nn ∧ t = .int .i64 k ∧ Hid (Below w0.heap.size w0 wr)) (fun t _ => nn - (intOf t).toNat)
  case atStart => exact ⟨0, Nat.zero_le _, rfl, Below.refl _ _⟩
  case round =>
    obtain ⟨k, hk, rfl, HI⟩ := hrel
    have hA := HC0.out.1.keep (HI.out.block _ (HC0.out.1.lt))
    have hB := HC0.out.2.1.keep (HI.out.block _ (HC0.out.2.1.lt))
    obtain ⟨a0, -, -, -, a4⟩ := hA.cells
    obtain ⟨b0, -, -, -, b4⟩ := hB.cells
    clear hA hB
    by_cases hlt : k < nn
    · have HBW : Hid (Below H w wr) := HB0.out.trans (HI.out.mono (by have := HB0.out.size; have := HS.out; omega))
      obtain ⟨x, hx⟩ : ∃ x, ns[k]? = some x := ⟨_, List.getElem?_eq_getElem (by rw [HNN.out]; exact hlt)⟩
      have hne : ns ≠ [] := fun e => by have := HNN.out; rw [e] at this; simp at this; omega
      obtain ⟨g, o, rfl, hg, hcn⟩ := HNS.out.1.resolve_left hne
      obtain ⟨g2, o2, rfl, hg2, hcn2⟩ := HNS.out.2.resolve_left hne
      obtain ⟨xs, xi⟩ := x
      have hle : w.heap.size ≤ H := Nat.le_of_eq HS.out
      have g0 : wr.drew.cell? ⟨g, o + k * 2, none⟩ = some (.string xs) := Below.cellS HBW.out hle (hcn k _ hx).1
      have g1 : wr.drew.cell? ⟨g, o + k * 2 + 1, none⟩ = some (.int .i64 xi) := Below.cellS HBW.out hle (hcn k _ hx).2
      have p0 : wr.drew.cell? ⟨g2, o2 + k * 2, none⟩ = some (.string xs) := Below.cellS HBW.out hle (hcn2 k _ hx).1
      have p1 : wr.drew.cell? ⟨g2, o2 + k * 2 + 1, none⟩ = some (.int .i64 xi) := Below.cellS HBW.out hle (hcn2 k _ hx).2
      have c1 : wr.drew.cell? ⟨H, 0, none⟩ = some (.slice (some ⟨g, o, none⟩) nn nc) := a0
      have c2 : wr.drew.cell? ⟨H + 1, 0, none⟩ = some (.slice (some ⟨g2, o2, none⟩) nn nd) := b0
      have HJ : Hid (Below w0.heap.size w0 wr.drew) := HI.out.trans ((belowDrew1 wr).mono HI.out.size)
      clear hcn hcn2 hx hne hle HBW HI b0 a4 b4
      go_upto_region 6 with fail
      refine wp_region_held_drew (S := fun x => x.cell? ⟨H, 0, none⟩ = some (.slice (some ⟨g, o, none⟩) nn nc) ∧ x.cell? ⟨H + 1, 0, none⟩ = some (.slice (some ⟨g2, o2, none⟩) nn nd) ∧ x.cell? ⟨g, o + k * 2, none⟩ = some (.string xs) ∧ x.cell? ⟨g, o + k * 2 + 1, none⟩ = some (.int .i64 xi) ∧ x.cell? ⟨g2, o2 + k * 2, none⟩ = some (.string xs) ∧ x.cell? ⟨g2, o2 + k * 2 + 1, none⟩ = some (.int .i64 xi)) (by kernel_rfl) (⟨c1, c2, g0, g1, p0, p1⟩) (fun hHeld => ?_)
      refine wpAnyH_take (i := 0) (v := .pointer (some ⟨H, 0, none⟩)) rfl (by kernel_rfl) (by kernel_rfl) (by kernel_rfl) (fun _ _ _ h => h) (Or.inl ⟨by rfl, fun w hw => by go_simp⟩) hHeld ?_
      simp only [Act.put, List.getElem_toArray, List.getElem_cons_zero, List.setIfInBounds_toArray, List.set_cons_zero, List.set_cons_succ]
      refine wpAnyH_take (i := 1) (v := .slice (some ⟨g, o, none⟩) nn nc) rfl (by kernel_rfl) (by kernel_rfl) (by kernel_rfl) (fun _ _ _ h => h) (Or.inl ⟨by rfl, fun w hw => by obtain ⟨s0, s1, s2, s3, s4, s5⟩ := hw; go_simp⟩) hHeld ?_
      simp only [Act.put, List.getElem_toArray, List.getElem_cons_zero, List.getElem_cons_succ, List.setIfInBounds_toArray, List.set_cons_zero, List.set_cons_succ]
      refine wpAnyH_take (i := 2) (v := .int .i64 (k : Int)) rfl (by kernel_rfl) (by kernel_rfl) (by kernel_rfl) (fun _ _ _ h => h) (Or.inl ⟨by rfl, fun w hw => by go_simp⟩) hHeld ?_
      simp only [Act.put, List.getElem_toArray, List.getElem_cons_zero, List.getElem_cons_succ, List.setIfInBounds_toArray, List.set_cons_zero, List.set_cons_succ]
      refine wpAnyH_take (i := 3) (v := .pointer (some ⟨g, o + k * 2, none⟩)) rfl (by kernel_rfl) (by kernel_rfl) (by kernel_rfl) (fun _ _ _ h => h) (Or.inl ⟨by rfl, fun w hw => by go_simp⟩) hHeld ?_
      simp only [Act.put, List.getElem_toArray, List.getElem_cons_zero, List.getElem_cons_succ, List.setIfInBounds_toArray, List.set_cons_zero, List.set_cons_succ]
      refine wpAnyH_take (i := 4) (v := .agg #[.string xs, .int .i64 xi]) rfl (by kernel_rfl) (by kernel_rfl) (by kernel_rfl) (fun _ _ _ h => h) (Or.inl ⟨by rfl, fun w hw => by obtain ⟨s0, s1, s2, s3, s4, s5⟩ := hw; go_simp⟩) hHeld ?_
      simp only [Act.put, List.getElem_toArray, List.getElem_cons_zero, List.getElem_cons_succ, List.setIfInBounds_toArray, List.set_cons_zero, List.set_cons_succ]
      refine wpAnyH_take (i := 5) (v := .pointer (some ⟨H + 1, 0, none⟩)) rfl (by kernel_rfl) (by kernel_rfl) (by kernel_rfl) (fun _ _ _ h => h) (Or.inl ⟨by rfl, fun w hw => by go_simp⟩) hHeld ?_
      simp only [Act.put, List.getElem_toArray, List.getElem_cons_zero, List.getElem_cons_succ, List.setIfInBounds_toArray, List.set_cons_zero, List.set_cons_succ]
      refine wpAnyH_take (i := 6) (v := .slice (some ⟨g2, o2, none⟩) nn nd) rfl (by kernel_rfl) (by kernel_rfl) (by kernel_rfl) (fun _ _ _ h => h) (Or.inl ⟨by rfl, fun w hw => by obtain ⟨s0, s1, s2, s3, s4, s5⟩ := hw; go_simp⟩) hHeld ?_
      simp only [Act.put, List.getElem_toArray, List.getElem_cons_zero, List.getElem_cons_succ, List.setIfInBounds_toArray, List.set_cons_zero, List.set_cons_succ]
      refine wpAnyH_take (i := 7) (v := .int .i64 (k : Int)) rfl (by kernel_rfl) (by kernel_rfl) (by kernel_rfl) (fun _ _ _ h => h) (Or.inl ⟨by rfl, fun w hw => by go_simp⟩) hHeld ?_
      simp only [Act.put, List.getElem_toArray, List.getElem_cons_zero, List.getElem_cons_succ, List.setIfInBounds_toArray, List.set_cons_zero, List.set_cons_succ]
      refine wpAnyH_take (i := 8) (v := .pointer (some ⟨g2, o2 + k * 2, none⟩)) rfl (by kernel_rfl) (by kernel_rfl) (by kernel_rfl) (fun _ _ _ h => h) (Or.inl ⟨by rfl, fun w hw => by go_simp⟩) hHeld ?_
      simp only [Act.put, List.getElem_toArray, List.getElem_cons_zero, List.getElem_cons_succ, List.setIfInBounds_toArray, List.set_cons_zero, List.set_cons_succ]
      refine wpAnyH_take (i := 9) (v := .agg #[.string xs, .int .i64 xi]) rfl (by kernel_rfl) (by kernel_rfl) (by kernel_rfl) (fun _ _ _ h => h) (Or.inl ⟨by rfl, fun w hw => by obtain ⟨s0, s1, s2, s3, s4, s5⟩ := hw; go_simp⟩) hHeld ?_
      simp only [Act.put, List.getElem_toArray, List.getElem_cons_zero, List.getElem_cons_succ, List.setIfInBounds_toArray, List.set_cons_zero, List.set_cons_succ]
      refine wpAnyH_take (i := 10) (v := .bool false) rfl (by kernel_rfl) (by kernel_rfl) (by kernel_rfl) (fun _ _ _ h => h) (Or.inl ⟨by rfl, fun w hw => by go_simp⟩) hHeld ?_
      simp only [Act.put, List.getElem_toArray, List.getElem_cons_zero, List.getElem_cons_succ, List.setIfInBounds_toArray, List.set_cons_zero, List.set_cons_succ]
      refine wpAnyH_done (by kernel_rfl) ?_ _
      clear hHeld
      clear c1 c2 g0 g1 p0 p1 a0
      go_wp2
      exact ⟨⟨k + 1, by omega, by go_num, HJ⟩, by simp [intOf]; omega⟩
    · obtain rfl : k = nn := by omega
      clear b0 b4
      go_wp2_with fail
      have H1 := Lib.hid HI.out
      clear HI a0 a4
      go_loopw [6] (fun t wq => ∃ k2 : Nat, k2 ≤ dn ∧ t = .int .i64 k2 ∧ Hid (Below w0.heap.size w0 wq)) (fun t _ => dn - (intOf t).toNat)
      case atStart => exact ⟨0, Nat.zero_le _, rfl, H1.out⟩
      case round =>
        rename Nat => kk
        obtain ⟨k, hk, rfl, HI⟩ := hrel
        have hA := HC0.out.1.keep (HI.out.block _ (HC0.out.1.lt))
        have hB := HC0.out.2.1.keep (HI.out.block _ (HC0.out.2.1.lt))
        obtain ⟨-, -, -, -, a4⟩ := hA.cells
        obtain ⟨-, -, -, -, b4⟩ := hB.cells
        clear hA hB
        by_cases hlt : k < dn
        · have HBW : Hid (Below H w wr) := HB0.out.trans (HI.out.mono (by have := HB0.out.size; have := HS.out; omega))
          obtain ⟨hok, hD, hD2⟩ := HI0.out
          obtain ⟨b, o, rfl, _, hbl, hD⟩ := hD.resolve_left (by omega)
          obtain ⟨b2, o2, rfl, _, hbl2, hD2⟩ := hD2.resolve_left (by omega)
          obtain ⟨x1, y1, hv, e0, e1⟩ := hD k hlt
          obtain ⟨x2, y2, hv2, f0, f1⟩ := hD2 k hlt
          have hle : w.heap.size ≤ H := Nat.le_of_eq HS.out
          have cc : ∀ {p : Addr} {v : Value}, w.cell? p = some v → wr.cell? p = some v := fun h => Below.cellS HBW.out hle h
          have HM0 : Hid (SM wr H (.slice (some ⟨b, o, none⟩) dn mc) (.slice (some ⟨b2, o2, none⟩) dn md) b (o + k * 6) b2 (o2 + k * 6) (ky k) (dv k) x1 y1 x2 y2) := ⟨a4, b4, ⟨cc e1.1, cc e1.2.1, cc e1.2.2.1, cc e1.2.2.2.1, cc e1.2.2.2.2⟩, cc e0, ⟨cc f1.1, cc f1.2.1, cc f1.2.2.1, cc f1.2.2.2.1, cc f1.2.2.2.2⟩, cc f0⟩
          have HM : Hid (∀ w', Below wr.heap.size wr w' → SM w' H (.slice (some ⟨b, o, none⟩) dn mc) (.slice (some ⟨b2, o2, none⟩) dn md) b (o + k * 6) b2 (o2 + k * 6) (ky k) (dv k) x1 y1 x2 y2) := fun w' hw => HM0.out.keep hw
          have hv' := Below.rv (belowDrew1 wr) (Nat.le_refl _) (Below.rv HBW.out hle hv)
          have hv2' := Below.rv (belowDrew1 wr) (Nat.le_refl _) (Below.rv HBW.out hle hv2)
          have HQ := Lib.hid (show Calls Try.prog 29 #[.agg #[.int .i64 (dv k).k, .int .i64 (dv k).n, .string (dv k).s, x1, y1], .agg #[.int .i64 (dv k).k, .int .i64 (dv k).n, .string (dv k).s, x2, y2]] wr.drew _ from equal10 (dv k) (dv k) x1 y1 x2 y2 wr.drew (hok k hlt) (hok k hlt) hv' hv2')
          have HET : Hid (eqT (dv k) (dv k) = true) := eqT_same (dv k) _ _ _ _ hv'
          obtain ⟨⟨xa, xn, xc, rfl⟩, ⟨ya, yn, yc, rfl⟩⟩ := hv.slices
          obtain ⟨⟨xa2, xn2, xc2, rfl⟩, ⟨ya2, yn2, yc2, rfl⟩⟩ := hv2.slices
          clear hok hD hD2 hv hv2 hv' hv2' e0 e1 f0 f1 cc hle HM0 HBW b4
          go_upto_region 11 with fail
          refine wp_region_held_drew (S := fun x => SM x H (.slice (some ⟨b, o, none⟩) dn mc) (.slice (some ⟨b2, o2, none⟩) dn md) b (o + k * 6) b2 (o2 + k * 6) (ky k) (dv k) (.slice xa xn xc) (.slice ya yn yc) (.slice xa2 xn2 xc2) (.slice ya2 yn2 yc2)) (by kernel_rfl) (HM.out _ (belowDrew1 wr)) (fun hHeld => ?_)
          refine wpAnyH_take (i := 0) (v := .pointer (some ⟨H, 4, none⟩)) rfl (by kernel_rfl) (by kernel_rfl) (by kernel_rfl) (fun _ _ _ h => h) (Or.inl ⟨by rfl, fun w hw => by go_simp⟩) hHeld ?_
          simp only [Act.put, List.getElem_toArray, List.getElem_cons_zero, List.setIfInBounds_toArray, List.set_cons_zero, List.set_cons_succ]
          refine wpAnyH_take (i := 1) (v := .slice (some ⟨b, o, none⟩) dn mc) rfl (by kernel_rfl) (by kernel_rfl) (by kernel_rfl) (fun _ _ _ h => h) (Or.inl ⟨by rfl, fun w hw => by obtain ⟨s0, s1, ⟨s2, s3, s4, s5, s6⟩, s7, ⟨t2, t3, t4, t5, t6⟩, t7⟩ := hw; go_simp⟩) hHeld ?_
          simp only [Act.put, List.getElem_toArray, List.getElem_cons_zero, List.getElem_cons_succ, List.setIfInBounds_toArray, List.set_cons_zero, List.set_cons_succ]
          refine wpAnyH_take (i := 2) (v := .int .i64 (k : Int)) rfl (by kernel_rfl) (by kernel_rfl) (by kernel_rfl) (fun _ _ _ h => h) (Or.inl ⟨by rfl, fun w hw => by go_simp⟩) hHeld ?_
          simp only [Act.put, List.getElem_toArray, List.getElem_cons_zero, List.getElem_cons_succ, List.setIfInBounds_toArray, List.set_cons_zero, List.set_cons_succ]
          refine wpAnyH_take (i := 3) (v := .pointer (some ⟨b, o + k * 6, none⟩)) rfl (by kernel_rfl) (by kernel_rfl) (by kernel_rfl) (fun _ _ _ h => h) (Or.inl ⟨by rfl, fun w hw => by go_simp⟩) hHeld ?_
          simp only [Act.put, List.getElem_toArray, List.getElem_cons_zero, List.getElem_cons_succ, List.setIfInBounds_toArray, List.set_cons_zero, List.set_cons_succ]
          refine wpAnyH_take (i := 4) (v := .pointer (some ⟨b, o + k * 6 + 1, none⟩)) rfl (by kernel_rfl) (by kernel_rfl) (by kernel_rfl) (fun _ _ _ h => h) (Or.inl ⟨by rfl, fun w hw => by go_simp⟩) hHeld ?_
          simp only [Act.put, List.getElem_toArray, List.getElem_cons_zero, List.getElem_cons_succ, List.setIfInBounds_toArray, List.set_cons_zero, List.set_cons_succ]
          refine wpAnyH_take (i := 5) (v := .agg #[.int .i64 (dv k).k, .int .i64 (dv k).n, .string (dv k).s, (.slice xa xn xc), (.slice ya yn yc)]) rfl (by kernel_rfl) (by kernel_rfl) (by kernel_rfl) (fun _ _ _ h => h) (Or.inl ⟨by rfl, fun w hw => by obtain ⟨s0, s1, ⟨s2, s3, s4, s5, s6⟩, s7, ⟨t2, t3, t4, t5, t6⟩, t7⟩ := hw; go_simp⟩) hHeld ?_
          simp only [Act.put, List.getElem_toArray, List.getElem_cons_zero, List.getElem_cons_succ, List.setIfInBounds_toArray, List.set_cons_zero, List.set_cons_succ]
          refine wpAnyH_take (i := 6) (v := .pointer (some ⟨H + 1, 4, none⟩)) rfl (by kernel_rfl) (by kernel_rfl) (by kernel_rfl) (fun _ _ _ h => h) (Or.inl ⟨by rfl, fun w hw => by go_simp⟩) hHeld ?_
          simp only [Act.put, List.getElem_toArray, List.getElem_cons_zero, List.getElem_cons_succ, List.setIfInBounds_toArray, List.set_cons_zero, List.set_cons_succ]
          refine wpAnyH_take (i := 7) (v := .slice (some ⟨b2, o2, none⟩) dn md) rfl (by kernel_rfl) (by kernel_rfl) (by kernel_rfl) (fun _ _ _ h => h) (Or.inl ⟨by rfl, fun w hw => by obtain ⟨s0, s1, ⟨s2, s3, s4, s5, s6⟩, s7, ⟨t2, t3, t4, t5, t6⟩, t7⟩ := hw; go_simp⟩) hHeld ?_
          simp only [Act.put, List.getElem_toArray, List.getElem_cons_zero, List.getElem_cons_succ, List.setIfInBounds_toArray, List.set_cons_zero, List.set_cons_succ]
          refine wpAnyH_take (i := 8) (v := .int .i64 (k : Int)) rfl (by kernel_rfl) (by kernel_rfl) (by kernel_rfl) (fun _ _ _ h => h) (Or.inl ⟨by rfl, fun w hw => by go_simp⟩) hHeld ?_
          simp only [Act.put, List.getElem_toArray, List.getElem_cons_zero, List.getElem_cons_succ, List.setIfInBounds_toArray, List.set_cons_zero, List.set_cons_succ]
          refine wpAnyH_take (i := 9) (v := .pointer (some ⟨b2, o2 + k * 6, none⟩)) rfl (by kernel_rfl) (by kernel_rfl) (by kernel_rfl) (fun _ _ _ h => h) (Or.inl ⟨by rfl, fun w hw => by go_simp⟩) hHeld ?_
          simp only [Act.put, List.getElem_toArray, List.getElem_cons_zero, List.getElem_cons_succ, List.setIfInBounds_toArray, List.set_cons_zero, List.set_cons_succ]
          refine wpAnyH_take (i := 10) (v := .pointer (some ⟨b2, o2 + k * 6 + 1, none⟩)) rfl (by kernel_rfl) (by kernel_rfl) (by kernel_rfl) (fun _ _ _ h => h) (Or.inl ⟨by rfl, fun w hw => by go_simp⟩) hHeld ?_
          simp only [Act.put, List.getElem_toArray, List.getElem_cons_zero, List.getElem_cons_succ, List.setIfInBounds_toArray, List.set_cons_zero, List.set_cons_succ]
          refine wpAnyH_take (i := 11) (v := .agg #[.int .i64 (dv k).k, .int .i64 (dv k).n, .string (dv k).s, (.slice xa2 xn2 xc2), (.slice ya2 yn2 yc2)]) rfl (by kernel_rfl) (by kernel_rfl) (by kernel_rfl) (fun _ _ _ h => h) (Or.inl ⟨by rfl, fun w hw => by obtain ⟨s0, s1, ⟨s2, s3, s4, s5, s6⟩, s7, ⟨t2, t3, t4, t5, t6⟩, t7⟩ := hw; go_simp⟩) hHeld ?_
          simp only [Act.put, List.getElem_toArray, List.getElem_cons_zero, List.getElem_cons_succ, List.setIfInBounds_toArray, List.set_cons_zero, List.set_cons_succ]
          refine wpAnyH_ready (rs := [12]) (by kernel_rfl) (by simp) ?_
          refine AllReadyH.cons (o := _) rfl (fun K hK => ?_) AllReadyH.nil
          go_simp
          refine HQ.out.mono ?_
          rintro e w5 ⟨rfl, b5⟩
          have b6 : Below wr.heap.size wr w5 := (belowDrew1 wr).trans b5
          have hS := HM.out w5 b6
          have HI5 : Hid (Below w0.heap.size w0 w5) := HI.out.trans (b6.mono HI.out.size)
          clear HI
          rw [HET.out]
          go_wp2_with fail
          refine hK.out _ _ hS (fun hHeld => ?_)
          clear hK K
          refine wpAnyH_ready (rs := [13]) (by kernel_rfl) (by simp) ?_
          refine AllReadyH.cons (o := _) rfl (fun K hK => ?_) AllReadyH.nil
          go_simp
          refine hK.out _ _ hS (fun hHeld => ?_)
          clear hK K
          refine wpAnyH_done (by kernel_rfl) ?_ _
          clear hHeld
          clear hS a4
          go_upto_region 12 with fail
          refine wp_region_held_drew (S := fun x => SM x H (.slice (some ⟨b, o, none⟩) dn mc) (.slice (some ⟨b2, o2, none⟩) dn md) b (o + k * 6) b2 (o2 + k * 6) (ky k) (dv k) (.slice xa xn xc) (.slice ya yn yc) (.slice xa2 xn2 xc2) (.slice ya2 yn2 yc2)) (by kernel_rfl) (HM.out _ (b6.trans ((belowDrew1 w5).mono b6.size))) (fun hHeld => ?_)
          refine wpAnyH_take (i := 0) (v := .pointer (some ⟨H, 4, none⟩)) rfl (by kernel_rfl) (by kernel_rfl) (by kernel_rfl) (fun _ _ _ h => h) (Or.inl ⟨by rfl, fun w hw => by go_simp⟩) hHeld ?_
          simp only [Act.put, List.getElem_toArray, List.getElem_cons_zero, List.setIfInBounds_toArray, List.set_cons_zero, List.set_cons_succ]
          refine wpAnyH_take (i := 1) (v := .slice (some ⟨b, o, none⟩) dn mc) rfl (by kernel_rfl) (by kernel_rfl) (by kernel_rfl) (fun _ _ _ h => h) (Or.inl ⟨by rfl, fun w hw => by obtain ⟨s0, s1, ⟨s2, s3, s4, s5, s6⟩, s7, ⟨t2, t3, t4, t5, t6⟩, t7⟩ := hw; go_simp⟩) hHeld ?_
          simp only [Act.put, List.getElem_toArray, List.getElem_cons_zero, List.getElem_cons_succ, List.setIfInBounds_toArray, List.set_cons_zero, List.set_cons_succ]
          refine wpAnyH_take (i := 2) (v := .int .i64 (k : Int)) rfl (by kernel_rfl) (by kernel_rfl) (by kernel_rfl) (fun _ _ _ h => h) (Or.inl ⟨by rfl, fun w hw => by go_simp⟩) hHeld ?_
          simp only [Act.put, List.getElem_toArray, List.getElem_cons_zero, List.getElem_cons_succ, List.setIfInBounds_toArray, List.set_cons_zero, List.set_cons_succ]
          refine wpAnyH_take (i := 3) (v := .pointer (some ⟨b, o + k * 6, none⟩)) rfl (by kernel_rfl) (by kernel_rfl) (by kernel_rfl) (fun _ _ _ h => h) (Or.inl ⟨by rfl, fun w hw => by go_simp⟩) hHeld ?_
          simp only [Act.put, List.getElem_toArray, List.getElem_cons_zero, List.getElem_cons_succ, List.setIfInBounds_toArray, List.set_cons_zero, List.set_cons_succ]
          refine wpAnyH_take (i := 4) (v := .pointer (some ⟨b, o + k * 6, none⟩)) rfl (by kernel_rfl) (by kernel_rfl) (by kernel_rfl) (fun _ _ _ h => h) (Or.inl ⟨by rfl, fun w hw => by go_simp⟩) hHeld ?_
          simp only [Act.put, List.getElem_toArray, List.getElem_cons_zero, List.getElem_cons_succ, List.setIfInBounds_toArray, List.set_cons_zero, List.set_cons_succ]
          refine wpAnyH_take (i := 5) (v := .string (ky k)) rfl (by kernel_rfl) (by kernel_rfl) (by kernel_rfl) (fun _ _ _ h => h) (Or.inl ⟨by rfl, fun w hw => by obtain ⟨s0, s1, ⟨s2, s3, s4, s5, s6⟩, s7, ⟨t2, t3, t4, t5, t6⟩, t7⟩ := hw; go_simp⟩) hHeld ?_
          simp only [Act.put, List.getElem_toArray, List.getElem_cons_zero, List.getElem_cons_succ, List.setIfInBounds_toArray, List.set_cons_zero, List.set_cons_succ]
          refine wpAnyH_take (i := 6) (v := .pointer (some ⟨H + 1, 4, none⟩)) rfl (by kernel_rfl) (by kernel_rfl) (by kernel_rfl) (fun _ _ _ h => h) (Or.inl ⟨by rfl, fun w hw => by go_simp⟩) hHeld ?_
          simp only [Act.put, List.getElem_toArray, List.getElem_cons_zero, List.getElem_cons_succ, List.setIfInBounds_toArray, List.set_cons_zero, List.set_cons_succ]
          refine wpAnyH_take (i := 7) (v := .slice (some ⟨b2, o2, none⟩) dn md) rfl (by kernel_rfl) (by kernel_rfl) (by kernel_rfl) (fun _ _ _ h => h) (Or.inl ⟨by rfl, fun w hw => by obtain ⟨s0, s1, ⟨s2, s3, s4, s5, s6⟩, s7, ⟨t2, t3, t4, t5, t6⟩, t7⟩ := hw; go_simp⟩) hHeld ?_
          simp only [Act.put, List.getElem_toArray, List.getElem_cons_zero, List.getElem_cons_succ, List.setIfInBounds_toArray, List.set_cons_zero, List.set_cons_succ]
          refine wpAnyH_take (i := 8) (v := .int .i64 (k : Int)) rfl (by kernel_rfl) (by kernel_rfl) (by kernel_rfl) (fun _ _ _ h => h) (Or.inl ⟨by rfl, fun w hw => by go_simp⟩) hHeld ?_
          simp only [Act.put, List.getElem_toArray, List.getElem_cons_zero, List.getElem_cons_succ, List.setIfInBounds_toArray, List.set_cons_zero, List.set_cons_succ]
          refine wpAnyH_take (i := 9) (v := .pointer (some ⟨b2, o2 + k * 6, none⟩)) rfl (by kernel_rfl) (by kernel_rfl) (by kernel_rfl) (fun _ _ _ h => h) (Or.inl ⟨by rfl, fun w hw => by go_simp⟩) hHeld ?_
          simp only [Act.put, List.getElem_toArray, List.getElem_cons_zero, List.getElem_cons_succ, List.setIfInBounds_toArray, List.set_cons_zero, List.set_cons_succ]
          refine wpAnyH_take (i := 10) (v := .pointer (some ⟨b2, o2 + k * 6, none⟩)) rfl (by kernel_rfl) (by kernel_rfl) (by kernel_rfl) (fun _ _ _ h => h) (Or.inl ⟨by rfl, fun w hw => by go_simp⟩) hHeld ?_
          simp only [Act.put, List.getElem_toArray, List.getElem_cons_zero, List.getElem_cons_succ, List.setIfInBounds_toArray, List.set_cons_zero, List.set_cons_succ]
          refine wpAnyH_take (i := 11) (v := .string (ky k)) rfl (by kernel_rfl) (by kernel_rfl) (by kernel_rfl) (fun _ _ _ h => h) (Or.inl ⟨by rfl, fun w hw => by obtain ⟨s0, s1, ⟨s2, s3, s4, s5, s6⟩, s7, ⟨t2, t3, t4, t5, t6⟩, t7⟩ := hw; go_simp⟩) hHeld ?_
          simp only [Act.put, List.getElem_toArray, List.getElem_cons_zero, List.getElem_cons_succ, List.setIfInBounds_toArray, List.set_cons_zero, List.set_cons_succ]
          refine wpAnyH_take (i := 12) (v := .bool false) rfl (by kernel_rfl) (by kernel_rfl) (by kernel_rfl) (fun _ _ _ h => h) (Or.inl ⟨by rfl, fun w hw => by go_simp⟩) hHeld ?_
          simp only [Act.put, List.getElem_toArray, List.getElem_cons_zero, List.getElem_cons_succ, List.setIfInBounds_toArray, List.set_cons_zero, List.set_cons_succ]
          refine wpAnyH_take (i := 13) (v := .bool false) rfl (by kernel_rfl) (by kernel_rfl) (by kernel_rfl) (fun _ _ _ h => h) (Or.inl ⟨by rfl, fun w hw => by go_simp⟩) hHeld ?_
          simp only [Act.put, List.getElem_toArray, List.getElem_cons_zero, List.getElem_cons_succ, List.setIfInBounds_toArray, List.set_cons_zero, List.set_cons_succ]
          refine wpAnyH_take (i := 14) (v := .bool true) rfl (by kernel_rfl) (by kernel_rfl) (by kernel_rfl) (fun _ _ _ h => h) (Or.inl ⟨by rfl, fun w hw => by go_simp⟩) hHeld ?_
          simp only [Act.put, List.getElem_toArray, List.getElem_cons_zero, List.getElem_cons_succ, List.setIfInBounds_toArray, List.set_cons_zero, List.set_cons_succ]
          refine wpAnyH_take (i := 15) (v := .bool false) rfl (by kernel_rfl) (by kernel_rfl) (by kernel_rfl) (fun _ _ _ h => h) (Or.inl ⟨by rfl, fun w hw => by go_simp⟩) hHeld ?_
          simp only [Act.put, List.getElem_toArray, List.getElem_cons_zero, List.getElem_cons_succ, List.setIfInBounds_toArray, List.set_cons_zero, List.set_cons_succ]
          refine wpAnyH_take (i := 16) (v := .bool false) rfl (by kernel_rfl) (by kernel_rfl) (by kernel_rfl) (fun _ _ _ h => h) (Or.inl ⟨by rfl, fun w hw => by go_simp⟩) hHeld ?_
          simp only [Act.put, List.getElem_toArray, List.getElem_cons_zero, List.getElem_cons_succ, List.setIfInBounds_toArray, List.set_cons_zero, List.set_cons_succ]
          refine wpAnyH_done (by kernel_rfl) ?_ _
          clear hHeld
          have HI6 : Hid (Below w0.heap.size w0 w5.drew) := HI5.out.trans ((belowDrew1 w5).mono HI5.out.size)
          clear HI5 b6
          go_wp2
          exact ⟨⟨k + 1, by omega, by go_num, HI6⟩, by simp [intOf]; omega⟩
        · obtain rfl : k = dn := by omega
          clear b4
          have HE : Hid (Below w.heap.size w wr) := HS.out ▸ HB0.out.trans (HI.out.mono (by have := HB0.out.size; have := HS.out; omega))
          clear HI
          go_wp2
          go_ret
          rw [← HS.out]
          exact ⟨rfl, HE.out⟩
end Go.Proofs.Ytldkecjfjcnkfaa
