import Derived.Test.YtdchckelnccepaaDoorWu
import Derived.ProofKit
import Derived.OpenShut
import Derived.SizedLaws
import Derived.Carry
namespace Go.Proofs.YtdchckelnccepaaDoor
open Go.RowKit Go.Deep
theorem belowDrew1 (w : World) : Below w.heap.size w w.drew := ⟨rfl, rfl, rfl, Nat.le_refl _, fun _ _ => rfl⟩
def SM (x : World) (H : Nat) (m1 m2 : Value) (b p b2 p2 : Nat) (ky : ByteArray) (t : T) (x1 y1 x2 y2 : Value) : Prop :=
  x.cell? ⟨H, 4, none⟩ = some m1 ∧ x.cell? ⟨H + 1, 4, none⟩ = some m2 ∧ five x b (p + 1) t x1 y1 ∧ x.cell? ⟨b, p, none⟩ = some (.string ky) ∧ five x b2 (p2 + 1) t x2 y2 ∧ x.cell? ⟨b2, p2, none⟩ = some (.string ky)
theorem SM.keep {x x' : World} {H : Nat} {m1 m2 : Value} {b p b2 p2 : Nat} {ky : ByteArray} {t : T} {x1 y1 x2 y2 : Value} (h : SM x H m1 m2 b p b2 p2 ky t x1 y1 x2 y2) (hb : Below x.heap.size x x') : SM x' H m1 m2 b p b2 p2 ky t x1 y1 x2 y2 := by
  obtain ⟨s0, s1, ⟨s2, s3, s4, s5, s6⟩, s7, ⟨t2, t3, t4, t5, t6⟩, t7⟩ := h
  have c : ∀ {p : Addr} {v : Value}, x.cell? p = some v → x'.cell? p = some v := fun h => Below.cellS hb (Nat.le_refl _) h
  exact ⟨c s0, c s1, ⟨c s2, c s3, c s4, c s5, c s6⟩, c s7, ⟨c t2, c t3, c t4, c t5, c t6⟩, c t7⟩
set_option maxHeartbeats 4000000 in
theorem same20 (w : World) (nv nv2 : Value) (sz qu : Int) (ag : ByteArray) (yv yv2 : Value) (ns : List (ByteArray × Int)) (dn : Nat) (ky : Nat → ByteArray) (dv : Nat → T) (hns : RNs w nv ns) (hns2 : RNs w nv2 ns) (hnl : ns.length ≤ 140737488351232)
    (hok : ∀ i, i < dn → (dv i).ok) (hdn : dn ≤ 140737488351232) (hr : RD (fun _ => True) w dn ky dv yv) (hr2 : RD (fun _ => True) w dn ky dv yv2) :
    Calls Tryd.prog 9 #[.agg #[nv, .int .i64 sz, .int .i64 qu, .string ag, yv], .agg #[nv2, .int .i64 sz, .int .i64 qu, .string ag, yv2]] w fun e w' => e = .returned (.bool true) ∧ Below w.heap.size w w' := by
  obtain ⟨na, nc, rfl, hN⟩ := hns
  obtain ⟨nb, nd, rfl, hN2⟩ := hns2
  obtain ⟨ma, mc, rfl, hD⟩ := hr
  obtain ⟨mb, md, rfl, hD2⟩ := hr2
  have HI0 : Hid ((∀ i, i < dn → (dv i).ok) ∧
        (dn = 0 ∨ ∃ b o, ma = some ⟨b, o, none⟩ ∧ True ∧ b < w.heap.size ∧ ∀ i, i < dn → ∃ x' y', RV (fun _ => True) w (dv i) x' y' ∧ w.cell? ⟨b, o + i * 6, none⟩ = some (.string (ky i)) ∧ five w b (o + i * 6 + 1) (dv i) x' y') ∧
        (dn = 0 ∨ ∃ b o, mb = some ⟨b, o, none⟩ ∧ True ∧ b < w.heap.size ∧ ∀ i, i < dn → ∃ x' y', RV (fun _ => True) w (dv i) x' y' ∧ w.cell? ⟨b, o + i * 6, none⟩ = some (.string (ky i)) ∧ five w b (o + i * 6 + 1) (dv i) x' y')) := ⟨hok, hD, hD2⟩
  have HNS := Lib.hid (And.intro hN hN2)
  generalize hnn : ns.length = nn at *
  have HNN := Lib.hid hnn
  have HB0 : Hid (Below w.heap.size w ((w.alloc (Obj.cells #[.slice na nn nc, .int .i64 sz, .int .i64 qu, .string ag, .slice ma dn mc] 25)).alloc (Obj.cells #[.slice nb nn nd, .int .i64 sz, .int .i64 qu, .string ag, .slice mb dn md] 25))) := ((Below.refl _ _).alloc (Nat.le_refl _) _).alloc (by simp) _
  have HC0 : Hid (ow ((w.alloc (Obj.cells #[.slice na nn nc, .int .i64 sz, .int .i64 qu, .string ag, .slice ma dn mc] 25)).alloc (Obj.cells #[.slice nb nn nd, .int .i64 sz, .int .i64 qu, .string ag, .slice mb dn md] 25)) w.heap.size (.slice na nn nc) (.int .i64 sz) (.int .i64 qu) (.string ag) (.slice ma dn mc) ∧ ow ((w.alloc (Obj.cells #[.slice na nn nc, .int .i64 sz, .int .i64 qu, .string ag, .slice ma dn mc] 25)).alloc (Obj.cells #[.slice nb nn nd, .int .i64 sz, .int .i64 qu, .string ag, .slice mb dn md] 25)) (w.heap.size + 1) (.slice nb nn nd) (.int .i64 sz) (.int .i64 qu) (.string ag) (.slice mb dn md) ∧ ((w.alloc (Obj.cells #[.slice na nn nc, .int .i64 sz, .int .i64 qu, .string ag, .slice ma dn mc] 25)).alloc (Obj.cells #[.slice nb nn nd, .int .i64 sz, .int .i64 qu, .string ag, .slice mb dn md] 25)).heap.size = w.heap.size + 2) := by
    refine ⟨?_, ?_, by simp⟩
    · exact (Below.heap_alloc _ _ _ (by simp)).trans (heap_new _ _)
    · have := heap_new (w.alloc (Obj.cells #[.slice na nn nc, .int .i64 sz, .int .i64 qu, .string ag, .slice ma dn mc] 25)) (Obj.cells #[.slice nb nn nd, .int .i64 sz, .int .i64 qu, .string ag, .slice mb dn md] 25)
      simpa [ow] using this
  clear hN hN2 hD hD2 hok hnn
  go_enter Tryd.func9, Tryd.ntmps9
  go_upto_region 3 with fail
  generalize ((w.alloc (Obj.cells #[.slice na nn nc, .int .i64 sz, .int .i64 qu, .string ag, .slice ma dn mc] 25)).alloc (Obj.cells #[.slice nb nn nd, .int .i64 sz, .int .i64 qu, .string ag, .slice mb dn md] 25)) = w0 at *
  generalize hvb : w.heap.size = H at *
  have HS : Hid (w.heap.size = H) := hvb
  clear hvb
  go_wp2_with fail
  go_loopw [5] (fun t wr => ∃ k : Nat, k ≤ nn ∧ t = .int .i64 k ∧ Hid (Below w0.heap.size w0 wr)) (fun t _ => nn - (intOf t).toNat)
  case atStart => exact ⟨0, Nat.zero_le _, rfl, Below.refl _ _⟩
  case round =>
    obtain ⟨k, hk, rfl, HI⟩ := hrel
    have hA := HC0.out.1.keep (HI.out.block _ (HC0.out.1.lt))
    have hB := HC0.out.2.1.keep (HI.out.block _ (HC0.out.2.1.lt))
    obtain ⟨a0, -, -, -, a4⟩ := hA.cells
    obtain ⟨b0, -, -, -, b4⟩ := hB.cells
    clear hA hB
    by_cases hlt : k < nn
    · have HBW : Hid (Below H w wr) := HB0.out.trans (HI.out.mono (by have := HB0.out.size; have := HS.out; omega))
      obtain ⟨x, hx⟩ : ∃ x, ns[k]? = some x := ⟨_, List.getElem?_eq_getElem (by rw [HNN.out]; exact hlt)⟩
      have hne : ns ≠ [] := fun e => by have := HNN.out; rw [e] at this; simp at this; omega
      obtain ⟨g, o, rfl, hg, hcn⟩ := HNS.out.1.resolve_left hne
      obtain ⟨g2, o2, rfl, hg2, hcn2⟩ := HNS.out.2.resolve_left hne
      obtain ⟨xs, xi⟩ := x
      have hle : w.heap.size ≤ H := Nat.le_of_eq HS.out
      have g0 : wr.drew.cell? ⟨g, o + k * 2, none⟩ = some (.string xs) := Below.cellS HBW.out hle (hcn k _ hx).1
      have g1 : wr.drew.cell? ⟨g, o + k * 2 + 1, none⟩ = some (.int .i64 xi) := Below.cellS HBW.out hle (hcn k _ hx).2
      have p0 : wr.drew.cell? ⟨g2, o2 + k * 2, none⟩ = some (.string xs) := Below.cellS HBW.out hle (hcn2 k _ hx).1
      have p1 : wr.drew.cell? ⟨g2, o2 + k * 2 + 1, none⟩ = some (.int .i64 xi) := Below.cellS HBW.out hle (hcn2 k _ hx).2
      have c1 : wr.drew.cell? ⟨H, 0, none⟩ = some (.slice (some ⟨g, o, none⟩) nn nc) := a0
      have c2 : wr.drew.cell? ⟨H + 1, 0, none⟩ = some (.slice (some ⟨g2, o2, none⟩) nn nd) := b0
      have HJ : Hid (Below w0.heap.size w0 wr.drew) := HI.out.trans ((belowDrew1 wr).mono HI.out.size)
      clear hcn hcn2 hx hne hle HBW HI b0 a4 b4
      go_upto_region 6 with fail
      refine wp_region_held_drew (S := fun x => x.cell? ⟨H, 0, none⟩ = some (.slice (some ⟨g, o, none⟩) nn nc) ∧ x.cell? ⟨H + 1, 0, none⟩ = some (.slice (some ⟨g2, o2, none⟩) nn nd) ∧ x.cell? ⟨g, o + k * 2, none⟩ = some (.string xs) ∧ x.cell? ⟨g, o + k * 2 + 1, none⟩ = some (.int .i64 xi) ∧ x.cell? ⟨g2, o2 + k * 2, none⟩ = some (.string xs) ∧ x.cell? ⟨g2, o2 + k * 2 + 1, none⟩ = some (.int .i64 xi)) (by kernel_rfl) (⟨c1, c2, g0, g1, p0, p1⟩) (fun hHeld => ?_)
      refine wpAnyH_take (i := 0) (v := .pointer (some ⟨H, 0, none⟩)) rfl (by kernel_rfl) (by kernel_rfl) (by kernel_rfl) (fun _ _ _ h => h) (Or.inl ⟨by rfl, fun w hw => by go_simp⟩) hHeld ?_
      simp only [Act.put, List.getElem_toArray, List.getElem_cons_zero, List.setIfInBounds_toArray, List.set_cons_zero, List.set_cons_succ]
      refine wpAnyH_take (i := 1) (v := .slice (some ⟨g, o, none⟩) nn nc) rfl (by kernel_rfl) (by kernel_rfl) (by kernel_rfl) (fun _ _ _ h => h) (Or.inl ⟨by rfl, fun w hw => by obtain ⟨s0, s1, s2, s3, s4, s5⟩ := hw; go_simp⟩) hHeld ?_
      simp only [Act.put, List.getElem_toArray, List.getElem_cons_zero, List.getElem_cons_succ, List.setIfInBounds_toArray, List.set_cons_zero, List.set_cons_succ]
      refine wpAnyH_take (i := 2) (v := .int .i64 (k : Int)) rfl (by kernel_rfl) (by kernel_rfl) (by kernel_rfl) (fun _ _ _ h => h) (Or.inl ⟨by rfl, fun w hw => by go_simp⟩) hHeld ?_
      simp only [Act.put, List.getElem_toArray, List.getElem_cons_zero, List.getElem_cons_succ, List.setIfInBounds_toArray, List.set_cons_zero, List.set_cons_succ]
      refine wpAnyH_take (i := 3) (v := .pointer (some ⟨g, o + k * 2, none⟩)) rfl (by kernel_rfl) (by kernel_rfl) (by kernel_rfl) (fun _ _ _ h => h) (Or.inl ⟨by rfl, fun w hw => by go_simp⟩) hHeld ?_
      simp only [Act.put, List.getElem_toArray, List.getElem_cons_zero, List.getElem_cons_succ, List.setIfInBounds_toArray, List.set_cons_zero, List.set_cons_succ]
      refine wpAnyH_take (i := 4) (v := .agg #[.string xs, .int .i64 xi]) rfl (by kernel_rfl) (by kernel_rfl) (by kernel_rfl) (fun _ _ _ h => h) (Or.inl ⟨by rfl, fun w hw => by obtain ⟨s0, s1, s2, s3, s4, s5⟩ := hw; go_simp⟩) hHeld ?_
      simp only [Act.put, List.getElem_toArray, List.getElem_cons_zero, List.getElem_cons_succ, List.setIfInBounds_toArray, List.set_cons_zero, List.set_cons_succ]
      refine wpAnyH_take (i := 5) (v := .pointer (some ⟨H + 1, 0, none⟩)) rfl (by kernel_rfl) (by kernel_rfl) (by kernel_rfl) (fun _ _ _ h => h) (Or.inl ⟨by rfl, fun w hw => by go_simp⟩) hHeld ?_
      simp only [Act.put, List.getElem_toArray, List.getElem_cons_zero, List.getElem_cons_succ, List.setIfInBounds_toArray, List.set_cons_zero, List.set_cons_succ]
      refine wpAnyH_take (i := 6) (v := .slice (some ⟨g2, o2, none⟩) nn nd) rfl (by kernel_rfl) (by kernel_rfl) (by kernel_rfl) (fun _ _ _ h => h) (Or.inl ⟨by rfl, fun w hw => by obtain ⟨s0, s1, s2, s3, s4, s5⟩ := hw; go_simp⟩) hHeld ?_
      simp only [Act.put, List.getElem_toArray, List.getElem_cons_zero, List.getElem_cons_succ, List.setIfInBounds_toArray, List.set_cons_zero, List.set_cons_succ]
      refine wpAnyH_take (i := 7) (v := .int .i64 (k : Int)) rfl (by kernel_rfl) (by kernel_rfl) (by kernel_rfl) (fun _ _ _ h => h) (Or.inl ⟨by rfl, fun w hw => by go_simp⟩) hHeld ?_
      simp only [Act.put, List.getElem_toArray, List.getElem_cons_zero, List.getElem_cons_succ, List.setIfInBounds_toArray, List.set_cons_zero, List.set_cons_succ]
      refine wpAnyH_take (i := 8) (v := .pointer (some ⟨g2, o2 + k * 2, none⟩)) rfl (by kernel_rfl) (by kernel_rfl) (by kernel_rfl) (fun _ _ _ h => h) (Or.inl ⟨by rfl, fun w hw => by go_simp⟩) hHeld ?_
      simp only [Act.put, List.getElem_toArray, List.getElem_cons_zero, List.getElem_cons_succ, List.setIfInBounds_toArray, List.set_cons_zero, List.set_cons_succ]
      refine wpAnyH_take (i := 9) (v := .agg #[.string xs, .int .i64 xi]) rfl (by kernel_rfl) (by kernel_rfl) (by kernel_rfl) (fun _ _ _ h => h) (Or.inl ⟨by rfl, fun w hw => by obtain ⟨s0, s1, s2, s3, s4, s5⟩ := hw; go_simp⟩) hHeld ?_
      simp only [Act.put, List.getElem_toArray, List.getElem_cons_zero, List.getElem_cons_succ, List.setIfInBounds_toArray, List.set_cons_zero, List.set_cons_succ]
      refine wpAnyH_take (i := 10) (v := .bool false) rfl (by kernel_rfl) (by kernel_rfl) (by kernel_rfl) (fun _ _ _ h => h) (Or.inl ⟨by rfl, fun w hw => by go_simp⟩) hHeld ?_
      simp only [Act.put, List.getElem_toArray, List.getElem_cons_zero, List.getElem_cons_succ, List.setIfInBounds_toArray, List.set_cons_zero, List.set_cons_succ]
      refine wpAnyH_done (by kernel_rfl) ?_ _
      clear hHeld
      clear c1 c2 g0 g1 p0 p1 a0
      go_wp2
      exact ⟨⟨k + 1, by omega, by go_num, HJ⟩, by simp [intOf]; omega⟩
    · obtain rfl : k = nn := by omega
      clear b0 b4
      go_wp2_with fail
      have H1 := Lib.hid HI.out
      clear HI a0 a4
      go_loopw [6] (fun t wq => ∃ k2 : Nat, k2 ≤ dn ∧ t = .int .i64 k2 ∧ Hid (Below w0.heap.size w0 wq)) (fun t _ => dn - (intOf t).toNat)
      case atStart => exact ⟨0, Nat.zero_le _, rfl, H1.out⟩
      case round =>
        rename Nat => kk
        obtain ⟨k, hk, rfl, HI⟩ := hrel
        have hA := HC0.out.1.keep (HI.out.block _ (HC0.out.1.lt))
        have hB := HC0.out.2.1.keep (HI.out.block _ (HC0.out.2.1.lt))
        obtain ⟨-, -, -, -, a4⟩ := hA.cells
        obtain ⟨-, -, -, -, b4⟩ := hB.cells
        clear hA hB
        by_cases hlt : k < dn
        · have HBW : Hid (Below H w wr) := HB0.out.trans (HI.out.mono (by have := HB0.out.size; have := HS.out; omega))
          obtain ⟨hok, hD, hD2⟩ := HI0.out
          obtain ⟨b, o, rfl, _, hbl, hD⟩ := hD.resolve_left (by omega)
          obtain ⟨b2, o2, rfl, _, hbl2, hD2⟩ := hD2.resolve_left (by omega)
          obtain ⟨x1, y1, hv, e0, e1⟩ := hD k hlt
          obtain ⟨x2, y2, hv2, f0, f1⟩ := hD2 k hlt
          have hle : w.heap.size ≤ H := Nat.le_of_eq HS.out
          have cc : ∀ {p : Addr} {v : Value}, w.cell? p = some v → wr.cell? p = some v := fun h => Below.cellS HBW.out hle h
          have HM0 : Hid (SM wr H (.slice (some ⟨b, o, none⟩) dn mc) (.slice (some ⟨b2, o2, none⟩) dn md) b (o + k * 6) b2 (o2 + k * 6) (ky k) (dv k) x1 y1 x2 y2) := ⟨a4, b4, ⟨cc e1.1, cc e1.2.1, cc e1.2.2.1, cc e1.2.2.2.1, cc e1.2.2.2.2⟩, cc e0, ⟨cc f1.1, cc f1.2.1, cc f1.2.2.1, cc f1.2.2.2.1, cc f1.2.2.2.2⟩, cc f0⟩
          have HM : Hid (∀ w', Below wr.heap.size wr w' → SM w' H (.slice (some ⟨b, o, none⟩) dn mc) (.slice (some ⟨b2, o2, none⟩) dn md) b (o + k * 6) b2 (o2 + k * 6) (ky k) (dv k) x1 y1 x2 y2) := fun w' hw => HM0.out.keep hw
          have hv' := Below.rv (belowDrew1 wr) (Nat.le_refl _) (Below.rv HBW.out hle hv)
          have hv2' := Below.rv (belowDrew1 wr) (Nat.le_refl _) (Below.rv HBW.out hle hv2)
          have HQ := Lib.hid (show Calls Tryd.prog 17 #[.agg #[.int .i64 (dv k).k, .int .i64 (dv k).n, .string (dv k).s, x1, y1], .agg #[.int .i64 (dv k).k, .int .i64 (dv k).n, .string (dv k).s, x2, y2]] wr.drew _ from equal10 (dv k) (dv k) x1 y1 x2 y2 wr.drew (hok k hlt) (hok k hlt) hv' hv2')
          have HET : Hid (eqT (dv k) (dv k) = true) := eqT_same (dv k) _ _ _ _ hv'
          obtain ⟨⟨xa, xn, xc, rfl⟩, ⟨ya, yn, yc, rfl⟩⟩ := hv.slices
          obtain ⟨⟨xa2, xn2, xc2, rfl⟩, ⟨ya2, yn2, yc2, rfl⟩⟩ := hv2.slices
          clear hok hD hD2 hv hv2 hv' hv2' e0 e1 f0 f1 cc hle HM0 HBW b4
          go_upto_region 11 with fail
          refine wp_region_held_drew (S := fun x => SM x H (.slice (some ⟨b, o, none⟩) dn mc) (.slice (some ⟨b2, o2, none⟩) dn md) b (o + k * 6) b2 (o2 + k * 6) (ky k) (dv k) (.slice xa xn xc) (.slice ya yn yc) (.slice xa2 xn2 xc2) (.slice ya2 yn2 yc2)) (by kernel_rfl) (HM.out _ (belowDrew1 wr)) (fun hHeld => ?_)
          refine wpAnyH_take (i := 0) (v := .pointer (some ⟨H, 4, none⟩)) rfl (by kernel_rfl) (by kernel_rfl) (by kernel_rfl) (fun _ _ _ h => h) (Or.inl ⟨by rfl, fun w hw => by go_simp⟩) hHeld ?_
          simp only [Act.put, List.getElem_toArray, List.getElem_cons_zero, List.setIfInBounds_toArray, List.set_cons_zero, List.set_cons_succ]
          refine wpAnyH_take (i := 1) (v := .slice (some ⟨b, o, none⟩) dn mc) rfl (by kernel_rfl) (by kernel_rfl) (by kernel_rfl) (fun _ _ _ h => h) (Or.inl ⟨by rfl, fun w hw => by obtain ⟨s0, s1, ⟨s2, s3, s4, s5, s6⟩, s7, ⟨t2, t3, t4, t5, t6⟩, t7⟩ := hw; go_simp⟩) hHeld ?_
          simp only [Act.put, List.getElem_toArray, List.getElem_cons_zero, List.getElem_cons_succ, List.setIfInBounds_toArray, List.set_cons_zero, List.set_cons_succ]
          refine wpAnyH_take (i := 2) (v := .int .i64 (k : Int)) rfl (by kernel_rfl) (by kernel_rfl) (by kernel_rfl) (fun _ _ _ h => h) (Or.inl ⟨by rfl, fun w hw => by go_simp⟩) hHeld ?_
          simp only [Act.put, List.getElem_toArray, List.getElem_cons_zero, List.getElem_cons_succ, List.setIfInBounds_toArray, List.set_cons_zero, List.set_cons_succ]
          refine wpAnyH_take (i := 3) (v := .pointer (some ⟨b, o + k * 6, none⟩)) rfl (by kernel_rfl) (by kernel_rfl) (by kernel_rfl) (fun _ _ _ h => h) (Or.inl ⟨by rfl, fun w hw => by go_simp⟩) hHeld ?_
          simp only [Act.put, List.getElem_toArray, List.getElem_cons_zero, List.getElem_cons_succ, List.setIfInBounds_toArray, List.set_cons_zero, List.set_cons_succ]
          refine wpAnyH_take (i := 4) (v := .pointer (some ⟨b, o + k * 6 + 1, none⟩)) rfl (by kernel_rfl) (by kernel_rfl) (by kernel_rfl) (fun _ _ _ h => h) (Or.inl ⟨by rfl, fun w hw => by go_simp⟩) hHeld ?_
          simp only [Act.put, List.getElem_toArray, List.getElem_cons_zero, List.getElem_cons_succ, List.setIfInBounds_toArray, List.set_cons_zero, List.set_cons_succ]
          refine wpAnyH_take (i := 5) (v := .agg #[.int .i64 (dv k).k, .int .i64 (dv k).n, .string (dv k).s, (.slice xa xn xc), (.slice ya yn yc)]) rfl (by kernel_rfl) (by kernel_rfl) (by kernel_rfl) (fun _ _ _ h => h) (Or.inl ⟨by rfl, fun w hw => by obtain ⟨s0, s1, ⟨s2, s3, s4, s5, s6⟩, s7, ⟨t2, t3, t4, t5, t6⟩, t7⟩ := hw; go_simp⟩) hHeld ?_
          simp only [Act.put, List.getElem_toArray, List.getElem_cons_zero, List.getElem_cons_succ, List.setIfInBounds_toArray, List.set_cons_zero, List.set_cons_succ]
          refine wpAnyH_take (i := 6) (v := .pointer (some ⟨H + 1, 4, none⟩)) rfl (by kernel_rfl) (by kernel_rfl) (by kernel_rfl) (fun _ _ _ h => h) (Or.inl ⟨by rfl, fun w hw => by go_simp⟩) hHeld ?_
          simp only [Act.put, List.getElem_toArray, List.getElem_cons_zero, List.getElem_cons_succ, List.setIfInBounds_toArray, List.set_cons_zero, List.set_cons_succ]
          refine wpAnyH_take (i := 7) (v := .slice (some ⟨b2, o2, none⟩) dn md) rfl (by kernel_rfl) (by kernel_rfl) (by kernel_rfl) (fun _ _ _ h => h) (Or.inl ⟨by rfl, fun w hw => by obtain ⟨s0, s1, ⟨s2, s3, s4, s5, s6⟩, s7, ⟨t2, t3, t4, t5, t6⟩, t7⟩ := hw; go_simp⟩) hHeld ?_
          simp only [Act.put, List.getElem_toArray, List.getElem_cons_zero, List.getElem_cons_succ, List.setIfInBounds_toArray, List.set_cons_zero, List.set_cons_succ]
          refine wpAnyH_take (i := 8) (v := .int .i64 (k : Int)) rfl (by kernel_rfl) (by kernel_rfl) (by kernel_rfl) (fun _ _ _ h => h) (Or.inl ⟨by rfl, fun w hw => by go_simp⟩) hHeld ?_
          simp only [Act.put, List.getElem_toArray, List.getElem_cons_zero, List.getElem_cons_succ, List.setIfInBounds_toArray, List.set_cons_zero, List.set_cons_succ]
          refine wpAnyH_take (i := 9) (v := .pointer (some ⟨b2, o2 + k * 6, none⟩)) rfl (by kernel_rfl) (by kernel_rfl) (by kernel_rfl) (fun _ _ _ h => h) (Or.inl ⟨by rfl, fun w hw => by go_simp⟩) hHeld ?_
          simp only [Act.put, List.getElem_toArray, List.getElem_cons_zero, List.getElem_cons_succ, List.setIfInBounds_toArray, List.set_cons_zero, List.set_cons_succ]
          refine wpAnyH_take (i := 10) (v := .pointer (some ⟨b2, o2 + k * 6 + 1, none⟩)) rfl (by kernel_rfl) (by kernel_rfl) (by kernel_rfl) (fun _ _ _ h => h) (Or.inl ⟨by rfl, fun w hw => by go_simp⟩) hHeld ?_
          simp only [Act.put, List.getElem_toArray, List.getElem_cons_zero, List.getElem_cons_succ, List.setIfInBounds_toArray, List.set_cons_zero, List.set_cons_succ]
          refine wpAnyH_take (i := 11) (v := .agg #[.int .i64 (dv k).k, .int .i64 (dv k).n, .string (dv k).s, (.slice xa2 xn2 xc2), (.slice ya2 yn2 yc2)]) rfl (by kernel_rfl) (by kernel_rfl) (by kernel_rfl) (fun _ _ _ h => h) (Or.inl ⟨by rfl, fun w hw => by obtain ⟨s0, s1, ⟨s2, s3, s4, s5, s6⟩, s7, ⟨t2, t3, t4, t5, t6⟩, t7⟩ := hw; go_simp⟩) hHeld ?_
          simp only [Act.put, List.getElem_toArray, List.getElem_cons_zero, List.getElem_cons_succ, List.setIfInBounds_toArray, List.set_cons_zero, List.set_cons_succ]
          refine wpAnyH_ready (rs := [12]) (by kernel_rfl) (by simp) ?_
          refine AllReadyH.cons (o := _) rfl (fun K hK => ?_) AllReadyH.nil
          go_simp
          refine HQ.out.mono ?_
          rintro e w5 ⟨rfl, b5⟩
          have b6 : Below wr.heap.size wr w5 := (belowDrew1 wr).trans b5
          have hS := HM.out w5 b6
          have HI5 : Hid (Below w0.heap.size w0 w5) := HI.out.trans (b6.mono HI.out.size)
          clear HI
          rw [HET.out]
          go_wp2_with fail
          refine hK.out _ _ hS (fun hHeld => ?_)
          clear hK K
          refine wpAnyH_ready (rs := [13]) (by kernel_rfl) (by simp) ?_
          refine AllReadyH.cons (o := _) rfl (fun K hK => ?_) AllReadyH.nil
          go_simp
          refine hK.out _ _ hS (fun hHeld => ?_)
          clear hK K
          refine wpAnyH_done (by kernel_rfl) ?_ _
          clear hHeld
          clear hS a4
          go_upto_region 12 with fail
          refine wp_region_held_drew (S := fun x => SM x H (.slice (some ⟨b, o, none⟩) dn mc) (.slice (some ⟨b2, o2, none⟩) dn md) b (o + k * 6) b2 (o2 + k * 6) (ky k) (dv k) (.slice xa xn xc) (.slice ya yn yc) (.slice xa2 xn2 xc2) (.slice ya2 yn2 yc2)) (by kernel_rfl) (HM.out _ (b6.trans ((belowDrew1 w5).mono b6.size))) (fun hHeld => ?_)
          refine wpAnyH_take (i := 0) (v := .pointer (some ⟨H, 4, none⟩)) rfl (by kernel_rfl) (by kernel_rfl) (by kernel_rfl) (fun _ _ _ h => h) (Or.inl ⟨by rfl, fun w hw => by go_simp⟩) hHeld ?_
          simp only [Act.put, List.getElem_toArray, List.getElem_cons_zero, List.setIfInBounds_toArray, List.set_cons_zero, List.set_cons_succ]
          refine wpAnyH_take (i := 1) (v := .slice (some ⟨b, o, none⟩) dn mc) rfl (by kernel_rfl) (by kernel_rfl) (by kernel_rfl) (fun _ _ _ h => h) (Or.inl ⟨by rfl, fun w hw => by obtain ⟨s0, s1, ⟨s2, s3, s4, s5, s6⟩, s7, ⟨t2, t3, t4, t5, t6⟩, t7⟩ := hw; go_simp⟩) hHeld ?_
          simp only [Act.put, List.getElem_toArray, List.getElem_cons_zero, List.getElem_cons_succ, List.setIfInBounds_toArray, List.set_cons_zero, List.set_cons_succ]
          refine wpAnyH_take (i := 2) (v := .int .i64 (k : Int)) rfl (by kernel_rfl) (by kernel_rfl) (by kernel_rfl) (fun _ _ _ h => h) (Or.inl ⟨by rfl, fun w hw => by go_simp⟩) hHeld ?_
          simp only [Act.put, List.getElem_toArray, List.getElem_cons_zero, List.getElem_cons_succ, List.setIfInBounds_toArray, List.set_cons_zero, List.set_cons_succ]
          refine wpAnyH_take (i := 3) (v := .pointer (some ⟨b, o + k * 6, none⟩)) rfl (by kernel_rfl) (by kernel_rfl) (by kernel_rfl) (fun _ _ _ h => h) (Or.inl ⟨by rfl, fun w hw => by go_simp⟩) hHeld ?_
          simp only [Act.put, List.getElem_toArray, List.getElem_cons_zero, List.getElem_cons_succ, List.setIfInBounds_toArray, List.set_cons_zero, List.set_cons_succ]
          refine wpAnyH_take (i := 4) (v := .pointer (some ⟨b, o + k * 6, none⟩)) rfl (by kernel_rfl) (by kernel_rfl) (by kernel_rfl) (fun _ _ _ h => h) (Or.inl ⟨by rfl, fun w hw => by go_simp⟩) hHeld ?_
          simp only [Act.put, List.getElem_toArray, List.getElem_cons_zero, List.getElem_cons_succ, List.setIfInBounds_toArray, List.set_cons_zero, List.set_cons_succ]
          refine wpAnyH_take (i := 5) (v := .string (ky k)) rfl (by kernel_rfl) (by kernel_rfl) (by kernel_rfl) (fun _ _ _ h => h) (Or.inl ⟨by rfl, fun w hw => by obtain ⟨s0, s1, ⟨s2, s3, s4, s5, s6⟩, s7, ⟨t2, t3, t4, t5, t6⟩, t7⟩ := hw; go_simp⟩) hHeld ?_
          simp only [Act.put, List.getElem_toArray, List.getElem_cons_zero, List.getElem_cons_succ, List.setIfInBounds_toArray, List.set_cons_zero, List.set_cons_succ]
          refine wpAnyH_take (i := 6) (v := .pointer (some ⟨H + 1, 4, none⟩)) rfl (by kernel_rfl) (by kernel_rfl) (by kernel_rfl) (fun _ _ _ h => h) (Or.inl ⟨by rfl, fun w hw => by go_simp⟩) hHeld ?_
          simp only [Act.put, List.getElem_toArray, List.getElem_cons_zero, List.getElem_cons_succ, List.setIfInBounds_toArray, List.set_cons_zero, List.set_cons_succ]
          refine wpAnyH_take (i := 7) (v := .slice (some ⟨b2, o2, none⟩) dn md) rfl (by kernel_rfl) (by kernel_rfl) (by kernel_rfl) (fun _ _ _ h => h) (Or.inl ⟨by rfl, fun w hw => by obtain ⟨s0, s1, ⟨s2, s3, s4, s5, s6⟩, s7, ⟨t2, t3, t4, t5, t6⟩, t7⟩ := hw; go_simp⟩) hHeld ?_
          simp only [Act.put, List.getElem_toArray, List.getElem_cons_zero, List.getElem_cons_succ, List.setIfInBounds_toArray, List.set_cons_zero, List.set_cons_succ]
          refine wpAnyH_take (i := 8) (v := .int .i64 (k : Int)) rfl (by kernel_rfl) (by kernel_rfl) (by kernel_rfl) (fun _ _ _ h => h) (Or.inl ⟨by rfl, fun w hw => by go_simp⟩) hHeld ?_
          simp only [Act.put, List.getElem_toArray, List.getElem_cons_zero, List.getElem_cons_succ, List.setIfInBounds_toArray, List.set_cons_zero, List.set_cons_succ]
          refine wpAnyH_take (i := 9) (v := .pointer (some ⟨b2, o2 + k * 6, none⟩)) rfl (by kernel_rfl) (by kernel_rfl) (by kernel_rfl) (fun _ _ _ h => h) (Or.inl ⟨by rfl, fun w hw => by go_simp⟩) hHeld ?_
          simp only [Act.put, List.getElem_toArray, List.getElem_cons_zero, List.getElem_cons_succ, List.setIfInBounds_toArray, List.set_cons_zero, List.set_cons_succ]
          refine wpAnyH_take (i := 10) (v := .pointer (some ⟨b2, o2 + k * 6, none⟩)) rfl (by kernel_rfl) (by kernel_rfl) (by kernel_rfl) (fun _ _ _ h => h) (Or.inl ⟨by rfl, fun w hw => by go_simp⟩) hHeld ?_
          simp only [Act.put, List.getElem_toArray, List.getElem_cons_zero, List.getElem_cons_succ, List.setIfInBounds_toArray, List.set_cons_zero, List.set_cons_succ]
          refine wpAnyH_take (i := 11) (v := .string (ky k)) rfl (by kernel_rfl) (by kernel_rfl) (by kernel_rfl) (fun _ _ _ h => h) (Or.inl ⟨by rfl, fun w hw => by obtain ⟨s0, s1, ⟨s2, s3, s4, s5, s6⟩, s7, ⟨t2, t3, t4, t5, t6⟩, t7⟩ := hw; go_simp⟩) hHeld ?_
          simp only [Act.put, List.getElem_toArray, List.getElem_cons_zero, List.getElem_cons_succ, List.setIfInBounds_toArray, List.set_cons_zero, List.set_cons_succ]
          refine wpAnyH_take (i := 12) (v := .bool false) rfl (by kernel_rfl) (by kernel_rfl) (by kernel_rfl) (fun _ _ _ h => h) (Or.inl ⟨by rfl, fun w hw => by go_simp⟩) hHeld ?_
          simp only [Act.put, List.getElem_toArray, List.getElem_cons_zero, List.getElem_cons_succ, List.setIfInBounds_toArray, List.set_cons_zero, List.set_cons_succ]
          refine wpAnyH_take (i := 13) (v := .bool false) rfl (by kernel_rfl) (by kernel_rfl) (by kernel_rfl) (fun _ _ _ h => h) (Or.inl ⟨by rfl, fun w hw => by go_simp⟩) hHeld ?_
          simp only [Act.put, List.getElem_toArray, List.getElem_cons_zero, List.getElem_cons_succ, List.setIfInBounds_toArray, List.set_cons_zero, List.set_cons_succ]
          refine wpAnyH_take (i := 14) (v := .bool true) rfl (by kernel_rfl) (by kernel_rfl) (by kernel_rfl) (fun _ _ _ h => h) (Or.inl ⟨by rfl, fun w hw => by go_simp⟩) hHeld ?_
          simp only [Act.put, List.getElem_toArray, List.getElem_cons_zero, List.getElem_cons_succ, List.setIfInBounds_toArray, List.set_cons_zero, List.set_cons_succ]
          refine wpAnyH_take (i := 15) (v := .bool false) rfl (by kernel_rfl) (by kernel_rfl) (by kernel_rfl) (fun _ _ _ h => h) (Or.inl ⟨by rfl, fun w hw => by go_simp⟩) hHeld ?_
          simp only [Act.put, List.getElem_toArray, List.getElem_cons_zero, List.getElem_cons_succ, List.setIfInBounds_toArray, List.set_cons_zero, List.set_cons_succ]
          refine wpAnyH_take (i := 16) (v := .bool false) rfl (by kernel_rfl) (by kernel_rfl) (by kernel_rfl) (fun _ _ _ h => h) (Or.inl ⟨by rfl, fun w hw => by go_simp⟩) hHeld ?_
          simp only [Act.put, List.getElem_toArray, List.getElem_cons_zero, List.getElem_cons_succ, List.setIfInBounds_toArray, List.set_cons_zero, List.set_cons_succ]
          refine wpAnyH_done (by kernel_rfl) ?_ _
          clear hHeld
          have HI6 : Hid (Below w0.heap.size w0 w5.drew) := HI5.out.trans ((belowDrew1 w5).mono HI5.out.size)
          clear HI5 b6
          go_wp2
          exact ⟨⟨k + 1, by omega, by go_num, HI6⟩, by simp [intOf]; omega⟩
        · obtain rfl : k = dn := by omega
          clear b4
          have HE : Hid (Below w.heap.size w wr) := HS.out ▸ HB0.out.trans (HI.out.mono (by have := HB0.out.size; have := HS.out; omega))
          clear HI
          go_wp2
          go_ret
          rw [← HS.out]
          exact ⟨rfl, HE.out⟩
end Go.Proofs.YtdchckelnccepaaDoor
namespace Go.Proofs.YtdchckelnccepaaDoor
open Go.RowKit Go.Deep
end Go.Proofs.YtdchckelnccepaaDoor
namespace Go.Proofs.YtdchckelnccepaaDoor
open Go.ChangeShapes Go.WideShapes Go.ChangeAt Go.RowKit Go.Deep
theorem ownKn : ownKnob Tryd.prog.godebug = none := by kernel_rfl
theorem laidO : laidOutB Tryd.prog = true := by kernel_rfl
theorem trodLt {H : Type} {enc : TypeId × Value → H} {W : World} {t : TypeId} {v : Value} {d : DataW H} {p : List MemPlace} (h : DataW.Trod enc Tryd.prog W 0 (fun _ => true) true t v d p) : ∀ x ∈ p, x.block < W.heap.size := by
  obtain ⟨m, hm⟩ := h
  exact DataW.trod_lt m _ _ _ hm
theorem cells46 : Tryd.prog.cellsOf 50 = 2 := by kernel_rfl
theorem bytes46 : Tryd.prog.bytesOf 50 = 24 := by kernel_rfl
theorem cells32 : Tryd.prog.cellsOf 22 = 1 := by kernel_rfl
theorem cells35 : Tryd.prog.cellsOf 25 = 5 := by kernel_rfl
theorem lists_of {α : Type} (f : Nat → α) (n : Nat) : ∃ L : List α, L.length = n ∧ ∀ i, i < n → L[i]? = some (f i) :=
  ⟨(List.range n).map f, by simp, fun i hi => by simp [hi]⟩
section
variable {H : Type} {enc : TypeId × Value → H} {w : World}
theorem rd_of_trod {fuel : Nat} {v : Value} {x : DataW H × List MemPlace} (h : DataW.trod enc Tryd.prog w 0 (fun _ => true) true fuel 23 [v] = some x) (hw : ∀ q ∈ DataW.weights Tryd.prog 23 x.1, q ≤ reachBytes) :
    ∃ (dn : Nat) (ky : Nat → ByteArray) (l : Nat → T), (∀ i, i < dn → (ky i).size ≤ 140737488351232 ∧ (l i).ok) ∧ dn ≤ 140737488351232 ∧ RD (fun _ => True) w dn ky l v := by
  obtain ⟨ad, dn, cd, rfl, bd, gd⟩ := openRow Tryd.underlying23 h hw (by rw [cells42]; omega)
  rw [bytes42] at bd
  rw [cells42] at gd
  have e1 : reachBytes = 140737488351232 := rfl
  rcases gd with rfl | ⟨m', rfl, b, o, rfl, hb, g⟩
  · exact ⟨0, fun _ => ByteArray.empty, fun _ => .no, fun i hi => absurd hi (Nat.not_lt_zero _), Nat.zero_le _, _, _, rfl, .inl rfl⟩
  have : ∀ i, i < dn → ∃ p : ByteArray × T × Value × Value, RV (fun _ => True) w p.2.1 p.2.2.1 p.2.2.2 ∧ w.cell? ⟨b, o + i * 6, none⟩ = some (.string p.1) ∧ five w b (o + i * 6 + 1) p.2.1 p.2.2.1 p.2.2.2 ∧ p.1.size ≤ 140737488351232 ∧ p.2.1.ok := by
    intro i hi
    obtain ⟨cs, y, _, hcell, ht, hq⟩ := g i hi
    obtain ⟨m2, s, cs', xv, rfl, rfl, hy, hv⟩ := open42 ht
    rw [hy] at hq
    simp only [DataW.weights, Tryd.underlying44, DataW.weightsEach, List.map, List.mem_append, List.append_nil] at hq
    obtain ⟨t, lv, dv, rfl, h1, h2⟩ := rv_of_trod m2 cs' xv hv (fun q h => hq q (.inr h))
    refine ⟨(s, t, lv, dv), h1, hcell 0 (by omega), ⟨hcell 1 (by omega), hcell 2 (by omega), hcell 3 (by omega), hcell 4 (by omega), hcell 5 (by omega)⟩, ?_, h2⟩
    have := hq s.data.toList.length (.inl (by simp))
    rwa [Array.length_toList] at this
  have : Inhabited (ByteArray × T × Value × Value) := ⟨(ByteArray.empty, .no, .slice none 0 0, .slice none 0 0)⟩
  obtain ⟨f, hf⟩ := choose_lt ‹∀ i, i < dn → _›
  exact ⟨dn, fun i => (f i).1, fun i => (f i).2.1, fun i hi => (hf i hi).2.2.2, by rw [e1] at bd; omega, _, _, rfl, .inr ⟨b, o, rfl, trivial, hb, fun i hi => ⟨_, _, (hf i hi).1, (hf i hi).2.1, (hf i hi).2.2.1⟩⟩⟩
theorem rns_of_trod {fuel : Nat} {v : Value} {x : DataW H × List MemPlace} (h : DataW.trod enc Tryd.prog w 0 (fun _ => true) true fuel 22 [v] = some x) (hw : ∀ q ∈ DataW.weights Tryd.prog 22 x.1, q ≤ reachBytes) :
    ∃ ns, RNs w v ns ∧ ns.length * 24 ≤ 140737488351232 := by
  obtain ⟨ad, dn, cd, rfl, bd, gd⟩ := openRow Tryd.underlying22 h hw (by rw [cells46]; omega)
  rw [bytes46] at bd
  rw [cells46] at gd
  have e1 : reachBytes = 140737488351232 := rfl
  rcases gd with rfl | ⟨m', rfl, b, o, rfl, hb, g⟩
  · exact ⟨[], ⟨_, _, rfl, .inl rfl⟩, by simp⟩
  have : ∀ i, i < dn → ∃ p : ByteArray × Int, w.cell? ⟨b, o + i * 2, none⟩ = some (.string p.1) ∧ w.cell? ⟨b, o + i * 2 + 1, none⟩ = some (.int .i64 p.2) := by
    intro i hi
    obtain ⟨cs, y, _, hcell, ht, hq⟩ := g i hi
    obtain ⟨xs, m, rfl, rfl, hl, hx, hf⟩ := DataW.trod_struct Tryd.underlying50 ht
    rw [cells46] at hl
    obtain ⟨c0, c1, rfl⟩ := len2 hl
    obtain ⟨x0, x1, rfl⟩ := len2 (l := xs) (by simpa using hx)
    have f0 := hf 0 _ rfl
    have f1 := hf 1 _ rfl
    simp [cells9, cells3] at f0 f1
    obtain ⟨s, e2, _, _⟩ := DataW.trod_string Tryd.underlying9 f0
    obtain ⟨z, e3, _, _⟩ := DataW.trod_int Tryd.underlying3 f1
    simp at e2 e3
    subst e2 e3
    exact ⟨(s, z), hcell 0 (by omega), hcell 1 (by omega)⟩
  have : Inhabited (ByteArray × Int) := ⟨(ByteArray.empty, 0)⟩
  obtain ⟨f, hf⟩ := choose_lt ‹∀ i, i < dn → _›
  obtain ⟨L, rfl, hL⟩ := lists_of f dn
  refine ⟨L, ⟨_, _, rfl, .inr ⟨b, o, rfl, hb, fun i x hx => ?_⟩⟩, by rw [e1] at bd; omega⟩
  have hi := (List.getElem?_eq_some_iff.1 hx).1
  rw [hL i hi] at hx
  cases hx
  exact hf i hi
set_option maxRecDepth 100000 in
theorem openWish {base : Nat} {v : Value} {d : DataW H} {ps : List MemPlace} (hv : Value.okWide Tryd.prog w .any base 25 v) (h : DataW.Trod enc Tryd.prog w 0 (fun _ => true) true 25 v d ps) (hw : ∀ q ∈ DataW.weights Tryd.prog 25 d, q ≤ reachBytes) :
    ∃ nv sz qu ag yv ns dn ky dv, v = .agg #[nv, .int .i64 sz, .int .i64 qu, .string ag, yv] ∧ RNs w nv ns ∧ ns.length * 24 ≤ 140737488351232 ∧ (∀ i, i < dn → (ky i).size ≤ 140737488351232 ∧ (dv i).ok) ∧ dn ≤ 140737488351232 ∧ RD (fun _ => True) w dn ky dv yv := by
  obtain ⟨cs, rfl, hcs⟩ := okWide_struct Tryd.underlying25 hv
  obtain ⟨fuel, hf⟩ := h
  obtain ⟨xs, m, rfl, hxx, hl, hx, hf⟩ := DataW.trod_struct Tryd.underlying25 hf
  rw [cells35] at hl
  obtain ⟨c0, c1, c2, c3, c4, hc⟩ := len5 hl
  have hcl : cs = #[c0, c1, c2, c3, c4] := by
    have : cs.toList = [c0, c1, c2, c3, c4] := by simpa [Value.cells] using hc
    rw [← this]
  subst hcl
  obtain ⟨x0, x1, x2, x3, x4, rfl⟩ := len5 (l := xs) (by simpa using hx)
  rw [hc] at hf
  have f0 := hf 0 _ rfl
  have f1 := hf 1 _ rfl
  have f2 := hf 2 _ rfl
  have f3 := hf 3 _ rfl
  have f4 := hf 4 _ rfl
  simp [cells9, cells3, cells32, cells23] at f0 f1 f2 f3 f4
  obtain ⟨z1, e1, _, _⟩ := DataW.trod_int Tryd.underlying3 f1
  obtain ⟨z2, e2, _, _⟩ := DataW.trod_int Tryd.underlying3 f2
  obtain ⟨s3, e3, _, _⟩ := DataW.trod_string Tryd.underlying9 f3
  simp at e1 e2 e3
  subst e1 e2 e3
  have hd : d = .agg ([x0, x1, x2, x3, x4].map (·.1)) := congrArg Prod.fst hxx
  rw [hd] at hw
  simp only [DataW.weights, Tryd.underlying25, DataW.weightsEach, List.map, List.mem_append, List.append_nil] at hw
  obtain ⟨ns, hn, hnl⟩ := rns_of_trod f0 (fun q hq => hw q (.inl hq))
  obtain ⟨dn, ky, dv, hok, hdn, hr⟩ := rd_of_trod f4 (fun q hq => hw q (by simp only [hq, or_true]))
  exact ⟨c0, z1, z2, s3, c4, ns, dn, ky, dv, rfl, hn, hnl, hok, hdn, hr⟩
end
end Go.Proofs.YtdchckelnccepaaDoor
