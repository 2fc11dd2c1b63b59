import Derived.Test.YtegdlkbilgkfoaaDoorM05
import Derived.Test.YtegdlkbilgkfoaaDoorM07
namespace Go.Proofs.YtegdlkbilgkfoaaDoor
open Go.RowKit Go.Deep
set_option maxRecDepth 20000
/-- the entries, all but one -/
def E2 (g : Nat) (w : World) (kk : Nat → ByteArray) (vl : Nat → T) (m at' : Nat) (cs : Array Value) : Prop :=
  blk w g 66 cs ∧ m * 2 ≤ cs.size ∧ at' < m ∧ ∀ i, i < m → i ≠ at' → ∃ u, cs[i * 2]? = some (.string (kk i)) ∧ cs[i * 2 + 1]? = some u ∧ RN (fun b => b ≠ g) w (vl i) u
theorem E2.put {g m at' dn c : Nat} {w w7 : World} {ky : Nat → ByteArray} {dv : Nat → T} {key : ByteArray} {x : T} {f : Bool} {cs : Array Value} {ty : TypeId} {uu : Value} (h : E2 g w (nk ky key at' f) (nv dv x at' f) m at' cs) (hb : Below w.heap.size w w7) (hrn : RN (fun b => w.heap.size ≤ b) w7 x (.iface ty uu)) (hm : m = nn dn f := by rfl) :
    (∃ z, w7.cell? ⟨g, at' * 2, none⟩ = some z) ∧ (∃ z, w7.cell? ⟨g, at' * 2 + 1, none⟩ = some z) ∧ w7.frozen? ⟨g, at' * 2, none⟩ = false ∧ w7.frozen? ⟨g, at' * 2 + 1, none⟩ = false ∧
    Hid (RN (fun _ => True) ((w7.setCell ⟨g, at' * 2, none⟩ (.string key)).setCell ⟨g, at' * 2 + 1, none⟩ (.iface ty uu)) (withT dn ky dv key x at' f) (.iface 59 (.slice (some ⟨g, 0, none⟩) m c)) ∧ True) := by
  obtain ⟨hblk, hsz, hat, hel⟩ := h
  have hglt := hblk.lt
  have hb7 := hblk.keep (hb.block _ hglt)
  have hblk8 := (hb7.set (at' * 2) (.string key)).set (at' * 2 + 1) (.iface ty uu)
  have hne : ∀ b, b ≠ g → ((w7.setCell ⟨g, at' * 2, none⟩ (.string key)).setCell ⟨g, at' * 2 + 1, none⟩ (.iface ty uu)).heap[b]? = w7.heap[b]? := fun b hb => by
    rw [Below.heap_setCell _ _ _ _ hb, Below.heap_setCell _ _ _ _ hb]
  have hs8 : ((w7.setCell ⟨g, at' * 2, none⟩ (.string key)).setCell ⟨g, at' * 2 + 1, none⟩ (.iface ty uu)).heap.size = w7.heap.size := by simp [World.setCell]
  refine ⟨⟨cs[at' * 2], by rw [hb7.cell]; exact Array.getElem?_eq_getElem (by omega)⟩, ⟨cs[at' * 2 + 1], by rw [hb7.cell]; exact Array.getElem?_eq_getElem (by omega)⟩, hb7.frozen _, hb7.frozen _, ?_, trivial⟩
  subst hm
  refine .inr (.inr (.inr ⟨rfl, g, c, rfl, trivial, by rw [hs8]; exact Nat.lt_of_lt_of_le hglt hb.size, fun i hi => ?_⟩))
  by_cases e : i = at'
  · subst e
    refine ⟨.iface ty uu, ?_, ?_, ?_⟩
    · rw [hblk8.cell, Array.getElem?_setIfInBounds_ne (by omega), Array.getElem?_setIfInBounds_self_of_lt (by omega), nk_at]
    · rw [hblk8.cell, Array.getElem?_setIfInBounds_self_of_lt (by simp; omega)]
    · rw [nv_at]
      exact RN.move (fun _ _ _ => trivial) (by rw [hs8]; exact Nat.le_refl _) (fun b hb' _ => hne b (by omega)) _ _ hrn
  · obtain ⟨u, q0, q1, q2⟩ := hel i hi e
    refine ⟨u, ?_, ?_, RN.move (fun _ _ _ => trivial) (by rw [hs8]; exact hb.size) (fun b hb' hl => by rw [hne b hb', hb.block b hl]) _ _ q2⟩
    · rw [hblk8.cell, Array.getElem?_setIfInBounds_ne (by omega), Array.getElem?_setIfInBounds_ne (by omega)]; exact q0
    · rw [hblk8.cell, Array.getElem?_setIfInBounds_ne (by omega), Array.getElem?_setIfInBounds_ne (by omega)]; exact q1
theorem vt_with {ky : Nat → ByteArray} {dn at' : Nat} {key : ByteArray} {f : Bool} {dv : Nat → T} {x : T} (hri : Rise ky dn) (h : Fd ky dn key at' f) (hv : ∀ i, i < dn → VT (dv i)) (hx : VT x) : VT (withT dn ky dv key x at' f) := by
  have hle := h.1.1
  refine ⟨by simp [ownB, ByteArray.toList_eq], fun i hi => absurd hi (Nat.not_lt_zero _), fun i hi => ⟨nk_good hri h i hi, ?_⟩⟩
  unfold nn at hi
  by_cases e1 : i < at'
  · rw [nv_lt e1]; exact hv i (by omega)
  · by_cases e2 : i = at'
    · subst e2; rw [nv_at]; exact hx
    · rw [nv_gt (by omega)]
      by_cases hf : f = true
      · rw [if_pos hf] at hi ⊢; exact hv i hi
      · rw [if_neg hf] at hi ⊢; exact hv (i - 1) (by omega)
theorem small_with {ky : Nat → ByteArray} {dn at' : Nat} {key : ByteArray} {f : Bool} {dv : Nat → T} {x : T} (h : Fd ky dn key at' f) (hd : dn ≤ 2147483647) (hv : ∀ i, i < dn → (dv i).small) (hx : x.small) : (withT dn ky dv key x at' f).small1 := by
  have hle := h.1.1
  refine ⟨Nat.zero_le _, by unfold nn; split <;> omega, fun i hi => absurd hi (Nat.not_lt_zero _), fun i hi => ?_⟩
  unfold nn at hi
  by_cases e1 : i < at'
  · rw [nv_lt e1]; exact T.small.one _ (hv i (by omega))
  · by_cases e2 : i = at'
    · subst e2; rw [nv_at]; exact T.small.one _ hx
    · rw [nv_gt (by omega)]
      by_cases hf : f = true
      · rw [if_pos hf] at hi ⊢; exact T.small.one _ (hv i hi)
      · rw [if_neg hf] at hi ⊢; exact T.small.one _ (hv (i - 1) (by omega))
theorem below_besides {H D : Nat} {w w5 w6 : World} {o : Obj} (i1 : Below H w w5) (h : Besides D (w5.alloc o) w6) (hd : H ≤ D) (hb : H ≤ w5.heap.size) : Below H w w6 :=
  ⟨h.os.trans i1.os, h.tape.trans i1.tape, h.output.trans i1.output, Nat.le_trans i1.size (Nat.le_trans (by simp) h.size), fun k hk => by
    have hk5 := Nat.lt_of_lt_of_le hk hb
    rw [h.block k (by simp; omega) (by omega), Below.heap_alloc _ _ _ hk5, i1.block k hk]⟩
set_option maxHeartbeats 4000000 in
theorem with14 (t x : T) (tx ty xx xy : Value) (key : ByteArray) (w : World) (hok : t.ok) (hsm : t.small) (hok2 : x.ok) (hsm2 : x.small) (hr : RV (fun _ => True) w t tx ty) (hr2 : RV (fun _ => True) w x xx xy) :
    Calls Tryd.prog 21 #[vv t tx ty, .string key, vv x xx xy] w fun e w' => ∃ u er x' y', e = .returned (.tuple #[vv u x' y', .int .i64 er]) ∧ RV (fun _ => True) w' u x' y' ∧ Below w.heap.size w w' ∧ WS t key x u er := by
  obtain ⟨⟨xa, xn, xc, rfl⟩, ⟨ya, yn, yc, rfl⟩⟩ := hr.slices
  obtain ⟨⟨xa2, xn2, xc2, rfl⟩, ⟨ya2, yn2, yc2, rfl⟩⟩ := hr2.slices
  have HR : Hid (RV (fun _ => True) w t (.slice xa xn xc) (.slice ya yn yc) ∧ RV (fun _ => True) w x (.slice xa2 xn2 xc2) (.slice ya2 yn2 yc2) ∧ t.ok ∧ t.small ∧ x.ok ∧ x.small) := ⟨hr, hr2, hok, hsm, hok2, hsm2⟩
  have HI : Hid (WI w.heap.size w (((w.alloc (Obj.cells #[.int .i64 t.k, .int .i64 t.n, .string t.s, .slice xa xn xc, .slice ya yn yc] 27)).alloc (Obj.cells #[.int .i64 x.k, .int .i64 x.n, .string x.s, .slice xa2 xn2 xc2, .slice ya2 yn2 yc2] 27)).alloc (Obj.cells #[.int .i64 0, .int .i64 0, .string { data := #[] }, .slice .none 0 0, .slice .none 0 0] 27)) t (.slice xa xn xc) (.slice ya yn yc) x (.slice xa2 xn2 xc2) (.slice ya2 yn2 yc2)) := by
    refine ⟨(((Below.refl _ _).alloc (Nat.le_refl _) _).alloc (by simp) _).alloc (by simp; omega) _, ?_, ?_, ?_⟩
    · exact (Below.heap_alloc _ _ _ (by simp; omega)).trans ((Below.heap_alloc _ _ _ (by simp)).trans (heap_new _ _))
    · refine (Below.heap_alloc _ _ _ (by simp)).trans ?_
      have := heap_new (w.alloc (Obj.cells #[.int .i64 t.k, .int .i64 t.n, .string t.s, .slice xa xn xc, .slice ya yn yc] 27)) (Obj.cells #[.int .i64 x.k, .int .i64 x.n, .string x.s, .slice xa2 xn2 xc2, .slice ya2 yn2 yc2] 27)
      simpa using this
    · have := heap_new ((w.alloc (Obj.cells #[.int .i64 t.k, .int .i64 t.n, .string t.s, .slice xa xn xc, .slice ya yn yc] 27)).alloc (Obj.cells #[.int .i64 x.k, .int .i64 x.n, .string x.s, .slice xa2 xn2 xc2, .slice ya2 yn2 yc2] 27)) (Obj.cells #[.int .i64 0, .int .i64 0, .string { data := #[] }, .slice .none 0 0, .slice .none 0 0] 27)
      have e : ((w.alloc (Obj.cells #[.int .i64 t.k, .int .i64 t.n, .string t.s, .slice xa xn xc, .slice ya yn yc] 27)).alloc (Obj.cells #[.int .i64 x.k, .int .i64 x.n, .string x.s, .slice xa2 xn2 xc2, .slice ya2 yn2 yc2] 27)).heap.size = w.heap.size + 1 + 1 := by simp
      rw [e] at this
      exact this
  clear hr hr2 hok hsm hok2 hsm2
  unfold vv
  go_enter Tryd.func21, Tryd.ntmps21
  go_wp2_with fail
  refine (valid12 t _ _ _ HR.out.2.2.1 (Below.rv HI.out.1 (Nat.le_refl _) HR.out.1)).mono ?_
  rintro e w1 ⟨rfl, hb1⟩
  replace HI : Hid _ := WI.keep HI.out rfl hb1
  clear hb1
  generalize hvb : w.heap.size = H at *
  have HS : Hid (w.heap.size = H) := hvb
  clear hvb
  have HW1 : Hid (wk t 0 = wk t 0) := rfl
  generalize hq : wk t 0 = q at *
  have HQ : Hid (wk t 0 = q) := hq
  clear hq HW1
  by_cases hq0 : q = 0
  case neg =>
    have hq' : (q != 0) = true := by simpa using hq0
    have HN : Hid (q ≠ 0) := hq0
    clear hq0
    obtain ⟨c0, c1, c2, c3, c4⟩ := HI.out.2.2.2.cells
    have z0 := HI.out.2.2.2.frozen 0
    have z1 := HI.out.2.2.2.frozen 1
    have z2 := HI.out.2.2.2.frozen 2
    have z3 := HI.out.2.2.2.frozen 3
    have z4 := HI.out.2.2.2.frozen 4
    go_wp2
    exact bodyPost_ret (v := .tuple #[.agg #[.int .i64 0, .int .i64 0, .string { data := #[] }, .slice .none 0 0, .slice .none 0 0], .int .i64 q]) (results_cell2 Tryd.results21 _ _ (H + 1 + 1) _ rfl (((((HI.out.2.2.2.set0 _).set1 _).set2 _).set3 _).set4 _) rfl) rfl
      ⟨zeroT, q, _, _, rfl, (with_bad HS.out HI.out).1, (with_bad HS.out HI.out).2, .inl ⟨by rw [HQ.out]; exact HN.out, rfl, HQ.out.symm⟩⟩
  case pos =>
  subst hq0
  obtain ⟨k0, _, _, _, k4⟩ := HI.out.2.1.cells
  by_cases htk : t.k = 4
  case neg =>
    have htk' : (t.k != 4) = true := by simpa using htk
    have HN : Hid (t.k ≠ 4) := htk
    clear htk k4
    obtain ⟨c0, c1, c2, c3, c4⟩ := HI.out.2.2.2.cells
    have z0 := HI.out.2.2.2.frozen 0
    have z1 := HI.out.2.2.2.frozen 1
    have z2 := HI.out.2.2.2.frozen 2
    have z3 := HI.out.2.2.2.frozen 3
    have z4 := HI.out.2.2.2.frozen 4
    go_wp2
    exact bodyPost_ret (v := .tuple #[.agg #[.int .i64 0, .int .i64 0, .string { data := #[] }, .slice .none 0 0, .slice .none 0 0], .int .i64 28]) (results_cell2 Tryd.results21 _ _ (H + 1 + 1) _ rfl (((((HI.out.2.2.2.set0 _).set1 _).set2 _).set3 _).set4 _) rfl) rfl
      ⟨zeroT, 28, _, _, rfl, (with_bad HS.out HI.out).1, (with_bad HS.out HI.out).2, .inr (.inl ⟨HQ.out, HN.out, rfl, rfl⟩)⟩
  case pos =>
  rw [htk] at k0
  have HT : Hid (t.k = 4) := htk
  clear k4 htk
  obtain ⟨d0, d1, d2, d3, d4⟩ := HI.out.2.2.1.cells
  go_wp2_with fail
  clear k0 d0 d1 d2 d3 d4
  refine (valid12 x _ _ w1 HR.out.2.2.2.2.1 (Below.rv HI.out.1 (Nat.le_of_eq HS.out) HR.out.2.1)).mono ?_
  rintro e w2 ⟨rfl, hb1⟩
  replace HI : Hid _ := WI.keep HI.out HS.out hb1
  clear hb1
  generalize hq : wk x 0 = q2 at *
  have HQ2 : Hid (wk x 0 = q2) := hq
  clear hq
  by_cases hq0 : q2 = 0
  case neg =>
    have hq' : (q2 != 0) = true := by simpa using hq0
    have HN : Hid (q2 ≠ 0) := hq0
    clear hq0
    obtain ⟨c0, c1, c2, c3, c4⟩ := HI.out.2.2.2.cells
    have z0 := HI.out.2.2.2.frozen 0
    have z1 := HI.out.2.2.2.frozen 1
    have z2 := HI.out.2.2.2.frozen 2
    have z3 := HI.out.2.2.2.frozen 3
    have z4 := HI.out.2.2.2.frozen 4
    go_wp2
    exact bodyPost_ret (v := .tuple #[.agg #[.int .i64 0, .int .i64 0, .string { data := #[] }, .slice .none 0 0, .slice .none 0 0], .int .i64 q2]) (results_cell2 Tryd.results21 _ _ (H + 1 + 1) _ rfl (((((HI.out.2.2.2.set0 _).set1 _).set2 _).set3 _).set4 _) rfl) rfl
      ⟨zeroT, q2, _, _, rfl, (with_bad HS.out HI.out).1, (with_bad HS.out HI.out).2, .inr (.inr (.inl ⟨HQ.out, HT.out, by rw [HQ2.out]; exact HN.out, rfl, HQ2.out.symm⟩))⟩
  case pos =>
  subst hq0
  have hVT : VT t := vt_of_wk t 0 HQ.out
  have hVX : Hid (VT x) := vt_of_wk x 0 HQ2.out
  obtain ⟨d0, d1, d2, d3, d4⟩ := HI.out.2.2.1.cells
  go_wp2_with fail
  clear d0 d1 d2 d3 d4
  refine (fault22 x _ _ w2 1 (by omega) (by omega) HR.out.2.2.2.2.1 (Below.rv HI.out.1 (Nat.le_of_eq HS.out) HR.out.2.1)).mono ?_
  rintro e w3 ⟨rfl, hb1⟩
  replace HI : Hid _ := WI.keep HI.out HS.out hb1
  clear hb1
  generalize hq : wk x 1 = q3 at *
  have HQ3 : Hid (wk x 1 = q3) := hq
  clear hq
  by_cases hq0 : q3 = 0
  case neg =>
    have hq' : (q3 != 0) = true := by simpa using hq0
    have HN : Hid (q3 ≠ 0) := hq0
    clear hq0
    obtain ⟨c0, c1, c2, c3, c4⟩ := HI.out.2.2.2.cells
    have z0 := HI.out.2.2.2.frozen 0
    have z1 := HI.out.2.2.2.frozen 1
    have z2 := HI.out.2.2.2.frozen 2
    have z3 := HI.out.2.2.2.frozen 3
    have z4 := HI.out.2.2.2.frozen 4
    go_wp2
    exact bodyPost_ret (v := .tuple #[.agg #[.int .i64 0, .int .i64 0, .string { data := #[] }, .slice .none 0 0, .slice .none 0 0], .int .i64 q3]) (results_cell2 Tryd.results21 _ _ (H + 1 + 1) _ rfl (((((HI.out.2.2.2.set0 _).set1 _).set2 _).set3 _).set4 _) rfl) rfl
      ⟨zeroT, q3, _, _, rfl, (with_bad HS.out HI.out).1, (with_bad HS.out HI.out).2, .inr (.inr (.inr (.inl ⟨HQ.out, HT.out, HQ2.out, by rw [HQ3.out]; exact HN.out, rfl, HQ3.out.symm⟩)))⟩
  case pos =>
  subst hq0
  cases t with
  | no => exact HR.out.1.elim
  | mk tk tn ts tln tl dn ky dv =>
  obtain rfl : tk = 4 := HT.out
  have HRi : Hid (Rise ky dn) := rise_of_good fun i hi => (hVT.2.2 i hi).1
  have hdn : dn ≤ 2147483647 := HR.out.2.2.2.1.2.1
  have HVd : Hid (∀ i, i < dn → (dv i).ok ∧ (dv i).small ∧ VT (dv i)) := fun i hi => ⟨(HR.out.2.2.1.2.2.2.2 i hi).2, HR.out.2.2.2.1.2.2.2 i hi, (hVT.2.2 i hi).2⟩
  have HRD : Hid (RD (fun _ => True) w3 dn ky dv (.slice ya yn yc)) := (Below.rv HI.out.1 (Nat.le_of_eq HS.out) HR.out.1).2
  clear hVT
  obtain ⟨_, _, _, _, e4⟩ := HI.out.2.1.cells
  go_wp2_with fail
  clear e4
  refine (dictOf24s dn ky dv _ w3 (fun i => nodeOf27 (dv i)) hdn HVd.out HRD.out).mono ?_
  rintro e w4 ⟨c, rfl, hent, hgl, hb1, rfl, cs, hcb, hcsz⟩
  have hD0 : H + 1 + 1 < w3.heap.size := HI.out.2.2.2.lt
  replace HI : Hid _ := WI.keep HI.out HS.out hb1
  have HRD4 : Hid (RD (fun _ => True) w4 c ky dv (.slice ya yn yc)) := RD.keep (fun _ h => h) hb1.size (fun b _ hl => hb1.block b hl) HRD.out
  clear hb1 HRD
  generalize w3.heap.size = D at *
  have HEnt : Hid ((∀ i, i < c → ∃ u, w4.cell? ⟨D, i * 2, none⟩ = some (.string (ky i)) ∧ w4.cell? ⟨D, i * 2 + 1, none⟩ = some u ∧ RN (fun b => D < b) w4 (dv i) u) ∧ blk w4 D 66 cs ∧ cs.size = c * 2) := ⟨hent, hcb, hcsz⟩
  clear hent hcb hcsz
  obtain ⟨_, _, _, _, e4⟩ := HI.out.2.1.cells
  go_wp2_with fail
  clear e4
  refine (search25 c ky dv _ key w4 HRD4.out HRi.out (by omega)).mono ?_
  rintro e w5 ⟨at', f, rfl, hat, hff, hb5⟩
  have HFD : Hid (Fd ky c key at' f) := ⟨hat, hff⟩
  have hat1 : at' ≤ c := hat.1
  have HSM : Hid (withT c ky dv key x at' f).small1 := small_with HFD.out hdn (fun i hi => (HVd.out i hi).2.1) HR.out.2.2.2.2.2
  have HVT : Hid (VT (withT c ky dv key x at' f)) := vt_with HRi.out HFD.out (fun i hi => (HVd.out i hi).2.2) hVX.out
  replace HI : Hid _ := WI.keep HI.out HS.out hb5
  have HE5 : Hid ((∀ i, i < c → ∃ u, cs[i * 2]? = some (.string (ky i)) ∧ cs[i * 2 + 1]? = some u ∧ RN (fun b => D < b) w5 (dv i) u) ∧ blk w5 D 66 cs ∧ cs.size = c * 2) := by
    obtain ⟨h1, h2, h3⟩ := HEnt.out
    refine ⟨fun i hi => ?_, h2.keep (hb5.block _ h2.lt), h3⟩
    obtain ⟨u, q0, q1, q2⟩ := h1 i hi
    rw [h2.cell] at q0 q1
    exact ⟨u, q0, q1, RN.move (fun _ h _ => h) hb5.size (fun b _ hl => hb5.block b hl) _ _ q2⟩
  clear hat hff hb5 HEnt HRD4
  cases f with
  | true =>
    have hE : E2 D w5 (nk ky key at' true) (nv dv x at' true) c at' cs := by
      obtain ⟨h1, h2, h3⟩ := HE5.out
      refine ⟨h2, by omega, (HFD.out.2.1 rfl).1, fun i hi hne => ?_⟩
      obtain ⟨u, q0, q1, q2⟩ := h1 i hi
      have e1 : nk ky key at' true i = ky i := by
        by_cases h : i < at'
        · exact nk_lt h
        · rw [nk_gt (by omega)]; rfl
      have e2 : nv dv x at' true i = dv i := by
        by_cases h : i < at'
        · exact nv_lt h
        · rw [nv_gt (by omega)]; rfl
      rw [e1, e2]
      exact ⟨u, q0, q1, RN.move (fun b hb _ => by omega) (Nat.le_refl _) (fun _ _ _ => rfl) _ _ q2⟩
    -- the rest
    obtain ⟨d0, d1, d2, d3, d4⟩ := HI.out.2.2.1.cells
    go_wp2_with fail
    clear d0 d1 d2 d3 d4
    refine (nodeOf27 x _ _ _ HR.out.2.2.2.2.1 HR.out.2.2.2.2.2 hVX.out (Below.rv HI.out.1 (Nat.le_of_eq HS.out) HR.out.2.1)).mono ?_
    rintro e w7 ⟨nu, rfl, hrn, hb7, _⟩
    obtain ⟨ty, uu, rfl⟩ := hrn.iface
    have HI7 : Hid (WI H w w7 (.mk 4 tn ts tln tl c ky dv) (.slice xa xn xc) (.slice ya yn yc) x (.slice xa2 xn2 xc2) (.slice ya2 yn2 yc2)) := WI.keep HI.out HS.out hb7
    have hltE := hE.2.2.1
    have hE7 := E2.put (c := c) hE hb7 hrn
    obtain ⟨⟨zz0, cz0⟩, ⟨zz1, cz1⟩, fz0, fz1, HF⟩ := hE7
    have ga : (0 : Int) ≤ (at' : Int) := by omega
    have gb : (at' : Int) < ((c : Nat) : Int) := by omega
    have hHg : H + 1 + 1 < D := by have := hD0; omega
    clear hrn hb7 hE
    go_wp2_with fail
    obtain ⟨HRN, HBS⟩ := HF.out
    have HI8 : Hid (WI H w ((w7.setCell ⟨D, at' * 2, none⟩ (.string key)).setCell ⟨D, at' * 2 + 1, none⟩ (.iface ty uu)) (.mk 4 tn ts tln tl c ky dv) (.slice xa xn xc) (.slice ya yn yc) x (.slice xa2 xn2 xc2) (.slice ya2 yn2 yc2)) := by
      obtain ⟨i1, i2, i3, i4⟩ := HI7.out
      have hk8 : ∀ q, q < D → ((w7.setCell ⟨D, at' * 2, none⟩ (.string key)).setCell ⟨D, at' * 2 + 1, none⟩ (.iface ty uu)).heap[q]? = w7.heap[q]? := fun q hq => by
        rw [Below.heap_setCell _ _ _ _ (show q ≠ D by omega), Below.heap_setCell _ _ _ _ (show q ≠ D by omega)]
      exact ⟨(i1.setCell (by show H ≤ D; omega) _).setCell (by show H ≤ D; omega) _, i2.keep (hk8 _ (by omega)), i3.keep (hk8 _ (by omega)), i4.keep (hk8 _ (by omega))⟩
    refine (plain28s (withT c ky dv key x at' true) _ _ _ HSM.out HVT.out HRN).mono ?_
    rintro e w9 ⟨x9, y9, rfl, hr9, hb9⟩
    obtain ⟨⟨xa9, xn9, xc9, rfl⟩, ⟨ya9, yn9, yc9, rfl⟩⟩ := hr9.slices
    have HI9 : Hid (WI H w w9 (.mk 4 tn ts tln tl c ky dv) (.slice xa xn xc) (.slice ya yn yc) x (.slice xa2 xn2 xc2) (.slice ya2 yn2 yc2)) := WI.keep HI8.out HS.out hb9
    have hlow9 : H + 1 + 1 < ((w7.setCell ⟨D, at' * 2, none⟩ (.string key)).setCell ⟨D, at' * 2 + 1, none⟩ (.iface ty uu)).heap.size := HI8.out.2.2.2.lt
    have HR9 : Hid (RV (fun b => H + 1 + 1 < b) w9 (withT c ky dv key x at' true) (.slice xa9 xn9 xc9) (.slice ya9 yn9 yc9)) := RV.move (fun b hb _ => by omega) (Nat.le_refl _) (fun _ _ _ => rfl) _ _ _ hr9
    obtain ⟨c0, c1, c2, c3, c4⟩ := HI9.out.2.2.2.cells
    have z0 := HI9.out.2.2.2.frozen 0
    have z1 := HI9.out.2.2.2.frozen 1
    have z2 := HI9.out.2.2.2.frozen 2
    have z3 := HI9.out.2.2.2.frozen 3
    have z4 := HI9.out.2.2.2.frozen 4
    clear hr9 hb9 HRN HBS HF cz0 cz1 fz0 fz1 hlow9
    unfold vv
    go_wp2
    have hbs := set5_below HI9.out.1 (show H ≤ H + 1 + 1 by omega) 0 (.int .i64 (withT c ky dv key x at' true).k) (.int .i64 (withT c ky dv key x at' true).n) (.string (withT c ky dv key x at' true).s) (.slice xa9 xn9 xc9) (.slice ya9 yn9 yc9)
    refine bodyPost_ret (v := .tuple #[.agg #[.int .i64 (withT c ky dv key x at' true).k, .int .i64 (withT c ky dv key x at' true).n, .string (withT c ky dv key x at' true).s, .slice xa9 xn9 xc9, .slice ya9 yn9 yc9], .int .i64 0]) (results_cell2 Tryd.results21 _ _ (H + 1 + 1) _ rfl (((((HI9.out.2.2.2.set0 _).set1 _).set2 _).set3 _).set4 _) rfl) rfl
      ⟨withT c ky dv key x at' true, 0, _, _, rfl, ?_, by rw [HS.out]; exact hbs, .inr (.inr (.inr (.inr ⟨HQ.out, rfl, HQ2.out, HQ3.out, rfl, _, _, _, _, _, _, _, _, _, rfl, HFD.out, rfl⟩)))⟩
    exact RV.move (w' := set5 w9 (H + 1 + 1) 0 (.int .i64 (withT c ky dv key x at' true).k) (.int .i64 (withT c ky dv key x at' true).n) (.string (withT c ky dv key x at' true).s) (.slice xa9 xn9 xc9) (.slice ya9 yn9 yc9)) (fun _ _ _ => trivial) (by rw [set5_size]; exact Nat.le_refl _) (fun b hb _ => set5_block _ _ _ _ _ _ _ _ _ (by omega)) _ _ _ HR9.out
  | false =>
    have h1c : ∀ v ∈ cs.toList, v.oneCell' = true := by
      obtain ⟨h1, h2, h3⟩ := HE5.out
      intro v hv
      obtain ⟨j, hj, rfl⟩ := List.getElem_of_mem hv
      have hj' : j < cs.size := by simpa using hj
      obtain ⟨u, q0, q1, q2⟩ := h1 (j / 2) (by omega)
      obtain ⟨ty, uu, rfl⟩ := q2.iface
      rcases Nat.mod_two_eq_zero_or_one j with e | e
      · have ej : j / 2 * 2 = j := by omega
        rw [ej, Array.getElem?_eq_getElem hj'] at q0
        simp only [Array.getElem_toList, Option.some.inj q0]; rfl
      · have ej : j / 2 * 2 + 1 = j := by omega
        rw [ej, Array.getElem?_eq_getElem hj'] at q1
        simp only [Array.getElem_toList, Option.some.inj q1]; rfl
    go_wp2_with fail
    have hlow5 : D < w5.heap.size := HE5.out.2.1.lt
    refine (insert26 D w5.heap.size c at' cs (w5.alloc (Obj.cells #[Value.string { data := #[] }, Value.nilIface] 66)) (HE5.out.2.1.keep (Below.heap_alloc _ _ _ hlow5)) HE5.out.2.2 hdn hat1 h1c ?_ ?_).mono ?_
    · rw [blk.cell (ty := 66) (heap_new w5 _)]; rfl
    · rw [blk.cell (ty := 66) (heap_new w5 _)]; rfl
    rintro e w6 ⟨g', cap, cs', rfl, hg1, hg2, hg3, hg4, hg5, hg6⟩
    have hsz5 : (w5.alloc (Obj.cells #[Value.string { data := #[] }, Value.nilIface] 66)).heap.size = w5.heap.size + 1 := by simp
    have hgl6 : H + 1 + 1 < g' := by omega
    have hE : E2 g' w6 (nk ky key at' false) (nv dv x at' false) (c + 1) at' cs' := by
      obtain ⟨h1, h2, h3⟩ := HE5.out
      refine ⟨hg1, hg2, by omega, fun i hi hne => ?_⟩
      have hkp : ∀ b, D < b → b < w5.heap.size → w6.heap[b]? = w5.heap[b]? := fun b hb hl => by
        rw [hg6.block b (by omega) (by omega), Below.heap_alloc _ _ _ hl]
      have hrn : ∀ (t : T) (u : Value), RN (fun b => D < b) w5 t u → RN (fun b => b ≠ g') w6 t u := fun t u h =>
        RN.move (fun b hb hl => by omega) (by have := hg6.size; omega) hkp _ _ h
      by_cases h : i < at'
      · obtain ⟨u, q0, q1, q2⟩ := h1 i (by omega)
        rw [nk_lt h, nv_lt h]
        exact ⟨u, by rw [hg3 _ (by omega)]; exact q0, by rw [hg3 _ (by omega)]; exact q1, hrn _ _ q2⟩
      · obtain ⟨u, q0, q1, q2⟩ := h1 (i - 1) (by omega)
        rw [nk_gt (by omega), nv_gt (by omega)]
        refine ⟨u, ?_, ?_, hrn _ _ q2⟩
        · rw [hg4 _ (by omega) (by omega), show i * 2 - 2 = (i - 1) * 2 by omega]; exact q0
        · rw [hg4 _ (by omega) (by omega), show i * 2 + 1 - 2 = (i - 1) * 2 + 1 by omega]; exact q1
    replace HI : Hid (WI H w w6 (.mk 4 tn ts tln tl c ky dv) (.slice xa xn xc) (.slice ya yn yc) x (.slice xa2 xn2 xc2) (.slice ya2 yn2 yc2)) := by
      obtain ⟨i1, i2, i3, i4⟩ := HI.out
      have hkp : ∀ b, b < D → w6.heap[b]? = w5.heap[b]? := fun b hb => by
        rw [hg6.block b (by omega) (by omega), Below.heap_alloc _ _ _ (by omega)]
      exact ⟨below_besides i1 hg6 (by omega) (by omega), i2.keep (hkp _ (by omega)), i3.keep (hkp _ (by omega)), i4.keep (hkp _ (by omega))⟩
    clear hg1 hg2 hg3 hg4 hg5 hg6 hsz5 hlow5 h1c
    -- the rest
    obtain ⟨d0, d1, d2, d3, d4⟩ := HI.out.2.2.1.cells
    go_wp2_with fail
    clear d0 d1 d2 d3 d4
    refine (nodeOf27 x _ _ _ HR.out.2.2.2.2.1 HR.out.2.2.2.2.2 hVX.out (Below.rv HI.out.1 (Nat.le_of_eq HS.out) HR.out.2.1)).mono ?_
    rintro e w7 ⟨nu, rfl, hrn, hb7, _⟩
    obtain ⟨ty, uu, rfl⟩ := hrn.iface
    have HI7 : Hid (WI H w w7 (.mk 4 tn ts tln tl c ky dv) (.slice xa xn xc) (.slice ya yn yc) x (.slice xa2 xn2 xc2) (.slice ya2 yn2 yc2)) := WI.keep HI.out HS.out hb7
    have hltE := hE.2.2.1
    have hE7 := E2.put (dn := c) (c := cap) hE hb7 hrn
    obtain ⟨⟨zz0, cz0⟩, ⟨zz1, cz1⟩, fz0, fz1, HF⟩ := hE7
    have ga : (0 : Int) ≤ (at' : Int) := by omega
    have gb : (at' : Int) < ((c + 1 : Nat) : Int) := by omega
    have hHg : H + 1 + 1 < g' := by have := hgl6; omega
    clear hrn hb7 hE
    go_wp2_with fail
    obtain ⟨HRN, HBS⟩ := HF.out
    have HI8 : Hid (WI H w ((w7.setCell ⟨g', at' * 2, none⟩ (.string key)).setCell ⟨g', at' * 2 + 1, none⟩ (.iface ty uu)) (.mk 4 tn ts tln tl c ky dv) (.slice xa xn xc) (.slice ya yn yc) x (.slice xa2 xn2 xc2) (.slice ya2 yn2 yc2)) := by
      obtain ⟨i1, i2, i3, i4⟩ := HI7.out
      have hk8 : ∀ q, q < g' → ((w7.setCell ⟨g', at' * 2, none⟩ (.string key)).setCell ⟨g', at' * 2 + 1, none⟩ (.iface ty uu)).heap[q]? = w7.heap[q]? := fun q hq => by
        rw [Below.heap_setCell _ _ _ _ (show q ≠ g' by omega), Below.heap_setCell _ _ _ _ (show q ≠ g' by omega)]
      exact ⟨(i1.setCell (by show H ≤ g'; omega) _).setCell (by show H ≤ g'; omega) _, i2.keep (hk8 _ (by omega)), i3.keep (hk8 _ (by omega)), i4.keep (hk8 _ (by omega))⟩
    refine (plain28s (withT c ky dv key x at' false) _ _ _ HSM.out HVT.out HRN).mono ?_
    rintro e w9 ⟨x9, y9, rfl, hr9, hb9⟩
    obtain ⟨⟨xa9, xn9, xc9, rfl⟩, ⟨ya9, yn9, yc9, rfl⟩⟩ := hr9.slices
    have HI9 : Hid (WI H w w9 (.mk 4 tn ts tln tl c ky dv) (.slice xa xn xc) (.slice ya yn yc) x (.slice xa2 xn2 xc2) (.slice ya2 yn2 yc2)) := WI.keep HI8.out HS.out hb9
    have hlow9 : H + 1 + 1 < ((w7.setCell ⟨g', at' * 2, none⟩ (.string key)).setCell ⟨g', at' * 2 + 1, none⟩ (.iface ty uu)).heap.size := HI8.out.2.2.2.lt
    have HR9 : Hid (RV (fun b => H + 1 + 1 < b) w9 (withT c ky dv key x at' false) (.slice xa9 xn9 xc9) (.slice ya9 yn9 yc9)) := RV.move (fun b hb _ => by omega) (Nat.le_refl _) (fun _ _ _ => rfl) _ _ _ hr9
    obtain ⟨c0, c1, c2, c3, c4⟩ := HI9.out.2.2.2.cells
    have z0 := HI9.out.2.2.2.frozen 0
    have z1 := HI9.out.2.2.2.frozen 1
    have z2 := HI9.out.2.2.2.frozen 2
    have z3 := HI9.out.2.2.2.frozen 3
    have z4 := HI9.out.2.2.2.frozen 4
    clear hr9 hb9 HRN HBS HF cz0 cz1 fz0 fz1 hlow9
    unfold vv
    go_wp2
    have hbs := set5_below HI9.out.1 (show H ≤ H + 1 + 1 by omega) 0 (.int .i64 (withT c ky dv key x at' false).k) (.int .i64 (withT c ky dv key x at' false).n) (.string (withT c ky dv key x at' false).s) (.slice xa9 xn9 xc9) (.slice ya9 yn9 yc9)
    refine bodyPost_ret (v := .tuple #[.agg #[.int .i64 (withT c ky dv key x at' false).k, .int .i64 (withT c ky dv key x at' false).n, .string (withT c ky dv key x at' false).s, .slice xa9 xn9 xc9, .slice ya9 yn9 yc9], .int .i64 0]) (results_cell2 Tryd.results21 _ _ (H + 1 + 1) _ rfl (((((HI9.out.2.2.2.set0 _).set1 _).set2 _).set3 _).set4 _) rfl) rfl
      ⟨withT c ky dv key x at' false, 0, _, _, rfl, ?_, by rw [HS.out]; exact hbs, .inr (.inr (.inr (.inr ⟨HQ.out, rfl, HQ2.out, HQ3.out, rfl, _, _, _, _, _, _, _, _, _, rfl, HFD.out, rfl⟩)))⟩
    exact RV.move (w' := set5 w9 (H + 1 + 1) 0 (.int .i64 (withT c ky dv key x at' false).k) (.int .i64 (withT c ky dv key x at' false).n) (.string (withT c ky dv key x at' false).s) (.slice xa9 xn9 xc9) (.slice ya9 yn9 yc9)) (fun _ _ _ => trivial) (by rw [set5_size]; exact Nat.le_refl _) (fun b hb _ => set5_block _ _ _ _ _ _ _ _ _ (by omega)) _ _ _ HR9.out
end Go.Proofs.YtegdlkbilgkfoaaDoor
