import Derived.Test.YtdchckelnccepaaDoorEnc
import Derived.Deep.RegionHeld3
namespace Go.Proofs.YtdchckelnccepaaDoor
open Go.RowKit Go.Deep
theorem nil55 (u : Value) (w : World) : Sem.run Tryd.prog (nilAhead 234 81 u "torrent/bencode.text") w = .ok (some false) w := by kernel_rfl
theorem nil56 (u : Value) (w : World) : Sem.run Tryd.prog (nilAhead 234 82 u "torrent/bencode.text") w = .ok (some false) w := by kernel_rfl
theorem nil58 (u : Value) (w : World) : Sem.run Tryd.prog (nilAhead 234 84 u "torrent/bencode.text") w = .ok (some false) w := by kernel_rfl
theorem nil61 (u : Value) (w : World) : Sem.run Tryd.prog (nilAhead 234 87 u "torrent/bencode.text") w = .ok (some false) w := by kernel_rfl
/-- the five cells of a value's box -/
def C5 (w : World) (b : Nat) (t : T) (x y : Value) : Prop := w.cell? ⟨b, 0, none⟩ = some (.int .i64 t.k) ∧ w.cell? ⟨b, 1, none⟩ = some (.int .i64 t.n) ∧ w.cell? ⟨b, 2, none⟩ = some (.string t.s) ∧ w.cell? ⟨b, 3, none⟩ = some x ∧ w.cell? ⟨b, 4, none⟩ = some y
theorem obj.c5 {w : World} {b : Nat} {t : T} {x y : Value} (h : obj w b (.int .i64 t.k) (.int .i64 t.n) (.string t.s) x y) : C5 w b t x y := h.cells
theorem rn_kind {S : Nat → Prop} {w : World} {t : T} {u : Value} (h : RN S w t u) : (t.k = 1 ∧ ∃ n, u = .iface 81 n) ∨ (t.k = 2 ∧ ∃ n, u = .iface 82 n) ∨ (t.k = 3 ∧ ∃ n, u = .iface 84 n) ∨ (t.k = 4 ∧ ∃ n, u = .iface 87 n) := by
  cases t with
  | no => exact h.elim
  | mk k n s ln l dn ky dv =>
    rcases h with ⟨h, rfl⟩ | ⟨h, rfl⟩ | ⟨h, b, c, rfl, _⟩ | ⟨h, b, c, rfl, _⟩
    · exact .inl ⟨h, _, rfl⟩
    · exact .inr (.inl ⟨h, _, rfl⟩)
    · exact .inr (.inr (.inl ⟨h, _, rfl⟩))
    · exact .inr (.inr (.inr ⟨h, _, rfl⟩))
theorem vt_kind {S : Nat → Prop} {w : World} {t : T} {x y : Value} (h : VT t) (hr : RV S w t x y) : t.k = 1 ∨ t.k = 2 ∨ t.k = 3 ∨ t.k = 4 := by
  cases t with
  | no => exact hr.elim
  | mk k n s ln l dn ky dv =>
    obtain ⟨k1, k4, _⟩ := (ownB_iff _ _ _ _ _).1 h.1
    show k = 1 ∨ k = 2 ∨ k = 3 ∨ k = 4
    omega
theorem made_own (w : World) (B m : Nat) (hm : m ≤ 1048576) (hB : B ≤ w.heap.size) : OW B (w.alloc (.cells (madeCells #[.int .u8 0] m) 5)) (.slice (some ⟨w.heap.size, 0, none⟩) 0 m) [] :=
  ⟨rfl, .inr ⟨w.heap.size, m, madeCells #[.int .u8 0] m, rfl, hB, heap_new _ _, Nat.zero_le _, by unfold maxLen; omega, by rw [size_madeCells]; simp, by simp [Lib.byteCells]⟩⟩
theorem text_call (t : T) (ty : TypeId) (uu sv x y : Value) (w wt : World) (hrn : RN (NB wt) wt t (.iface ty uu)) (hrng : t.rng) (ho : OW w.heap.size wt sv []) (hb : Below w.heap.size w wt) (hT : TB w.heap.size w)
    (hx : obj wt w.heap.size (.int .i64 t.k) (.int .i64 t.n) (.string t.s) x y) (hlen : (txt t).length ≤ 80000000000000) :
    Calls Tryd.prog (mth ty) #[uu, sv] wt fun e wz => ∃ v, e = .returned v ∧ C5 wz w.heap.size t x y ∧ Hid (OW w.heap.size wz v (txt t) ∧ Below w.heap.size w wz) := by
  refine (texts t w.heap.size ty uu sv [] wt hrn hrng ho hb.size (hT.on hb) (by simp; omega)).mono ?_
  rintro e wz ⟨v, rfl, h1, h2⟩
  have hx' : obj wz w.heap.size (.int .i64 t.k) (.int .i64 t.n) (.string t.s) x y := h2.2 _ _ hx (by simp) (fun cc fz h => by cases h)
  exact ⟨v, rfl, hx'.c5, by simpa using h1, hb.trans h2.1⟩
theorem enc_callA (t : T) (ty : TypeId) (hty : ∀ S w u, RN S w t u → ∃ uu, u = .iface ty uu) (x y : Value) (w w2 : World) (m : Nat) (hok : t.ok) (hsm : t.small) (hrng : t.rng) (hVT : VT t) (hT : TB w.heap.size w) (hR : RV (fun _ => True) w t x y)
    (hB2 : Below w.heap.size w w2) (hx : obj w2 w.heap.size (.int .i64 t.k) (.int .i64 t.n) (.string t.s) x y) (hm : m ≤ 1048576) (hlen : (txt t).length ≤ 80000000000000) :
    Calls Tryd.prog 30 #[vv t x y] w2.drew fun e wq => ∃ uu, e = .returned (.iface ty uu) ∧ C5 wq w.heap.size t x y ∧ C5 (wq.alloc (.cells (madeCells #[.int .u8 0] m) 5)) w.heap.size t x y ∧
      Hid (Calls Tryd.prog (mth ty) #[uu, .slice (some ⟨wq.heap.size, 0, none⟩) 0 m] (wq.alloc (.cells (madeCells #[.int .u8 0] m) 5)) fun e wz => ∃ v, e = .returned v ∧ C5 wz w.heap.size t x y ∧ Hid (OW w.heap.size wz v (txt t) ∧ Below w.heap.size w wz)) := by
  have hBd : Below w.heap.size w w2.drew := hB2.drew
  refine (nodeOf27 t x y w2.drew hok hsm hVT (Below.rv hBd (Nat.le_refl _) hR)).mono ?_
  rintro e wq ⟨u, rfl, hrn, hb, hn⟩
  obtain ⟨uu, rfl⟩ := hty _ _ _ hrn
  have hs2 : w.heap.size ≤ w2.drew.heap.size := hBd.size
  have hBq : Below w.heap.size w wq := hBd.trans (hb.mono hs2)
  have hxq : obj wq w.heap.size (.int .i64 t.k) (.int .i64 t.n) (.string t.s) x y := hx.keep (hb.block _ hx.lt)
  have hxa : obj (wq.alloc (.cells (madeCells #[.int .u8 0] m) 5)) w.heap.size (.int .i64 t.k) (.int .i64 t.n) (.string t.s) x y := hxq.keep (Below.heap_alloc _ _ _ hxq.lt)
  have hrn' : RN (NB wq) wq t (.iface ty uu) := RN.move (fun b h _ => hn b h) (Nat.le_refl _) (fun _ _ _ => rfl) _ _ hrn
  refine ⟨uu, rfl, hxq.c5, hxa.c5, Lib.hid (text_call t ty uu _ x y w _ (RN.keepB hrn' ((BW.refl w.heap.size wq).alloc hBq.size _)) hrng (made_own wq _ m hm hBq.size) (hBq.alloc hBq.size _) hT hxa hlen)⟩
theorem enc_callB (t : T) (ty : TypeId) (hty : ∀ S w u, RN S w t u → ∃ uu, u = .iface ty uu) (x y : Value) (w w2 : World) (m : Nat) (hok : t.ok) (hsm : t.small) (hrng : t.rng) (hVT : VT t) (hT : TB w.heap.size w) (hR : RV (fun _ => True) w t x y)
    (hB2 : Below w.heap.size w w2) (hx : obj w2 w.heap.size (.int .i64 t.k) (.int .i64 t.n) (.string t.s) x y) (hm : m ≤ 1048576) (hlen : (txt t).length ≤ 80000000000000) :
    Calls Tryd.prog 30 #[vv t x y] (w2.alloc (.cells (madeCells #[.int .u8 0] m) 5)).drew fun e wq => ∃ uu, e = .returned (.iface ty uu) ∧ C5 wq w.heap.size t x y ∧
      Hid (Calls Tryd.prog (mth ty) #[uu, .slice (some ⟨w2.heap.size, 0, none⟩) 0 m] wq fun e wz => ∃ v, e = .returned v ∧ C5 wz w.heap.size t x y ∧ Hid (OW w.heap.size wz v (txt t) ∧ Below w.heap.size w wz)) := by
  have hBd : Below w.heap.size w (w2.alloc (.cells (madeCells #[.int .u8 0] m) 5)).drew := (hB2.alloc hB2.size _).drew
  have ho : OW w.heap.size (w2.alloc (.cells (madeCells #[.int .u8 0] m) 5)).drew (.slice (some ⟨w2.heap.size, 0, none⟩) 0 m) [] := made_own w2 w.heap.size m hm hB2.size
  have hxd : obj (w2.alloc (.cells (madeCells #[.int .u8 0] m) 5)).drew w.heap.size (.int .i64 t.k) (.int .i64 t.n) (.string t.s) x y := hx.keep (Below.heap_alloc w2 _ _ hx.lt)
  generalize (w2.alloc (.cells (madeCells #[.int .u8 0] m) 5)).drew = wd at *
  refine (nodeOf27 t x y wd hok hsm hVT (Below.rv hBd (Nat.le_refl _) hR)).mono ?_
  rintro e wq ⟨u, rfl, hrn, hb, hn⟩
  obtain ⟨uu, rfl⟩ := hty _ _ _ hrn
  have hBq : Below w.heap.size w wq := hBd.trans (hb.mono hBd.size)
  have hxq : obj wq w.heap.size (.int .i64 t.k) (.int .i64 t.n) (.string t.s) x y := hxd.keep (hb.block _ hxd.lt)
  have hrn' : RN (NB wq) wq t (.iface ty uu) := RN.move (fun b h _ => hn b h) (Nat.le_refl _) (fun _ _ _ => rfl) _ _ hrn
  exact ⟨uu, rfl, hxq.c5, Lib.hid (text_call t ty uu _ x y w _ hrn' hrng (ho.keep hb) hBq hT hxq hlen)⟩
set_option maxRecDepth 10000 in
set_option maxHeartbeats 1000000 in
theorem encode7 (t : T) (x y : Value) (w : World) (hok : t.ok) (hsm : t.small) (hrng : t.rng) (hwt : (txt t).length ≤ 80000000000000) (hT : TB w.heap.size w) (hr : RV (fun _ => True) w t x y) :
    Calls Tryd.prog 13 #[vv t x y] w fun e w' => ∃ v er, e = .returned (.tuple #[v, .int .i64 er]) ∧ EP t w w' v er := by
  obtain ⟨⟨xa, xn, xc, rfl⟩, ⟨ya, yn, yc, rfl⟩⟩ := hr.slices
  have HR := Lib.hid hr
  clear hr
  have HB0 : Hid (Below w.heap.size w (w.alloc (Obj.cells #[.int .i64 t.k, .int .i64 t.n, .string t.s, .slice xa xn xc, .slice ya yn yc] 41)) ∧ obj (w.alloc (Obj.cells #[.int .i64 t.k, .int .i64 t.n, .string t.s, .slice xa xn xc, .slice ya yn yc] 41)) w.heap.size (.int .i64 t.k) (.int .i64 t.n) (.string t.s) (.slice xa xn xc) (.slice ya yn yc)) := ⟨(Below.refl _ _).alloc (Nat.le_refl _) _, heap_new _ _⟩
  unfold vv
  go_enter Tryd.func13, Tryd.ntmps13
  go_wp2_with fail
  refine (valid12 t _ _ _ hok (Below.rv HB0.out.1 (Nat.le_refl _) HR.out)).mono ?_
  rintro e w1 ⟨rfl, hb1⟩
  have HB1 : Hid (Below w.heap.size w w1 ∧ obj w1 w.heap.size (.int .i64 t.k) (.int .i64 t.n) (.string t.s) (.slice xa xn xc) (.slice ya yn yc)) := ⟨HB0.out.1.trans (hb1.mono (by simp)), HB0.out.2.keep (hb1.block _ HB0.out.2.lt)⟩
  clear hb1 HB0
  by_cases hk : wk t 0 = 0
  case neg =>
    have hk' : (wk t 0 != 0) = true := by simpa using hk
    have HE := Lib.hid (EP.bad hk HB1.out.1)
    generalize wk t 0 = q at *
    go_wp2
    go_ret2
    exact ⟨_, _, rfl, HE.out⟩
  have HK := Lib.hid hk
  have HVT : Hid (VT t) := vt_of_wk t 0 hk
  rw [hk]
  obtain ⟨c0, c1, c2, c3, c4⟩ := HB1.out.2.cells
  go_wp2_with fail
  refine (size16 t _ _ w1 (Below.rv HB1.out.1 (Nat.le_refl _) HR.out) hok hrng HVT.out (tb_up (hT.on HB1.out.1) HB1.out.1.size) hwt).mono ?_
  rintro e w2 ⟨m, rfl, hsz, hb2⟩
  have HB2 : Hid (Below w.heap.size w w2 ∧ obj w2 w.heap.size (.int .i64 t.k) (.int .i64 t.n) (.string t.s) (.slice xa xn xc) (.slice ya yn yc)) := ⟨HB1.out.1.trans (hb2.mono HB1.out.1.size), HB1.out.2.keep (hb2.block _ HB1.out.2.lt)⟩
  clear hb2 HB1 c0 c1 c2 c3 c4
  by_cases hlen : 1048576 < m
  · have HE := Lib.hid (EP.long HK.out (by have := hsz.1; omega) HB2.out.1)
    have hl2 : (1048576 : Int) < (m : Int) := by omega
    clear hsz
    go_wp2
    go_ret2
    exact ⟨_, _, rfl, HE.out⟩
  have hm : m = (txt t).length := by rcases hsz.2 with h | h <;> omega
  have hl2 : (m : Int) ≤ (1048576 : Int) := by omega
  have hl3 : m ≤ 1048576 := by omega
  have HM := Lib.hid hm
  have HWT := Lib.hid hwt
  clear hsz hm hlen hwt
  obtain ⟨i0, hi, hz0, hz1, hz2⟩ := info_parts info5
  have hmk : ∀ u : World, (Instr.makeSlice 28 (.int .i64 0) (.int .i64 (m : Int))).run Tryd.prog u =
      .ok (.slice (some ⟨u.heap.size, 0, none⟩) 0 m) (u.alloc (.cells (madeCells #[.int .u8 0] m) 5)) := fun u => by
    have h := run_make (P := Tryd.prog) u 28 5 i0 (.int .u8 0) Tryd.underlying28 hi hz0 .i64 .i64 0 m (by omega) (by omega) (by rw [hz2]; omega) (by omega)
    simpa [hz1, Value.cells] using h
  clear hi hz0 hz1 hz2 i0
  have HK4 := vt_kind HVT.out HR.out
  have HALL : Hid (t.ok ∧ t.small ∧ t.rng ∧ VT t ∧ TB w.heap.size w ∧ m ≤ 1048576 ∧ (txt t).length ≤ 80000000000000 ∧ Below w.heap.size w w2 ∧ obj w2 w.heap.size (.int .i64 t.k) (.int .i64 t.n) (.string t.s) (.slice xa xn xc) (.slice ya yn yc)) := ⟨hok, hsm, hrng, HVT.out, hT, hl3, HWT.out, HB2.out⟩
  clear hok hsm hrng hT
  have hl4 : m ≤ 1048576 := hl3
  have HV : Hid ((txt t).length ≤ 1048576) := Lib.hid (HM.out ▸ hl3)
  obtain ⟨c0, c1, c2, c3, c4⟩ := HB2.out.2.cells
  obtain ⟨d0, d1, d2, d3, d4⟩ : C5 (w2.alloc (.cells (madeCells #[.int .u8 0] m) 5)).drew w.heap.size t (.slice xa xn xc) (.slice ya yn yc) := obj.c5 (HB2.out.2.keep (Below.heap_alloc w2 _ _ HB2.out.2.lt))
  rcases HK4 with hk1 | hk1 | hk1 | hk1
  · have hty : ∀ S w u, RN S w t u → ∃ uu, u = .iface 81 uu := fun S w u h => by
      rcases rn_kind h with ⟨h1, h2⟩ | ⟨h1, h2⟩ | ⟨h1, h2⟩ | ⟨h1, h2⟩ <;> first | exact h2 | omega
    obtain ⟨a1, a2, a3, a4, a5, a6, a7, a8, a9⟩ := HALL.out
    have HCA := Lib.hid (enc_callA t 81 hty _ _ w w2 m a1 a2 a3 a4 a5 HR.out a8 a9 a6 a7)
    have HCB := Lib.hid (enc_callB t 81 hty _ _ w w2 m a1 a2 a3 a4 a5 HR.out a8 a9 a6 a7)
    have hmt := meth55
    have hnl := nil55
    clear a1 a2 a3 a4 a5 a6 a7 a8 a9 hty HALL HVT HR HWT HB2 hk1
    unfold vv at HCA HCB
    go_wp2_with fail
    generalize hxb : w.heap.size = xb at *
    have HXB := Lib.hid hxb
    clear hxb
    go_region_held3 (fun w' => w'.cell? ⟨xb, 0, none⟩ = some (.int .i64 t.k) ∧ w'.cell? ⟨xb, 1, none⟩ = some (.int .i64 t.n) ∧ w'.cell? ⟨xb, 2, none⟩ = some (.string t.s) ∧ w'.cell? ⟨xb, 3, none⟩ = some (.slice xa xn xc) ∧ w'.cell? ⟨xb, 4, none⟩ = some (.slice ya yn yc))
      (first | (with_reducible exact ⟨z0, z1, z2, z3, z4⟩) | (with_reducible exact ⟨x0, x1, x2, x3, x4⟩) | (with_reducible exact ⟨q0, q1, q2, q3, q4⟩) | (with_reducible exact ⟨d0, d1, d2, d3, d4⟩) | (exact ⟨c0, c1, c2, c3, c4⟩))
      (first | (go_at_call 30; refine HCA.out.mono ?_; rintro e wq ⟨uu, rfl, ⟨q0, q1, q2, q3, q4⟩, ⟨x0, x1, x2, x3, x4⟩, HXA⟩) | (go_at_call 30; refine HCB.out.mono ?_; rintro e wq ⟨uu, rfl, ⟨q0, q1, q2, q3, q4⟩, HXC⟩) | (go_at_call 91; refine HXA.out.mono ?_; rintro e wz ⟨v3, rfl, ⟨z0, z1, z2, z3, z4⟩, HN⟩) | (go_at_call 91; refine HXC.out.mono ?_; rintro e wz ⟨v3, rfl, ⟨z0, z1, z2, z3, z4⟩, HN⟩))
    all_goals
      have HE := Lib.hid (EP.good HK.out HV.out HN.out.1 (Nat.le_of_eq HXB.out) (HXB.out.symm ▸ HN.out.2))
      go_wp2
      go_ret2
      exact ⟨_, _, rfl, HE.out⟩
  · have hty : ∀ S w u, RN S w t u → ∃ uu, u = .iface 82 uu := fun S w u h => by
      rcases rn_kind h with ⟨h1, h2⟩ | ⟨h1, h2⟩ | ⟨h1, h2⟩ | ⟨h1, h2⟩ <;> first | exact h2 | omega
    obtain ⟨a1, a2, a3, a4, a5, a6, a7, a8, a9⟩ := HALL.out
    have HCA := Lib.hid (enc_callA t 82 hty _ _ w w2 m a1 a2 a3 a4 a5 HR.out a8 a9 a6 a7)
    have HCB := Lib.hid (enc_callB t 82 hty _ _ w w2 m a1 a2 a3 a4 a5 HR.out a8 a9 a6 a7)
    have hmt := meth56
    have hnl := nil56
    clear a1 a2 a3 a4 a5 a6 a7 a8 a9 hty HALL HVT HR HWT HB2 hk1
    unfold vv at HCA HCB
    go_wp2_with fail
    generalize hxb : w.heap.size = xb at *
    have HXB := Lib.hid hxb
    clear hxb
    go_region_held3 (fun w' => w'.cell? ⟨xb, 0, none⟩ = some (.int .i64 t.k) ∧ w'.cell? ⟨xb, 1, none⟩ = some (.int .i64 t.n) ∧ w'.cell? ⟨xb, 2, none⟩ = some (.string t.s) ∧ w'.cell? ⟨xb, 3, none⟩ = some (.slice xa xn xc) ∧ w'.cell? ⟨xb, 4, none⟩ = some (.slice ya yn yc))
      (first | (with_reducible exact ⟨z0, z1, z2, z3, z4⟩) | (with_reducible exact ⟨x0, x1, x2, x3, x4⟩) | (with_reducible exact ⟨q0, q1, q2, q3, q4⟩) | (with_reducible exact ⟨d0, d1, d2, d3, d4⟩) | (exact ⟨c0, c1, c2, c3, c4⟩))
      (first | (go_at_call 30; refine HCA.out.mono ?_; rintro e wq ⟨uu, rfl, ⟨q0, q1, q2, q3, q4⟩, ⟨x0, x1, x2, x3, x4⟩, HXA⟩) | (go_at_call 30; refine HCB.out.mono ?_; rintro e wq ⟨uu, rfl, ⟨q0, q1, q2, q3, q4⟩, HXC⟩) | (go_at_call 95; refine HXA.out.mono ?_; rintro e wz ⟨v3, rfl, ⟨z0, z1, z2, z3, z4⟩, HN⟩) | (go_at_call 95; refine HXC.out.mono ?_; rintro e wz ⟨v3, rfl, ⟨z0, z1, z2, z3, z4⟩, HN⟩))
    all_goals
      have HE := Lib.hid (EP.good HK.out HV.out HN.out.1 (Nat.le_of_eq HXB.out) (HXB.out.symm ▸ HN.out.2))
      go_wp2
      go_ret2
      exact ⟨_, _, rfl, HE.out⟩
  · have hty : ∀ S w u, RN S w t u → ∃ uu, u = .iface 84 uu := fun S w u h => by
      rcases rn_kind h with ⟨h1, h2⟩ | ⟨h1, h2⟩ | ⟨h1, h2⟩ | ⟨h1, h2⟩ <;> first | exact h2 | omega
    obtain ⟨a1, a2, a3, a4, a5, a6, a7, a8, a9⟩ := HALL.out
    have HCA := Lib.hid (enc_callA t 84 hty _ _ w w2 m a1 a2 a3 a4 a5 HR.out a8 a9 a6 a7)
    have HCB := Lib.hid (enc_callB t 84 hty _ _ w w2 m a1 a2 a3 a4 a5 HR.out a8 a9 a6 a7)
    have hmt := meth58
    have hnl := nil58
    clear a1 a2 a3 a4 a5 a6 a7 a8 a9 hty HALL HVT HR HWT HB2 hk1
    unfold vv at HCA HCB
    go_wp2_with fail
    generalize hxb : w.heap.size = xb at *
    have HXB := Lib.hid hxb
    clear hxb
    go_region_held3 (fun w' => w'.cell? ⟨xb, 0, none⟩ = some (.int .i64 t.k) ∧ w'.cell? ⟨xb, 1, none⟩ = some (.int .i64 t.n) ∧ w'.cell? ⟨xb, 2, none⟩ = some (.string t.s) ∧ w'.cell? ⟨xb, 3, none⟩ = some (.slice xa xn xc) ∧ w'.cell? ⟨xb, 4, none⟩ = some (.slice ya yn yc))
      (first | (with_reducible exact ⟨z0, z1, z2, z3, z4⟩) | (with_reducible exact ⟨x0, x1, x2, x3, x4⟩) | (with_reducible exact ⟨q0, q1, q2, q3, q4⟩) | (with_reducible exact ⟨d0, d1, d2, d3, d4⟩) | (exact ⟨c0, c1, c2, c3, c4⟩))
      (first | (go_at_call 30; refine HCA.out.mono ?_; rintro e wq ⟨uu, rfl, ⟨q0, q1, q2, q3, q4⟩, ⟨x0, x1, x2, x3, x4⟩, HXA⟩) | (go_at_call 30; refine HCB.out.mono ?_; rintro e wq ⟨uu, rfl, ⟨q0, q1, q2, q3, q4⟩, HXC⟩) | (go_at_call 96; refine HXA.out.mono ?_; rintro e wz ⟨v3, rfl, ⟨z0, z1, z2, z3, z4⟩, HN⟩) | (go_at_call 96; refine HXC.out.mono ?_; rintro e wz ⟨v3, rfl, ⟨z0, z1, z2, z3, z4⟩, HN⟩))
    all_goals
      have HE := Lib.hid (EP.good HK.out HV.out HN.out.1 (Nat.le_of_eq HXB.out) (HXB.out.symm ▸ HN.out.2))
      go_wp2
      go_ret2
      exact ⟨_, _, rfl, HE.out⟩
  · have hty : ∀ S w u, RN S w t u → ∃ uu, u = .iface 87 uu := fun S w u h => by
      rcases rn_kind h with ⟨h1, h2⟩ | ⟨h1, h2⟩ | ⟨h1, h2⟩ | ⟨h1, h2⟩ <;> first | exact h2 | omega
    obtain ⟨a1, a2, a3, a4, a5, a6, a7, a8, a9⟩ := HALL.out
    have HCA := Lib.hid (enc_callA t 87 hty _ _ w w2 m a1 a2 a3 a4 a5 HR.out a8 a9 a6 a7)
    have HCB := Lib.hid (enc_callB t 87 hty _ _ w w2 m a1 a2 a3 a4 a5 HR.out a8 a9 a6 a7)
    have hmt := meth61
    have hnl := nil61
    clear a1 a2 a3 a4 a5 a6 a7 a8 a9 hty HALL HVT HR HWT HB2 hk1
    unfold vv at HCA HCB
    go_wp2_with fail
    generalize hxb : w.heap.size = xb at *
    have HXB := Lib.hid hxb
    clear hxb
    go_region_held3 (fun w' => w'.cell? ⟨xb, 0, none⟩ = some (.int .i64 t.k) ∧ w'.cell? ⟨xb, 1, none⟩ = some (.int .i64 t.n) ∧ w'.cell? ⟨xb, 2, none⟩ = some (.string t.s) ∧ w'.cell? ⟨xb, 3, none⟩ = some (.slice xa xn xc) ∧ w'.cell? ⟨xb, 4, none⟩ = some (.slice ya yn yc))
      (first | (with_reducible exact ⟨z0, z1, z2, z3, z4⟩) | (with_reducible exact ⟨x0, x1, x2, x3, x4⟩) | (with_reducible exact ⟨q0, q1, q2, q3, q4⟩) | (with_reducible exact ⟨d0, d1, d2, d3, d4⟩) | (exact ⟨c0, c1, c2, c3, c4⟩))
      (first | (go_at_call 30; refine HCA.out.mono ?_; rintro e wq ⟨uu, rfl, ⟨q0, q1, q2, q3, q4⟩, ⟨x0, x1, x2, x3, x4⟩, HXA⟩) | (go_at_call 30; refine HCB.out.mono ?_; rintro e wq ⟨uu, rfl, ⟨q0, q1, q2, q3, q4⟩, HXC⟩) | (go_at_call 97; refine HXA.out.mono ?_; rintro e wz ⟨v3, rfl, ⟨z0, z1, z2, z3, z4⟩, HN⟩) | (go_at_call 97; refine HXC.out.mono ?_; rintro e wz ⟨v3, rfl, ⟨z0, z1, z2, z3, z4⟩, HN⟩))
    all_goals
      have HE := Lib.hid (EP.good HK.out HV.out HN.out.1 (Nat.le_of_eq HXB.out) (HXB.out.symm ▸ HN.out.2))
      go_wp2
      go_ret2
      exact ⟨_, _, rfl, HE.out⟩
end Go.Proofs.YtdchckelnccepaaDoor
