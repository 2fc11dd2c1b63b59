import Derived.Test.YtddcnmbfgogdbaaGet
import Derived.Test.YtddcnmbfgogdbaaOpen
import Derived.Laws.AppendOwnNone
namespace Go.Proofs.Ytddcnmbfgogdbaa
open Go.ChangeShapes Go.WideShapes Go.ChangeAt Go.RowKit Go.Deep
/-- in block b a value lies that reads as t -/
def VX (w : World) (b : Nat) (t : T) (x y : Value) : Prop := obj w b (.int .i64 t.k) (.int .i64 t.n) (.string t.s) x y ∧ RV (fun _ => True) w t x y
theorem VX.keep {w w' : World} {b : Nat} {t : T} {x y : Value} (h : VX w b t x y) (hb : Below w.heap.size w w') : VX w' b t x y :=
  ⟨h.1.keep (hb.block _ h.1.lt), Below.rv hb (Nat.le_refl _) h.2⟩
theorem info9 : (Try.prog.info? 9).map (fun i => (i.zero, i.size, i.bytes)) = some (some (.string ByteArray.empty), 1, 16) := by kernel_rfl
/-- a path that is handed in -/
def PV (w : World) (p : Nat → ByteArray) (np : Nat) (v : Value) : Prop := (v = .slice .none 0 0 ∧ np = 0) ∨ ∃ ad ca, v = .slice (some ad) np ca ∧ (np = 0 ∨ ∃ b o, ad = ⟨b, o, none⟩ ∧ b < w.heap.size ∧ ∀ i, i < np → w.cell? ⟨b, o + i, none⟩ = some (.string (p i)))
theorem PV.rp {w : World} {p : Nat → ByteArray} {np : Nat} {v : Value} (h : PV w p np v) : RP w p np v := by
  rcases h with ⟨rfl, rfl⟩ | ⟨ad, ca, rfl, h⟩
  · exact ⟨_, _, rfl, .inl rfl⟩
  · refine ⟨_, _, rfl, ?_⟩
    rcases h with h | ⟨b, o, rfl, h1, h2⟩
    · exact .inl h
    · exact .inr ⟨b, o, rfl, h1, h2⟩
theorem PV.keep {w w' : World} {p : Nat → ByteArray} {np : Nat} {v : Value} (h : PV w p np v) (hb : Below w.heap.size w w') : PV w' p np v := by
  rcases h with h | ⟨ad, ca, rfl, h⟩
  · exact .inl h
  · refine .inr ⟨ad, ca, rfl, ?_⟩
    rcases h with h | ⟨b, o, rfl, h1, h2⟩
    · exact .inl h
    · exact .inr ⟨b, o, rfl, Nat.lt_of_lt_of_le h1 hb.size, fun i hi => (World.cell?_of_block (w := w) (hb.block b h1)).trans (h2 i hi)⟩
theorem RP.of_owns {w : World} {B : Nat} {v : Value} {p : Nat → ByteArray} {np : Nat} (h : w.ownsRow B 9 1 v np ((List.range np).map fun i => .string (p i))) : RP w p np v := by
  rcases h.2 with ⟨rfl, rfl⟩ | ⟨g, cap, cur, rfl, _, hg, _⟩
  · exact ⟨_, _, rfl, .inl rfl⟩
  · refine ⟨_, _, rfl, .inr ⟨g, 0, rfl, (Array.getElem?_eq_some_iff.1 hg).1, fun i hi => ?_⟩⟩
    rw [Nat.zero_add, h.cellAt i (by omega)]
    simp [hi]
theorem append_path {ops : Array Oper} {rest : List Oper} {o : Oper} {a : Act} {Q : Exit → Act → World → Prop} {w : World} {p : Nat → ByteArray} {np : Nat} {pv : Value} (hgd : o.guard = none) (s x : Operand)
    (ho : o.op = .call { callee := .builtin .append, args := #[s, x], argTypes := #[34, 34] }) (hs : a.eval s = .slice none 0 0) (hx : a.eval x = pv) (hp : PV w p np pv) (hnp : np * 16 ≤ 140737488351232)
    (h : ∀ va vc w', RP w' p np (.slice va np vc) → Below w.heap.size w w' → wpList Try.prog ops Q rest (a.put o.dst (.slice va np vc)) w') : wpList Try.prog ops Q (o :: rest) a w := by
  obtain ⟨i0, hi, hz0, hz1, hz2⟩ := info_parts info9
  rcases hp with ⟨rfl, rfl⟩ | ⟨ad, ca, rfl, hp⟩
  · exact wpList_append_own_none hgd s x 34 ho 0 9 i0 1 Try.underlying34 hi (.slice none 0 0) 0 [] hs (World.ownsRow_nil _ _ _ _) hx (h none 0 w ⟨_, _, rfl, .inl rfl⟩ (Below.refl _ _))
  · refine wpList_append_own w hgd s x 34 ho w.heap.size 9 i0 _ 1 16 Try.underlying34 hi hz0 hz1 hz2 rfl (by omega) (.slice none 0 0) 0 [] hs (World.ownsRow_nil _ _ _ _) ad np ca ((List.range np).map fun i => .string (p i)) hx (by simp) (fun j u hu => ?_) (fun u hu => ?_) (by unfold maxLen; omega) (by omega) (Nat.le_refl _) (fun v' w' h1 h2 h3 => ?_)
    · have hj : j < np := by
        rcases Nat.lt_or_ge j np with h | h
        · exact h
        · rw [List.getElem?_eq_none (by simpa using h)] at hu; cases hu
      rcases hp with h0 | ⟨b, o', rfl, _, hc⟩
      · omega
      have hu' : .string (p j) = u := by simpa [hj] using hu
      have hadd : (⟨b, o', none⟩ : Addr).add j = ⟨b, o' + j, none⟩ := by unfold Addr.add; split <;> simp_all
      rw [hadd, hc j hj, hu']
    · obtain ⟨i, _, rfl⟩ := List.mem_map.1 hu
      rfl
    · rw [Nat.zero_add, List.nil_append] at h1
      obtain ⟨va, vc, rfl⟩ := ownForm h1
      exact h va vc w' (RP.of_owns h1) ((Below.refl _ _).grown h2 (Nat.le_refl _) (fun k hk => by cases hk))
set_option maxHeartbeats 4000000 in
theorem gets6 (t : T) (x y pv : Value) (p : Nat → ByteArray) (np : Nat) (w : World) (hok : t.ok) (hr : RV (fun _ => True) w t x y) (hp : PV w p np pv) (hnp : np * 16 ≤ 140737488351232) :
    Calls Try.prog 6 #[vv t x y, pv] w fun e w' => e = .returned (.bool true) ∧ Below w.heap.size w w' := by
  obtain ⟨⟨xa, xn, xc, rfl⟩, ⟨ya, yn, yc, rfl⟩⟩ := hr.slices
  have HO : Hid t.ok := hok
  have B0 : Hid (Below w.heap.size w (w.alloc (Obj.cells #[.int .i64 t.k, .int .i64 t.n, .string t.s, .slice xa xn xc, .slice ya yn yc] 25))) := (Below.refl _ _).alloc (Nat.le_refl _) _
  have V0 : Hid (VX (w.alloc (Obj.cells #[.int .i64 t.k, .int .i64 t.n, .string t.s, .slice xa xn xc, .slice ya yn yc] 25)) w.heap.size t (.slice xa xn xc) (.slice ya yn yc)) := ⟨heap_new _ _, Below.rv B0.out (Nat.le_refl _) hr⟩
  have P0 : Hid (PV (w.alloc (Obj.cells #[.int .i64 t.k, .int .i64 t.n, .string t.s, .slice xa xn xc, .slice ya yn yc] 25)) p np pv) := hp.keep B0.out
  have hsl : ∃ a c, pv = .slice a np c := by
    rcases hp with ⟨rfl, rfl⟩ | ⟨ad, ca, rfl, _⟩
    · exact ⟨_, _, rfl⟩
    · exact ⟨_, _, rfl⟩
  obtain ⟨pa, pc, rfl⟩ := hsl
  clear hok hr hp
  unfold vv
  go_enter Try.func6, Try.ntmps6
  go_wp2_with fail
  refine (far7 t _ _ _ HO.out V0.out.2).mono ?_
  rintro e w1 ⟨r, rfl, hb1, hsm⟩
  have B1 : Hid (Below w.heap.size w w1) := B0.out.trans (hb1.mono (by simp))
  replace V0 : Hid _ := VX.keep V0.out hb1
  replace P0 : Hid _ := PV.keep P0.out hb1
  clear hb1 B0
  generalize hvb : w.heap.size = vb at *
  have HS : Hid (w.heap.size = vb) := hvb
  clear hvb
  cases r with
  | true =>
    clear hsm
    go_wp2
    go_ret
    exact ⟨rfl, HS.out ▸ B1.out⟩
  | false =>
  have S1 : Hid t.small := hsm rfl
  clear hsm
  obtain ⟨c0, c1, c2, c3, c4⟩ := V0.out.1.cells
  go_wp2_with fail
  clear c0 c1 c2 c3 c4
  refine (copy8 t _ _ _ HO.out S1.out V0.out.2).mono ?_
  rintro e w3 ⟨x3, y3, rfl, hr3, hb1⟩
  obtain ⟨⟨xa3, xn3, xc3, rfl⟩, ⟨ya3, yn3, yc3, rfl⟩⟩ := hr3.slices
  have B3 : Hid (Below vb w (w3.alloc (Obj.cells #[.int .i64 t.k, .int .i64 t.n, .string t.s, .slice xa3 xn3 xc3, .slice ya3 yn3 yc3] 25))) := (B1.out.trans (hb1.mono (HS.out ▸ B1.out.size))).alloc (by have := B1.out.size; have := hb1.size; have := HS.out; omega) _
  have hA : Below w3.heap.size w3 (w3.alloc (Obj.cells #[.int .i64 t.k, .int .i64 t.n, .string t.s, .slice xa3 xn3 xc3, .slice ya3 yn3 yc3] 25)) := (Below.refl _ _).alloc (Nat.le_refl _) _
  have V2 : Hid (VX (w3.alloc (Obj.cells #[.int .i64 t.k, .int .i64 t.n, .string t.s, .slice xa3 xn3 xc3, .slice ya3 yn3 yc3] 25)) w3.heap.size t (.slice xa3 xn3 xc3) (.slice ya3 yn3 yc3)) := ⟨heap_new _ _, Below.rv hA (Nat.le_refl _) hr3⟩
  replace V0 : Hid _ := VX.keep (VX.keep V0.out hb1) hA
  replace P0 : Hid _ := PV.keep (PV.keep P0.out hb1) hA
  unfold vv
  clear hb1 B1 hr3 hA
  go_wp2_with (at_builtin; refine append_path rfl _ _ rfl rfl rfl P0.out hnp ?_)
  intro va vc w5 hrp hb50
  have hb5 : Below (w3.alloc (Obj.cells #[.int .i64 t.k, .int .i64 t.n, .string t.s, .slice xa3 xn3 xc3, .slice ya3 yn3 yc3] 25)).heap.size (w3.alloc (Obj.cells #[.int .i64 t.k, .int .i64 t.n, .string t.s, .slice xa3 xn3 xc3, .slice ya3 yn3 yc3] 25)) w5 := ⟨hb50.os, hb50.tape, hb50.output, hb50.size, fun k hk => hb50.block k (by simpa using hk)⟩
  clear hb50
  have RP5 : Hid (RP w5 p np (.slice va np vc)) := hrp
  have B5 : Hid (Below vb w w5) := B3.out.trans (hb5.mono (HS.out ▸ B3.out.size))
  replace V0 : Hid _ := VX.keep V0.out hb5
  replace V2 : Hid _ := VX.keep V2.out hb5
  replace P0 : Hid _ := PV.keep P0.out hb5
  clear hrp hb5 B3
  generalize w3.heap.size = b3 at *
  obtain ⟨c0, c1, c2, c3, c4⟩ := V0.out.1.cells
  go_wp2_with fail
  clear c0 c1 c2 c3 c4
  refine (get16 t _ _ _ p np w5 HO.out S1.out V0.out.2 (PV.rp P0.out) (by omega)).mono ?_
  rintro e w6 ⟨x4, y4, rfl, hr4, hb1⟩
  obtain ⟨⟨xa4, xn4, xc4, rfl⟩, ⟨ya4, yn4, yc4, rfl⟩⟩ := hr4.slices
  have hA : Below w6.heap.size w6 (w6.alloc (Obj.cells #[.int .i64 (getS t p np).1.k, .int .i64 (getS t p np).1.n, .string (getS t p np).1.s, .slice xa4 xn4 xc4, .slice ya4 yn4 yc4] 25)) := (Below.refl _ _).alloc (Nat.le_refl _) _
  have B6 : Hid (Below vb w (w6.alloc (Obj.cells #[.int .i64 (getS t p np).1.k, .int .i64 (getS t p np).1.n, .string (getS t p np).1.s, .slice xa4 xn4 xc4, .slice ya4 yn4 yc4] 25))) := (B5.out.trans (hb1.mono (HS.out ▸ B5.out.size))).trans (hA.mono (by have := B5.out.size; have := hb1.size; have := HS.out; omega))
  have V3 : Hid (VX (w6.alloc (Obj.cells #[.int .i64 (getS t p np).1.k, .int .i64 (getS t p np).1.n, .string (getS t p np).1.s, .slice xa4 xn4 xc4, .slice ya4 yn4 yc4] 25)) w6.heap.size (getS t p np).1 (.slice xa4 xn4 xc4) (.slice ya4 yn4 yc4)) := ⟨heap_new _ _, Below.rv hA (Nat.le_refl _) hr4⟩
  replace V0 : Hid _ := VX.keep (VX.keep V0.out hb1) hA
  replace V2 : Hid _ := VX.keep (VX.keep V2.out hb1) hA
  replace P0 : Hid _ := PV.keep (PV.keep P0.out hb1) hA
  replace RP5 : Hid _ := RP.keep (RP.keep RP5.out hb1) hA
  obtain ⟨c0, c1, c2, c3, c4⟩ := V2.out.1.cells
  unfold vv
  clear hb1 B5 hr4 hA
  go_wp2_with fail
  generalize (w6.alloc (Obj.cells #[.int .i64 (getS t p np).1.k, .int .i64 (getS t p np).1.n, .string (getS t p np).1.s, .slice xa4 xn4 xc4, .slice ya4 yn4 yc4] 25)) = w7 at *
  generalize w6.heap.size = b4 at *
  clear c0 c1 c2 c3 c4
  refine (get17 t _ _ _ p np w7 HO.out V2.out.2 RP5.out (by omega)).mono ?_
  rintro e w8 ⟨x5, y5, rfl, hr5, hb1, hok5⟩
  obtain ⟨⟨xa5, xn5, xc5, rfl⟩, ⟨ya5, yn5, yc5, rfl⟩⟩ := hr5.slices
  have HO5 : Hid (getS t p np).1.ok := hok5
  have hA : Below w8.heap.size w8 (w8.alloc (Obj.cells #[.int .i64 (getS t p np).1.k, .int .i64 (getS t p np).1.n, .string (getS t p np).1.s, .slice xa5 xn5 xc5, .slice ya5 yn5 yc5] 25)) := (Below.refl _ _).alloc (Nat.le_refl _) _
  have B8 : Hid (Below vb w (w8.alloc (Obj.cells #[.int .i64 (getS t p np).1.k, .int .i64 (getS t p np).1.n, .string (getS t p np).1.s, .slice xa5 xn5 xc5, .slice ya5 yn5 yc5] 25))) := (B6.out.trans (hb1.mono (HS.out ▸ B6.out.size))).trans (hA.mono (by have := B6.out.size; have := hb1.size; have := HS.out; omega))
  have V4 : Hid (VX (w8.alloc (Obj.cells #[.int .i64 (getS t p np).1.k, .int .i64 (getS t p np).1.n, .string (getS t p np).1.s, .slice xa5 xn5 xc5, .slice ya5 yn5 yc5] 25)) w8.heap.size (getS t p np).1 (.slice xa5 xn5 xc5) (.slice ya5 yn5 yc5)) := ⟨heap_new _ _, Below.rv hA (Nat.le_refl _) hr5⟩
  replace V0 : Hid _ := VX.keep (VX.keep V0.out hb1) hA
  replace V2 : Hid _ := VX.keep (VX.keep V2.out hb1) hA
  replace V3 : Hid _ := VX.keep (VX.keep V3.out hb1) hA
  replace P0 : Hid _ := PV.keep (PV.keep P0.out hb1) hA
  replace RP5 : Hid _ := RP.keep (RP.keep RP5.out hb1) hA
  unfold vv
  clear hb1 B6 hr5 hA hok5
  generalize (getS t p np).2 = er at *
  generalize (getS t p np).1 = u at *
  go_wp2
  generalize (w8.alloc (Obj.cells #[.int .i64 u.k, .int .i64 u.n, .string u.s, .slice xa5 xn5 xc5, .slice ya5 yn5 yc5] 25)) = w9 at *
  generalize w8.heap.size = b5 at *
  go_loopw [11] (fun i wr => ∃ (j n : Nat), j ≤ np ∧ i = .int .i64 j ∧ wr = w9.drewN n) (fun i _ => np - (intOf i).toNat)
  case atStart => exact ⟨0, 0, Nat.zero_le _, rfl, rfl⟩
  case round =>
    obtain ⟨j, n, hj, rfl, rfl⟩ := hrel
    by_cases hlt : j < np
    · have hq1 : ∃ b o, pa = some ⟨b, o, none⟩ ∧ w9.cell? ⟨b, o + j, none⟩ = some (.string (p j)) := by
        rcases (PV.rp P0.out) with ⟨a1, c1, h1, h2⟩
        cases h1
        rcases h2 with h | ⟨b, o, rfl, _, h⟩
        · omega
        · exact ⟨b, o, rfl, h j hlt⟩
      have hq2 : ∃ b o, va = some ⟨b, o, none⟩ ∧ w9.cell? ⟨b, o + j, none⟩ = some (.string (p j)) := by
        rcases RP5.out with ⟨a1, c1, h1, h2⟩
        cases h1
        rcases h2 with h | ⟨b, o, rfl, _, h⟩
        · omega
        · exact ⟨b, o, rfl, h j hlt⟩
      obtain ⟨b1, o1, rfl, k1⟩ := hq1
      obtain ⟨b2, o2, rfl, k2⟩ := hq2
      have j0 : (0 : Int) ≤ (j : Int) := by omega
      have j1 : (j : Int) < (np : Int) := by omega
      go_wp2
      go_quiet (fail)
      go_wp2
      go_roundw
      case rel => exact ⟨j + 1, _, by omega, by go_num, rfl⟩
      case measure => simp [intOf]; omega
    · obtain rfl : j = np := by omega
      obtain ⟨c0, c1, c2, c3, c4⟩ := V3.out.1.cells
      obtain ⟨d0, d1, d2, d3, d4⟩ := V4.out.1.cells
      go_wp2_with fail
      clear c0 c1 c2 c3 c4 d0 d1 d2 d3 d4
      have hN : Below w9.heap.size w9 (w9.drewN n) := ⟨rfl, rfl, rfl, Nat.le_refl _, fun _ _ => rfl⟩
      refine (same11 u _ _ _ _ _ HO5.out (Below.rv hN (Nat.le_refl _) V3.out.2) (Below.rv hN (Nat.le_refl _) V4.out.2)).mono ?_
      rintro e w10 ⟨rfl, hb1⟩
      have hb2 : Below w9.heap.size w9 w10 := hN.trans (hb1.mono (Nat.le_refl _))
      have B10 : Hid (Below vb w w10) := B8.out.trans (hb2.mono (HS.out ▸ B8.out.size))
      replace V0 : Hid _ := VX.keep V0.out hb2
      replace V2 : Hid _ := VX.keep V2.out hb2
      obtain ⟨c0, c1, c2, c3, c4⟩ := V0.out.1.cells
      obtain ⟨d0, d1, d2, d3, d4⟩ := V2.out.1.cells
      clear hb1 hb2 B8 hN
      go_wp2_with fail
      clear c0 c1 c2 c3 c4 d0 d1 d2 d3 d4
      refine (same11 t _ _ _ _ _ HO.out V0.out.2 V2.out.2).mono ?_
      rintro e w11 ⟨rfl, hb1⟩
      have B11 := B10.out.trans (hb1.mono (HS.out ▸ B10.out.size))
      go_wp2
      go_ret
      exact ⟨rfl, HS.out ▸ B11⟩
theorem bytes9 : Try.prog.bytesOf 9 = 16 := by kernel_rfl
/-- an argument that is a list of strings -/
theorem openPath {H : Type} {enc : TypeId × Value → H} {W : World} {base : Nat} {v : Value} {d : DataW H} {ps : List MemPlace} (hv : Value.okWide Try.prog W .any base 34 v)
    (h : DataW.Trod enc Try.prog W 0 (fun _ => true) true 34 v d ps) (hw : ∀ q ∈ DataW.weights Try.prog 34 d, q ≤ reachBytes) :
    ∃ p np, PV W p np v ∧ np * 16 ≤ 140737488351232 := by
  obtain ⟨a, len, cap, rfl⟩ := okWide_slice Try.underlying34 hv
  obtain ⟨fuel, hf⟩ := h
  have hf' : DataW.trod enc Try.prog W 0 (fun _ => true) true fuel 34 [.slice a len cap] = some (d, ps) := hf
  have shape : (a = none ∧ len = 0 ∧ cap = 0) ∨ ∃ ad, a = some ad := by
    cases a with
    | some ad => exact .inr ⟨ad, rfl⟩
    | none =>
      rcases DataW.trod_slice Try.underlying34 hf' with ⟨h0, _⟩ | ⟨a1, len1, cap1, _, _, _, _, h0, _⟩
      · simp at h0; exact .inl ⟨rfl, h0.1, h0.2⟩
      · simp at h0
  obtain ⟨a1, len1, cap1, hsl, hby, hrow⟩ := openRow Try.underlying34 hf' hw (by rw [cells9]; omega)
  cases hsl
  rw [bytes9] at hby
  have e1 : reachBytes = 140737488351232 := rfl
  rw [e1] at hby
  rcases shape with ⟨rfl, rfl, rfl⟩ | ⟨ad, rfl⟩
  · exact ⟨fun _ => ByteArray.empty, 0, .inl ⟨rfl, rfl⟩, by omega⟩
  rcases hrow with rfl | ⟨m, _, b, o, hb, hlt, hel⟩
  · exact ⟨fun _ => ByteArray.empty, 0, .inr ⟨ad, cap, rfl, .inl rfl⟩, by omega⟩
  have : ∀ i, i < len → ∃ s : ByteArray, W.cell? ⟨b, o + i, none⟩ = some (.string s) := fun i hi => by
    obtain ⟨cs, y, _, hc, ht, _⟩ := hel i hi
    obtain ⟨s, rfl, _⟩ := DataW.trod_string Try.underlying9 ht
    have := hc 0 (by rw [cells9]; omega)
    rw [cells9] at this
    exact ⟨s, by simpa using this⟩
  have hinh : Inhabited ByteArray := ⟨ByteArray.empty⟩
  obtain ⟨f, hf⟩ := choose_lt this
  refine ⟨f, len, .inr ⟨ad, cap, rfl, .inr ⟨b, o, by simpa using hb, hlt, hf⟩⟩, hby⟩
set_option maxRecDepth 100000 in
theorem bencodeGets_lifted (os : Os) (started : os.Started) (H : Type) (enc : TypeId × Value → H) :
    ReturnsInHanded {} Try.checked os 6 .any (Rows.bencodeGetsSpec.pre6 enc Try.prog Try.f6 Rows.bencodeGetsRow.domain false) (Rows.bencodeGetsSpec.post enc Try.prog Try.f6 false true false false) := by
  refine returnsInHanded_of_change_sized (C := Try.checked) ownKn started (by kernel_rfl) Try.func6
    (ChangeSpec.witness6 (enc := enc) (C := Try.checked) false ⟨#[], #[.agg #[.int .i64 0, .int .i64 0, .string ByteArray.empty, .slice none 0 0, .slice none 0 0], .slice none 0 0], []⟩ 8 (by kernel_rfl) (by kernel_rfl) (by kernel_rfl) (by kernel_rfl)) ?_
  intro W base args ds gs before hval0 hW hcnd hsz0 _
  have hval : ∀ (j : Nat) t v, Try.f6.params[j]? = some t → args[j]? = some v → Value.okWide Try.prog W .any base t v := hval0
  have hsz : (DataW.weightsEach Try.prog (Try.f6.params.toList ++ Rows.bencodeGetsSpec.plain.varTypes Try.prog) (ds ++ gs)).all (· ≤ reachBytes) = true := hsz0
  have hW' := hW
  obtain ⟨p, q, hA0, hV, rfl, _, _⟩ := hW
  have hA : DataW.TrodAll enc Try.prog W 0 (fun _ => true) true Try.f6.params.toList args.toList ds p := hA0
  rw [Try.params6] at hA hval hsz
  obtain ⟨v0, v1, d0, d1, p0, p1, rfl, rfl, rfl, h0, h1⟩ := trodAll_two hA
  obtain ⟨rfl, rfl⟩ := trodVars_none hV
  have h0k := h0
  have h1k := h1
  obtain ⟨t, x, y, rfl, hr, hok⟩ := openVal (hval 0 25 v0 rfl rfl) h0 (fun q hq => by
    have := List.all_eq_true.1 hsz q (by simp [DataW.weightsEach, hq])
    simpa using this)
  obtain ⟨pt, np, hpv, hnp⟩ := openPath (hval 1 34 v1 rfl rfl) h1 (fun q hq => by
    have := List.all_eq_true.1 hsz q (by simp [DataW.weightsEach, hq])
    simpa using this)
  clear hA0 hval0
  simp only [List.append_nil] at hW'
  refine (gets6 t x y v1 pt np W hok hr hpv hnp).mono fun e W' ⟨he, bel⟩ => ?_
  subst he
  exact ⟨_, rfl, _, _, _, [], _, [], hW', trodAll_mk1 (shut_bool Try.underlying4 _), trodAll_mk2 (Below.trod laidO (by kernel_rfl) (of_decide_eq_true (by kernel_rfl)) h0k bel (trodLt h0k)) (Below.trod laidO (by kernel_rfl) (of_decide_eq_true (by kernel_rfl)) h1k bel (trodLt h1k)), rfl, bel.frame _, fun h => by cases h⟩
theorem bencodeGets_holds : Rows.BencodeGetsSaid :=
  OpenClaim.holds_of_wide 6 Try.f6 rfl rfl rfl rfl rfl rfl rfl ⟨rfl, rfl, rfl, rfl, rfl⟩ rfl rfl rfl rfl rfl (by kernel_rfl) Try.func6 (by kernel_rfl)
    (of_decide_eq_true (by kernel_rfl)) (by unfold Func.isWrapper; first | (rw [if_pos (by decide +kernel)]; kernel_rfl) | (rw [if_neg (by decide +kernel)]; exact ⟨rfl, rfl⟩))
    (fun os started H enc _ => bencodeGets_lifted os started H enc)
#print axioms bencodeGets_holds
end Go.Proofs.Ytddcnmbfgogdbaa
