import Derived.Test.YtldkecjfjcnkfaaGb
namespace Go.Proofs.Ytldkecjfjcnkfaa
open Go.RowKit Go.Deep
/-- the pairs of a dictionary behind the own ones that were laid among the others -/
inductive LD (es0 : List PE) : List PE → List PE → Prop
  | nil : LD es0 [] es0
  | skip {os es : List PE} {o : PE} : LD es0 os es → o.t.k = 0 → LD es0 (os ++ [o]) es
  | put {os es : List PE} {o : PE} {at' : Nat} : LD es0 os es → o.t.k ≠ 0 → at' ≤ es.length → (Rise (kyG es) es.length → At (kyG es) es.length o.key at') → LD es0 (os ++ [o]) (es.take at' ++ o :: es.drop at')
def DG (B A : Nat) (w0 : World) (es0 os : List PE) (i : Nat) (pv : Value) (wr : World) : Prop :=
  ∃ es, GR B A wr pv es ∧ LD es0 (os.take i) es ∧ Below B w0 wr ∧ es.length ≤ es0.length + i
theorem take_snocP (os : List PE) (i : Nat) (e : PE) (h : os[i]? = some e) : os.take (i + 1) = os.take i ++ [e] := by rw [List.take_add_one, h]; rfl
theorem info35s56 : (Try.prog.info? 56).map (·.size) = some 5 := by kernel_rfl
set_option maxHeartbeats 8000000 in
set_option maxRecDepth 100000 in
theorem dictionary48 (es0 os : List PE) (v0 : Value) (oa : Option Addr) (oc : Nat) (w : World) (hr0 : RG w.heap.size w v0 es0) (ho : os = [] ∨ ∃ g, oa = some ⟨g, 0, none⟩ ∧ w.heap[g]? = some (.cells (gCs os).toArray 59 (0, 0))) (hrv : ∀ e ∈ os, RV (fun _ => True) w e.t e.x e.y) (hn : es0.length + os.length ≤ 2147483646) :
    Calls Try.prog 48 #[v0, .slice oa os.length oc] w fun en w' => ∃ v' es', en = .returned (.agg #[.int .i64 4, .int .i64 0, .string ⟨#[]⟩, .slice none 0 0, v']) ∧ LD es0 os es' ∧ GR (w.heap.size + 1) w.heap.size w' v' es' ∧ Below w.heap.size w w' := by
  have b0 : Below w.heap.size w (w.alloc (.cells #[.int .i64 0, .int .i64 0, .string ⟨#[]⟩, .slice none 0 0, .slice none 0 0] 56)) := (Below.refl _ _).alloc (Nat.le_refl _) _
  have rg0 : RG w.heap.size (w.alloc (.cells #[.int .i64 0, .int .i64 0, .string ⟨#[]⟩, .slice none 0 0, .slice none 0 0] 56)) v0 es0 := by
    obtain ⟨a, c, rfl, hle, h⟩ := hr0
    refine ⟨a, c, rfl, hle, ?_⟩
    rcases h with h | ⟨g, o, h1, h2, h3⟩
    · exact .inl h
    · exact .inr ⟨g, o, h1, Nat.lt_of_lt_of_le h2 b0.size, fun i e he => ⟨RV.keep (fun _ h => h) b0.size (fun b _ hl => b0.block b hl) _ _ _ (h3 i e he).1, fun r hr => (World.cell?_of_block (w := w) (b0.block g h2)).trans ((h3 i e he).2 r hr)⟩⟩
  have H0 : Hid (Below w.heap.size w (w.alloc (.cells #[.int .i64 0, .int .i64 0, .string ⟨#[]⟩, .slice none 0 0, .slice none 0 0] 56)) ∧ (w.alloc (.cells #[.int .i64 0, .int .i64 0, .string ⟨#[]⟩, .slice none 0 0, .slice none 0 0] 56)).heap[w.heap.size]? = some (.cells #[.int .i64 0, .int .i64 0, .string ⟨#[]⟩, .slice none 0 0, .slice none 0 0] 56 (0, 0)) ∧ (w.alloc (.cells #[.int .i64 0, .int .i64 0, .string ⟨#[]⟩, .slice none 0 0, .slice none 0 0] 56)).heap.size = w.heap.size + 1 ∧ RG w.heap.size (w.alloc (.cells #[.int .i64 0, .int .i64 0, .string ⟨#[]⟩, .slice none 0 0, .slice none 0 0] 56)) v0 es0) := ⟨b0, heap_new _ _, by simp, rg0⟩
  have HO : Hid ((os = [] ∨ ∃ g, oa = some ⟨g, 0, none⟩ ∧ (w.alloc (.cells #[.int .i64 0, .int .i64 0, .string ⟨#[]⟩, .slice none 0 0, .slice none 0 0] 56)).heap[g]? = some (.cells (gCs os).toArray 59 (0, 0)) ∧ g < w.heap.size) ∧ (∀ e ∈ os, RV (fun b => b < w.heap.size) (w.alloc (.cells #[.int .i64 0, .int .i64 0, .string ⟨#[]⟩, .slice none 0 0, .slice none 0 0] 56)) e.t e.x e.y) ∧ es0.length + os.length ≤ 2147483646) := by
    refine ⟨?_, fun e he => RV.move (fun b _ hl => hl) b0.size (fun b _ hl => b0.block b hl) _ _ _ (hrv e he), hn⟩
    rcases ho with h | ⟨g, h1, h2⟩
    · exact .inl h
    · have hlt := (Array.getElem?_eq_some_iff.1 h2).1
      exact .inr ⟨g, h1, (b0.block g hlt).trans h2, hlt⟩
  obtain ⟨va0, vc0, rfl, -, -⟩ := hr0
  clear rg0 b0 ho hrv hn
  generalize hnn : os.length = n at *
  have HNN := Lib.hid hnn
  clear hnn
  have hnb : n ≤ 2147483646 := by have := HO.out.2.2; omega
  go_enter Try.func48, Try.ntmps48
  go_upto_region 1 with fail
  generalize w.alloc (.cells #[.int .i64 0, .int .i64 0, .string ⟨#[]⟩, .slice none 0 0, .slice none 0 0] 56) = w0 at *
  go_wp2_with fail
  refine (clone63 w.heap.size _ es0 w0 H0.out.2.2.2 H0.out.1.size (by have := HO.out.2.2; omega)).mono ?_
  rintro en w1 ⟨v1, rfl, hg1, b1⟩
  obtain ⟨va1, vc1, rfl⟩ := hg1.form
  have HD0 : Hid (DG (w.heap.size + 1) w.heap.size w0 es0 os 0 (.slice va1 es0.length vc1) w1) := by
    have e := H0.out.2.2.1
    exact ⟨es0, by rw [← e]; exact hg1, by rw [List.take_zero]; exact .nil, by rw [← e]; exact b1, by omega⟩
  clear hg1 b1
  go_wp2_with fail
  go_loopw [5, 14] (fun pv t wr => ∃ i : Nat, i ≤ n ∧ t = .int .i64 i ∧ Hid (DG (w.heap.size + 1) w.heap.size w0 es0 os i pv wr)) (fun _ t _ => n - (intOf t).toNat)
  case atStart => exact ⟨0, Nat.zero_le _, rfl, HD0.out⟩
  case round =>
    obtain ⟨i, hi, rfl, HI⟩ := hrel
    obtain ⟨es, p1, p2, p5, p6⟩ := HI.out
    obtain ⟨pa, pc, rfl⟩ := p1.form
    by_cases hlt : i < n
    · obtain ⟨e, he⟩ : ∃ e, os[i]? = some e := ⟨_, List.getElem?_eq_getElem (by rw [HNN.out]; exact hlt)⟩
      obtain ⟨g, rfl, hgw0, hglt⟩ := HO.out.1.resolve_left (fun h => by rw [h] at he; simp at he)
      have z0 := H0.out.2.2.1
      have hgb : wr.heap[g]? = _ := (p5.block g (by omega)).trans hgw0
      have hrve := HO.out.2.1 e (List.mem_of_getElem? he)
      have cc : ∀ r, r < 6 → wr.cell? ⟨g, i * 6 + r, none⟩ = (gC e)[r]? := fun r hr => by
        have := gCs_get os i e r hr he
        simp only [World.cell?, hgb]
        simpa using this
      obtain ⟨⟨xa, xn, xc, hxx⟩, ⟨ya, yn, yc, hyy⟩⟩ := hrve.slices
      have c0 : wr.cell? ⟨g, i * 6, none⟩ = some (.string e.key) := cc 0 (by omega)
      have c1 : wr.cell? ⟨g, i * 6 + 1, none⟩ = some (.int .i64 e.t.k) := cc 1 (by omega)
      have c2 : wr.cell? ⟨g, i * 6 + 2, none⟩ = some (.int .i64 e.t.n) := cc 2 (by omega)
      have c3 : wr.cell? ⟨g, i * 6 + 3, none⟩ = some (.string e.t.s) := cc 3 (by omega)
      have c4 : wr.cell? ⟨g, i * 6 + 4, none⟩ = some (.slice xa xn xc) := (cc 4 (by omega)).trans (congrArg some hxx)
      have c5 : wr.cell? ⟨g, i * 6 + 5, none⟩ = some (.slice ya yn yc) := (cc 5 (by omega)).trans (congrArg some hyy)
      have hgC : (gC e).toArray = #[.string e.key, .int .i64 e.t.k, .int .i64 e.t.n, .string e.t.s, .slice xa xn xc, .slice ya yn yc] := by
        show #[.string e.key, .int .i64 e.t.k, .int .i64 e.t.n, .string e.t.s, e.x, e.y] = _
        rw [hxx, hyy]
      have HC := Lib.hid (isTold64 e)
      rw [hgC] at HC
      have HGC := Lib.hid hgC
      have HRV : Hid (RV (fun b => b < w.heap.size) wr e.t e.x e.y) := RV.keep (fun _ h => h) p5.size (fun b hb _ => p5.block b (by omega)) _ _ _ hrve
      have HP : Hid (GR (w.heap.size + 1) w.heap.size wr (.slice pa es.length pc) es ∧ LD es0 (os.take i) es ∧ Below (w.heap.size + 1) w0 wr ∧ es.length ≤ es0.length + i) := ⟨p1, p2, p5, p6⟩
      have HXI := Lib.hid he
      have HL0 : Hid (es0.length + n ≤ 2147483646) := HO.out.2.2
      clear cc hgb hrve hxx hyy hgC p1 p2 p5 he hgw0 hglt
      have hz := HP.out.2.2.1.size
      have hbx := heap_new wr (.cells #[.string e.key, .int .i64 e.t.k, .int .i64 e.t.n, .string e.t.s, .slice xa xn xc, .slice ya yn yc] 59)
      have bx1 : Below wr.heap.size wr (wr.alloc (.cells #[.string e.key, .int .i64 e.t.k, .int .i64 e.t.n, .string e.t.s, .slice xa xn xc, .slice ya yn yc] 59)) := (Below.refl _ _).alloc (Nat.le_refl _) _
      have HBX : Hid ((wr.alloc (.cells #[.string e.key, .int .i64 e.t.k, .int .i64 e.t.n, .string e.t.s, .slice xa xn xc, .slice ya yn yc] 59)).heap[wr.heap.size]? = some (.cells #[.string e.key, .int .i64 e.t.k, .int .i64 e.t.n, .string e.t.s, .slice xa xn xc, .slice ya yn yc] 59 (0, 0)) ∧ Below wr.heap.size wr (wr.alloc (.cells #[.string e.key, .int .i64 e.t.k, .int .i64 e.t.n, .string e.t.s, .slice xa xn xc, .slice ya yn yc] 59)) ∧ (wr.alloc (.cells #[.string e.key, .int .i64 e.t.k, .int .i64 e.t.n, .string e.t.s, .slice xa xn xc, .slice ya yn yc] 59)).heap.size = wr.heap.size + 1 ∧ w.heap.size + 1 ≤ wr.heap.size) := ⟨hbx, bx1, by simp, by omega⟩
      clear hbx bx1 hz z0
      generalize hpl : es.length = pl at *
      have HPL := Lib.hid hpl
      clear hpl
      go_upto_region 5 with fail
      generalize wr.alloc (.cells #[.string e.key, .int .i64 e.t.k, .int .i64 e.t.n, .string e.t.s, .slice xa xn xc, .slice ya yn yc] 59) = wb at *
      clear c0 c1 c2 c3 c4 c5
      have hk : ∀ w', Below wb.heap.size wb w' → w'.heap[wr.heap.size]? = some (.cells #[.string e.key, .int .i64 e.t.k, .int .i64 e.t.n, .string e.t.s, .slice xa xn xc, .slice ya yn yc] 59 (0, 0)) := fun w' hw => (hw.block _ (by have := HBX.out.2.2.1; omega)).trans HBX.out.1
      have HK := Lib.hid hk
      clear hk
      generalize hbxx : wr.heap.size = bx at *
      have HBS := Lib.hid hbxx
      clear hbxx
      have k0 := HK.out wb (Below.refl _ _)
      have c0 : wb.cell? ⟨bx, 0, none⟩ = some (.string e.key) := by simp [World.cell?, k0]
      have c1 : wb.cell? ⟨bx, 1, none⟩ = some (.int .i64 e.t.k) := by simp [World.cell?, k0]
      have c2 : wb.cell? ⟨bx, 2, none⟩ = some (.int .i64 e.t.n) := by simp [World.cell?, k0]
      have c3 : wb.cell? ⟨bx, 3, none⟩ = some (.string e.t.s) := by simp [World.cell?, k0]
      have c4 : wb.cell? ⟨bx, 4, none⟩ = some (.slice xa xn xc) := by simp [World.cell?, k0]
      have c5 : wb.cell? ⟨bx, 5, none⟩ = some (.slice ya yn yc) := by simp [World.cell?, k0]
      clear k0
      go_wp2_with fail
      refine (HC.out wb).mono ?_
      rintro en w1 ⟨rfl, b1⟩
      have H1 : Hid (Below wb.heap.size wb w1) := b1
      have k1 := HK.out w1 b1
      clear c0 c1 c2 c3 c4 c5 b1 HC
      by_cases hk0 : e.t.k = 0
      · have q : (e.t.k != 0) = false := by simp [hk0]
        have HU : Hid (DG (w.heap.size + 1) w.heap.size w0 es0 os (i + 1) (.slice pa pl pc) w1) := by
          have a2 := HBX.out.2.2.1
          have a3 := HBX.out.2.2.2
          have a5 := HBS.out
          have hb9 : Below wr.heap.size wr w1 := by rw [a5]; exact HBX.out.2.1.trans (H1.out.mono (by omega))
          refine ⟨es, HP.out.1.keep hb9, ?_, HP.out.2.2.1.trans (hb9.mono (by omega)), by rw [HPL.out]; have := HP.out.2.2.2; omega⟩
          rw [take_snocP os i e HXI.out]
          exact .skip HP.out.2.1 hk0
        clear k1 HI hk0
        rw [q]
        go_wp2
        exact ⟨⟨i + 1, by omega, by go_num, HU⟩, by simp [intOf]; omega⟩
      · have q : (e.t.k != 0) = true := by simp [hk0]
        have HK0 := Lib.hid hk0
        clear hk0
        rw [q]
        clear q
        have c0 : w1.cell? ⟨bx, 0, none⟩ = some (.string e.key) := by simp [World.cell?, k1]
        clear k1
        have HN1 : Hid (GR (w.heap.size + 1) w.heap.size w1 (.slice pa pl pc) es) := by
          have h8 := HBX.out.2.2.1
          exact HP.out.1.keep (by rw [HBS.out]; exact HBX.out.2.1.trans (H1.out.mono (by omega)))
        go_wp2_with fail
        refine (place65 es.length (kyG es) (dvG es) (.slice pa pl pc) e.key w1 HN1.out.rd (by have := HPL.out; have := HP.out.2.2.2; have := HL0.out; omega)).mono ?_
        rintro en w2 ⟨at', f, rfl, hat, hri, b2⟩
        have HAT : Hid (at' ≤ es.length ∧ (Rise (kyG es) es.length → At (kyG es) es.length e.key at')) := ⟨hat, hri⟩
        have H2 : Hid (Below wb.heap.size wb w2) := H1.out.trans (b2.mono H1.out.size)
        have HN2 : Hid (GR (w.heap.size + 1) w.heap.size w2 (.slice pa pl pc) es) := HN1.out.keep b2
        have k2 := HK.out w2 H2.out
        clear c0 b2 hat hri H1 HN1
        have c0 : w2.cell? ⟨bx, 0, none⟩ = some (.string e.key) := by simp [World.cell?, k2]
        have c1 : w2.cell? ⟨bx, 1, none⟩ = some (.int .i64 e.t.k) := by simp [World.cell?, k2]
        have c2 : w2.cell? ⟨bx, 2, none⟩ = some (.int .i64 e.t.n) := by simp [World.cell?, k2]
        have c3 : w2.cell? ⟨bx, 3, none⟩ = some (.string e.t.s) := by simp [World.cell?, k2]
        have c4 : w2.cell? ⟨bx, 4, none⟩ = some (.slice xa xn xc) := by simp [World.cell?, k2]
        have c5 : w2.cell? ⟨bx, 5, none⟩ = some (.slice ya yn yc) := by simp [World.cell?, k2]
        clear k2
        have bz : Below w2.heap.size w2 (w2.alloc (.cells #[.string e.key, .int .i64 e.t.k, .int .i64 e.t.n, .string e.t.s, .slice xa xn xc, .slice ya yn yc] 59)) := (Below.refl _ _).alloc (Nat.le_refl _) _
        have H3 : Hid (Below w2.heap.size w2 (w2.alloc (.cells #[.string e.key, .int .i64 e.t.k, .int .i64 e.t.n, .string e.t.s, .slice xa xn xc, .slice ya yn yc] 59)) ∧ (w2.alloc (.cells #[.string e.key, .int .i64 e.t.k, .int .i64 e.t.n, .string e.t.s, .slice xa xn xc, .slice ya yn yc] 59)).heap[w2.heap.size]? = some (.cells (gC e).toArray 59 (0, 0))) := ⟨bz, by rw [HGC.out]; exact heap_new _ _⟩
        clear bz
        have HRV3 : Hid (RV (fun b => b < w.heap.size) (w2.alloc (.cells #[.string e.key, .int .i64 e.t.k, .int .i64 e.t.n, .string e.t.s, .slice xa xn xc, .slice ya yn yc] 59)) e.t e.x e.y ∧ w.heap.size + 1 ≤ (w2.alloc (.cells #[.string e.key, .int .i64 e.t.k, .int .i64 e.t.n, .string e.t.s, .slice xa xn xc, .slice ya yn yc] 59)).heap.size ∧ Below wr.heap.size wr (w2.alloc (.cells #[.string e.key, .int .i64 e.t.k, .int .i64 e.t.n, .string e.t.s, .slice xa xn xc, .slice ya yn yc] 59))) := by
          have a2 := HBX.out.2.2.1
          have a3 := HBX.out.2.2.2
          have a4 := H2.out.size
          have a5 := HBS.out
          have hb9 : Below wr.heap.size wr (w2.alloc (.cells #[.string e.key, .int .i64 e.t.k, .int .i64 e.t.n, .string e.t.s, .slice xa xn xc, .slice ya yn yc] 59)) := by rw [a5]; exact (HBX.out.2.1.trans (H2.out.mono (by omega))).trans (H3.out.1.mono (by omega))
          exact ⟨RV.keep (fun _ h => h) hb9.size (fun b _ hl => hb9.block b hl) _ _ _ HRV.out, by have := hb9.size; omega, hb9⟩
        have HINS := Lib.hid (insert66 (w.heap.size + 1) es.length at' w2.heap.size (.slice pa pl pc) (gCs es) (gC e) (w2.alloc (.cells #[.string e.key, .int .i64 e.t.k, .int .i64 e.t.n, .string e.t.s, .slice xa xn xc, .slice ya yn yc] 59)) (HN2.out.keep H3.out.1).1 (gC_len e) H3.out.2 (fun h => by
          have := (World.ownsRow.lt HN2.out.1 _ h).2
          omega) HN2.out.one (gC_one HRV3.out.1) HRV3.out.2.1 (by have := HPL.out; have := HP.out.2.2.2; have := HL0.out; omega) HAT.out.1)
        go_wp2_with fail
        refine HINS.out.mono ?_
        intro en w4 hir
        obtain ⟨v', rfl, hn4, b4⟩ := (HN2.out.keep H3.out.1).put (Nat.le_succ _) HRV3.out.1 rfl HAT.out.1 hir
        have HU : Hid (DG (w.heap.size + 1) w.heap.size w0 es0 os (i + 1) v' w4) := by
          have a3 := HBX.out.2.2.2
          have a5 := HBS.out
          have a6 := HAT.out.1
          refine ⟨_, hn4, ?_, (HP.out.2.2.1.trans (HRV3.out.2.2.mono (by omega))).trans b4, ?_⟩
          · rw [take_snocP os i e HXI.out]
            exact .put HP.out.2.1 HK0.out HAT.out.1 HAT.out.2
          · have := HP.out.2.2.2
            have := HPL.out
            simp only [List.length_append, List.length_take, List.length_cons, List.length_drop]
            omega
        obtain ⟨a', c', hv'⟩ := hn4.form
        have hl4 : (es.take at' ++ e :: es.drop at').length = pl + 1 := by
          have := HAT.out.1
          have := HPL.out
          simp only [List.length_append, List.length_take, List.length_cons, List.length_drop]
          omega
        rw [hl4] at hv'
        subst hv'
        clear c0 c1 c2 c3 c4 c5 hn4 b4 HINS HI hir hl4
        go_wp2
        exact ⟨⟨i + 1, by omega, by go_num, HU⟩, by simp [intOf]; omega⟩
    · obtain rfl : i = n := by omega
      have ez : LD es0 os es := by rw [List.take_of_length_le (by rw [HNN.out]; exact Nat.le_refl _)] at p2; exact p2
      have z0 := H0.out.2.2.1
      have hR : wr.heap[w.heap.size]? = _ := (p5.block _ (by omega)).trans H0.out.2.1
      have HE : Hid (LD es0 os es ∧ ∀ wE, Besides w.heap.size wr wE → GR (w.heap.size + 1) w.heap.size wE (.slice pa es.length pc) es ∧ Below w.heap.size w wE) := ⟨ez, fun wE hE => by
        refine ⟨⟨?_, fun e he => ?_⟩, ?_⟩
        · obtain ⟨q1, q2⟩ := p1.1
          refine ⟨q1, ?_⟩
          rcases q2 with q2 | ⟨gg, cap, cur, e1, e2, e3, e4⟩
          · exact .inl q2
          · exact .inr ⟨gg, cap, cur, e1, e2, (hE.block gg (Array.getElem?_eq_some_iff.1 e3).1 (by omega)).trans e3, e4⟩
        · exact RV.keep (fun _ h => h) hE.size (fun b hb hl => hE.block b hl (by omega)) _ _ _ (p1.2 e he)
        · have h9 := H0.out.1.trans (p5.mono (by omega))
          exact ⟨hE.os.trans h9.os, hE.tape.trans h9.tape, hE.output.trans h9.output, Nat.le_trans h9.size hE.size, fun q hq => (hE.block q (by have := h9.size; omega) (by omega)).trans (h9.block q hq)⟩⟩
      have HRR := Lib.hid hR
      have r0 : wr.cell? ⟨w.heap.size, 0, none⟩ = some (.int .i64 0) := by simp [World.cell?, hR]
      have r1 : wr.cell? ⟨w.heap.size, 1, none⟩ = some (.int .i64 0) := by simp [World.cell?, hR]
      have r2 : wr.cell? ⟨w.heap.size, 2, none⟩ = some (.string ⟨#[]⟩) := by simp [World.cell?, hR]
      have r3 : wr.cell? ⟨w.heap.size, 3, none⟩ = some (.slice none 0 0) := by simp [World.cell?, hR]
      have r4 : wr.cell? ⟨w.heap.size, 4, none⟩ = some (.slice none 0 0) := by simp [World.cell?, hR]
      have f0 : ∀ j, wr.frozen? ⟨w.heap.size, j, none⟩ = false := fun j => by simp [World.frozen?, hR]
      have z0 := f0 0
      have z1 := f0 1
      have z2 := f0 2
      have z3 := f0 3
      have z4 := f0 4
      clear hR HI p1 p2 p5 f0 ez
      generalize es.length = pl at *
      go_wp2
      exact bodyPost_ret (v := .agg #[.int .i64 4, .int .i64 0, .string ⟨#[]⟩, .slice none 0 0, .slice pa pl pc]) (results_cell_row Try.results48 _ _ w.heap.size 56 _ (0, 0) _ rfl (ow.set (ow.set (ow.set (ow.set (ow.set HRR.out 0 _) 1 _) 2 _) 3 _) 4 _) Try.underlying56 rfl info35s56) rfl ⟨_, es, rfl, HE.out.1, HE.out.2 _ (besides5 _ _ _ _ _ _ _)⟩
end Go.Proofs.Ytldkecjfjcnkfaa
