import Derived.Test.YtdchckelnccepaaDoorGb
import Derived.Laws.ResultCell
namespace Go.Proofs.YtdchckelnccepaaDoor
open Go.RowKit Go.Deep
/-- the pairs of a dictionary behind the own ones that were laid among the others -/
inductive LD (es0 : List PE) : List PE → List PE → Prop
  | nil : LD es0 [] es0
  | skip {os es : List PE} {o : PE} : LD es0 os es → o.t.k = 0 → LD es0 (os ++ [o]) es
  | put {os es : List PE} {o : PE} {at' : Nat} : LD es0 os es → o.t.k ≠ 0 → at' ≤ es.length → (Rise (kyG es) es.length → At (kyG es) es.length o.key at') → LD es0 (os ++ [o]) (es.take at' ++ o :: es.drop at')
def DG (B A : Nat) (w0 : World) (es0 os : List PE) (i : Nat) (pv : Value) (wr : World) : Prop :=
  ∃ es, GR B A wr pv es ∧ LD es0 (os.take i) es ∧ Below B w0 wr ∧ es.length ≤ es0.length + i
theorem take_snocP (os : List PE) (i : Nat) (e : PE) (h : os[i]? = some e) : os.take (i + 1) = os.take i ++ [e] := by rw [List.take_add_one, h]; rfl
theorem info35s56 : (Tryd.prog.info? 41).map (·.size) = some 5 := by kernel_rfl
set_option maxHeartbeats 8000000 in
set_option maxRecDepth 100000 in
theorem dictionary48 (es0 os : List PE) (v0 : Value) (oa : Option Addr) (oc : Nat) (w : World) (hr0 : RG w.heap.size w v0 es0) (ho : os = [] ∨ ∃ g, oa = some ⟨g, 0, none⟩ ∧ w.heap[g]? = some (.cells (gCs os).toArray 44 (0, 0))) (hrv : ∀ e ∈ os, RV (fun _ => True) w e.t e.x e.y) (hn : es0.length + os.length ≤ 2147483646) :
    Calls Tryd.prog 24 #[v0, .slice oa os.length oc] w fun en w' => ∃ v' es', en = .returned (.agg #[.int .i64 4, .int .i64 0, .string ⟨#[]⟩, .slice none 0 0, v']) ∧ LD es0 os es' ∧ GR (w.heap.size + 1) w.heap.size w' v' es' ∧ Below w.heap.size w w' := by
  have b0 : Below w.heap.size w (w.alloc (.cells #[.int .i64 0, .int .i64 0, .string ⟨#[]⟩, .slice none 0 0, .slice none 0 0] 41)) := (Below.refl _ _).alloc (Nat.le_refl _) _
  have rg0 : RG w.heap.size (w.alloc (.cells #[.int .i64 0, .int .i64 0, .string ⟨#[]⟩, .slice none 0 0, .slice none 0 0] 41)) v0 es0 := by
    obtain ⟨a, c, rfl, hle, h⟩ := hr0
    refine ⟨a, c, rfl, hle, ?_⟩
    rcases h with h | ⟨g, o, h1, h2, h3⟩
    · exact .inl h
    · exact .inr ⟨g, o, h1, Nat.lt_of_lt_of_le h2 b0.size, fun i e he => ⟨RV.keep (fun _ h => h) b0.size (fun b _ hl => b0.block b hl) _ _ _ (h3 i e he).1, fun r hr => (World.cell?_of_block (w := w) (b0.block g h2)).trans ((h3 i e he).2 r hr)⟩⟩
  have H0 : Hid (Below w.heap.size w (w.alloc (.cells #[.int .i64 0, .int .i64 0, .string ⟨#[]⟩, .slice none 0 0, .slice none 0 0] 41)) ∧ (w.alloc (.cells #[.int .i64 0, .int .i64 0, .string ⟨#[]⟩, .slice none 0 0, .slice none 0 0] 41)).heap[w.heap.size]? = some (.cells #[.int .i64 0, .int .i64 0, .string ⟨#[]⟩, .slice none 0 0, .slice none 0 0] 41 (0, 0)) ∧ (w.alloc (.cells #[.int .i64 0, .int .i64 0, .string ⟨#[]⟩, .slice none 0 0, .slice none 0 0] 41)).heap.size = w.heap.size + 1 ∧ RG w.heap.size (w.alloc (.cells #[.int .i64 0, .int .i64 0, .string ⟨#[]⟩, .slice none 0 0, .slice none 0 0] 41)) v0 es0) := ⟨b0, heap_new _ _, by simp, rg0⟩
  have HO : Hid ((os = [] ∨ ∃ g, oa = some ⟨g, 0, none⟩ ∧ (w.alloc (.cells #[.int .i64 0, .int .i64 0, .string ⟨#[]⟩, .slice none 0 0, .slice none 0 0] 41)).heap[g]? = some (.cells (gCs os).toArray 44 (0, 0)) ∧ g < w.heap.size) ∧ (∀ e ∈ os, RV (fun b => b < w.heap.size) (w.alloc (.cells #[.int .i64 0, .int .i64 0, .string ⟨#[]⟩, .slice none 0 0, .slice none 0 0] 41)) e.t e.x e.y) ∧ es0.length + os.length ≤ 2147483646) := by
    refine ⟨?_, fun e he => RV.move (fun b _ hl => hl) b0.size (fun b _ hl => b0.block b hl) _ _ _ (hrv e he), hn⟩
    rcases ho with h | ⟨g, h1, h2⟩
    · exact .inl h
    · have hlt := (Array.getElem?_eq_some_iff.1 h2).1
      exact .inr ⟨g, h1, (b0.block g hlt).trans h2, hlt⟩
  obtain ⟨va0, vc0, rfl, -, -⟩ := hr0
  clear rg0 b0 ho hrv hn
  generalize hnn : os.length = n at *
  have HNN := Lib.hid hnn
  clear hnn
  have hnb : n ≤ 2147483646 := by have := HO.out.2.2; omega
  go_enter Tryd.func24, Tryd.ntmps24
  go_upto_region 1 with fail
  generalize w.alloc (.cells #[.int .i64 0, .int .i64 0, .string ⟨#[]⟩, .slice none 0 0, .slice none 0 0] 41) = w0 at *
  go_wp2_with fail
  refine (clone63 w.heap.size _ es0 w0 H0.out.2.2.2 H0.out.1.size (by have := HO.out.2.2; omega)).mono ?_
  rintro en w1 ⟨v1, rfl, hg1, b1⟩
  obtain ⟨va1, vc1, rfl⟩ := hg1.form
  have HD0 : Hid (DG (w.heap.size + 1) w.heap.size w0 es0 os 0 (.slice va1 es0.length vc1) w1) := by
    have e := H0.out.2.2.1
    exact ⟨es0, by rw [← e]; exact hg1, by rw [List.take_zero]; exact .nil, by rw [← e]; exact b1, by omega⟩
  clear hg1 b1
  go_wp2_with fail
  go_loopw [5, 14] (fun pv t wr => ∃ i : Nat, i ≤ n ∧ t = .int .i64 i ∧ Hid (DG (w.heap.size + 1) w.heap.size w0 es0 os i pv wr)) (fun _ t _ => n - (intOf t).toNat)
  case atStart => exact ⟨0, Nat.zero_le _, rfl, HD0.out⟩
  case round =>
    obtain ⟨i, hi, rfl, HI⟩ := hrel
    obtain ⟨es, p1, p2, p5, p6⟩ := HI.out
    obtain ⟨pa, pc, rfl⟩ := p1.form
    by_cases hlt : i < n
    · obtain ⟨e, he⟩ : ∃ e, os[i]? = some e := ⟨_, List.getElem?_eq_getElem (by rw [HNN.out]; exact hlt)⟩
      obtain ⟨g, rfl, hgw0, hglt⟩ := HO.out.1.resolve_left (fun h => by rw [h] at he; simp at he)
      have z0 := H0.out.2.2.1
      have hgb : wr.heap[g]? = _ := (p5.block g (by omega)).trans hgw0
      have hrve := HO.out.2.1 e (List.mem_of_getElem? he)
      have cc : ∀ r, r < 6 → wr.cell? ⟨g, i * 6 + r, none⟩ = (gC e)[r]? := fun r hr => by
        have := gCs_get os i e r hr he
        simp only [World.cell?, hgb]
        simpa using this
      obtain ⟨⟨xa, xn, xc, hxx⟩, ⟨ya, yn, yc, hyy⟩⟩ := hrve.slices
      have c0 : wr.cell? ⟨g, i * 6, none⟩ = some (.string e.key) := cc 0 (by omega)
      have c1 : wr.cell? ⟨g, i * 6 + 1, none⟩ = some (.int .i64 e.t.k) := cc 1 (by omega)
      have c2 : wr.cell? ⟨g, i * 6 + 2, none⟩ = some (.int .i64 e.t.n) := cc 2 (by omega)
      have c3 : wr.cell? ⟨g, i * 6 + 3, none⟩ = some (.string e.t.s) := cc 3 (by omega)
      have c4 : wr.cell? ⟨g, i * 6 + 4, none⟩ = some (.slice xa xn xc) := (cc 4 (by omega)).trans (congrArg some hxx)
      have c5 : wr.cell? ⟨g, i * 6 + 5, none⟩ = some (.slice ya yn yc) := (cc 5 (by omega)).trans (congrArg some hyy)
      have hgC : (gC e).toArray = #[.string e.key, .int .i64 e.t.k, .int .i64 e.t.n, .string e.t.s, .slice xa xn xc, .slice ya yn yc] := by
        show #[.string e.key, .int .i64 e.t.k, .int .i64 e.t.n, .string e.t.s, e.x, e.y] = _
        rw [hxx, hyy]
      have HC := Lib.hid (isTold64 e)
      rw [hgC] at HC
      have HGC := Lib.hid hgC
      have HRV : Hid (RV (fun b => b < w.heap.size) wr e.t e.x e.y) := RV.keep (fun _ h => h) p5.size (fun b hb _ => p5.block b (by omega)) _ _ _ hrve
      have HP : Hid (GR (w.heap.size + 1) w.heap.size wr (.slice pa es.length pc) es ∧ LD es0 (os.take i) es ∧ Below (w.heap.size + 1) w0 wr ∧ es.length ≤ es0.length + i) := ⟨p1, p2, p5, p6⟩
      have HXI := Lib.hid he
      have HL0 : Hid (es0.length + n ≤ 2147483646) := HO.out.2.2
      clear cc hgb hrve hxx hyy hgC p1 p2 p5 he hgw0 hglt
      have hz := HP.out.2.2.1.size
      have hbx := heap_new wr (.cells #[.string e.key, .int .i64 e.t.k, .int .i64 e.t.n, .string e.t.s, .slice xa xn xc, .slice ya yn yc] 44)
      have bx1 : Below wr.heap.size wr (wr.alloc (.cells #[.string e.key, .int .i64 e.t.k, .int .i64 e.t.n, .string e.t.s, .slice xa xn xc, .slice ya yn yc] 44)) := (Below.refl _ _).alloc (Nat.le_refl _) _
      have HBX : Hid ((wr.alloc (.cells #[.string e.key, .int .i64 e.t.k, .int .i64 e.t.n, .string e.t.s, .slice xa xn xc, .slice ya yn yc] 44)).heap[wr.heap.size]? = some (.cells #[.string e.key, .int .i64 e.t.k, .int .i64 e.t.n, .string e.t.s, .slice xa xn xc, .slice ya yn yc] 44 (0, 0)) ∧ Below wr.heap.size wr (wr.alloc (.cells #[.string e.key, .int .i64 e.t.k, .int .i64 e.t.n, .string e.t.s, .slice xa xn xc, .slice ya yn yc] 44)) ∧ (wr.alloc (.cells #[.string e.key, .int .i64 e.t.k, .int .i64 e.t.n, .string e.t.s, .slice xa xn xc, .slice ya yn yc] 44)).heap.size = wr.heap.size + 1 ∧ w.heap.size + 1 ≤ wr.heap.size) := ⟨hbx, bx1, by simp, by omega⟩
      clear hbx bx1 hz z0
      generalize hpl : es.length = pl at *
      have HPL := Lib.hid hpl
      clear hpl
      go_upto_region 5 with fail
      generalize wr.alloc (.cells #[.string e.key, .int .i64 e.t.k, .int .i64 e.t.n, .string e.t.s, .slice xa xn xc, .slice ya yn yc] 44) = wb at *
      clear c0 c1 c2 c3 c4 c5
      have hk : ∀ w', Below wb.heap.size wb w' → w'.heap[wr.heap.size]? = some (.cells #[.string e.key, .int .i64 e.t.k, .int .i64 e.t.n, .string e.t.s, .slice xa xn xc, .slice ya yn yc] 44 (0, 0)) := fun w' hw => (hw.block _ (by have := HBX.out.2.2.1; omega)).trans HBX.out.1
      have HK := Lib.hid hk
      clear hk
      generalize hbxx : wr.heap.size = bx at *
      have HBS := Lib.hid hbxx
      clear hbxx
      have k0 := HK.out wb (Below.refl _ _)
      have c0 : wb.cell? ⟨bx, 0, none⟩ = some (.string e.key) := by simp [World.cell?, k0]
      have c1 : wb.cell? ⟨bx, 1, none⟩ = some (.int .i64 e.t.k) := by simp [World.cell?, k0]
      have c2 : wb.cell? ⟨bx, 2, none⟩ = some (.int .i64 e.t.n) := by simp [World.cell?, k0]
      have c3 : wb.cell? ⟨bx, 3, none⟩ = some (.string e.t.s) := by simp [World.cell?, k0]
      have c4 : wb.cell? ⟨bx, 4, none⟩ = some (.slice xa xn xc) := by simp [World.cell?, k0]
      have c5 : wb.cell? ⟨bx, 5, none⟩ = some (.slice ya yn yc) := by simp [World.cell?, k0]
      clear k0
      go_wp2_with fail
      refine (HC.out wb).mono ?_
      rintro en w1 ⟨rfl, b1⟩
      have H1 : Hid (Below wb.heap.size wb w1) := b1
      have k1 := HK.out w1 b1
      clear c0 c1 c2 c3 c4 c5 b1 HC
      by_cases hk0 : e.t.k = 0
      · have q : (e.t.k != 0) = false := by simp [hk0]
        have HU : Hid (DG (w.heap.size + 1) w.heap.size w0 es0 os (i + 1) (.slice pa pl pc) w1) := by
          have a2 := HBX.out.2.2.1
          have a3 := HBX.out.2.2.2
          have a5 := HBS.out
          have hb9 : Below wr.heap.size wr w1 := by rw [a5]; exact HBX.out.2.1.trans (H1.out.mono (by omega))
          refine ⟨es, HP.out.1.keep hb9, ?_, HP.out.2.2.1.trans (hb9.mono (by omega)), by rw [HPL.out]; have := HP.out.2.2.2; omega⟩
          rw [take_snocP os i e HXI.out]
          exact .skip HP.out.2.1 hk0
        clear k1 HI hk0
        rw [q]
        go_wp2
        exact ⟨⟨i + 1, by omega, by go_num, HU⟩, by simp [intOf]; omega⟩
      · have q : (e.t.k != 0) = true := by simp [hk0]
        have HK0 := Lib.hid hk0
        clear hk0
        rw [q]
        clear q
        have c0 : w1.cell? ⟨bx, 0, none⟩ = some (.string e.key) := by simp [World.cell?, k1]
        clear k1
        have HN1 : Hid (GR (w.heap.size + 1) w.heap.size w1 (.slice pa pl pc) es) := by
          have h8 := HBX.out.2.2.1
          exact HP.out.1.keep (by rw [HBS.out]; exact HBX.out.2.1.trans (H1.out.mono (by omega)))
        go_wp2_with fail
        refine (place65 es.length (kyG es) (dvG es) (.slice pa pl pc) e.key w1 HN1.out.rd (by have := HPL.out; have := HP.out.2.2.2; have := HL0.out; omega)).mono ?_
        rintro en w2 ⟨at', f, rfl, hat, hri, b2⟩
        have HAT : Hid (at' ≤ es.length ∧ (Rise (kyG es) es.length → At (kyG es) es.length e.key at')) := ⟨hat, hri⟩
        have H2 : Hid (Below wb.heap.size wb w2) := H1.out.trans (b2.mono H1.out.size)
        have HN2 : Hid (GR (w.heap.size + 1) w.heap.size w2 (.slice pa pl pc) es) := HN1.out.keep b2
        have k2 := HK.out w2 H2.out
        clear c0 b2 hat hri H1 HN1
        have c0 : w2.cell? ⟨bx, 0, none⟩ = some (.string e.key) := by simp [World.cell?, k2]
        have c1 : w2.cell? ⟨bx, 1, none⟩ = some (.int .i64 e.t.k) := by simp [World.cell?, k2]
        have c2 : w2.cell? ⟨bx, 2, none⟩ = some (.int .i64 e.t.n) := by simp [World.cell?, k2]
        have c3 : w2.cell? ⟨bx, 3, none⟩ = some (.string e.t.s) := by simp [World.cell?, k2]
        have c4 : w2.cell? ⟨bx, 4, none⟩ = some (.slice xa xn xc) := by simp [World.cell?, k2]
        have c5 : w2.cell? ⟨bx, 5, none⟩ = some (.slice ya yn yc) := by simp [World.cell?, k2]
        clear k2
        have bz : Below w2.heap.size w2 (w2.alloc (.cells #[.string e.key, .int .i64 e.t.k, .int .i64 e.t.n, .string e.t.s, .slice xa xn xc, .slice ya yn yc] 44)) := (Below.refl _ _).alloc (Nat.le_refl _) _
        have H3 : Hid (Below w2.heap.size w2 (w2.alloc (.cells #[.string e.key, .int .i64 e.t.k, .int .i64 e.t.n, .string e.t.s, .slice xa xn xc, .slice ya yn yc] 44)) ∧ (w2.alloc (.cells #[.string e.key, .int .i64 e.t.k, .int .i64 e.t.n, .string e.t.s, .slice xa xn xc, .slice ya yn yc] 44)).heap[w2.heap.size]? = some (.cells (gC e).toArray 44 (0, 0))) := ⟨bz, by rw [HGC.out]; exact heap_new _ _⟩
        clear bz
        have HRV3 : Hid (RV (fun b => b < w.heap.size) (w2.alloc (.cells #[.string e.key, .int .i64 e.t.k, .int .i64 e.t.n, .string e.t.s, .slice xa xn xc, .slice ya yn yc] 44)) e.t e.x e.y ∧ w.heap.size + 1 ≤ (w2.alloc (.cells #[.string e.key, .int .i64 e.t.k, .int .i64 e.t.n, .string e.t.s, .slice xa xn xc, .slice ya yn yc] 44)).heap.size ∧ Below wr.heap.size wr (w2.alloc (.cells #[.string e.key, .int .i64 e.t.k, .int .i64 e.t.n, .string e.t.s, .slice xa xn xc, .slice ya yn yc] 44))) := by
          have a2 := HBX.out.2.2.1
          have a3 := HBX.out.2.2.2
          have a4 := H2.out.size
          have a5 := HBS.out
          have hb9 : Below wr.heap.size wr (w2.alloc (.cells #[.string e.key, .int .i64 e.t.k, .int .i64 e.t.n, .string e.t.s, .slice xa xn xc, .slice ya yn yc] 44)) := by rw [a5]; exact (HBX.out.2.1.trans (H2.out.mono (by omega))).trans (H3.out.1.mono (by omega))
          exact ⟨RV.keep (fun _ h => h) hb9.size (fun b _ hl => hb9.block b hl) _ _ _ HRV.out, by have := hb9.size; omega, hb9⟩
        have HINS := Lib.hid (insert66 (w.heap.size + 1) es.length at' w2.heap.size (.slice pa pl pc) (gCs es) (gC e) (w2.alloc (.cells #[.string e.key, .int .i64 e.t.k, .int .i64 e.t.n, .string e.t.s, .slice xa xn xc, .slice ya yn yc] 44)) (HN2.out.keep H3.out.1).1 (gC_len e) H3.out.2 (fun h => by
          have := (World.ownsRow.lt HN2.out.1 _ h).2
          omega) HN2.out.one (gC_one HRV3.out.1) HRV3.out.2.1 (by have := HPL.out; have := HP.out.2.2.2; have := HL0.out; omega) HAT.out.1)
        go_wp2_with fail
        refine HINS.out.mono ?_
        intro en w4 hir
        obtain ⟨v', rfl, hn4, b4⟩ := (HN2.out.keep H3.out.1).put (Nat.le_succ _) HRV3.out.1 rfl HAT.out.1 hir
        have HU : Hid (DG (w.heap.size + 1) w.heap.size w0 es0 os (i + 1) v' w4) := by
          have a3 := HBX.out.2.2.2
          have a5 := HBS.out
          have a6 := HAT.out.1
          refine ⟨_, hn4, ?_, (HP.out.2.2.1.trans (HRV3.out.2.2.mono (by omega))).trans b4, ?_⟩
          · rw [take_snocP os i e HXI.out]
            exact .put HP.out.2.1 HK0.out HAT.out.1 HAT.out.2
          · have := HP.out.2.2.2
            have := HPL.out
            simp only [List.length_append, List.length_take, List.length_cons, List.length_drop]
            omega
        obtain ⟨a', c', hv'⟩ := hn4.form
        have hl4 : (es.take at' ++ e :: es.drop at').length = pl + 1 := by
          have := HAT.out.1
          have := HPL.out
          simp only [List.length_append, List.length_take, List.length_cons, List.length_drop]
          omega
        rw [hl4] at hv'
        subst hv'
        clear c0 c1 c2 c3 c4 c5 hn4 b4 HINS HI hir hl4
        go_wp2
        exact ⟨⟨i + 1, by omega, by go_num, HU⟩, by simp [intOf]; omega⟩
    · obtain rfl : i = n := by omega
      have ez : LD es0 os es := by rw [List.take_of_length_le (by rw [HNN.out]; exact Nat.le_refl _)] at p2; exact p2
      have z0 := H0.out.2.2.1
      have hR : wr.heap[w.heap.size]? = _ := (p5.block _ (by omega)).trans H0.out.2.1
      have HE : Hid (LD es0 os es ∧ ∀ wE, Besides w.heap.size wr wE → GR (w.heap.size + 1) w.heap.size wE (.slice pa es.length pc) es ∧ Below w.heap.size w wE) := ⟨ez, fun wE hE => by
        refine ⟨⟨?_, fun e he => ?_⟩, ?_⟩
        · obtain ⟨q1, q2⟩ := p1.1
          refine ⟨q1, ?_⟩
          rcases q2 with q2 | ⟨gg, cap, cur, e1, e2, e3, e4⟩
          · exact .inl q2
          · exact .inr ⟨gg, cap, cur, e1, e2, (hE.block gg (Array.getElem?_eq_some_iff.1 e3).1 (by omega)).trans e3, e4⟩
        · exact RV.keep (fun _ h => h) hE.size (fun b hb hl => hE.block b hl (by omega)) _ _ _ (p1.2 e he)
        · have h9 := H0.out.1.trans (p5.mono (by omega))
          exact ⟨hE.os.trans h9.os, hE.tape.trans h9.tape, hE.output.trans h9.output, Nat.le_trans h9.size hE.size, fun q hq => (hE.block q (by have := h9.size; omega) (by omega)).trans (h9.block q hq)⟩⟩
      have HRR := Lib.hid hR
      have r0 : wr.cell? ⟨w.heap.size, 0, none⟩ = some (.int .i64 0) := by simp [World.cell?, hR]
      have r1 : wr.cell? ⟨w.heap.size, 1, none⟩ = some (.int .i64 0) := by simp [World.cell?, hR]
      have r2 : wr.cell? ⟨w.heap.size, 2, none⟩ = some (.string ⟨#[]⟩) := by simp [World.cell?, hR]
      have r3 : wr.cell? ⟨w.heap.size, 3, none⟩ = some (.slice none 0 0) := by simp [World.cell?, hR]
      have r4 : wr.cell? ⟨w.heap.size, 4, none⟩ = some (.slice none 0 0) := by simp [World.cell?, hR]
      have f0 : ∀ j, wr.frozen? ⟨w.heap.size, j, none⟩ = false := fun j => by simp [World.frozen?, hR]
      have z0 := f0 0
      have z1 := f0 1
      have z2 := f0 2
      have z3 := f0 3
      have z4 := f0 4
      clear hR HI p1 p2 p5 f0 ez
      generalize es.length = pl at *
      go_wp2
      exact bodyPost_ret (v := .agg #[.int .i64 4, .int .i64 0, .string ⟨#[]⟩, .slice none 0 0, .slice pa pl pc]) (results_cell_row Tryd.results24 _ _ w.heap.size 41 _ (0, 0) _ rfl (ow.set (ow.set (ow.set (ow.set (ow.set HRR.out 0 _) 1 _) 2 _) 3 _) 4 _) Tryd.underlying41 rfl info35s56) rfl ⟨_, es, rfl, HE.out.1, HE.out.2 _ (besides5 _ _ _ _ _ _ _)⟩
end Go.Proofs.YtdchckelnccepaaDoor
namespace Go.Proofs.YtdchckelnccepaaDoor
open Go.RowKit Go.Deep
theorem GR.rdS {S : Nat → Prop} {B A : Nat} {w : World} {v : Value} {es : List PE} (h : GR B A w v es) (hS : ∀ b, B ≤ b → S b) (hv : ∀ e ∈ es, RV S w e.t e.x e.y) : RD S w es.length (kyG es) (dvG es) v := by
  obtain ⟨h, _⟩ := h
  rcases h.2 with ⟨rfl, h0⟩ | ⟨g, cap, cur, rfl, hB, hg, _, _, hsz, hx⟩
  · rw [h0]; exact ⟨none, 0, rfl, .inl rfl⟩
  · refine ⟨_, _, rfl, .inr ⟨g, 0, rfl, hS g hB, (Array.getElem?_eq_some_iff.1 hg).1, fun i hi => ?_⟩⟩
    obtain ⟨e, he⟩ : ∃ e, es[i]? = some e := ⟨_, List.getElem?_eq_getElem hi⟩
    have hgd := getD_of he
    have c : ∀ r, r < 6 → w.cell? ⟨g, i * 6 + r, none⟩ = (gC e)[r]? := fun r hr => by
      have h2 := gCs_get es i e r hr he
      rw [← hx, List.getElem?_take_of_lt (by omega), Array.getElem?_toList] at h2
      simp only [World.cell?, hg]
      simpa using h2
    have e1 : kyG es i = e.key := by unfold kyG; rw [hgd]
    have e2 : dvG es i = e.t := by unfold dvG; rw [hgd]
    refine ⟨e.x, e.y, ?_, ?_⟩
    · rw [e2]; exact hv e (List.mem_of_getElem? he)
    · rw [e1, e2]
      simp only [Nat.zero_add]
      exact ⟨c 0 (by omega), c 1 (by omega), c 2 (by omega), c 3 (by omega), c 4 (by omega), c 5 (by omega)⟩
/-- the pairs of names -/
def nE (ns : List (ByteArray × Int)) : List PE := ns.map fun x => leaf x.1 (tn x.2)
theorem nE_len (ns : List (ByteArray × Int)) : (nE ns).length = ns.length := by simp [nE]
theorem nE_snoc (ns : List (ByteArray × Int)) (i : Nat) (x : ByteArray × Int) (h : ns[i]? = some x) : nE (ns.take (i + 1)) = nE (ns.take i) ++ [leaf x.1 (tn x.2)] := by
  rw [List.take_add_one, h]
  simp [nE]
theorem take_set6 (cs : Array Value) (o : Nat) (c0 c1 c2 c3 c4 c5 : Value) (h : o + 6 ≤ cs.size) :
    ((((((cs.setIfInBounds o c0).setIfInBounds (o + 1) c1).setIfInBounds (o + 2) c2).setIfInBounds (o + 3) c3).setIfInBounds (o + 4) c4).setIfInBounds (o + 5) c5).toList.take (o + 6) = cs.toList.take o ++ [c0, c1, c2, c3, c4, c5] := by
  apply List.ext_getElem?
  intro j
  by_cases hj : j < o + 6
  · rw [List.getElem?_take_of_lt hj, Array.getElem?_toList]
    by_cases hj2 : j < o
    · rw [List.getElem?_append_left (by simp; omega), List.getElem?_take_of_lt hj2, Array.getElem?_toList]
      simp only [Array.getElem?_setIfInBounds]
      repeat rw [if_neg (by omega)]
    · rw [List.getElem?_append_right (by simp; omega)]
      have hl : (cs.toList.take o).length = o := by simp; omega
      rw [hl]
      obtain rfl | rfl | rfl | rfl | rfl | rfl : j = o ∨ j = o + 1 ∨ j = o + 2 ∨ j = o + 3 ∨ j = o + 4 ∨ j = o + 5 := by omega
      all_goals
        simp only [Array.getElem?_setIfInBounds, Array.size_setIfInBounds]
        simp
        omega
  · rw [List.getElem?_eq_none (by simp; omega), List.getElem?_eq_none (by simp; omega)]
theorem numberIf58t (key : ByteArray) (n : Int) (w : World) : Calls Tryd.prog 26 #[.bool true, .string key, .int .i64 n] w fun e w' => e = .returned (.agg #[.string key, .int .i64 1, .int .i64 n, .string ⟨#[]⟩, .slice none 0 0, .slice none 0 0]) ∧ Below w.heap.size w w' := numberIf58 true key n w
def NF (P n : Nat) (ns : List (ByteArray × Int)) (w0 : World) (i : Nat) (wr : World) : Prop := ∃ cs : Array Value, wr.heap[P]? = some (.cells cs 44 (0, 0)) ∧ cs.size = n * 6 ∧ cs.toList.take (i * 6) = gCs (nE (ns.take i)) ∧ Below P w0 wr
theorem make_pairs (n : Nat) (hn : n ≤ 2147483647) (u : World) : (Instr.makeSlice 23 (.int .i64 (n : Int)) (.int .i64 (n : Int))).run Tryd.prog u =
      .ok (.slice (some ⟨u.heap.size, 0, none⟩) n n) (u.alloc (.cells (madeCells #[.string ⟨#[]⟩, .int .i64 0, .int .i64 0, .string ⟨#[]⟩, .slice none 0 0, .slice none 0 0] (n * 6)) 44)) := by
  obtain ⟨i0, hi, hz0, hz1, hz2⟩ := info_parts info42
  have h := run_make (P := Tryd.prog) u 23 44 i0 _ Tryd.underlying23 hi hz0 .i64 .i64 (n : Int) (n : Int) (by omega) (by omega) (by rw [hz2]; omega) (by omega)
  simp only [hz1, Value.cells] at h
  exact h
set_option maxHeartbeats 4000000 in
set_option maxRecDepth 100000 in
theorem namesDict57 (nv : Value) (ns : List (ByteArray × Int)) (w : World) (h : RNs w nv ns) (hn : ns.length ≤ 2147483646) :
    Calls Tryd.prog 25 #[nv] w fun en w' => ∃ v', en = .returned (.agg #[.int .i64 4, .int .i64 0, .string ⟨#[]⟩, .slice none 0 0, v']) ∧ RD (fun b => w.heap.size ≤ b) w' ns.length (kyG (nE ns)) (dvG (nE ns)) v' ∧ Below w.heap.size w w' := by
  have H := Lib.hid h
  obtain ⟨a, c, rfl, hx⟩ := h
  have HX := Lib.hid hx
  clear hx
  have b0 : Below w.heap.size w (w.alloc (.cells #[.int .i64 0, .int .i64 0, .string ⟨#[]⟩, .slice none 0 0, .slice none 0 0] 41)) := (Below.refl _ _).alloc (Nat.le_refl _) _
  have H0 : Hid (Below w.heap.size w (w.alloc (.cells #[.int .i64 0, .int .i64 0, .string ⟨#[]⟩, .slice none 0 0, .slice none 0 0] 41)) ∧ (w.alloc (.cells #[.int .i64 0, .int .i64 0, .string ⟨#[]⟩, .slice none 0 0, .slice none 0 0] 41)).heap[w.heap.size]? = some (.cells #[.int .i64 0, .int .i64 0, .string ⟨#[]⟩, .slice none 0 0, .slice none 0 0] 41 (0, 0)) ∧ (w.alloc (.cells #[.int .i64 0, .int .i64 0, .string ⟨#[]⟩, .slice none 0 0, .slice none 0 0] 41)).heap.size = w.heap.size + 1) := ⟨b0, heap_new _ _, by simp⟩
  clear b0
  have hmk := make_pairs ns.length (by omega)
  generalize hnn : ns.length = n at *
  have HNN := Lib.hid hnn
  clear hnn
  go_enter Tryd.func25, Tryd.ntmps25
  go_upto_region 1 with fail
  generalize w.alloc (.cells #[.int .i64 0, .int .i64 0, .string ⟨#[]⟩, .slice none 0 0, .slice none 0 0] 41) = w0 at *
  have HF0 : Hid (NF w0.heap.size n ns w0 0 (w0.alloc (.cells (madeCells #[.string ⟨#[]⟩, .int .i64 0, .int .i64 0, .string ⟨#[]⟩, .slice none 0 0, .slice none 0 0] (n * 6)) 44))) := ⟨_, heap_new _ _, by simp [size_madeCells], by simp [nE, gCs], (Below.refl _ _).alloc (Nat.le_refl _) _⟩
  go_wp2
  clear hmk
  generalize w0.alloc (.cells (madeCells #[.string ⟨#[]⟩, .int .i64 0, .int .i64 0, .string ⟨#[]⟩, .slice none 0 0, .slice none 0 0] (n * 6)) 44) = wm at *
  go_loopw [11] (fun t wr => ∃ i : Nat, i ≤ n ∧ t = .int .i64 i ∧ Hid (NF w0.heap.size n ns w0 i wr)) (fun t _ => n - (intOf t).toNat)
  case atStart => exact ⟨0, Nat.zero_le _, rfl, HF0.out⟩
  case round =>
    obtain ⟨i, hi, rfl, HI⟩ := hrel
    obtain ⟨cs, f1, f2, f3, f4⟩ := HI.out
    have hz0 := H0.out.2.2
    have HBW : Hid (Below w.heap.size w wr) := H0.out.1.trans (f4.mono (by omega))
    by_cases hlt : i < n
    · obtain ⟨x, hx⟩ : ∃ x, ns[i]? = some x := ⟨_, List.getElem?_eq_getElem (by rw [HNN.out]; exact hlt)⟩
      obtain ⟨g, o, rfl, hg, hc⟩ := HX.out.resolve_left (fun e => by rw [e] at hx; simp at hx)
      have g0 := Below.cellS HBW.out (Nat.le_refl _) (hc i x hx).1
      have g1 := Below.cellS HBW.out (Nat.le_refl _) (hc i x hx).2
      obtain ⟨xs, xi⟩ := x
      have HXI := Lib.hid hx
      have HFI : Hid (wr.heap[w0.heap.size]? = some (.cells cs 44 (0, 0)) ∧ cs.size = n * 6 ∧ cs.toList.take (i * 6) = gCs (nE (ns.take i)) ∧ Below w0.heap.size w0 wr) := ⟨f1, f2, f3, f4⟩
      clear hc hx f3 f4 HI
      have bz : Below wr.heap.size wr (wr.alloc (.cells #[.string xs, .int .i64 xi] 50)) := (Below.refl _ _).alloc (Nat.le_refl _) _
      have hbx := heap_new wr (.cells #[.string xs, .int .i64 xi] 50)
      have HZ : Hid (Below wr.heap.size wr (wr.alloc (.cells #[.string xs, .int .i64 xi] 50))) := bz
      clear bz f1 f2 hz0
      go_upto_region 5 with fail
      generalize wr.alloc (.cells #[.string xs, .int .i64 xi] 50) = wb at *
      generalize hbxs : wr.heap.size = bx at *
      have HBXS := Lib.hid hbxs
      clear hbxs
      have k0 : wb.cell? ⟨bx, 0, none⟩ = some (.string xs) := by simp [World.cell?, hbx]
      have k1 : wb.cell? ⟨bx, 1, none⟩ = some (.int .i64 xi) := by simp [World.cell?, hbx]
      clear hbx g0 g1
      go_wp2_with fail
      refine (numberIf58t xs xi wb).mono ?_
      rintro en w2 ⟨rfl, b2⟩
      have hb2 : Below wr.heap.size wr w2 := by rw [HBXS.out]; exact HZ.out.trans (b2.mono (by have := HZ.out.size; have := HBXS.out; omega))
      have hP2 : w2.heap[w0.heap.size]? = some (.cells cs 44 (0, 0)) := (hb2.block _ (Array.getElem?_eq_some_iff.1 HFI.out.1).1).trans HFI.out.1
      have hsz : i * 6 + 6 ≤ cs.size := by rw [HFI.out.2.1]; omega
      have HU : Hid (NF w0.heap.size n ns w0 (i + 1) ((((((w2.setCell ⟨w0.heap.size, i * 6, none⟩ (.string xs)).setCell ⟨w0.heap.size, i * 6 + 1, none⟩ (.int .i64 1)).setCell ⟨w0.heap.size, i * 6 + 2, none⟩ (.int .i64 xi)).setCell ⟨w0.heap.size, i * 6 + 3, none⟩ (.string ⟨#[]⟩)).setCell ⟨w0.heap.size, i * 6 + 4, none⟩ (.slice none 0 0)).setCell ⟨w0.heap.size, i * 6 + 5, none⟩ (.slice none 0 0))) := by
        refine ⟨_, ow.set (ow.set (ow.set (ow.set (ow.set (ow.set hP2 _ _) _ _) _ _) _ _) _ _) _ _, by simp [HFI.out.2.1], ?_, ?_⟩
        · rw [show (i + 1) * 6 = i * 6 + 6 by omega, take_set6 cs (i * 6) _ _ _ _ _ _ hsz, HFI.out.2.2.1, nE_snoc ns i _ HXI.out, gCs_app]
          simp [gCs, gC, leaf, cv, tn, T.k, T.n, T.s]
        · have h9 : Below w0.heap.size w0 w2 := HFI.out.2.2.2.trans (hb2.mono HFI.out.2.2.2.size)
          exact (((((h9.setCell (Nat.le_refl _) _).setCell (Nat.le_refl _) _).setCell (Nat.le_refl _) _).setCell (Nat.le_refl _) _).setCell (Nat.le_refl _) _).setCell (Nat.le_refl _) _
      have cP : ∀ j, j < 6 → ∃ u, w2.cell? ⟨w0.heap.size, i * 6 + j, none⟩ = some u := fun j hj => ⟨cs[i * 6 + j]'(by omega), by simp only [World.cell?, hP2]; exact Array.getElem?_eq_getElem (by omega)⟩
      have fP : ∀ j, w2.frozen? ⟨w0.heap.size, j, none⟩ = false := fun j => by simp [World.frozen?, hP2]
      obtain ⟨u0, m0⟩ := cP 0 (by omega)
      obtain ⟨u1, m1⟩ := cP 1 (by omega)
      obtain ⟨u2, m2⟩ := cP 2 (by omega)
      obtain ⟨u3, m3⟩ := cP 3 (by omega)
      obtain ⟨u4, m4⟩ := cP 4 (by omega)
      obtain ⟨u5, m5⟩ := cP 5 (by omega)
      have n0 := fP (i * 6)
      have n1 := fP (i * 6 + 1)
      have n2 := fP (i * 6 + 2)
      have n3 := fP (i * 6 + 3)
      have n4 := fP (i * 6 + 4)
      have n5 := fP (i * 6 + 5)
      rw [Nat.add_zero] at m0
      clear k0 k1 b2 hb2 hP2 hsz cP fP
      go_wp2
      exact ⟨⟨i + 1, by omega, by go_num, HU⟩, by simp [intOf]; omega⟩
    · obtain rfl : i = n := by omega
      have hR : wr.heap[w.heap.size]? = _ := (f4.block _ (by omega)).trans H0.out.2.1
      have f5 : cs.toList = gCs (nE ns) := by
        have e : ns.take i = ns := List.take_of_length_le (by rw [HNN.out]; exact Nat.le_refl _)
        rw [e, List.take_of_length_le (by simp; omega)] at f3
        exact f3
      have HG : Hid (RG wr.heap.size wr (.slice (some ⟨w0.heap.size, 0, none⟩) i i) (nE ns)) := by
        refine ⟨_, _, by rw [nE_len, HNN.out], by rw [nE_len, HNN.out]; exact Nat.le_refl _, ?_⟩
        by_cases he : nE ns = []
        · exact .inl he
        · refine .inr ⟨w0.heap.size, 0, rfl, (Array.getElem?_eq_some_iff.1 f1).1, fun j e hj => ⟨?_, fun r hr => ?_⟩⟩
          · obtain ⟨y, hy, rfl⟩ : ∃ y, ns[j]? = some y ∧ leaf y.1 (tn y.2) = e := by
              unfold nE at hj
              rw [List.getElem?_map] at hj
              obtain ⟨y, h1, h2⟩ := Option.map_eq_some_iff.1 hj
              exact ⟨y, h1, h2⟩
            exact rv_leaf _ _ _ _ _
          · have h2 := gCs_get (nE ns) j e r hr hj
            rw [← f5, Array.getElem?_toList] at h2
            simp only [World.cell?, f1, Nat.zero_add]
            simpa using h2
      have HBE := Lib.hid (And.intro HBW.out hR)
      have HDC := Lib.hid (dictionary48 (nE ns) [] (.slice (some ⟨w0.heap.size, 0, none⟩) i i) none 0 wr HG.out (.inl rfl) (fun e he => by cases he) (by rw [nE_len, HNN.out]; simp; omega))
      clear f1 f2 f3 f4 f5 hR HI HG hz0
      go_wp2_with fail
      refine HDC.out.mono ?_
      rintro en w3 ⟨v', es', rfl, hld, hgr, b3⟩
      have hes : es' = nE ns := by
        generalize hq : ([] : List PE) = q at hld
        cases hld with
        | nil => rfl
        | skip _ _ => simp at hq
        | put _ _ _ _ => simp at hq
      subst hes
      have hR3 : w3.heap[w.heap.size]? = some (.cells #[.int .i64 0, .int .i64 0, .string ⟨#[]⟩, .slice none 0 0, .slice none 0 0] 41 (0, 0)) := (b3.block _ (Array.getElem?_eq_some_iff.1 HBE.out.2).1).trans HBE.out.2
      obtain ⟨va, vc, rfl⟩ := hgr.form
      have HE : Hid (∀ wE, Besides w.heap.size w3 wE → RD (fun b => w.heap.size ≤ b) wE ns.length (kyG (nE ns)) (dvG (nE ns)) (.slice va (nE ns).length vc) ∧ Below w.heap.size w wE) := fun wE hE => by
        have hsz := HBE.out.1.size
        have hlt := (Array.getElem?_eq_some_iff.1 HBE.out.2).1
        refine ⟨?_, ?_⟩
        · rw [show ns.length = (nE ns).length from (nE_len ns).symm]
          have hg2 : GR (wr.heap.size + 1) wr.heap.size wE (.slice va (nE ns).length vc) (nE ns) := by
            obtain ⟨⟨q1, q2⟩, q3⟩ := hgr
            refine ⟨⟨q1, ?_⟩, fun e he => ?_⟩
            · rcases q2 with q2 | ⟨gg, cap, cur, e1, e2, e3, e4⟩
              · exact .inl q2
              · exact .inr ⟨gg, cap, cur, e1, e2, (hE.block gg (Array.getElem?_eq_some_iff.1 e3).1 (by omega)).trans e3, e4⟩
            · obtain ⟨y, _, rfl⟩ := List.mem_map.1 he
              exact rv_leaf _ _ _ _ _
          exact hg2.rdS (fun b hb => Nat.le_trans hsz (Nat.le_trans (Nat.le_succ _) hb)) (fun e he => by
            obtain ⟨y, _, rfl⟩ := List.mem_map.1 he
            exact rv_leaf _ _ _ _ _)
        · have h9 := HBE.out.1.trans (b3.mono hsz)
          exact ⟨hE.os.trans h9.os, hE.tape.trans h9.tape, hE.output.trans h9.output, Nat.le_trans h9.size hE.size, fun q hq => (hE.block q (by have := h9.size; omega) (by omega)).trans (h9.block q hq)⟩
      have HRR := Lib.hid hR3
      have r0 : w3.cell? ⟨w.heap.size, 0, none⟩ = some (.int .i64 0) := by simp [World.cell?, hR3]
      have r1 : w3.cell? ⟨w.heap.size, 1, none⟩ = some (.int .i64 0) := by simp [World.cell?, hR3]
      have r2 : w3.cell? ⟨w.heap.size, 2, none⟩ = some (.string ⟨#[]⟩) := by simp [World.cell?, hR3]
      have r3 : w3.cell? ⟨w.heap.size, 3, none⟩ = some (.slice none 0 0) := by simp [World.cell?, hR3]
      have r4 : w3.cell? ⟨w.heap.size, 4, none⟩ = some (.slice none 0 0) := by simp [World.cell?, hR3]
      have f0 : ∀ j, w3.frozen? ⟨w.heap.size, j, none⟩ = false := fun j => by simp [World.frozen?, hR3]
      have z0 := f0 0
      have z1 := f0 1
      have z2 := f0 2
      have z3 := f0 3
      have z4 := f0 4
      clear hR3 f0 hgr hld b3 HDC
      generalize (nE ns).length = pl at *
      go_wp2
      refine bodyPost_ret (v := .agg #[.int .i64 4, .int .i64 0, .string ⟨#[]⟩, .slice none 0 0, .slice va pl vc]) (results_cell_row Tryd.results25 _ _ w.heap.size 41 _ (0, 0) _ rfl (ow.set (ow.set (ow.set (ow.set (ow.set HRR.out 0 _) 1 _) 2 _) 3 _) 4 _) Tryd.underlying41 rfl info35s56) rfl ⟨_, rfl, ?_⟩
      rw [← HNN.out]
      exact HE.out _ (besides5 _ _ _ _ _ _ _)
end Go.Proofs.YtdchckelnccepaaDoor
namespace Go.Proofs.YtdchckelnccepaaDoor
open Go.RowKit Go.Deep
def kM : ByteArray := ⟨#[109]⟩
def kZ : ByteArray := ⟨#[109, 101, 116, 97, 100, 97, 116, 97, 95, 115, 105, 122, 101]⟩
def kQ : ByteArray := ⟨#[114, 101, 113, 113]⟩
def kV : ByteArray := ⟨#[118]⟩
/-- a key of a wish's own -/
def owB (s : ByteArray) : Bool := s.toList == [109] || (s.toList == [109, 101, 116, 97, 100, 97, 116, 97, 95, 115, 105, 122, 101] || (s.toList == [114, 101, 113, 113] || s.toList == [118]))
def idB (i : Int) : Bool := decide (0 ≤ i) && decide (i ≤ 255)
set_option maxHeartbeats 1000000 in
theorem isID25 (id : Int) (w : World) : Calls Tryd.prog 37 #[.int .i64 id] w fun e w' => e = .returned (.bool (idB id)) ∧ w' = w := by
  unfold idB
  go_enter Tryd.func37, Tryd.ntmps37
  by_cases h : 0 ≤ id
  · have h1 : decide (0 ≤ id) = true := decide_eq_true h
    go_wp2
    go_ret
    exact ⟨by simp [h], rfl⟩
  · have h1 : decide (0 ≤ id) = false := decide_eq_false h
    go_wp2
    go_ret
    exact ⟨by simp, rfl⟩
set_option maxHeartbeats 1000000 in
theorem strayID54 (s : ByteArray) (i : Int) (w : World) : Calls Tryd.prog 21 #[.agg #[.string s, .int .i64 i]] w fun e w' => e = .returned (.bool (!idB i)) ∧ Below w.heap.size w w' := by
  go_enter Tryd.func21, Tryd.ntmps21
  go_wp2_with fail
  refine (isID25 i _).mono ?_
  rintro e w1 ⟨rfl, he⟩
  subst w1
  go_wp2
  go_ret
  exact ⟨rfl, (Below.refl _ _).alloc (Nat.le_refl _) _⟩
set_option maxHeartbeats 1000000 in
theorem isOwn72 (s : ByteArray) (w : World) : Calls Tryd.prog 39 #[.string s] w fun e w' => e = .returned (.bool (owB s)) ∧ w' = w := by
  have HO : owB s = (s.toList == [109] || (s.toList == [109, 101, 116, 97, 100, 97, 116, 97, 95, 115, 105, 122, 101] || (s.toList == [114, 101, 113, 113] || s.toList == [118]))) := rfl
  have HO2 := Lib.hid HO
  clear HO
  by_cases h1 : s.toList = [109]
  · have HE : Hid (owB s = true) := by
      show _ = true
      rw [HO2.out]
      simp [h1]
    clear HO2
    go_enter Tryd.func39, Tryd.ntmps39
    go_wp2
    go_ret
    exact ⟨by rw [HE.out]; rfl, rfl⟩
  by_cases h2 : s.toList = [109, 101, 116, 97, 100, 97, 116, 97, 95, 115, 105, 122, 101]
  · have HE : Hid (owB s = true) := by
      show _ = true
      rw [HO2.out]
      simp [h2]
    clear HO2
    go_enter Tryd.func39, Tryd.ntmps39
    go_wp2
    go_ret
    exact ⟨by rw [HE.out]; rfl, rfl⟩
  by_cases h3 : s.toList = [114, 101, 113, 113]
  · have HE : Hid (owB s = true) := by
      show _ = true
      rw [HO2.out]
      simp [h3]
    clear HO2
    go_enter Tryd.func39, Tryd.ntmps39
    go_wp2
    go_ret
    exact ⟨by rw [HE.out]; rfl, rfl⟩
  by_cases h4 : s.toList = [118]
  · have HE : Hid (owB s = true) := by
      show _ = true
      rw [HO2.out]
      simp [h4]
    clear HO2
    go_enter Tryd.func39, Tryd.ntmps39
    go_wp2
    go_ret
    exact ⟨by rw [HE.out]; rfl, rfl⟩
  have HE : Hid (owB s = false) := by
    show _ = false
    rw [HO2.out]
    simp [h1, h2, h3, h4]
  clear HO2
  go_enter Tryd.func39, Tryd.ntmps39
  go_wp2
  go_ret
  exact ⟨by rw [HE.out]; simp [Array.getD, h1, h2, h3, h4], rfl⟩
set_option maxHeartbeats 1000000 in
theorem strayKey56 (e : PE) (w : World) : Calls Tryd.prog 23 #[.agg (gC e).toArray] w fun en w' => en = .returned (.bool (owB e.key)) ∧ Below w.heap.size w w' := by
  obtain ⟨key, t, x, y⟩ := e
  show Calls Tryd.prog 23 #[.agg #[.string key, .int .i64 t.k, .int .i64 t.n, .string t.s, x, y]] w _
  go_enter Tryd.func23, Tryd.ntmps23
  go_wp2_with fail
  refine (isOwn72 key _).mono ?_
  rintro en w1 ⟨rfl, he⟩
  subst w1
  go_wp2
  go_ret
  exact ⟨rfl, (Below.refl _ _).alloc (Nat.le_refl _) _⟩
set_option maxHeartbeats 2000000 in
theorem index70 (nv : Value) (ns : List (ByteArray × Int)) (w : World) (h : RNs w nv ns) (hn : ns.length ≤ 2147483647) : Calls Tryd.prog 36 #[nv, .func (Fn.func 21) #[] #[]] w fun en w' => ∃ r : Int, en = .returned (.int .i64 r) ∧ decide (0 ≤ r) = ns.any (fun x => !idB x.2) ∧ Below w.heap.size w w' := by
  obtain ⟨a, c, rfl, hx⟩ := h
  have HX := Lib.hid hx
  generalize hnn : ns.length = n at *
  have HNN := Lib.hid hnn
  clear hx hnn
  go_enter Tryd.func36, Tryd.ntmps36
  go_wp2
  go_loopw [8] (fun t wr => ∃ i : Nat, i ≤ n ∧ t = .int .i64 i ∧ Hid (Below w.heap.size w wr ∧ ∀ (j : Nat) (y : ByteArray × Int), j < i → ns[j]? = some y → idB y.2 = true)) (fun t _ => n - (intOf t).toNat)
  case atStart => exact ⟨0, Nat.zero_le _, rfl, Below.refl _ _, fun j y hj => absurd hj (Nat.not_lt_zero _)⟩
  case round =>
    obtain ⟨i, hi, rfl, HI⟩ := hrel
    by_cases hlt : i < n
    · obtain ⟨x, hx⟩ : ∃ x, ns[i]? = some x := ⟨_, List.getElem?_eq_getElem (by rw [HNN.out]; exact hlt)⟩
      obtain ⟨g, o, rfl, hg, hc⟩ := HX.out.resolve_left (fun e => by rw [e] at hx; simp at hx)
      have g0 := Below.cellS HI.out.1 (Nat.le_refl _) (hc i x hx).1
      have g1 := Below.cellS HI.out.1 (Nat.le_refl _) (hc i x hx).2
      obtain ⟨xs, xi⟩ := x
      have HXI := Lib.hid hx
      clear hc hx
      go_wp2_with fail
      refine (strayID54 xs xi wr).mono ?_
      rintro en w1 ⟨rfl, b1⟩
      have HB1 : Hid (Below w.heap.size w w1) := HI.out.1.trans (b1.mono HI.out.1.size)
      clear g0 g1 b1
      cases hid : idB xi with
      | false =>
        have HE : Hid (ns.any (fun x => !idB x.2) = true) := List.any_eq_true.2 ⟨_, List.mem_of_getElem? HXI.out, by show (!idB xi) = true; rw [hid]; rfl⟩
        clear hid HI
        go_wp2
        go_ret
        refine ⟨i, rfl, ?_, HB1.out⟩
        rw [HE.out]
        exact decide_eq_true (by omega)
      | true =>
        have HJ : Hid (Below w.heap.size w w1 ∧ ∀ (j : Nat) (y : ByteArray × Int), j < i + 1 → ns[j]? = some y → idB y.2 = true) := ⟨HB1.out, fun j y hj hy => by
          rcases Nat.lt_succ_iff_lt_or_eq.1 hj with h | rfl
          · exact HI.out.2 j y h hy
          · have h9 := HXI.out
            rw [hy] at h9
            cases h9
            exact hid⟩
        clear hid HI
        go_wp2
        exact ⟨⟨i + 1, by omega, by go_num, HJ⟩, by simp [intOf]; omega⟩
    · obtain rfl : i = n := by omega
      have HE : Hid (ns.any (fun x => !idB x.2) = false) := by
        show _ = false
        rw [List.any_eq_false]
        intro x hx
        obtain ⟨j, hj, rfl⟩ := List.getElem_of_mem hx
        rw [HI.out.2 j _ (by rw [← HNN.out]; exact hj) (List.getElem?_eq_getElem hj)]
        decide
      go_wp2
      go_ret
      refine ⟨-1, rfl, ?_, HI.out.1⟩
      rw [HE.out]
      rfl
set_option maxHeartbeats 1000000 in
theorem contains53 (nv : Value) (ns : List (ByteArray × Int)) (w : World) (h : RNs w nv ns) (hn : ns.length ≤ 2147483647) : Calls Tryd.prog 20 #[nv, .func (Fn.func 21) #[] #[]] w fun en w' => en = .returned (.bool (ns.any (fun x => !idB x.2))) ∧ Below w.heap.size w w' := by
  have H := Lib.hid (index70 nv ns w h hn)
  obtain ⟨a, c, rfl, -⟩ := h
  go_enter Tryd.func20, Tryd.ntmps20
  go_wp2_with fail
  refine H.out.mono ?_
  rintro en w1 ⟨r, rfl, hr, b1⟩
  have HR : Hid (decide (0 ≤ r) = ns.any (fun x => !idB x.2) ∧ Below w.heap.size w w1) := ⟨hr, b1⟩
  clear hr b1
  go_wp2
  go_ret
  rw [← HR.out.1]
  exact ⟨rfl, HR.out.2⟩
set_option maxHeartbeats 2000000 in
theorem index71 (A : Nat) (v : Value) (es : List PE) (w : World) (h : RG A w v es) (hn : es.length ≤ 2147483647) : Calls Tryd.prog 38 #[v, .func (Fn.func 23) #[] #[]] w fun en w' => ∃ r : Int, en = .returned (.int .i64 r) ∧ decide (0 ≤ r) = es.any (fun e => owB e.key) ∧ Below w.heap.size w w' := by
  obtain ⟨a, c, rfl, -, hx⟩ := h
  have HX := Lib.hid hx
  generalize hnn : es.length = n at *
  have HNN := Lib.hid hnn
  clear hx hnn
  go_enter Tryd.func38, Tryd.ntmps38
  go_wp2
  go_loopw [8] (fun t wr => ∃ i : Nat, i ≤ n ∧ t = .int .i64 i ∧ Hid (Below w.heap.size w wr ∧ ∀ (j : Nat) (e : PE), j < i → es[j]? = some e → owB e.key = false)) (fun t _ => n - (intOf t).toNat)
  case atStart => exact ⟨0, Nat.zero_le _, rfl, Below.refl _ _, fun j y hj => absurd hj (Nat.not_lt_zero _)⟩
  case round =>
    obtain ⟨i, hi, rfl, HI⟩ := hrel
    by_cases hlt : i < n
    · obtain ⟨e, hx⟩ : ∃ e, es[i]? = some e := ⟨_, List.getElem?_eq_getElem (by rw [HNN.out]; exact hlt)⟩
      obtain ⟨g, o, rfl, hg, hc⟩ := HX.out.resolve_left (fun e => by rw [e] at hx; simp at hx)
      obtain ⟨hrv, hcc⟩ := hc i e hx
      obtain ⟨⟨xa, xn, xc, hxx⟩, ⟨ya, yn, yc, hyy⟩⟩ := hrv.slices
      have cw : ∀ {p : Addr} {v : Value}, w.cell? p = some v → wr.cell? p = some v := fun h => Below.cellS HI.out.1 (Nat.le_refl _) h
      have c0 : wr.cell? ⟨g, o + i * 6, none⟩ = some (.string e.key) := cw (hcc 0 (by omega))
      have c1 : wr.cell? ⟨g, o + i * 6 + 1, none⟩ = some (.int .i64 e.t.k) := cw (hcc 1 (by omega))
      have c2 : wr.cell? ⟨g, o + i * 6 + 2, none⟩ = some (.int .i64 e.t.n) := cw (hcc 2 (by omega))
      have c3 : wr.cell? ⟨g, o + i * 6 + 3, none⟩ = some (.string e.t.s) := cw (hcc 3 (by omega))
      have c4 : wr.cell? ⟨g, o + i * 6 + 4, none⟩ = some (.slice xa xn xc) := cw ((hcc 4 (by omega)).trans (congrArg some hxx))
      have c5 : wr.cell? ⟨g, o + i * 6 + 5, none⟩ = some (.slice ya yn yc) := cw ((hcc 5 (by omega)).trans (congrArg some hyy))
      have HC := Lib.hid (strayKey56 e wr)
      rw [show (gC e).toArray = #[.string e.key, .int .i64 e.t.k, .int .i64 e.t.n, .string e.t.s, .slice xa xn xc, .slice ya yn yc] by
        show #[.string e.key, .int .i64 e.t.k, .int .i64 e.t.n, .string e.t.s, e.x, e.y] = _
        rw [hxx, hyy]] at HC
      have HXI := Lib.hid hx
      clear hc hx hrv hcc hxx hyy cw
      go_wp2_with fail
      refine HC.out.mono ?_
      rintro en w1 ⟨rfl, b1⟩
      have HB1 : Hid (Below w.heap.size w w1) := HI.out.1.trans (b1.mono HI.out.1.size)
      clear c0 c1 c2 c3 c4 c5 b1 HC
      cases hid : owB e.key with
      | true =>
        have HE : Hid (es.any (fun e => owB e.key) = true) := List.any_eq_true.2 ⟨_, List.mem_of_getElem? HXI.out, hid⟩
        clear hid HI
        go_wp2
        go_ret
        refine ⟨i, rfl, ?_, HB1.out⟩
        rw [HE.out]
        exact decide_eq_true (by omega)
      | false =>
        have HJ : Hid (Below w.heap.size w w1 ∧ ∀ (j : Nat) (e : PE), j < i + 1 → es[j]? = some e → owB e.key = false) := ⟨HB1.out, fun j y hj hy => by
          rcases Nat.lt_succ_iff_lt_or_eq.1 hj with h | rfl
          · exact HI.out.2 j y h hy
          · have h9 := HXI.out
            rw [hy] at h9
            cases h9
            exact hid⟩
        clear hid HI
        go_wp2
        exact ⟨⟨i + 1, by omega, by go_num, HJ⟩, by simp [intOf]; omega⟩
    · obtain rfl : i = n := by omega
      have HE : Hid (es.any (fun e => owB e.key) = false) := by
        show _ = false
        rw [List.any_eq_false]
        intro x hx
        obtain ⟨j, hj, rfl⟩ := List.getElem_of_mem hx
        rw [HI.out.2 j _ (by rw [← HNN.out]; exact hj) (List.getElem?_eq_getElem hj)]
        decide
      go_wp2
      go_ret
      refine ⟨-1, rfl, ?_, HI.out.1⟩
      rw [HE.out]
      rfl
set_option maxHeartbeats 1000000 in
theorem contains55 (A : Nat) (v : Value) (es : List PE) (w : World) (h : RG A w v es) (hn : es.length ≤ 2147483647) : Calls Tryd.prog 22 #[v, .func (Fn.func 23) #[] #[]] w fun en w' => en = .returned (.bool (es.any (fun e => owB e.key))) ∧ Below w.heap.size w w' := by
  have H := Lib.hid (index71 A v es w h hn)
  obtain ⟨a, c, rfl, -⟩ := h
  go_enter Tryd.func22, Tryd.ntmps22
  go_wp2_with fail
  refine H.out.mono ?_
  rintro en w1 ⟨r, rfl, hr, b1⟩
  have HR : Hid (decide (0 ≤ r) = es.any (fun e => owB e.key) ∧ Below w.heap.size w w1) := ⟨hr, b1⟩
  clear hr b1
  go_wp2
  go_ret
  rw [← HR.out.1]
  exact ⟨rfl, HR.out.2⟩
end Go.Proofs.YtdchckelnccepaaDoor
namespace Go.Proofs.YtdchckelnccepaaDoor
open Go.RowKit Go.Deep
theorem results_cell2 {fn : Func} {p u : Tmp} (h : fn.results = #[.cell p 41, .tmp u]) (tmps : Array Value) (w : World) (g : Nat) (cs : Array Value)
    (hp : tmps.getD p undef = .pointer (some ⟨g, 0, none⟩)) (hg : w.heap[g]? = some (.cells cs 41 (0, 0))) (hc : cs.size = 5) :
    (results fn tmps).run Tryd.prog w = .ok (.tuple #[.agg cs, tmps.getD u undef]) w := by
  rw [results_cell_tmp h, hp]
  have h1 : (asAddr (.pointer (some ⟨g, 0, none⟩))).run Tryd.prog w = .ok ⟨g, 0, none⟩ w := rfl
  rw [h1]
  simp only [Result.andThen]
  rw [run_loadVar_row w g 41 41 cs (0, 0) _ hg Tryd.underlying41 rfl (by rw [info25s, hc])]
end Go.Proofs.YtdchckelnccepaaDoor
