import Derived.Test.YtegfdeiamnlfhaaDoorSq
namespace Go.Proofs.YtegfdeiamnlfhaaDoor
open Go.RowKit Go.Deep
/-- those that are told -/
def tl (os : List (Bool × ByteArray × Int)) : List (ByteArray × Int) := (os.filter (·.1)).map (·.2)
def oCs (os : List (Bool × ByteArray × Int)) : List Value := os.flatMap oC
theorem oC_len (x : Bool × ByteArray × Int) : (oC x).length = 6 := by unfold oC; split <;> rfl
theorem oCs_get : ∀ (os : List (Bool × ByteArray × Int)) (i : Nat) (x : Bool × ByteArray × Int) (r : Nat), r < 6 → os[i]? = some x → (oCs os)[i * 6 + r]? = (oC x)[r]?
  | [], i, x, r, _, h => by simp at h
  | y :: os, 0, x, r, hr, h => by
    simp at h
    subst h
    have e : oCs (y :: os) = oC y ++ oCs os := by simp [oCs]
    rw [e, List.getElem?_append_left (by rw [oC_len]; omega), Nat.zero_mul, Nat.zero_add]
  | y :: os, i + 1, x, r, hr, h => by
    have e : oCs (y :: os) = oC y ++ oCs os := by simp [oCs]
    rw [e, List.getElem?_append_right (by rw [oC_len]; omega), oC_len]
    have e1 : (i + 1) * 6 + r - 6 = i * 6 + r := by omega
    rw [e1]
    exact oCs_get os i x r hr (by simpa using h)
def RiseO (os : List (Bool × ByteArray × Int)) : Prop := ∀ (p q : Nat) (x y : Bool × ByteArray × Int), p < q → os[p]? = some x → os[q]? = some y → Op.bytesLess x.2.1.toList y.2.1.toList = true
theorem kyL_old (ps : List (ByteArray × Int)) (y : ByteArray × Int) (p : Nat) (h : p < ps.length) : kyL (ps ++ [y]) p = kyL ps p := by
  unfold kyL
  simp [List.getD, List.getElem?_append_left h]
theorem kyL_new (ps : List (ByteArray × Int)) (y : ByteArray × Int) : kyL (ps ++ [y]) ps.length = y.1 := by
  unfold kyL
  simp [List.getD]
theorem tl_snoc (os : List (Bool × ByteArray × Int)) (i : Nat) (x : Bool × ByteArray × Int) (h : os[i]? = some x) : tl (os.take (i + 1)) = tl (os.take i) ++ (if x.1 then [x.2] else []) := by
  have hi := (List.getElem?_eq_some_iff.1 h).1
  rw [List.take_add_one, h]
  unfold tl
  rw [List.filter_append, List.map_append]
  congr 1
  obtain ⟨b, y⟩ := x
  cases b <;> simp
/-- the loop of a dictionary -/
def DI (w0 : World) (os : List (Bool × ByteArray × Int)) (i : Nat) (pv : Value) (wr : World) : Prop :=
  ∃ ps, NR w0.heap.size wr pv ps ∧ ps = tl (os.take i) ∧ Rise (kyL ps) ps.length ∧ (∀ (q : Nat) (x : Bool × ByteArray × Int), i ≤ q → os[q]? = some x → ∀ p, p < ps.length → Op.bytesLess (kyL ps p).toList x.2.1.toList = true) ∧ Below w0.heap.size w0 wr ∧ ps.length ≤ i
theorem DI.start (w0 : World) (os : List (Bool × ByteArray × Int)) : DI w0 os 0 (.slice none 0 0) w0 :=
  ⟨[], NR.nil _ _, by simp [tl], fun p q _ hq => absurd hq (Nat.not_lt_zero _), fun q x _ _ p hp => absurd hp (Nat.not_lt_zero _), Below.refl _ _, Nat.le_refl _⟩
theorem DI.skip {w0 wr w' : World} {os : List (Bool × ByteArray × Int)} {i : Nat} {pv : Value} (h : DI w0 os i pv wr) {x : ByteArray × Int} (hx : os[i]? = some (false, x)) (hb : Below wr.heap.size wr w') : DI w0 os (i + 1) pv w' := by
  obtain ⟨ps, h1, h2, h3, h4, h5, h6⟩ := h
  refine ⟨ps, h1.keep hb, ?_, h3, fun q y hq hy => h4 q y (by omega) hy, h5.trans (hb.mono h5.size), by omega⟩
  rw [tl_snoc os i _ hx, ← h2]
  simp
theorem DI.put {w0 w' : World} {os : List (Bool × ByteArray × Int)} {i : Nat} {v' : Value} {ps : List (ByteArray × Int)} {x : ByteArray × Int} (hr : RiseO os) (hx : os[i]? = some (true, x)) (h1 : NR w0.heap.size w' v' (ps ++ [x])) (h2 : ps = tl (os.take i)) (h3 : Rise (kyL ps) ps.length) (h4 : ∀ (q : Nat) (x : Bool × ByteArray × Int), i ≤ q → os[q]? = some x → ∀ p, p < ps.length → Op.bytesLess (kyL ps p).toList x.2.1.toList = true) (h5 : Below w0.heap.size w0 w') (h6 : ps.length ≤ i) : DI w0 os (i + 1) v' w' := by
  refine ⟨ps ++ [x], h1, ?_, fun p q hp hq => ?_, fun q y hq hy p hp => ?_, h5, by simp; omega⟩
  · rw [tl_snoc os i _ hx, ← h2]
    simp
  · rw [List.length_append] at hq
    simp at hq
    rw [kyL_old ps x p (by omega)]
    by_cases e : q < ps.length
    · rw [kyL_old ps x q e]; exact h3 p q hp e
    · obtain rfl : q = ps.length := by omega
      rw [kyL_new]
      exact h4 i _ (Nat.le_refl _) hx p (by omega)
  · rw [List.length_append] at hp
    simp at hp
    by_cases e : p < ps.length
    · rw [kyL_old ps x p e]; exact h4 q y (by omega) hy p e
    · obtain rfl : p = ps.length := by omega
      rw [kyL_new]
      exact hr i q _ _ (by omega) hx hy
theorem at_end {ky : Nat → ByteArray} {dn at' : Nat} {key : ByteArray} (h : At ky dn key at') (hl : ∀ p, p < dn → Op.bytesLess (ky p).toList key.toList = true) : at' = dn := by
  obtain ⟨h1, _, h3⟩ := h
  apply Classical.byContradiction
  intro e
  have a := h3 at' (Nat.le_refl _) (by omega)
  have b := hl at' (by omega)
  rw [a] at b
  cases b
set_option maxHeartbeats 4000000 in
theorem dictionary15 (os : List (Bool × ByteArray × Int)) (g : Nat) (w : World) (hg : w.heap[g]? = some (.cells (oCs os).toArray 42 (0, 0))) (hr : RiseO os) (hn : os.length ≤ 1000) :
    Calls Tryd.prog 15 #[.slice none 0 0, .slice (some ⟨g, 0, none⟩) os.length os.length] w fun e w' => ∃ v', e = .returned (.agg #[.int .i64 4, .int .i64 0, .string ⟨#[]⟩, .slice none 0 0, v']) ∧ NR w.heap.size w' v' (tl os) ∧ Below w.heap.size w w' := by
  have hglt := (Array.getElem?_eq_some_iff.1 hg).1
  have b0 : Below w.heap.size w (w.alloc (.cells #[.int .i64 0, .int .i64 0, .string ⟨#[]⟩, .slice none 0 0, .slice none 0 0] 35)) := (Below.refl _ _).alloc (Nat.le_refl _) _
  have H0 : Hid (Below w.heap.size w (w.alloc (.cells #[.int .i64 0, .int .i64 0, .string ⟨#[]⟩, .slice none 0 0, .slice none 0 0] 35)) ∧ (w.alloc (.cells #[.int .i64 0, .int .i64 0, .string ⟨#[]⟩, .slice none 0 0, .slice none 0 0] 35)).heap[w.heap.size]? = some (.cells #[.int .i64 0, .int .i64 0, .string ⟨#[]⟩, .slice none 0 0, .slice none 0 0] 35 (0, 0)) ∧ (w.alloc (.cells #[.int .i64 0, .int .i64 0, .string ⟨#[]⟩, .slice none 0 0, .slice none 0 0] 35)).heap[g]? = some (.cells (oCs os).toArray 42 (0, 0)) ∧ (w.alloc (.cells #[.int .i64 0, .int .i64 0, .string ⟨#[]⟩, .slice none 0 0, .slice none 0 0] 35)).heap.size = w.heap.size + 1) := ⟨b0, heap_new _ _, (b0.block g hglt).trans hg, by simp⟩
  have HR := Lib.hid hr
  clear hg hr b0
  generalize hnn : os.length = n at *
  have HNN := Lib.hid hnn
  clear hnn
  go_enter Tryd.func15, Tryd.ntmps15
  go_upto_region 1 with fail
  generalize w.alloc (.cells #[.int .i64 0, .int .i64 0, .string ⟨#[]⟩, .slice none 0 0, .slice none 0 0] 35) = w0 at *
  go_wp2_with fail
  refine (clone23 w0).mono ?_
  rintro e w1' ⟨rfl, he⟩
  subst w1'
  go_wp2_with fail
  go_loopw [5, 14] (fun pv t wr => ∃ i : Nat, i ≤ n ∧ t = .int .i64 i ∧ Hid (DI w0 os i pv wr)) (fun _ t _ => n - (intOf t).toNat)
  case atStart => exact ⟨0, Nat.zero_le _, rfl, DI.start _ _⟩
  case round =>
    obtain ⟨i, hi, rfl, HI⟩ := hrel
    obtain ⟨ps, p1, p2, p3, p4, p5, p6⟩ := HI.out
    obtain ⟨pa, pc, rfl⟩ := p1.form
    by_cases hlt : i < n
    · obtain ⟨x, hx⟩ : ∃ x, os[i]? = some x := ⟨_, List.getElem?_eq_getElem (by rw [HNN.out]; exact hlt)⟩
      have hgb : wr.heap[g]? = _ := (p5.block g (by have := H0.out.2.2.2; omega)).trans H0.out.2.2.1
      have cc : ∀ r, r < 6 → wr.cell? ⟨g, i * 6 + r, none⟩ = (oC x)[r]? := fun r hr => by
        have := oCs_get os i x r hr hx
        simp only [World.cell?, hgb]
        simpa using this
      have c0 := cc 0 (by omega)
      have c1 := cc 1 (by omega)
      have c2 := cc 2 (by omega)
      have c3 := cc 3 (by omega)
      have c4 := cc 4 (by omega)
      have c5 := cc 5 (by omega)
      clear cc hgb
      have HP : Hid (NR w0.heap.size wr (.slice pa ps.length pc) ps ∧ ps = tl (os.take i) ∧ Rise (kyL ps) ps.length ∧ (∀ (q : Nat) (x : Bool × ByteArray × Int), i ≤ q → os[q]? = some x → ∀ p, p < ps.length → Op.bytesLess (kyL ps p).toList x.2.1.toList = true) ∧ Below w0.heap.size w0 wr ∧ ps.length ≤ i) := ⟨p1, p2, p3, p4, p5, p6⟩
      clear p1 p2 p3 p4 p5
      obtain ⟨b, key, m⟩ := x
      have HXI := Lib.hid hx
      clear hx
      generalize hpl : ps.length = pl at *
      have HPL := Lib.hid hpl
      clear hpl
      cases b with
      | false =>
        have HC := Lib.hid (isTold24 (false, key, m))
        replace c0 : wr.cell? ⟨g, i * 6, none⟩ = some (.string key) := c0
        replace c1 : wr.cell? ⟨g, i * 6 + 1, none⟩ = some (.int .i64 0) := c1
        replace c2 : wr.cell? ⟨g, i * 6 + 2, none⟩ = some (.int .i64 0) := c2
        replace c3 : wr.cell? ⟨g, i * 6 + 3, none⟩ = some (.string ⟨#[]⟩) := c3
        replace c4 : wr.cell? ⟨g, i * 6 + 4, none⟩ = some (.slice none 0 0) := c4
        replace c5 : wr.cell? ⟨g, i * 6 + 5, none⟩ = some (.slice none 0 0) := c5
        go_wp2_with fail
        refine (HC.out _).mono ?_
        rintro e w1 ⟨rfl, b1⟩
        have HU : Hid (DI w0 os (i + 1) (.slice pa pl pc) w1) := HI.out.skip HXI.out ((((Below.refl _ wr).alloc (Nat.le_refl _) _)).trans (b1.mono (by simp)))
        clear c0 c1 c2 c3 c4 c5 b1 HI HC
        go_wp2
        exact ⟨⟨i + 1, by omega, by go_num, HU⟩, by simp [intOf]; omega⟩
      | true =>
        have HC := Lib.hid (isTold24 (true, key, m))
        replace c0 : wr.cell? ⟨g, i * 6, none⟩ = some (.string key) := c0
        replace c1 : wr.cell? ⟨g, i * 6 + 1, none⟩ = some (.int .i64 1) := c1
        replace c2 : wr.cell? ⟨g, i * 6 + 2, none⟩ = some (.int .i64 m) := c2
        replace c3 : wr.cell? ⟨g, i * 6 + 3, none⟩ = some (.string ⟨#[]⟩) := c3
        replace c4 : wr.cell? ⟨g, i * 6 + 4, none⟩ = some (.slice none 0 0) := c4
        replace c5 : wr.cell? ⟨g, i * 6 + 5, none⟩ = some (.slice none 0 0) := c5
        have hbx := heap_new wr (.cells #[.string key, .int .i64 1, .int .i64 m, .string ⟨#[]⟩, .slice none 0 0, .slice none 0 0] 42)
        have bx1 : Below wr.heap.size wr (wr.alloc (.cells #[.string key, .int .i64 1, .int .i64 m, .string ⟨#[]⟩, .slice none 0 0, .slice none 0 0] 42)) := (Below.refl _ _).alloc (Nat.le_refl _) _
        have HBX : Hid ((wr.alloc (.cells #[.string key, .int .i64 1, .int .i64 m, .string ⟨#[]⟩, .slice none 0 0, .slice none 0 0] 42)).heap[wr.heap.size]? = some (.cells #[.string key, .int .i64 1, .int .i64 m, .string ⟨#[]⟩, .slice none 0 0, .slice none 0 0] 42 (0, 0)) ∧ Below wr.heap.size wr (wr.alloc (.cells #[.string key, .int .i64 1, .int .i64 m, .string ⟨#[]⟩, .slice none 0 0, .slice none 0 0] 42)) ∧ (wr.alloc (.cells #[.string key, .int .i64 1, .int .i64 m, .string ⟨#[]⟩, .slice none 0 0, .slice none 0 0] 42)).heap.size = wr.heap.size + 1) := ⟨hbx, bx1, by simp⟩
        clear hbx bx1
        go_upto_region 5 with fail
        generalize wr.alloc (.cells #[.string key, .int .i64 1, .int .i64 m, .string ⟨#[]⟩, .slice none 0 0, .slice none 0 0] 42) = wb at *
        clear c0 c1 c2 c3 c4 c5
        have hk : ∀ w', Below wb.heap.size wb w' → w'.heap[wr.heap.size]? = some (.cells #[.string key, .int .i64 1, .int .i64 m, .string ⟨#[]⟩, .slice none 0 0, .slice none 0 0] 42 (0, 0)) := fun w' hw => (hw.block _ (by have := HBX.out.2.2; omega)).trans HBX.out.1
        have HK := Lib.hid hk
        clear hk
        generalize hbxx : wr.heap.size = bx at *
        have HBS := Lib.hid hbxx
        clear hbxx
        have k0 := HK.out wb (Below.refl _ _)
        have c0 : wb.cell? ⟨bx, 0, none⟩ = some (.string key) := by simp [World.cell?, k0]
        have c1 : wb.cell? ⟨bx, 1, none⟩ = some (.int .i64 1) := by simp [World.cell?, k0]
        have c2 : wb.cell? ⟨bx, 2, none⟩ = some (.int .i64 m) := by simp [World.cell?, k0]
        have c3 : wb.cell? ⟨bx, 3, none⟩ = some (.string ⟨#[]⟩) := by simp [World.cell?, k0]
        have c4 : wb.cell? ⟨bx, 4, none⟩ = some (.slice none 0 0) := by simp [World.cell?, k0]
        have c5 : wb.cell? ⟨bx, 5, none⟩ = some (.slice none 0 0) := by simp [World.cell?, k0]
        clear k0
        go_wp2_with fail
        refine (HC.out wb).mono ?_
        rintro e w1 ⟨rfl, b1⟩
        have H1 : Hid (Below wb.heap.size wb w1) := b1
        have k1 := HK.out w1 b1
        clear c0 c1 c2 c3 c4 c5 b1 HC
        have c0 : w1.cell? ⟨bx, 0, none⟩ = some (.string key) := by simp [World.cell?, k1]
        clear k1
        have HN1 : Hid (NR w0.heap.size w1 (.slice pa pl pc) ps) := by
          have h9 := HBX.out.2.1
          have h8 := HBX.out.2.2
          exact HP.out.1.keep (by rw [HBS.out]; exact h9.trans (H1.out.mono (by omega)))
        go_wp2_with fail
        refine (search25 ps.length (kyL ps) (dvL ps) (.slice pa pl pc) key w1 HN1.out.rd (by rw [HPL.out]; exact HP.out.2.2.1) (by rw [HPL.out]; omega)).mono ?_
        rintro e w2 ⟨at', f, rfl, hat, -, b2⟩
        obtain rfl : at' = pl := by
          have := at_end hat (fun p hp => HP.out.2.2.2.1 i _ (Nat.le_refl _) HXI.out p (by rw [← HPL.out]; exact hp))
          rw [this, HPL.out]
        have H2 : Hid (Below wb.heap.size wb w2) := H1.out.trans (b2.mono H1.out.size)
        have HN2 : Hid (NR w0.heap.size w2 (.slice pa at' pc) ps) := HN1.out.keep b2
        have k2 := HK.out w2 H2.out
        clear c0 b2 hat H1 HN1
        have c0 : w2.cell? ⟨bx, 0, none⟩ = some (.string key) := by simp [World.cell?, k2]
        have c1 : w2.cell? ⟨bx, 1, none⟩ = some (.int .i64 1) := by simp [World.cell?, k2]
        have c2 : w2.cell? ⟨bx, 2, none⟩ = some (.int .i64 m) := by simp [World.cell?, k2]
        have c3 : w2.cell? ⟨bx, 3, none⟩ = some (.string ⟨#[]⟩) := by simp [World.cell?, k2]
        have c4 : w2.cell? ⟨bx, 4, none⟩ = some (.slice none 0 0) := by simp [World.cell?, k2]
        have c5 : w2.cell? ⟨bx, 5, none⟩ = some (.slice none 0 0) := by simp [World.cell?, k2]
        clear k2
        have bz : Below w2.heap.size w2 (w2.alloc (.cells #[.string key, .int .i64 1, .int .i64 m, .string ⟨#[]⟩, .slice none 0 0, .slice none 0 0] 42)) := (Below.refl _ _).alloc (Nat.le_refl _) _
        have H3 : Hid (Below w2.heap.size w2 (w2.alloc (.cells #[.string key, .int .i64 1, .int .i64 m, .string ⟨#[]⟩, .slice none 0 0, .slice none 0 0] 42)) ∧ (w2.alloc (.cells #[.string key, .int .i64 1, .int .i64 m, .string ⟨#[]⟩, .slice none 0 0, .slice none 0 0] 42)).heap[w2.heap.size]? = some (.cells (pC (key, m)).toArray 42 (0, 0))) := ⟨bz, heap_new _ _⟩
        clear bz
        have HINS := Lib.hid (insert26 w0.heap.size (.slice pa at' pc) ps (key, m) w2.heap.size (w2.alloc (.cells #[.string key, .int .i64 1, .int .i64 m, .string ⟨#[]⟩, .slice none 0 0, .slice none 0 0] 42)) (HN2.out.keep H3.out.1) H3.out.2 (by
          have a1 := HP.out.2.2.2.2.1.size
          have a2 := HBX.out.2.2
          have a3 := H2.out.size
          have a4 := H3.out.1.size
          have a5 := HBS.out
          omega) (by rw [HPL.out]; omega))
        rw [HPL.out] at HINS
        go_wp2_with fail
        refine HINS.out.mono ?_
        rintro e w4 ⟨v', rfl, hn4, b4⟩
        have HU : Hid (DI w0 os (i + 1) v' w4) := by
          refine DI.put HR.out HXI.out hn4 HP.out.2.1 (by rw [HPL.out]; exact HP.out.2.2.1) (by rw [HPL.out]; exact HP.out.2.2.2.1) ?_ (by rw [HPL.out]; exact HP.out.2.2.2.2.2)
          have a0 := HP.out.2.2.2.2.1
          have a1 := a0.size
          have a2 := HBX.out.2.2
          have a3 := H2.out.size
          have a5 := HBS.out
          exact ((a0.trans ((HBX.out.2.1.trans (H2.out.mono (by omega))).mono (by omega))).trans (H3.out.1.mono (by omega))).trans b4
        obtain ⟨a', c', rfl⟩ := hn4.form
        rw [show (ps ++ [(key, m)]).length = ps.length + 1 by simp] at HU
        clear c0 c1 c2 c3 c4 c5 hn4 b4 HINS HI
        go_wp2
        exact ⟨⟨i + 1, by omega, by go_num, HU⟩, by simp [intOf]; omega⟩
    · obtain rfl : i = n := by omega
      have ez : ps = tl os := by rw [p2, List.take_of_length_le (by rw [HNN.out]; exact Nat.le_refl _)]
      have z0 := H0.out.2.2.2
      have hR : wr.heap[w.heap.size]? = _ := (p5.block _ (by omega)).trans H0.out.2.1
      have HE : Hid (∀ wE, Besides w.heap.size wr wE → NR w.heap.size wE (.slice pa ps.length pc) (tl os) ∧ Below w.heap.size w wE) := fun wE hE => by
        refine ⟨?_, ?_⟩
        · rw [← ez]
          have hlt9 := fun q hq => (World.ownsRow.lt p1 q hq)
          obtain ⟨q1, q2⟩ := p1
          refine ⟨q1, ?_⟩
          rcases q2 with q2 | ⟨gg, cap, cur, e1, e2, e3, e4⟩
          · exact .inl q2
          · exact .inr ⟨gg, cap, cur, e1, by omega, (hE.block gg (Array.getElem?_eq_some_iff.1 e3).1 (by omega)).trans e3, e4⟩
        · have h9 := H0.out.1.trans (p5.mono H0.out.1.size)
          exact ⟨hE.os.trans h9.os, hE.tape.trans h9.tape, hE.output.trans h9.output, Nat.le_trans h9.size hE.size, fun q hq => (hE.block q (by have := h9.size; omega) (by omega)).trans (h9.block q hq)⟩
      have HRR := Lib.hid hR
      have r0 : wr.cell? ⟨w.heap.size, 0, none⟩ = some (.int .i64 0) := by simp [World.cell?, hR]
      have r1 : wr.cell? ⟨w.heap.size, 1, none⟩ = some (.int .i64 0) := by simp [World.cell?, hR]
      have r2 : wr.cell? ⟨w.heap.size, 2, none⟩ = some (.string ⟨#[]⟩) := by simp [World.cell?, hR]
      have r3 : wr.cell? ⟨w.heap.size, 3, none⟩ = some (.slice none 0 0) := by simp [World.cell?, hR]
      have r4 : wr.cell? ⟨w.heap.size, 4, none⟩ = some (.slice none 0 0) := by simp [World.cell?, hR]
      have f0 : ∀ j, wr.frozen? ⟨w.heap.size, j, none⟩ = false := fun j => by simp [World.frozen?, hR]
      have z0 := f0 0
      have z1 := f0 1
      have z2 := f0 2
      have z3 := f0 3
      have z4 := f0 4
      clear hR HI p1 p2 p3 p4 p5 f0 ez
      generalize ps.length = pl at *
      go_wp2
      exact bodyPost_ret (v := .agg #[.int .i64 4, .int .i64 0, .string ⟨#[]⟩, .slice none 0 0, .slice pa pl pc]) (results_cell_row Tryd.results15 _ _ w.heap.size 35 _ (0, 0) _ rfl (blk_set (blk_set (blk_set (blk_set (blk_set HRR.out 0 _) 1 _) 2 _) 3 _) 4 _) Tryd.underlying35 rfl info35s) rfl ⟨_, rfl, HE.out _ (besides5 _ _ _ _ _ _ _)⟩
end Go.Proofs.YtegfdeiamnlfhaaDoor
