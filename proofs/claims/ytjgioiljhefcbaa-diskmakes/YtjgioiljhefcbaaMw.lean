import Derived.Test.YtjgioiljhefcbaaMa
namespace Go.Proofs.Ytjgioiljhefcbaa
open Go.RowKit
/-- a disk that is there or not -/
def PO (w : World) (v : Value) : Option (List UInt8) → Prop
  | none => v = .pointer none
  | some l => ∃ p, v = .pointer (some ⟨p, 0, none⟩) ∧ ∃ S, DK S w p ⟨l, [], none⟩
/-- the reference's -/
def RO (w : World) (v : Value) : Option (List UInt8) → Prop
  | none => v = .pointer none
  | some l => ∃ p, v = .pointer (some ⟨p, 0, none⟩) ∧ R0 w p l ∧ Gd ⟨l, [], none⟩
theorem PO.below {w w' : World} {v : Value} {o : Option (List UInt8)} (h : PO w v o) (hb : Below w.heap.size w w') : PO w' v o := by
  cases o with
  | none => exact h
  | some l =>
    obtain ⟨p, e, S, h⟩ := h
    exact ⟨p, e, S, h.below hb⟩
theorem RO.below {w w' : World} {v : Value} {o : Option (List UInt8)} (h : RO w v o) (hb : Below w.heap.size w w') : RO w' v o := by
  cases o with
  | none => exact h
  | some l =>
    obtain ⟨p, e, h, hg⟩ := h
    exact ⟨p, e, h.below hb, hg⟩
/-- what is read there -/
def rdO (s : Int) : Option (List UInt8) → List UInt8 × Int
  | none => ([], 1)
  | some l => if 0 ≤ s ∧ 64 * s + 64 ≤ l.length then (sec l s.toNat, 0) else ([], 120)
def szO : Option (List UInt8) → Nat
  | none => 0
  | some l => l.length / 64
def RdE (w : World) (x : List UInt8 × Int) (e : Ending) (w' : World) : Prop := ∃ v, e = .returned (.tuple #[v, .int .i64 x.2]) ∧ OW w.heap.size w' v x.1 ∧ Below w.heap.size w w'
theorem readO {w : World} {v : Value} {o : Option (List UInt8)} (h : PO w v o) (s : Int) : Calls Try.prog 17 #[v, .int .i64 s] w (RdE w (rdO s o)) := by
  cases o with
  | none =>
    rw [show v = .pointer none from h]
    refine (read_nil s w).mono ?_
    rintro e w1 ⟨rfl, rfl⟩
    exact ⟨_, rfl, World.ownsRow_nil _ _ _ _, Below.refl _ _⟩
  | some l =>
    obtain ⟨p, rfl, S, h⟩ := h
    by_cases hs : 0 ≤ s ∧ 64 * s + 64 ≤ l.length
    · simp only [rdO, if_pos hs]
      obtain ⟨n, rfl⟩ : ∃ n : Nat, s = n := ⟨s.toNat, by omega⟩
      have := read h n (by show 64 * n + 64 ≤ l.length; omega)
      exact this
    · simp only [rdO, if_neg hs]
      refine (read_no h s (by show s < 0 ∨ (l.length : Int) < _; omega)).mono ?_
      rintro e w1 ⟨rfl, rfl⟩
      exact ⟨_, rfl, World.ownsRow_nil _ _ _ _, Below.refl _ _⟩
theorem rreadO {w : World} {v : Value} {o : Option (List UInt8)} (h : RO w v o) (s : Int) : Calls Try.prog 18 #[v, .int .i64 s] w (RdE w (rdO s o)) := by
  cases o with
  | none =>
    rw [show v = .pointer none from h]
    refine (rread_nil s w).mono ?_
    rintro e w1 ⟨rfl, rfl⟩
    exact ⟨_, rfl, World.ownsRow_nil _ _ _ _, Below.refl _ _⟩
  | some l =>
    obtain ⟨p, rfl, h, hg⟩ := h
    have hx : l.length ≤ 4194304 := hg.max
    have hm : l.length % 64 = 0 := hg.mul
    by_cases hs : 0 ≤ s ∧ 64 * s + 64 ≤ l.length
    · simp only [rdO, if_pos hs]
      obtain ⟨n, rfl⟩ : ∃ n : Nat, s = n := ⟨s.toNat, by omega⟩
      exact rread h n (by omega) hx
    · simp only [rdO, if_neg hs]
      refine (rread_no h s (by omega) hm hx).mono ?_
      rintro e w1 ⟨rfl, rfl⟩
      exact ⟨_, rfl, World.ownsRow_nil _ _ _ _, Below.refl _ _⟩
theorem sizeO {w : World} {v : Value} {o : Option (List UInt8)} (h : PO w v o) : Calls Try.prog 15 #[v] w fun e w' => e = .returned (.int .i64 (szO o)) ∧ w' = w := by
  cases o with
  | none => rw [show v = .pointer none from h]; exact size_nil w
  | some l =>
    obtain ⟨p, rfl, S, h⟩ := h
    exact size h
theorem rsizeO {w : World} {v : Value} {o : Option (List UInt8)} (h : RO w v o) : Calls Try.prog 16 #[v] w fun e w' => e = .returned (.int .i64 (szO o)) ∧ w' = w := by
  cases o with
  | none => rw [show v = .pointer none from h]; exact rsize_nil w
  | some l =>
    obtain ⟨p, rfl, h, hg⟩ := h
    exact rsize h hg.max
theorem pendO {w : World} {v : Value} {o : Option (List UInt8)} (h : PO w v o) : Calls Try.prog 19 #[v] w fun e w' => ∃ a c, e = .returned (.slice a 0 c) ∧ Below w.heap.size w w' := by
  cases o with
  | none =>
    rw [show v = .pointer none from h]
    refine (pending_nil w).mono ?_
    rintro e w1 ⟨rfl, rfl⟩
    exact ⟨none, 0, rfl, Below.refl _ _⟩
  | some l =>
    obtain ⟨p, rfl, S, h⟩ := h
    refine (pending h (by show ([] : List Wt).length ≤ _; simp)).mono ?_
    rintro e w1 ⟨v, rfl, ho, hb⟩
    obtain ⟨a, c, e⟩ := ownsRow_form ho
    exact ⟨a, c, by rw [e]; rfl, hb⟩
def newO (n : Int) : Option (List UInt8) := if 1 ≤ n ∧ n ≤ 65536 then some (zr (64 * n.toNat)) else none
def loadO (l : List UInt8) : Option (List UInt8) := if l.length % 64 = 0 ∧ 64 ≤ l.length ∧ l.length ≤ 4194304 then some l else none
def erN (k : Int) : Option (List UInt8) → Int
  | none => k
  | some _ => 0
def NewO (w : World) (k : Int) (o : Option (List UInt8)) (e : Ending) (w' : World) : Prop := ∃ v, e = .returned (.tuple #[v, .int .i64 (erN k o)]) ∧ PO w' v o ∧ Below w.heap.size w w'
def RNewO (w : World) (k : Int) (o : Option (List UInt8)) (e : Ending) (w' : World) : Prop := ∃ v, e = .returned (.tuple #[v, .int .i64 (erN k o)]) ∧ RO w' v o ∧ Below w.heap.size w w'
theorem new_any (n : Int) (w : World) : Calls Try.prog 10 #[.int .i64 n] w (NewO w 120 (newO n)) := by
  by_cases h : 1 ≤ n ∧ n ≤ 65536
  · obtain ⟨m, rfl⟩ : ∃ m : Nat, n = m := ⟨n.toNat, by omega⟩
    simp only [newO, if_pos h]
    refine (new_ok m w (by omega) (by omega)).mono ?_
    rintro e w1 ⟨p, rfl, _, h1, h2⟩
    exact ⟨_, rfl, ⟨p, rfl, _, h1⟩, h2⟩
  · simp only [newO, if_neg h]
    refine (new_no n w (by omega)).mono ?_
    rintro e w1 ⟨rfl, rfl⟩
    exact ⟨_, rfl, rfl, Below.refl _ _⟩
theorem rnew_any (n : Int) (w : World) : Calls Try.prog 11 #[.int .i64 n] w (RNewO w 120 (newO n)) := by
  by_cases h : 1 ≤ n ∧ n ≤ 65536
  · obtain ⟨m, rfl⟩ : ∃ m : Nat, n = m := ⟨n.toNat, by omega⟩
    simp only [newO, if_pos h]
    refine (rnew_ok m w (by omega) (by omega)).mono ?_
    rintro e w1 ⟨p, rfl, h1, h2⟩
    exact ⟨_, rfl, ⟨p, rfl, h1, gd_new _ (by rw [zr_len]; omega) (by rw [zr_len]; omega) (by rw [zr_len]; omega)⟩, h2⟩
  · simp only [newO, if_neg h]
    refine (rnew_no n w (by omega)).mono ?_
    rintro e w1 ⟨rfl, rfl⟩
    exact ⟨_, rfl, rfl, Below.refl _ _⟩
theorem load_any (v : Value) (l : List UInt8) (w : World) (hr : RB w v l) (hl : l.length ≤ 140737488351232) : Calls Try.prog 12 #[v] w (NewO w 122 (loadO l)) := by
  by_cases h : l.length % 64 = 0 ∧ 64 ≤ l.length ∧ l.length ≤ 4194304
  · simp only [loadO, if_pos h]
    refine (load_ok v l w hr h.1 h.2.1 h.2.2).mono ?_
    rintro e w1 ⟨p, rfl, _, h1, h2⟩
    exact ⟨_, rfl, ⟨p, rfl, _, h1⟩, h2⟩
  · simp only [loadO, if_neg h]
    refine (load_no v l w hr (by omega) h).mono ?_
    rintro e w1 ⟨rfl, rfl⟩
    exact ⟨_, rfl, rfl, Below.refl _ _⟩
theorem rload_any (v : Value) (l : List UInt8) (w : World) (hr : RB w v l) (hl : l.length ≤ 140737488351232) : Calls Try.prog 13 #[v] w (RNewO w 122 (loadO l)) := by
  by_cases h : l.length % 64 = 0 ∧ 64 ≤ l.length ∧ l.length ≤ 4194304
  · simp only [loadO, if_pos h]
    refine (rload_ok v l w hr h.1 h.2.1 h.2.2).mono ?_
    rintro e w1 ⟨p, rfl, h1, h2⟩
    exact ⟨_, rfl, ⟨p, rfl, h1, gd_new l h.1 h.2.1 h.2.2⟩, h2⟩
  · simp only [loadO, if_neg h]
    refine (rload_no v l w hr (by omega) h).mono ?_
    rintro e w1 ⟨rfl, rfl⟩
    exact ⟨_, rfl, rfl, Below.refl _ _⟩
theorem PO.form {w : World} {v : Value} {o : Option (List UInt8)} (h : PO w v o) : v = .pointer none ∧ o = none ∨ ∃ p l, v = .pointer (some ⟨p, 0, none⟩) ∧ o = some l := by
  cases o with
  | none => exact .inl ⟨h, rfl⟩
  | some l => obtain ⟨p, e, _⟩ := h; exact .inr ⟨p, l, e, rfl⟩
theorem RO.form {w : World} {v : Value} {o : Option (List UInt8)} (h : RO w v o) : v = .pointer none ∧ o = none ∨ ∃ p l, v = .pointer (some ⟨p, 0, none⟩) ∧ o = some l := by
  cases o with
  | none => exact .inl ⟨h, rfl⟩
  | some l => obtain ⟨p, e, _⟩ := h; exact .inr ⟨p, l, e, rfl⟩
theorem rdO_len (s : Int) (o : Option (List UInt8)) : (rdO s o).1.length ≤ 64 := by
  cases o with
  | none => simp [rdO]
  | some l =>
    unfold rdO
    dsimp only
    split
    · simp [sec]; omega
    · simp
/-- what the law has at hand -/
structure ME (w : World) (v v1 va vb vc vd : Value) (l : List UInt8) (oa oc : Option (List UInt8)) (w0 : World) : Prop where
  b : Below w0.heap.size w0 w
  r : RB w v l
  r1 : RB w v1 l
  a : PO w va oa
  b' : RO w vb oa
  c : PO w vc oc
  d : RO w vd oc
theorem ME.on {w w' : World} {v v1 va vb vc vd : Value} {l : List UInt8} {oa oc : Option (List UInt8)} {w0 : World} (h : ME w v v1 va vb vc vd l oa oc w0) (hb : Below w.heap.size w w') : ME w' v v1 va vb vc vd l oa oc w0 :=
  ⟨h.b.trans (hb.mono h.b.size), h.r.keep hb, h.r1.keep hb, h.a.below hb, h.b'.below hb, h.c.below hb, h.d.below hb⟩
set_option maxHeartbeats 4000000 in
set_option maxRecDepth 100000 in
theorem makes_tt (n s : Int) (v0 : Value) (l : List UInt8) (w : World) (hr : RB w v0 l) (hl : l.length ≤ 140737488351232) (oa oc : Option (List UInt8)) (ka kc : Int)
    (hN : ∀ u, Calls Try.prog 10 #[.int .i64 n] u (NewO u ka oa)) (hRN : ∀ u, Calls Try.prog 11 #[.int .i64 n] u (RNewO u ka oa))
    (hL : ∀ u v, RB u v l → Calls Try.prog 12 #[v] u (NewO u kc oc)) (hRL : ∀ u v, RB u v l → Calls Try.prog 13 #[v] u (RNewO u kc oc)) (hxa : oa.isSome = true) (hxc : oc.isSome = true) :
    Calls Try.prog 3 #[.int .i64 n, v0, .int .i64 s] w fun e w' => e = .returned (.bool true) ∧ Below w.heap.size w w' := by
  obtain ⟨a0, c0, hv0, hle0, _⟩ := id hr
  have HR : Hid (RB w v0 l) := hr
  have HT := Lib.hid (twin v0 l w hr hl)
  have HN := Lib.hid hN
  have HRN := Lib.hid hRN
  have HL : Hid (∀ u v, RB u v l → Calls Try.prog 12 #[v] u (NewO u kc oc)) := hL
  have HRL : Hid (∀ u v, RB u v l → Calls Try.prog 13 #[v] u (RNewO u kc oc)) := hRL
  have HX : Hid (oa.isSome = true ∧ oc.isSome = true) := ⟨hxa, hxc⟩
  have HLL : Hid (l.length ≤ 140737488351232) := hl
  clear hr hN hRN hL hRL hxa hxc
  subst hv0
  generalize hn : l.length = ln at *
  have HLN : Hid (l.length = ln) := hn
  clear hn
  go_enter Try.func3, Try.ntmps3
  go_wp2_with fail
  refine HT.out.mono ?_
  rintro e w1 ⟨v1, rfl, ho1, hb1⟩
  obtain ⟨a1, c1, rfl⟩ := ho1.form
  have R1 : Hid (RB w1 (.slice a0 ln c0) l ∧ RB w1 (.slice a1 l.length c1) l ∧ Below w.heap.size w w1) := ⟨HR.out.keep hb1, ho1.rb, hb1⟩
  rw [HLN.out] at R1 ⊢
  clear ho1 hb1 HT
  go_wp2_with fail
  refine (HN.out w1).mono ?_
  rintro e w2 ⟨va, rfl, ha, hb2⟩
  have hfa := ha.form
  have R2 : Hid (RB w2 (.slice a0 ln c0) l ∧ RB w2 (.slice a1 ln c1) l ∧ Below w.heap.size w w2 ∧ PO w2 va oa) := ⟨R1.out.1.keep hb2, R1.out.2.1.keep hb2, R1.out.2.2.trans (hb2.mono R1.out.2.2.size), ha⟩
  clear R1 ha hb2
  obtain ⟨pa, hva⟩ : ∃ p, va = .pointer (some ⟨p, 0, none⟩) := by
    rcases hfa with ⟨_, e⟩ | ⟨p, _, e, _⟩
    · have := HX.out.1; rw [e] at this; cases this
    · exact ⟨p, e⟩
  subst hva
  clear hfa
  go_wp2_with fail
  refine (HRN.out w2).mono ?_
  rintro e w3 ⟨vb, rfl, ha, hb2⟩
  have hfa := ha.form
  have R3 : Hid (RB w3 (.slice a0 ln c0) l ∧ RB w3 (.slice a1 ln c1) l ∧ Below w.heap.size w w3 ∧ PO w3 _ oa ∧ RO w3 vb oa) := ⟨R2.out.1.keep hb2, R2.out.2.1.keep hb2, R2.out.2.2.1.trans (hb2.mono R2.out.2.2.1.size), R2.out.2.2.2.below hb2, ha⟩
  clear R2 ha hb2
  obtain ⟨pb, hvb⟩ : ∃ p, vb = .pointer (some ⟨p, 0, none⟩) := by
    rcases hfa with ⟨_, e⟩ | ⟨p, _, e, _⟩
    · have := HX.out.1; rw [e] at this; cases this
    · exact ⟨p, e⟩
  subst hvb
  clear hfa
  go_wp2_with fail
  refine (HL.out w3 _ R3.out.1).mono ?_
  rintro e w4 ⟨vc, rfl, ha, hb2⟩
  have hfa := ha.form
  have R4 : Hid (RB w4 (.slice a0 ln c0) l ∧ RB w4 (.slice a1 ln c1) l ∧ Below w.heap.size w w4 ∧ PO w4 _ oa ∧ RO w4 _ oa ∧ PO w4 vc oc) := ⟨R3.out.1.keep hb2, R3.out.2.1.keep hb2, R3.out.2.2.1.trans (hb2.mono R3.out.2.2.1.size), R3.out.2.2.2.1.below hb2, R3.out.2.2.2.2.below hb2, ha⟩
  clear R3 ha hb2
  obtain ⟨pc, hvc⟩ : ∃ p, vc = .pointer (some ⟨p, 0, none⟩) := by
    rcases hfa with ⟨_, e⟩ | ⟨p, _, e, _⟩
    · have := HX.out.2; rw [e] at this; cases this
    · exact ⟨p, e⟩
  subst hvc
  clear hfa
  go_wp2_with fail
  refine (HRL.out w4 _ R4.out.2.1).mono ?_
  rintro e w5 ⟨vd, rfl, ha, hb2⟩
  have hfa := ha.form
  have M5 : Hid (ME w5 (.slice a0 ln c0) (.slice a1 ln c1) _ _ _ vd l oa oc w) := ⟨R4.out.2.2.1.trans (hb2.mono R4.out.2.2.1.size), R4.out.1.keep hb2, R4.out.2.1.keep hb2, R4.out.2.2.2.1.below hb2, R4.out.2.2.2.2.1.below hb2, R4.out.2.2.2.2.2.below hb2, ha⟩
  clear R4 ha hb2 HN HRN HL HRL HR
  obtain ⟨pd, hvd⟩ : ∃ p, vd = .pointer (some ⟨p, 0, none⟩) := by
    rcases hfa with ⟨_, e⟩ | ⟨p, _, e, _⟩
    · have := HX.out.2; rw [e] at this; cases this
    · exact ⟨p, e⟩
  subst hvd
  clear hfa
  have HS := Lib.hid (same _ _ l w5 (by rw [HLN.out]; exact HLL.out) M5.out.r M5.out.r1)
  generalize erN ka oa = xa
  generalize erN kc oc = xc
  go_wp2_with fail
  refine HS.out.mono ?_
  rintro e w6 ⟨rfl, nq, rfl⟩
  have M6 : Hid (ME (w5.drewN nq) (.slice a0 ln c0) (.slice a1 ln c1) _ _ _ _ l oa oc w) := M5.out.on (belowDrew _ _)
  clear HS M5
  generalize w5.drewN nq = w6 at *
  go_wp2_with fail
  refine (sizeO M6.out.a).mono ?_
  rintro e w7 ⟨rfl, rfl⟩
  go_wp2_with fail
  refine (rsizeO M6.out.b').mono ?_
  rintro e w8 ⟨rfl, rfl⟩
  generalize szO oa = za
  go_wp2_with fail
  refine (sizeO M6.out.c).mono ?_
  rintro e w7 ⟨rfl, rfl⟩
  go_wp2_with fail
  refine (rsizeO M6.out.d).mono ?_
  rintro e w8 ⟨rfl, rfl⟩
  generalize szO oc = zc
  go_wp2_with fail
  refine (readO M6.out.a s).mono ?_
  rintro e w7 ⟨r1, rfl, ho, hb⟩
  have M7 := Lib.hid (M6.out.on hb)
  have Q7 : Hid (RB w7 r1 (rdO s oa).1) := ho.rb
  obtain ⟨f1, g1, rfl⟩ := ho.form
  clear ho hb
  go_wp2_with fail
  refine (rreadO M7.out.b' s).mono ?_
  rintro e w8 ⟨r2, rfl, ho, hb⟩
  have M8 := Lib.hid (M7.out.on hb)
  have Q8 : Hid (RB w8 (.slice f1 (rdO s oa).1.length g1) (rdO s oa).1 ∧ RB w8 r2 (rdO s oa).1) := ⟨Q7.out.keep hb, ho.rb⟩
  obtain ⟨f2, g2, rfl⟩ := ho.form
  clear ho hb M6 M7 Q7
  go_wp2_with fail
  refine (readO M8.out.c s).mono ?_
  rintro e w9 ⟨r3, rfl, ho, hb⟩
  have M9 := Lib.hid (M8.out.on hb)
  have Q9 : Hid (RB w9 (.slice f1 (rdO s oa).1.length g1) (rdO s oa).1 ∧ RB w9 (.slice f2 (rdO s oa).1.length g2) (rdO s oa).1 ∧ RB w9 r3 (rdO s oc).1) := ⟨Q8.out.1.keep hb, Q8.out.2.keep hb, ho.rb⟩
  obtain ⟨f3, g3, rfl⟩ := ho.form
  clear ho hb M8 Q8
  go_wp2_with fail
  refine (rreadO M9.out.d s).mono ?_
  rintro e w10 ⟨r4, rfl, ho, hb⟩
  have M10 := Lib.hid (M9.out.on hb)
  have Q10 : Hid (RB w10 (.slice f1 (rdO s oa).1.length g1) (rdO s oa).1 ∧ RB w10 (.slice f2 (rdO s oa).1.length g2) (rdO s oa).1 ∧ RB w10 (.slice f3 (rdO s oc).1.length g3) (rdO s oc).1 ∧ RB w10 r4 (rdO s oc).1) := ⟨Q9.out.1.keep hb, Q9.out.2.1.keep hb, Q9.out.2.2.keep hb, ho.rb⟩
  obtain ⟨f4, g4, rfl⟩ := ho.form
  clear ho hb M9 Q9
  have HLA : Hid ((rdO s oa).1.length ≤ 64 ∧ (rdO s oc).1.length ≤ 64) := ⟨rdO_len s oa, rdO_len s oc⟩
  generalize rdO s oa = ra at *
  generalize rdO s oc = rc at *
  generalize ra.2 = ea at *
  generalize rc.2 = ec at *
  generalize hna : ra.1.length = na at *
  generalize hnc : rc.1.length = nc at *
  have HNA : Hid (ra.1.length = na ∧ rc.1.length = nc) := ⟨hna, hnc⟩
  clear hna hnc
  go_wp2_with fail
  refine (same _ _ _ w10 (by have := HLA.out; have := HNA.out; omega) Q10.out.1 Q10.out.2.1).mono ?_
  rintro e w11 ⟨rfl, nq, rfl⟩
  have M11 := Lib.hid (M10.out.on (belowDrew w10 nq))
  have Q11 : Hid (RB (w10.drewN nq) (.slice f3 nc g3) rc.1 ∧ RB (w10.drewN nq) (.slice f4 nc g4) rc.1) := ⟨Q10.out.2.2.1.keep (belowDrew _ _), Q10.out.2.2.2.keep (belowDrew _ _)⟩
  clear M10 Q10
  generalize w10.drewN nq = w11 at *
  go_wp2_with fail
  refine (same _ _ _ w11 (by have := HLA.out; have := HNA.out; omega) Q11.out.1 Q11.out.2).mono ?_
  rintro e w12 ⟨rfl, nq2, rfl⟩
  have M12 := Lib.hid (M11.out.on (belowDrew w11 nq2))
  clear M11 Q11
  generalize w11.drewN nq2 = w12 at *
  go_wp2_with fail
  refine (pendO M12.out.a).mono ?_
  rintro e w13 ⟨i1, j1, rfl, hb⟩
  have M13 := Lib.hid (M12.out.on hb)
  clear M12 hb
  go_wp2_with fail
  refine (pendO M13.out.c).mono ?_
  rintro e w14 ⟨i2, j2, rfl, hb⟩
  have M14 := Lib.hid (M13.out.on hb)
  clear M13 hb
  go_wp2_with fail
  go_ret
  exact ⟨rfl, M14.out.b⟩
set_option maxHeartbeats 4000000 in
set_option maxRecDepth 100000 in
theorem makes_tf (n s : Int) (v0 : Value) (l : List UInt8) (w : World) (hr : RB w v0 l) (hl : l.length ≤ 140737488351232) (oa oc : Option (List UInt8)) (ka kc : Int)
    (hN : ∀ u, Calls Try.prog 10 #[.int .i64 n] u (NewO u ka oa)) (hRN : ∀ u, Calls Try.prog 11 #[.int .i64 n] u (RNewO u ka oa))
    (hL : ∀ u v, RB u v l → Calls Try.prog 12 #[v] u (NewO u kc oc)) (hRL : ∀ u v, RB u v l → Calls Try.prog 13 #[v] u (RNewO u kc oc)) (hxa : oa.isSome = true) (hxc : oc.isSome = false) :
    Calls Try.prog 3 #[.int .i64 n, v0, .int .i64 s] w fun e w' => e = .returned (.bool true) ∧ Below w.heap.size w w' := by
  obtain ⟨a0, c0, hv0, hle0, _⟩ := id hr
  have HR : Hid (RB w v0 l) := hr
  have HT := Lib.hid (twin v0 l w hr hl)
  have HN := Lib.hid hN
  have HRN := Lib.hid hRN
  have HL : Hid (∀ u v, RB u v l → Calls Try.prog 12 #[v] u (NewO u kc oc)) := hL
  have HRL : Hid (∀ u v, RB u v l → Calls Try.prog 13 #[v] u (RNewO u kc oc)) := hRL
  have HX : Hid (oa.isSome = true ∧ oc.isSome = false) := ⟨hxa, hxc⟩
  have HLL : Hid (l.length ≤ 140737488351232) := hl
  clear hr hN hRN hL hRL hxa hxc
  subst hv0
  generalize hn : l.length = ln at *
  have HLN : Hid (l.length = ln) := hn
  clear hn
  go_enter Try.func3, Try.ntmps3
  go_wp2_with fail
  refine HT.out.mono ?_
  rintro e w1 ⟨v1, rfl, ho1, hb1⟩
  obtain ⟨a1, c1, rfl⟩ := ho1.form
  have R1 : Hid (RB w1 (.slice a0 ln c0) l ∧ RB w1 (.slice a1 l.length c1) l ∧ Below w.heap.size w w1) := ⟨HR.out.keep hb1, ho1.rb, hb1⟩
  rw [HLN.out] at R1 ⊢
  clear ho1 hb1 HT
  go_wp2_with fail
  refine (HN.out w1).mono ?_
  rintro e w2 ⟨va, rfl, ha, hb2⟩
  have hfa := ha.form
  have R2 : Hid (RB w2 (.slice a0 ln c0) l ∧ RB w2 (.slice a1 ln c1) l ∧ Below w.heap.size w w2 ∧ PO w2 va oa) := ⟨R1.out.1.keep hb2, R1.out.2.1.keep hb2, R1.out.2.2.trans (hb2.mono R1.out.2.2.size), ha⟩
  clear R1 ha hb2
  obtain ⟨pa, hva⟩ : ∃ p, va = .pointer (some ⟨p, 0, none⟩) := by
    rcases hfa with ⟨_, e⟩ | ⟨p, _, e, _⟩
    · have := HX.out.1; rw [e] at this; cases this
    · exact ⟨p, e⟩
  subst hva
  clear hfa
  go_wp2_with fail
  refine (HRN.out w2).mono ?_
  rintro e w3 ⟨vb, rfl, ha, hb2⟩
  have hfa := ha.form
  have R3 : Hid (RB w3 (.slice a0 ln c0) l ∧ RB w3 (.slice a1 ln c1) l ∧ Below w.heap.size w w3 ∧ PO w3 _ oa ∧ RO w3 vb oa) := ⟨R2.out.1.keep hb2, R2.out.2.1.keep hb2, R2.out.2.2.1.trans (hb2.mono R2.out.2.2.1.size), R2.out.2.2.2.below hb2, ha⟩
  clear R2 ha hb2
  obtain ⟨pb, hvb⟩ : ∃ p, vb = .pointer (some ⟨p, 0, none⟩) := by
    rcases hfa with ⟨_, e⟩ | ⟨p, _, e, _⟩
    · have := HX.out.1; rw [e] at this; cases this
    · exact ⟨p, e⟩
  subst hvb
  clear hfa
  go_wp2_with fail
  refine (HL.out w3 _ R3.out.1).mono ?_
  rintro e w4 ⟨vc, rfl, ha, hb2⟩
  have hfa := ha.form
  have R4 : Hid (RB w4 (.slice a0 ln c0) l ∧ RB w4 (.slice a1 ln c1) l ∧ Below w.heap.size w w4 ∧ PO w4 _ oa ∧ RO w4 _ oa ∧ PO w4 vc oc) := ⟨R3.out.1.keep hb2, R3.out.2.1.keep hb2, R3.out.2.2.1.trans (hb2.mono R3.out.2.2.1.size), R3.out.2.2.2.1.below hb2, R3.out.2.2.2.2.below hb2, ha⟩
  clear R3 ha hb2
  obtain hvc : vc = .pointer none := by
    rcases hfa with ⟨e, _⟩ | ⟨p, l', _, e⟩
    · exact e
    · have := HX.out.2; rw [e] at this; cases this
  subst hvc
  clear hfa
  go_wp2_with fail
  refine (HRL.out w4 _ R4.out.2.1).mono ?_
  rintro e w5 ⟨vd, rfl, ha, hb2⟩
  have hfa := ha.form
  have M5 : Hid (ME w5 (.slice a0 ln c0) (.slice a1 ln c1) _ _ _ vd l oa oc w) := ⟨R4.out.2.2.1.trans (hb2.mono R4.out.2.2.1.size), R4.out.1.keep hb2, R4.out.2.1.keep hb2, R4.out.2.2.2.1.below hb2, R4.out.2.2.2.2.1.below hb2, R4.out.2.2.2.2.2.below hb2, ha⟩
  clear R4 ha hb2 HN HRN HL HRL HR
  obtain hvd : vd = .pointer none := by
    rcases hfa with ⟨e, _⟩ | ⟨p, l', _, e⟩
    · exact e
    · have := HX.out.2; rw [e] at this; cases this
  subst hvd
  clear hfa
  have HS := Lib.hid (same _ _ l w5 (by rw [HLN.out]; exact HLL.out) M5.out.r M5.out.r1)
  generalize erN ka oa = xa
  generalize erN kc oc = xc
  go_wp2_with fail
  refine HS.out.mono ?_
  rintro e w6 ⟨rfl, nq, rfl⟩
  have M6 : Hid (ME (w5.drewN nq) (.slice a0 ln c0) (.slice a1 ln c1) _ _ _ _ l oa oc w) := M5.out.on (belowDrew _ _)
  clear HS M5
  generalize w5.drewN nq = w6 at *
  go_wp2_with fail
  refine (sizeO M6.out.a).mono ?_
  rintro e w7 ⟨rfl, rfl⟩
  go_wp2_with fail
  refine (rsizeO M6.out.b').mono ?_
  rintro e w8 ⟨rfl, rfl⟩
  generalize szO oa = za
  go_wp2_with fail
  refine (sizeO M6.out.c).mono ?_
  rintro e w7 ⟨rfl, rfl⟩
  go_wp2_with fail
  refine (rsizeO M6.out.d).mono ?_
  rintro e w8 ⟨rfl, rfl⟩
  generalize szO oc = zc
  go_wp2_with fail
  refine (readO M6.out.a s).mono ?_
  rintro e w7 ⟨r1, rfl, ho, hb⟩
  have M7 := Lib.hid (M6.out.on hb)
  have Q7 : Hid (RB w7 r1 (rdO s oa).1) := ho.rb
  obtain ⟨f1, g1, rfl⟩ := ho.form
  clear ho hb
  go_wp2_with fail
  refine (rreadO M7.out.b' s).mono ?_
  rintro e w8 ⟨r2, rfl, ho, hb⟩
  have M8 := Lib.hid (M7.out.on hb)
  have Q8 : Hid (RB w8 (.slice f1 (rdO s oa).1.length g1) (rdO s oa).1 ∧ RB w8 r2 (rdO s oa).1) := ⟨Q7.out.keep hb, ho.rb⟩
  obtain ⟨f2, g2, rfl⟩ := ho.form
  clear ho hb M6 M7 Q7
  go_wp2_with fail
  refine (readO M8.out.c s).mono ?_
  rintro e w9 ⟨r3, rfl, ho, hb⟩
  have M9 := Lib.hid (M8.out.on hb)
  have Q9 : Hid (RB w9 (.slice f1 (rdO s oa).1.length g1) (rdO s oa).1 ∧ RB w9 (.slice f2 (rdO s oa).1.length g2) (rdO s oa).1 ∧ RB w9 r3 (rdO s oc).1) := ⟨Q8.out.1.keep hb, Q8.out.2.keep hb, ho.rb⟩
  obtain ⟨f3, g3, rfl⟩ := ho.form
  clear ho hb M8 Q8
  go_wp2_with fail
  refine (rreadO M9.out.d s).mono ?_
  rintro e w10 ⟨r4, rfl, ho, hb⟩
  have M10 := Lib.hid (M9.out.on hb)
  have Q10 : Hid (RB w10 (.slice f1 (rdO s oa).1.length g1) (rdO s oa).1 ∧ RB w10 (.slice f2 (rdO s oa).1.length g2) (rdO s oa).1 ∧ RB w10 (.slice f3 (rdO s oc).1.length g3) (rdO s oc).1 ∧ RB w10 r4 (rdO s oc).1) := ⟨Q9.out.1.keep hb, Q9.out.2.1.keep hb, Q9.out.2.2.keep hb, ho.rb⟩
  obtain ⟨f4, g4, rfl⟩ := ho.form
  clear ho hb M9 Q9
  have HLA : Hid ((rdO s oa).1.length ≤ 64 ∧ (rdO s oc).1.length ≤ 64) := ⟨rdO_len s oa, rdO_len s oc⟩
  generalize rdO s oa = ra at *
  generalize rdO s oc = rc at *
  generalize ra.2 = ea at *
  generalize rc.2 = ec at *
  generalize hna : ra.1.length = na at *
  generalize hnc : rc.1.length = nc at *
  have HNA : Hid (ra.1.length = na ∧ rc.1.length = nc) := ⟨hna, hnc⟩
  clear hna hnc
  go_wp2_with fail
  refine (same _ _ _ w10 (by have := HLA.out; have := HNA.out; omega) Q10.out.1 Q10.out.2.1).mono ?_
  rintro e w11 ⟨rfl, nq, rfl⟩
  have M11 := Lib.hid (M10.out.on (belowDrew w10 nq))
  have Q11 : Hid (RB (w10.drewN nq) (.slice f3 nc g3) rc.1 ∧ RB (w10.drewN nq) (.slice f4 nc g4) rc.1) := ⟨Q10.out.2.2.1.keep (belowDrew _ _), Q10.out.2.2.2.keep (belowDrew _ _)⟩
  clear M10 Q10
  generalize w10.drewN nq = w11 at *
  go_wp2_with fail
  refine (same _ _ _ w11 (by have := HLA.out; have := HNA.out; omega) Q11.out.1 Q11.out.2).mono ?_
  rintro e w12 ⟨rfl, nq2, rfl⟩
  have M12 := Lib.hid (M11.out.on (belowDrew w11 nq2))
  clear M11 Q11
  generalize w11.drewN nq2 = w12 at *
  go_wp2_with fail
  refine (pendO M12.out.a).mono ?_
  rintro e w13 ⟨i1, j1, rfl, hb⟩
  have M13 := Lib.hid (M12.out.on hb)
  clear M12 hb
  go_wp2_with fail
  refine (pendO M13.out.c).mono ?_
  rintro e w14 ⟨i2, j2, rfl, hb⟩
  have M14 := Lib.hid (M13.out.on hb)
  clear M13 hb
  go_wp2_with fail
  go_ret
  exact ⟨rfl, M14.out.b⟩
set_option maxHeartbeats 4000000 in
set_option maxRecDepth 100000 in
theorem makes_ft (n s : Int) (v0 : Value) (l : List UInt8) (w : World) (hr : RB w v0 l) (hl : l.length ≤ 140737488351232) (oa oc : Option (List UInt8)) (ka kc : Int)
    (hN : ∀ u, Calls Try.prog 10 #[.int .i64 n] u (NewO u ka oa)) (hRN : ∀ u, Calls Try.prog 11 #[.int .i64 n] u (RNewO u ka oa))
    (hL : ∀ u v, RB u v l → Calls Try.prog 12 #[v] u (NewO u kc oc)) (hRL : ∀ u v, RB u v l → Calls Try.prog 13 #[v] u (RNewO u kc oc)) (hxa : oa.isSome = false) (hxc : oc.isSome = true) :
    Calls Try.prog 3 #[.int .i64 n, v0, .int .i64 s] w fun e w' => e = .returned (.bool true) ∧ Below w.heap.size w w' := by
  obtain ⟨a0, c0, hv0, hle0, _⟩ := id hr
  have HR : Hid (RB w v0 l) := hr
  have HT := Lib.hid (twin v0 l w hr hl)
  have HN := Lib.hid hN
  have HRN := Lib.hid hRN
  have HL : Hid (∀ u v, RB u v l → Calls Try.prog 12 #[v] u (NewO u kc oc)) := hL
  have HRL : Hid (∀ u v, RB u v l → Calls Try.prog 13 #[v] u (RNewO u kc oc)) := hRL
  have HX : Hid (oa.isSome = false ∧ oc.isSome = true) := ⟨hxa, hxc⟩
  have HLL : Hid (l.length ≤ 140737488351232) := hl
  clear hr hN hRN hL hRL hxa hxc
  subst hv0
  generalize hn : l.length = ln at *
  have HLN : Hid (l.length = ln) := hn
  clear hn
  go_enter Try.func3, Try.ntmps3
  go_wp2_with fail
  refine HT.out.mono ?_
  rintro e w1 ⟨v1, rfl, ho1, hb1⟩
  obtain ⟨a1, c1, rfl⟩ := ho1.form
  have R1 : Hid (RB w1 (.slice a0 ln c0) l ∧ RB w1 (.slice a1 l.length c1) l ∧ Below w.heap.size w w1) := ⟨HR.out.keep hb1, ho1.rb, hb1⟩
  rw [HLN.out] at R1 ⊢
  clear ho1 hb1 HT
  go_wp2_with fail
  refine (HN.out w1).mono ?_
  rintro e w2 ⟨va, rfl, ha, hb2⟩
  have hfa := ha.form
  have R2 : Hid (RB w2 (.slice a0 ln c0) l ∧ RB w2 (.slice a1 ln c1) l ∧ Below w.heap.size w w2 ∧ PO w2 va oa) := ⟨R1.out.1.keep hb2, R1.out.2.1.keep hb2, R1.out.2.2.trans (hb2.mono R1.out.2.2.size), ha⟩
  clear R1 ha hb2
  obtain hva : va = .pointer none := by
    rcases hfa with ⟨e, _⟩ | ⟨p, l', _, e⟩
    · exact e
    · have := HX.out.1; rw [e] at this; cases this
  subst hva
  clear hfa
  go_wp2_with fail
  refine (HRN.out w2).mono ?_
  rintro e w3 ⟨vb, rfl, ha, hb2⟩
  have hfa := ha.form
  have R3 : Hid (RB w3 (.slice a0 ln c0) l ∧ RB w3 (.slice a1 ln c1) l ∧ Below w.heap.size w w3 ∧ PO w3 _ oa ∧ RO w3 vb oa) := ⟨R2.out.1.keep hb2, R2.out.2.1.keep hb2, R2.out.2.2.1.trans (hb2.mono R2.out.2.2.1.size), R2.out.2.2.2.below hb2, ha⟩
  clear R2 ha hb2
  obtain hvb : vb = .pointer none := by
    rcases hfa with ⟨e, _⟩ | ⟨p, l', _, e⟩
    · exact e
    · have := HX.out.1; rw [e] at this; cases this
  subst hvb
  clear hfa
  go_wp2_with fail
  refine (HL.out w3 _ R3.out.1).mono ?_
  rintro e w4 ⟨vc, rfl, ha, hb2⟩
  have hfa := ha.form
  have R4 : Hid (RB w4 (.slice a0 ln c0) l ∧ RB w4 (.slice a1 ln c1) l ∧ Below w.heap.size w w4 ∧ PO w4 _ oa ∧ RO w4 _ oa ∧ PO w4 vc oc) := ⟨R3.out.1.keep hb2, R3.out.2.1.keep hb2, R3.out.2.2.1.trans (hb2.mono R3.out.2.2.1.size), R3.out.2.2.2.1.below hb2, R3.out.2.2.2.2.below hb2, ha⟩
  clear R3 ha hb2
  obtain ⟨pc, hvc⟩ : ∃ p, vc = .pointer (some ⟨p, 0, none⟩) := by
    rcases hfa with ⟨_, e⟩ | ⟨p, _, e, _⟩
    · have := HX.out.2; rw [e] at this; cases this
    · exact ⟨p, e⟩
  subst hvc
  clear hfa
  go_wp2_with fail
  refine (HRL.out w4 _ R4.out.2.1).mono ?_
  rintro e w5 ⟨vd, rfl, ha, hb2⟩
  have hfa := ha.form
  have M5 : Hid (ME w5 (.slice a0 ln c0) (.slice a1 ln c1) _ _ _ vd l oa oc w) := ⟨R4.out.2.2.1.trans (hb2.mono R4.out.2.2.1.size), R4.out.1.keep hb2, R4.out.2.1.keep hb2, R4.out.2.2.2.1.below hb2, R4.out.2.2.2.2.1.below hb2, R4.out.2.2.2.2.2.below hb2, ha⟩
  clear R4 ha hb2 HN HRN HL HRL HR
  obtain ⟨pd, hvd⟩ : ∃ p, vd = .pointer (some ⟨p, 0, none⟩) := by
    rcases hfa with ⟨_, e⟩ | ⟨p, _, e, _⟩
    · have := HX.out.2; rw [e] at this; cases this
    · exact ⟨p, e⟩
  subst hvd
  clear hfa
  have HS := Lib.hid (same _ _ l w5 (by rw [HLN.out]; exact HLL.out) M5.out.r M5.out.r1)
  generalize erN ka oa = xa
  generalize erN kc oc = xc
  go_wp2_with fail
  refine HS.out.mono ?_
  rintro e w6 ⟨rfl, nq, rfl⟩
  have M6 : Hid (ME (w5.drewN nq) (.slice a0 ln c0) (.slice a1 ln c1) _ _ _ _ l oa oc w) := M5.out.on (belowDrew _ _)
  clear HS M5
  generalize w5.drewN nq = w6 at *
  go_wp2_with fail
  refine (sizeO M6.out.a).mono ?_
  rintro e w7 ⟨rfl, rfl⟩
  go_wp2_with fail
  refine (rsizeO M6.out.b').mono ?_
  rintro e w8 ⟨rfl, rfl⟩
  generalize szO oa = za
  go_wp2_with fail
  refine (sizeO M6.out.c).mono ?_
  rintro e w7 ⟨rfl, rfl⟩
  go_wp2_with fail
  refine (rsizeO M6.out.d).mono ?_
  rintro e w8 ⟨rfl, rfl⟩
  generalize szO oc = zc
  go_wp2_with fail
  refine (readO M6.out.a s).mono ?_
  rintro e w7 ⟨r1, rfl, ho, hb⟩
  have M7 := Lib.hid (M6.out.on hb)
  have Q7 : Hid (RB w7 r1 (rdO s oa).1) := ho.rb
  obtain ⟨f1, g1, rfl⟩ := ho.form
  clear ho hb
  go_wp2_with fail
  refine (rreadO M7.out.b' s).mono ?_
  rintro e w8 ⟨r2, rfl, ho, hb⟩
  have M8 := Lib.hid (M7.out.on hb)
  have Q8 : Hid (RB w8 (.slice f1 (rdO s oa).1.length g1) (rdO s oa).1 ∧ RB w8 r2 (rdO s oa).1) := ⟨Q7.out.keep hb, ho.rb⟩
  obtain ⟨f2, g2, rfl⟩ := ho.form
  clear ho hb M6 M7 Q7
  go_wp2_with fail
  refine (readO M8.out.c s).mono ?_
  rintro e w9 ⟨r3, rfl, ho, hb⟩
  have M9 := Lib.hid (M8.out.on hb)
  have Q9 : Hid (RB w9 (.slice f1 (rdO s oa).1.length g1) (rdO s oa).1 ∧ RB w9 (.slice f2 (rdO s oa).1.length g2) (rdO s oa).1 ∧ RB w9 r3 (rdO s oc).1) := ⟨Q8.out.1.keep hb, Q8.out.2.keep hb, ho.rb⟩
  obtain ⟨f3, g3, rfl⟩ := ho.form
  clear ho hb M8 Q8
  go_wp2_with fail
  refine (rreadO M9.out.d s).mono ?_
  rintro e w10 ⟨r4, rfl, ho, hb⟩
  have M10 := Lib.hid (M9.out.on hb)
  have Q10 : Hid (RB w10 (.slice f1 (rdO s oa).1.length g1) (rdO s oa).1 ∧ RB w10 (.slice f2 (rdO s oa).1.length g2) (rdO s oa).1 ∧ RB w10 (.slice f3 (rdO s oc).1.length g3) (rdO s oc).1 ∧ RB w10 r4 (rdO s oc).1) := ⟨Q9.out.1.keep hb, Q9.out.2.1.keep hb, Q9.out.2.2.keep hb, ho.rb⟩
  obtain ⟨f4, g4, rfl⟩ := ho.form
  clear ho hb M9 Q9
  have HLA : Hid ((rdO s oa).1.length ≤ 64 ∧ (rdO s oc).1.length ≤ 64) := ⟨rdO_len s oa, rdO_len s oc⟩
  generalize rdO s oa = ra at *
  generalize rdO s oc = rc at *
  generalize ra.2 = ea at *
  generalize rc.2 = ec at *
  generalize hna : ra.1.length = na at *
  generalize hnc : rc.1.length = nc at *
  have HNA : Hid (ra.1.length = na ∧ rc.1.length = nc) := ⟨hna, hnc⟩
  clear hna hnc
  go_wp2_with fail
  refine (same _ _ _ w10 (by have := HLA.out; have := HNA.out; omega) Q10.out.1 Q10.out.2.1).mono ?_
  rintro e w11 ⟨rfl, nq, rfl⟩
  have M11 := Lib.hid (M10.out.on (belowDrew w10 nq))
  have Q11 : Hid (RB (w10.drewN nq) (.slice f3 nc g3) rc.1 ∧ RB (w10.drewN nq) (.slice f4 nc g4) rc.1) := ⟨Q10.out.2.2.1.keep (belowDrew _ _), Q10.out.2.2.2.keep (belowDrew _ _)⟩
  clear M10 Q10
  generalize w10.drewN nq = w11 at *
  go_wp2_with fail
  refine (same _ _ _ w11 (by have := HLA.out; have := HNA.out; omega) Q11.out.1 Q11.out.2).mono ?_
  rintro e w12 ⟨rfl, nq2, rfl⟩
  have M12 := Lib.hid (M11.out.on (belowDrew w11 nq2))
  clear M11 Q11
  generalize w11.drewN nq2 = w12 at *
  go_wp2_with fail
  refine (pendO M12.out.a).mono ?_
  rintro e w13 ⟨i1, j1, rfl, hb⟩
  have M13 := Lib.hid (M12.out.on hb)
  clear M12 hb
  go_wp2_with fail
  refine (pendO M13.out.c).mono ?_
  rintro e w14 ⟨i2, j2, rfl, hb⟩
  have M14 := Lib.hid (M13.out.on hb)
  clear M13 hb
  go_wp2_with fail
  go_ret
  exact ⟨rfl, M14.out.b⟩
set_option maxHeartbeats 4000000 in
set_option maxRecDepth 100000 in
theorem makes_ff (n s : Int) (v0 : Value) (l : List UInt8) (w : World) (hr : RB w v0 l) (hl : l.length ≤ 140737488351232) (oa oc : Option (List UInt8)) (ka kc : Int)
    (hN : ∀ u, Calls Try.prog 10 #[.int .i64 n] u (NewO u ka oa)) (hRN : ∀ u, Calls Try.prog 11 #[.int .i64 n] u (RNewO u ka oa))
    (hL : ∀ u v, RB u v l → Calls Try.prog 12 #[v] u (NewO u kc oc)) (hRL : ∀ u v, RB u v l → Calls Try.prog 13 #[v] u (RNewO u kc oc)) (hxa : oa.isSome = false) (hxc : oc.isSome = false) :
    Calls Try.prog 3 #[.int .i64 n, v0, .int .i64 s] w fun e w' => e = .returned (.bool true) ∧ Below w.heap.size w w' := by
  obtain ⟨a0, c0, hv0, hle0, _⟩ := id hr
  have HR : Hid (RB w v0 l) := hr
  have HT := Lib.hid (twin v0 l w hr hl)
  have HN := Lib.hid hN
  have HRN := Lib.hid hRN
  have HL : Hid (∀ u v, RB u v l → Calls Try.prog 12 #[v] u (NewO u kc oc)) := hL
  have HRL : Hid (∀ u v, RB u v l → Calls Try.prog 13 #[v] u (RNewO u kc oc)) := hRL
  have HX : Hid (oa.isSome = false ∧ oc.isSome = false) := ⟨hxa, hxc⟩
  have HLL : Hid (l.length ≤ 140737488351232) := hl
  clear hr hN hRN hL hRL hxa hxc
  subst hv0
  generalize hn : l.length = ln at *
  have HLN : Hid (l.length = ln) := hn
  clear hn
  go_enter Try.func3, Try.ntmps3
  go_wp2_with fail
  refine HT.out.mono ?_
  rintro e w1 ⟨v1, rfl, ho1, hb1⟩
  obtain ⟨a1, c1, rfl⟩ := ho1.form
  have R1 : Hid (RB w1 (.slice a0 ln c0) l ∧ RB w1 (.slice a1 l.length c1) l ∧ Below w.heap.size w w1) := ⟨HR.out.keep hb1, ho1.rb, hb1⟩
  rw [HLN.out] at R1 ⊢
  clear ho1 hb1 HT
  go_wp2_with fail
  refine (HN.out w1).mono ?_
  rintro e w2 ⟨va, rfl, ha, hb2⟩
  have hfa := ha.form
  have R2 : Hid (RB w2 (.slice a0 ln c0) l ∧ RB w2 (.slice a1 ln c1) l ∧ Below w.heap.size w w2 ∧ PO w2 va oa) := ⟨R1.out.1.keep hb2, R1.out.2.1.keep hb2, R1.out.2.2.trans (hb2.mono R1.out.2.2.size), ha⟩
  clear R1 ha hb2
  obtain hva : va = .pointer none := by
    rcases hfa with ⟨e, _⟩ | ⟨p, l', _, e⟩
    · exact e
    · have := HX.out.1; rw [e] at this; cases this
  subst hva
  clear hfa
  go_wp2_with fail
  refine (HRN.out w2).mono ?_
  rintro e w3 ⟨vb, rfl, ha, hb2⟩
  have hfa := ha.form
  have R3 : Hid (RB w3 (.slice a0 ln c0) l ∧ RB w3 (.slice a1 ln c1) l ∧ Below w.heap.size w w3 ∧ PO w3 _ oa ∧ RO w3 vb oa) := ⟨R2.out.1.keep hb2, R2.out.2.1.keep hb2, R2.out.2.2.1.trans (hb2.mono R2.out.2.2.1.size), R2.out.2.2.2.below hb2, ha⟩
  clear R2 ha hb2
  obtain hvb : vb = .pointer none := by
    rcases hfa with ⟨e, _⟩ | ⟨p, l', _, e⟩
    · exact e
    · have := HX.out.1; rw [e] at this; cases this
  subst hvb
  clear hfa
  go_wp2_with fail
  refine (HL.out w3 _ R3.out.1).mono ?_
  rintro e w4 ⟨vc, rfl, ha, hb2⟩
  have hfa := ha.form
  have R4 : Hid (RB w4 (.slice a0 ln c0) l ∧ RB w4 (.slice a1 ln c1) l ∧ Below w.heap.size w w4 ∧ PO w4 _ oa ∧ RO w4 _ oa ∧ PO w4 vc oc) := ⟨R3.out.1.keep hb2, R3.out.2.1.keep hb2, R3.out.2.2.1.trans (hb2.mono R3.out.2.2.1.size), R3.out.2.2.2.1.below hb2, R3.out.2.2.2.2.below hb2, ha⟩
  clear R3 ha hb2
  obtain hvc : vc = .pointer none := by
    rcases hfa with ⟨e, _⟩ | ⟨p, l', _, e⟩
    · exact e
    · have := HX.out.2; rw [e] at this; cases this
  subst hvc
  clear hfa
  go_wp2_with fail
  refine (HRL.out w4 _ R4.out.2.1).mono ?_
  rintro e w5 ⟨vd, rfl, ha, hb2⟩
  have hfa := ha.form
  have M5 : Hid (ME w5 (.slice a0 ln c0) (.slice a1 ln c1) _ _ _ vd l oa oc w) := ⟨R4.out.2.2.1.trans (hb2.mono R4.out.2.2.1.size), R4.out.1.keep hb2, R4.out.2.1.keep hb2, R4.out.2.2.2.1.below hb2, R4.out.2.2.2.2.1.below hb2, R4.out.2.2.2.2.2.below hb2, ha⟩
  clear R4 ha hb2 HN HRN HL HRL HR
  obtain hvd : vd = .pointer none := by
    rcases hfa with ⟨e, _⟩ | ⟨p, l', _, e⟩
    · exact e
    · have := HX.out.2; rw [e] at this; cases this
  subst hvd
  clear hfa
  have HS := Lib.hid (same _ _ l w5 (by rw [HLN.out]; exact HLL.out) M5.out.r M5.out.r1)
  generalize erN ka oa = xa
  generalize erN kc oc = xc
  go_wp2_with fail
  refine HS.out.mono ?_
  rintro e w6 ⟨rfl, nq, rfl⟩
  have M6 : Hid (ME (w5.drewN nq) (.slice a0 ln c0) (.slice a1 ln c1) _ _ _ _ l oa oc w) := M5.out.on (belowDrew _ _)
  clear HS M5
  generalize w5.drewN nq = w6 at *
  go_wp2_with fail
  refine (sizeO M6.out.a).mono ?_
  rintro e w7 ⟨rfl, rfl⟩
  go_wp2_with fail
  refine (rsizeO M6.out.b').mono ?_
  rintro e w8 ⟨rfl, rfl⟩
  generalize szO oa = za
  go_wp2_with fail
  refine (sizeO M6.out.c).mono ?_
  rintro e w7 ⟨rfl, rfl⟩
  go_wp2_with fail
  refine (rsizeO M6.out.d).mono ?_
  rintro e w8 ⟨rfl, rfl⟩
  generalize szO oc = zc
  go_wp2_with fail
  refine (readO M6.out.a s).mono ?_
  rintro e w7 ⟨r1, rfl, ho, hb⟩
  have M7 := Lib.hid (M6.out.on hb)
  have Q7 : Hid (RB w7 r1 (rdO s oa).1) := ho.rb
  obtain ⟨f1, g1, rfl⟩ := ho.form
  clear ho hb
  go_wp2_with fail
  refine (rreadO M7.out.b' s).mono ?_
  rintro e w8 ⟨r2, rfl, ho, hb⟩
  have M8 := Lib.hid (M7.out.on hb)
  have Q8 : Hid (RB w8 (.slice f1 (rdO s oa).1.length g1) (rdO s oa).1 ∧ RB w8 r2 (rdO s oa).1) := ⟨Q7.out.keep hb, ho.rb⟩
  obtain ⟨f2, g2, rfl⟩ := ho.form
  clear ho hb M6 M7 Q7
  go_wp2_with fail
  refine (readO M8.out.c s).mono ?_
  rintro e w9 ⟨r3, rfl, ho, hb⟩
  have M9 := Lib.hid (M8.out.on hb)
  have Q9 : Hid (RB w9 (.slice f1 (rdO s oa).1.length g1) (rdO s oa).1 ∧ RB w9 (.slice f2 (rdO s oa).1.length g2) (rdO s oa).1 ∧ RB w9 r3 (rdO s oc).1) := ⟨Q8.out.1.keep hb, Q8.out.2.keep hb, ho.rb⟩
  obtain ⟨f3, g3, rfl⟩ := ho.form
  clear ho hb M8 Q8
  go_wp2_with fail
  refine (rreadO M9.out.d s).mono ?_
  rintro e w10 ⟨r4, rfl, ho, hb⟩
  have M10 := Lib.hid (M9.out.on hb)
  have Q10 : Hid (RB w10 (.slice f1 (rdO s oa).1.length g1) (rdO s oa).1 ∧ RB w10 (.slice f2 (rdO s oa).1.length g2) (rdO s oa).1 ∧ RB w10 (.slice f3 (rdO s oc).1.length g3) (rdO s oc).1 ∧ RB w10 r4 (rdO s oc).1) := ⟨Q9.out.1.keep hb, Q9.out.2.1.keep hb, Q9.out.2.2.keep hb, ho.rb⟩
  obtain ⟨f4, g4, rfl⟩ := ho.form
  clear ho hb M9 Q9
  have HLA : Hid ((rdO s oa).1.length ≤ 64 ∧ (rdO s oc).1.length ≤ 64) := ⟨rdO_len s oa, rdO_len s oc⟩
  generalize rdO s oa = ra at *
  generalize rdO s oc = rc at *
  generalize ra.2 = ea at *
  generalize rc.2 = ec at *
  generalize hna : ra.1.length = na at *
  generalize hnc : rc.1.length = nc at *
  have HNA : Hid (ra.1.length = na ∧ rc.1.length = nc) := ⟨hna, hnc⟩
  clear hna hnc
  go_wp2_with fail
  refine (same _ _ _ w10 (by have := HLA.out; have := HNA.out; omega) Q10.out.1 Q10.out.2.1).mono ?_
  rintro e w11 ⟨rfl, nq, rfl⟩
  have M11 := Lib.hid (M10.out.on (belowDrew w10 nq))
  have Q11 : Hid (RB (w10.drewN nq) (.slice f3 nc g3) rc.1 ∧ RB (w10.drewN nq) (.slice f4 nc g4) rc.1) := ⟨Q10.out.2.2.1.keep (belowDrew _ _), Q10.out.2.2.2.keep (belowDrew _ _)⟩
  clear M10 Q10
  generalize w10.drewN nq = w11 at *
  go_wp2_with fail
  refine (same _ _ _ w11 (by have := HLA.out; have := HNA.out; omega) Q11.out.1 Q11.out.2).mono ?_
  rintro e w12 ⟨rfl, nq2, rfl⟩
  have M12 := Lib.hid (M11.out.on (belowDrew w11 nq2))
  clear M11 Q11
  generalize w11.drewN nq2 = w12 at *
  go_wp2_with fail
  refine (pendO M12.out.a).mono ?_
  rintro e w13 ⟨i1, j1, rfl, hb⟩
  have M13 := Lib.hid (M12.out.on hb)
  clear M12 hb
  go_wp2_with fail
  refine (pendO M13.out.c).mono ?_
  rintro e w14 ⟨i2, j2, rfl, hb⟩
  have M14 := Lib.hid (M13.out.on hb)
  clear M13 hb
  go_wp2_with fail
  go_ret
  exact ⟨rfl, M14.out.b⟩
end Go.Proofs.Ytjgioiljhefcbaa
