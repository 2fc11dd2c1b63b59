import Derived.Test.YtglknmelcianjaaRr2
namespace Go.Proofs.Ytglknmelcianjaa
open Go.RowKit
theorem info4 : (Try.prog.info? 4).map (fun i => (i.zero, i.size, i.bytes)) = some (some (.bool false), 1, 1) := by kernel_rfl
theorem rbo_of {w : World} {B : Nat} {v : Value} {keep : List Bool} (h : w.ownsRow B 4 1 v keep.length (keep.map Value.bool)) : RBo w v keep := by
  rcases h.2 with ⟨rfl, h0⟩ | ⟨g, c, cur, rfl, _, hg, hle, _, hs, hx⟩
  · have : keep = [] := List.length_eq_zero_iff.1 h0
    subst this
    exact ⟨none, 0, rfl, Nat.le_refl _, .inl rfl⟩
  · refine ⟨_, c, rfl, hle, .inr ⟨g, 0, rfl, (Array.getElem?_eq_some_iff.1 hg).1, fun i hi => ?_⟩⟩
    rw [Nat.mul_one] at hx
    rw [Nat.zero_add]
    simp only [World.cell?, hg]
    have h1 : (keep.map Value.bool)[i]? = some (.bool (keep.getD i false)) := by simp [List.getD, hi]
    rw [← hx, List.getElem?_take_of_lt hi] at h1
    simpa using h1
/-- append(own, keep...), where own is nil -/
theorem append_bools {ops : Array Oper} {rest : List Oper} {o : Oper} {a : Act} {Q : Exit → Act → World → Prop} {w : World} {xv : Value} {keep : List Bool} (hgd : o.guard = none) (s x : Operand)
    (ho : o.op = .call { callee := .builtin .append, args := #[s, x], argTypes := #[28, 28] }) (hs : a.eval s = .slice none 0 0) (hx : a.eval x = xv)
    (hr : RBo w xv keep) (hlim : keep.length ≤ 1073741824)
    (h : ∀ a' c' w', RBo w' (.slice a' keep.length c') keep → (∀ g, (Value.slice a' keep.length c').ownBlock = some g → w.heap.size ≤ g) → Below w.heap.size w w' → wpList Try.prog ops Q rest (a.put o.dst (.slice a' keep.length c')) w') : wpList Try.prog ops Q (o :: rest) a w := by
  obtain ⟨i0, hi, hz0, hz1, hz2⟩ := info_parts info4
  have hrr := hr
  obtain ⟨ad, c, rfl, _, hr⟩ := hr
  have fin : ∀ v' w', w'.ownsRow w.heap.size 4 1 v' keep.length (keep.map Value.bool) → w.grownBy w' (Value.slice none 0 0).ownBlock → wpList Try.prog ops Q rest (a.put o.dst v') w' := fun v' w' h1 h2 => by
    obtain ⟨a', c', rfl⟩ := ownsRow_form h1
    exact h a' c' w' (rbo_of h1) (fun g hg => (World.ownsRow.lt h1 g hg).1) ((Below.refl _ w).grown h2 (Nat.le_refl _) (fun k hk => by simp [Value.ownBlock] at hk))
  rcases hr with rfl | ⟨b, off, rfl, _, hc⟩
  · cases ad with
    | none =>
      refine wpList_plain hgd fun K hK => ?_
      have hrun : (Builtin.append_ #[28, 28] o.type #[.slice none 0 0, .slice none 0 c]).run Try.prog w = .ok (.slice none 0 0) w := by
        simp [Builtin.append_, run_underlying Try.underlying28, sizeOf, typeInfo, hi, Builtin.lenOf, Builtin.firstCells]
      simp only [List.length_nil] at hx
      unfold Oper.wp
      simp [execOp, ho, resolve, invoke, builtin, hs, hx, hrun, Result.andThen]
      exact hK _ _ (h none 0 w ⟨none, 0, rfl, Nat.le_refl _, .inl rfl⟩ (fun g hg => by simp [Value.ownBlock] at hg) (Below.refl _ _))
    | some ad =>
      refine wpList_append_own w hgd s x 28 ho w.heap.size 4 i0 _ 1 1 Try.underlying28 hi hz0 hz1 hz2 rfl (by omega) (.slice none 0 0) 0 [] hs (World.ownsRow_nil _ _ _ _) ad 0 c [] hx (by simp) (fun j u hu => by simp at hu) (fun u hu => by cases hu) (by unfold maxLen; omega) (by omega) (Nat.le_refl _) (fun v' w' h1 h2 _ => ?_)
      exact fin v' w' (by simpa using h1) h2
  · refine wpList_append_own w hgd s x 28 ho w.heap.size 4 i0 _ 1 1 Try.underlying28 hi hz0 hz1 hz2 rfl (by omega) (.slice none 0 0) 0 [] hs (World.ownsRow_nil _ _ _ _) ⟨b, off, none⟩ keep.length c (keep.map Value.bool) hx (by simp) (fun j u hu => ?_) (fun u hu => by simp at hu; rcases hu with ⟨_, rfl⟩ | ⟨_, rfl⟩ <;> rfl) (by unfold maxLen; omega) (by omega) (Nat.le_refl _) (fun v' w' h1 h2 _ => fin v' w' (by simpa using h1) h2)
    have hj' : j < keep.length := by
      have := (List.getElem?_eq_some_iff.1 hu).1
      simpa using this
    have hadd : (⟨b, off, none⟩ : Addr).add j = ⟨b, off + j, none⟩ := by unfold Addr.add; split <;> simp_all
    rw [hadd, hc j hj']
    simpa [List.getD, hj'] using hu
section
variable {Sa Sb : Nat → Prop} {w w1 w2 w3 w4 : World} {va vb : Value} {o o' : Option Dk}
/-- a place behind an act of both sides -/
def PE (Sa Sb : Nat → Prop) (w : World) (va vb : Value) (o' : Option Dk) (w' : World) : Prop :=
  ∃ m, w.heap.size ≤ m ∧ m ≤ w'.heap.size ∧ PD (fun k => Sa k ∨ (w.heap.size ≤ k ∧ k < m)) (fun k => Sb k ∨ m ≤ k) w' va vb o' ∧ Fr (fun k => ¬ Sa k ∧ ¬ Sb k) w w'
theorem both (hd : ∀ k, Sa k → ¬ Sb k) (hsb : ∀ k, Sb k → k < w.heap.size) (b1 : Below w.heap.size w w1) (hA : PA (fun k => Sa k ∨ w1.heap.size ≤ k) w2 va o') (f2 : Fr (fun k => ¬ Sa k) w1 w2) (hB : PB (fun k => Sb k ∨ w2.heap.size ≤ k) w3 vb o') (f3 : Fr (fun k => ¬ Sb k) w2 w3) (b4 : Below w3.heap.size w3 w4) : PE Sa Sb w va vb o' w4 := by
  have z1 := b1.size
  have z2 := f2.size
  have z3 := f3.size
  have z4 := b4.size
  have hA2 : PA (fun k => Sa k ∨ (w.heap.size ≤ k ∧ k < w2.heap.size)) w2 va o' := hA.sub (fun k hk h => by
    rcases h with h | h
    · exact .inl h
    · exact .inr ⟨by omega, hk⟩)
  have hA3 := hA2.fr ((Fr.refl _ w2).trans f3 (fun k hk h e => by
    rcases h with h | h
    · exact hd k h e
    · have := hsb k e
      omega))
  refine ⟨w2.heap.size, by omega, by omega, PD.mk (hA3.fr (Fr.of_below b4)) (hB.fr (Fr.of_below b4)), ?_⟩
  exact ((Fr.of_below b1).trans f2 (fun k _ h => h.1)).trans f3 (fun k _ h => h.2) |>.trans (Fr.of_below (S := fun k => ¬ Sa k ∧ ¬ Sb k) b4) (fun k _ h => h)
def doO (kind at_ : Int) (d : List UInt8) (keep : List Bool) (torn cut : Int) (o : Option Dk) : Option Dk :=
  if kind = 3 then wrO at_ d o else if kind = 5 then o.map syD else if kind = 11 then fuO at_ o else if kind = 7 then crO keep torn cut o else o
set_option maxHeartbeats 4000000 in
set_option maxRecDepth 100000 in
theorem doneT (h : PD Sa Sb w va vb o) (hd : ∀ k, Sa k → ¬ Sb k) (hsa : ∀ k, Sa k → k < w.heap.size) (hsb : ∀ k, Sb k → k < w.heap.size) (hn : nW o < 1073741824) (kind who to_ at_ torn cut : Int) (da ka : Option Addr) (dc kc : Nat) (d : List UInt8) (keep : List Bool)
    (hat : at_ ≤ 9223372036854775807) (hr : RB w (.slice da d.length dc) d) (hdl : d.length ≤ 140737488351232) (hda : ∀ g, (Value.slice da d.length dc).ownBlock = some g → d ≠ [] → ¬ Sa g ∧ ¬ Sb g) (hk : RBo w (.slice ka keep.length kc) keep) (hkl : keep.length ≤ 1073741824) (hka : ∀ g, (Value.slice ka keep.length kc).ownBlock = some g → keep ≠ [] → ¬ Sa g ∧ ¬ Sb g) :
    Calls Try.prog 13 #[.agg #[.int .i64 kind, .int .i64 who, .int .i64 to_, .int .i64 at_, .slice da d.length dc, .slice ka keep.length kc, .int .i64 torn, .int .i64 cut], va, vb] w fun e w' => e = .returned (.bool true) ∧ PE Sa Sb w va vb (doO kind at_ d keep torn cut o) w' := by
  generalize hdn : d.length = dn at *
  have HDN := Lib.hid hdn
  clear hdn
  generalize hkn : keep.length = kn at *
  have HKN := Lib.hid hkn
  clear hkn
  obtain ⟨W, hW⟩ : ∃ W, W = w.alloc (.cells #[.int .i64 kind, .int .i64 who, .int .i64 to_, .int .i64 at_, .slice da dn dc, .slice ka kn kc, .int .i64 torn, .int .i64 cut] 30) := ⟨_, rfl⟩
  have hb : W.heap[w.heap.size]? = some (.cells #[.int .i64 kind, .int .i64 who, .int .i64 to_, .int .i64 at_, .slice da dn dc, .slice ka kn kc, .int .i64 torn, .int .i64 cut] 30 (0, 0)) := by rw [hW]; exact heapNew _ _
  have b1 : Below w.heap.size w W := by rw [hW]; exact (Below.refl _ _).alloc (Nat.le_refl _) _
  have hz : W.heap.size = w.heap.size + 1 := by rw [hW]; simp
  have HB : Hid (∀ w', Fr (fun k => ¬ Sa k ∧ ¬ Sb k) W w' → w'.cell? ⟨w.heap.size, 0, none⟩ = some (.int .i64 kind) ∧ w'.cell? ⟨w.heap.size, 3, none⟩ = some (.int .i64 at_) ∧ w'.cell? ⟨w.heap.size, 4, none⟩ = some (.slice da dn dc) ∧ w'.cell? ⟨w.heap.size, 5, none⟩ = some (.slice ka kn kc) ∧ w'.cell? ⟨w.heap.size, 6, none⟩ = some (.int .i64 torn) ∧ w'.cell? ⟨w.heap.size, 7, none⟩ = some (.int .i64 cut)) := fun w' hw => by
    have h1 : w'.heap[w.heap.size]? = _ := (hw.block w.heap.size (by omega) ⟨fun e => by have := hsa _ e; omega, fun e => by have := hsb _ e; omega⟩).trans hb
    refine ⟨?_, ?_, ?_, ?_, ?_, ?_⟩ <;> simp [World.cell?, h1]
  have H0 : Hid (PD Sa Sb W va vb o ∧ Below w.heap.size w W ∧ RB W (.slice da dn dc) d ∧ RBo W (.slice ka kn kc) keep ∧ W.heap.size = w.heap.size + 1) := ⟨h.below b1, b1, hr.keep b1, hk.keep b1, hz⟩
  obtain ⟨hc0, hc3, hc4, hc5, hc6, hc7⟩ := HB.out W (Fr.refl _ _)
  have HD := Lib.hid hd
  have HSA := Lib.hid hsa
  have HSB := Lib.hid hsb
  have HDA := Lib.hid hda
  have HKA := Lib.hid hka
  have HN := Lib.hid hn
  have HAT := Lib.hid hat
  clear hb b1 hz hn h hd hsa hsb hda hka hr hk hat
  by_cases k3 : kind = 3
  · subst k3
    have HO : Hid (doO 3 at_ d keep torn cut o = wrO at_ d o) := rfl
    have HT := Lib.hid (twin (.slice da dn dc) d W H0.out.2.2.1 (by rw [HDN.out]; exact hdl))
    go_enter Try.func13, Try.ntmps13
    go_wp2_with fail
    rw [← hW]
    go_wp2_with fail
    refine HT.out.mono ?_
    rintro e w1 ⟨v1, rfl, o1, b1⟩
    obtain ⟨a1, c1, rfl⟩ := o1.form
    have hdn := HDN.out
    rw [hdn] at o1 ⊢
    have f1 : Fr (fun k => ¬ Sa k ∧ ¬ Sb k) W w1 := Fr.of_below b1
    obtain ⟨d0, d3, d4, -, -, -⟩ := HB.out w1 f1
    have HOW : Hid (∀ g, (Value.slice a1 dn c1).ownBlock = some g → ¬ Sa g ∧ ¬ Sb g) := fun g hg => by
      have h1 := (World.ownsRow.lt o1 g hg).1
      have h2 := H0.out.2.2.2.2
      exact ⟨fun e => by have := HSA.out g e; omega, fun e => by have := HSB.out g e; omega⟩
    have H1 : Hid (PD Sa Sb w1 va vb o ∧ Below w.heap.size w w1 ∧ RB w1 (.slice da dn dc) d ∧ RB w1 (.slice a1 dn c1) d ∧ Fr (fun k => ¬ Sa k ∧ ¬ Sb k) W w1) := ⟨H0.out.1.below b1, H0.out.2.1.trans (b1.mono H0.out.2.1.size), H0.out.2.2.1.keep b1, o1.rb, f1⟩
    clear o1 b1 f1 hdn HT
    go_wp2_with fail
    refine (awrite H1.out.1.a HN.out at_ (.slice da dn dc) d H1.out.2.2.1).mono ?_
    rintro e w2 ⟨rfl, a2, f2⟩
    have f2' : Fr (fun k => ¬ Sa k ∧ ¬ Sb k) W w2 := H1.out.2.2.2.2.trans f2 (fun k _ h => h.1)
    obtain ⟨e0, e3, e4, -, -, -⟩ := HB.out w2 f2'
    have H2 : Hid (PA (fun k => Sa k ∨ w1.heap.size ≤ k) w2 va (wrO at_ d o) ∧ Fr (fun k => ¬ Sa k) w1 w2 ∧ PB Sb w2 vb o ∧ RB w2 (.slice da dn dc) d ∧ RB w2 (.slice a1 dn c1) d ∧ Fr (fun k => ¬ Sa k ∧ ¬ Sb k) W w2) := ⟨a2, f2, H1.out.1.b.fr ((Fr.refl _ w1).trans f2 (fun k _ h e => HD.out k e h)), H1.out.2.2.1.fr' f2 (fun g hg hne => (HDA.out g hg hne).1), H1.out.2.2.2.1.fr f2 (fun g hg => (HOW.out g hg).1), f2'⟩
    clear a2 f2 f2'
    go_wp2_with fail
    refine (bwrite H2.out.2.2.1 HN.out at_ (.slice a1 dn c1) d H2.out.2.2.2.2.1 (fun g hg => (HOW.out g hg).2)).mono ?_
    rintro e w3 ⟨rfl, a3, f3⟩
    have f3' : Fr (fun k => ¬ Sa k ∧ ¬ Sb k) W w3 := H2.out.2.2.2.2.2.trans f3 (fun k _ h => h.2)
    obtain ⟨g0, g3, g4, -, -, -⟩ := HB.out w3 f3'
    have H3 : Hid (PB (fun k => Sb k ∨ w2.heap.size ≤ k) w3 vb (wrO at_ d o) ∧ Fr (fun k => ¬ Sb k) w2 w3 ∧ RB w3 (.slice da dn dc) d ∧ RB w3 (.slice a1 dn c1) d) := ⟨a3, f3, H2.out.2.2.2.1.fr' f3 (fun g hg hne => (HDA.out g hg hne).2), H2.out.2.2.2.2.1.fr f3 (fun g hg => (HOW.out g hg).2)⟩
    clear a3 f3 f3'
    go_wp2_with fail
    refine (same _ _ d w3 (by rw [HDN.out]; exact hdl) H3.out.2.2.1 H3.out.2.2.2).mono ?_
    rintro e w4 ⟨rfl, nn, rfl⟩
    have HE : Hid (PE Sa Sb w va vb (doO 3 at_ d keep torn cut o) (w3.drewN nn)) := by
      rw [HO.out]
      exact both HD.out HSB.out H1.out.2.1 H2.out.1 H2.out.2.1 H3.out.1 H3.out.2.1 (belowDrew w3 nn)
    go_wp2_with fail
    go_ret
    exact ⟨rfl, HE.out⟩
  by_cases k5 : kind = 5
  · subst k5
    have HO : Hid (doO 5 at_ d keep torn cut o = o.map syD) := rfl
    go_enter Try.func13, Try.ntmps13
    go_wp2_with fail
    rw [← hW]
    go_wp2_with fail
    refine (async H0.out.1.a).mono ?_
    rintro e w2 ⟨rfl, a2, f2⟩
    have H2 : Hid (PA (fun k => Sa k ∨ W.heap.size ≤ k) w2 va (o.map syD) ∧ Fr (fun k => ¬ Sa k) W w2 ∧ PB Sb w2 vb o) := ⟨a2, f2, H0.out.1.b.fr ((Fr.refl _ W).trans f2 (fun k _ h e => HD.out k e h))⟩
    clear a2 f2
    go_wp2_with fail
    refine (bsync H2.out.2.2 (Nat.le_of_lt HN.out)).mono ?_
    rintro e w3 ⟨rfl, a3, f3⟩
    have HE : Hid (PE Sa Sb w va vb (doO 5 at_ d keep torn cut o) w3) := by
      rw [HO.out]
      exact both HD.out HSB.out H0.out.2.1 H2.out.1 H2.out.2.1 a3 f3 (Below.refl _ _)
    clear a3 f3
    go_wp2_with fail
    go_ret
    exact ⟨rfl, HE.out⟩
  by_cases k11 : kind = 11
  · subst k11
    have HO : Hid (doO 11 at_ d keep torn cut o = fuO at_ o) := rfl
    go_enter Try.func13, Try.ntmps13
    go_wp2_with fail
    rw [← hW]
    go_wp2_with fail
    refine (afuse H0.out.1.a at_ HAT.out).mono ?_
    rintro e w2 ⟨rfl, a2, f2⟩
    obtain ⟨e0, e3, -, -, -, -⟩ := HB.out w2 ((Fr.refl _ W).trans f2 (fun k _ h => h.1))
    have H2 : Hid (PA (fun k => Sa k ∨ W.heap.size ≤ k) w2 va (fuO at_ o) ∧ Fr (fun k => ¬ Sa k) W w2 ∧ PB Sb w2 vb o) := ⟨a2, f2, H0.out.1.b.fr ((Fr.refl _ W).trans f2 (fun k _ h e => HD.out k e h))⟩
    clear a2 f2
    go_wp2_with fail
    refine (bfuse H2.out.2.2 at_ HAT.out).mono ?_
    rintro e w3 ⟨rfl, a3, f3⟩
    have HE : Hid (PE Sa Sb w va vb (doO 11 at_ d keep torn cut o) w3) := by
      rw [HO.out]
      exact both HD.out HSB.out H0.out.2.1 H2.out.1 H2.out.2.1 a3 f3 (Below.refl _ _)
    clear a3 f3
    go_wp2_with fail
    go_ret
    exact ⟨rfl, HE.out⟩
  by_cases k7 : kind = 7
  · subst k7
    have HO : Hid (doO 7 at_ d keep torn cut o = crO keep torn cut o) := rfl
    go_enter Try.func13, Try.ntmps13
    go_upto_region 16 with fail
    rw [← hW]
    clear hW
    go_upto_region 18 with (first | (at_builtin; go_loud (refine append_bools (keep := keep) rfl _ _ rfl rfl rfl H0.out.2.2.2.1 (by rw [HKN.out]; exact hkl) ?_); intro a1 c1 w1 r1 n1 b1))
    have hkn := HKN.out
    rw [hkn] at r1 n1 ⊢
    have f1 : Fr (fun k => ¬ Sa k ∧ ¬ Sb k) W w1 := Fr.of_below b1
    obtain ⟨d0, d3, -, d5, d6, d7⟩ := HB.out w1 f1
    have HOW : Hid (∀ g, (Value.slice a1 kn c1).ownBlock = some g → ¬ Sa g ∧ ¬ Sb g) := fun g hg => by
      have h1 := n1 g hg
      have h2 := H0.out.2.2.2.2
      exact ⟨fun e => by have := HSA.out g e; omega, fun e => by have := HSB.out g e; omega⟩
    have H1 : Hid (PD Sa Sb w1 va vb o ∧ Below w.heap.size w w1 ∧ RBo w1 (.slice ka kn kc) keep ∧ RBo w1 (.slice a1 kn c1) keep ∧ Fr (fun k => ¬ Sa k ∧ ¬ Sb k) W w1) := ⟨H0.out.1.below b1, H0.out.2.1.trans (b1.mono H0.out.2.1.size), H0.out.2.2.2.1.keep b1, r1, f1⟩
    clear r1 n1 b1 f1 hkn
    go_wp2_with fail
    refine (acrash H1.out.1.a (Nat.le_of_lt HN.out) (.slice ka kn kc) keep H1.out.2.2.1 (fun g hg hne => (HKA.out g hg hne).1) torn cut).mono ?_
    rintro e w2 ⟨rfl, a2, f2⟩
    have f2' : Fr (fun k => ¬ Sa k ∧ ¬ Sb k) W w2 := H1.out.2.2.2.2.trans f2 (fun k _ h => h.1)
    obtain ⟨e0, e3, -, e5, e6, e7⟩ := HB.out w2 f2'
    have H2 : Hid (PA (fun k => Sa k ∨ w1.heap.size ≤ k) w2 va (crO keep torn cut o) ∧ Fr (fun k => ¬ Sa k) w1 w2 ∧ PB Sb w2 vb o ∧ RBo w2 (.slice ka kn kc) keep ∧ RBo w2 (.slice a1 kn c1) keep ∧ Fr (fun k => ¬ Sa k ∧ ¬ Sb k) W w2) := ⟨a2, f2, H1.out.1.b.fr ((Fr.refl _ w1).trans f2 (fun k _ h e => HD.out k e h)), H1.out.2.2.1.fr' f2 (fun g hg hne => (HKA.out g hg hne).1), H1.out.2.2.2.1.fr f2 (fun g hg => (HOW.out g hg).1), f2'⟩
    clear a2 f2 f2'
    go_wp2_with fail
    refine (bcrash H2.out.2.2.1 (Nat.le_of_lt HN.out) (.slice a1 kn c1) keep H2.out.2.2.2.2.1 (fun g hg => (HOW.out g hg).2) torn cut).mono ?_
    rintro e w3 ⟨rfl, a3, f3⟩
    have f3' : Fr (fun k => ¬ Sa k ∧ ¬ Sb k) W w3 := H2.out.2.2.2.2.2.trans f3 (fun k _ h => h.2)
    have H3 : Hid (PB (fun k => Sb k ∨ w2.heap.size ≤ k) w3 vb (crO keep torn cut o) ∧ Fr (fun k => ¬ Sb k) w2 w3 ∧ RBo w3 (.slice ka kn kc) keep ∧ RBo w3 (.slice a1 kn c1) keep ∧ Fr (fun k => ¬ Sa k ∧ ¬ Sb k) W w3) := ⟨a3, f3, H2.out.2.2.2.1.fr' f3 (fun g hg hne => (HKA.out g hg hne).2), H2.out.2.2.2.2.1.fr f3 (fun g hg => (HOW.out g hg).2), f3'⟩
    clear a3 f3 f3' d0 d3 d5 d6 d7 e0 e3 e5 e6 e7 hc0 hc3 hc4 hc5 hc6 hc7
    go_wp2_with fail
    go_loopw [17] (fun t wr => ∃ i : Nat, i ≤ kn ∧ t = .int .i64 i ∧ Hid (Below w3.heap.size w3 wr)) (fun t _ => kn - (intOf t).toNat)
    case atStart => exact ⟨0, Nat.zero_le _, rfl, Below.refl _ _⟩
    case round =>
      obtain ⟨i, hi, rfl, HI⟩ := hrel
      by_cases hlt : i < kn
      · have hk1 := H3.out.2.2.1.keep HI.out
        have hk2 := H3.out.2.2.2.1.keep HI.out
        obtain ⟨-, -, -, g5, -, -⟩ := HB.out wr (H3.out.2.2.2.2.trans (Fr.of_below (S := fun _ => True) HI.out) (fun _ _ _ => trivial))
        have hkn := HKN.out
        obtain ⟨x1, y1, z1, -, hk1⟩ := hk1
        obtain ⟨x2, y2, z2, -, hk2⟩ := hk2
        simp only [Value.slice.injEq] at z1 z2
        obtain ⟨rfl, -, rfl⟩ := z1
        obtain ⟨rfl, -, rfl⟩ := z2
        have hne : keep ≠ [] := fun e => by rw [e] at hkn; simp at hkn; omega
        obtain ⟨gk, ok, rfl, -, hk1⟩ := hk1.resolve_left hne
        obtain ⟨go, oo, rfl, -, hk2⟩ := hk2.resolve_left hne
        have q1 := hk1 i (by omega)
        have q2 := hk2 i (by omega)
        generalize keep.getD i false = bi at *
        have q1d : wr.drew.cell? ⟨gk, ok + i, none⟩ = some (.bool bi) := q1
        have q2d : wr.drew.cell? ⟨go, oo + i, none⟩ = some (.bool bi) := q2
        have g5d : wr.drew.cell? ⟨w.heap.size, 5, none⟩ = some (.slice (some ⟨gk, ok, none⟩) kn kc) := g5
        have HN2 : Hid (Below w3.heap.size w3 wr.drew) := HI.out.trans ((belowDrew wr 1).mono HI.out.size)
        clear hk1 hk2 hkn hne HI
        go_upto_region 23 with fail
        refine wp_region_held_drew (S := fun x => x.cell? ⟨go, oo + i, none⟩ = some (.bool bi) ∧ x.cell? ⟨w.heap.size, 5, none⟩ = some (.slice (some ⟨gk, ok, none⟩) kn kc) ∧ x.cell? ⟨gk, ok + i, none⟩ = some (.bool bi)) (by kernel_rfl) (⟨q2d, g5d, q1d⟩) (fun hHeld => ?_)
        refine wpAnyH_take (i := 0) (v := .slice (some ⟨go, oo, none⟩) kn c1) rfl (by kernel_rfl) (by kernel_rfl) (by kernel_rfl) (fun _ _ _ h => h) (Or.inl ⟨by rfl, fun w hw => by go_simp⟩) hHeld ?_
        simp only [Act.put, List.getElem_toArray, List.getElem_cons_zero, List.setIfInBounds_toArray, List.set_cons_zero, List.set_cons_succ]
        refine wpAnyH_take (i := 1) (v := .int .i64 (i : Int)) rfl (by kernel_rfl) (by kernel_rfl) (by kernel_rfl) (fun _ _ _ h => h) (Or.inl ⟨by rfl, fun w hw => by go_simp⟩) hHeld ?_
        simp only [Act.put, List.getElem_toArray, List.getElem_cons_zero, List.getElem_cons_succ, List.setIfInBounds_toArray, List.set_cons_zero, List.set_cons_succ]
        refine wpAnyH_take (i := 2) (v := .pointer (some ⟨go, oo + i, none⟩)) rfl (by kernel_rfl) (by kernel_rfl) (by kernel_rfl) (fun _ _ _ h => h) (Or.inl ⟨by rfl, fun w hw => by go_simp⟩) hHeld ?_
        simp only [Act.put, List.getElem_toArray, List.getElem_cons_zero, List.getElem_cons_succ, List.setIfInBounds_toArray, List.set_cons_zero, List.set_cons_succ]
        refine wpAnyH_take (i := 3) (v := .bool bi) rfl (by kernel_rfl) (by kernel_rfl) (by kernel_rfl) (fun _ _ _ h => h) (Or.inl ⟨by rfl, fun w hw => by have h7 := hw.1; have h8 := hw.2.1; have h9 := hw.2.2; go_simp⟩) hHeld ?_
        simp only [Act.put, List.getElem_toArray, List.getElem_cons_zero, List.getElem_cons_succ, List.setIfInBounds_toArray, List.set_cons_zero, List.set_cons_succ]
        refine wpAnyH_take (i := 4) (v := .pointer (some ⟨w.heap.size, 5, none⟩)) rfl (by kernel_rfl) (by kernel_rfl) (by kernel_rfl) (fun _ _ _ h => h) (Or.inl ⟨by rfl, fun w hw => by go_simp⟩) hHeld ?_
        simp only [Act.put, List.getElem_toArray, List.getElem_cons_zero, List.getElem_cons_succ, List.setIfInBounds_toArray, List.set_cons_zero, List.set_cons_succ]
        refine wpAnyH_take (i := 5) (v := .slice (some ⟨gk, ok, none⟩) kn kc) rfl (by kernel_rfl) (by kernel_rfl) (by kernel_rfl) (fun _ _ _ h => h) (Or.inl ⟨by rfl, fun w hw => by have h7 := hw.1; have h8 := hw.2.1; have h9 := hw.2.2; go_simp⟩) hHeld ?_
        simp only [Act.put, List.getElem_toArray, List.getElem_cons_zero, List.getElem_cons_succ, List.setIfInBounds_toArray, List.set_cons_zero, List.set_cons_succ]
        refine wpAnyH_take (i := 6) (v := .int .i64 (i : Int)) rfl (by kernel_rfl) (by kernel_rfl) (by kernel_rfl) (fun _ _ _ h => h) (Or.inl ⟨by rfl, fun w hw => by go_simp⟩) hHeld ?_
        simp only [Act.put, List.getElem_toArray, List.getElem_cons_zero, List.getElem_cons_succ, List.setIfInBounds_toArray, List.set_cons_zero, List.set_cons_succ]
        refine wpAnyH_take (i := 7) (v := .pointer (some ⟨gk, ok + i, none⟩)) rfl (by kernel_rfl) (by kernel_rfl) (by kernel_rfl) (fun _ _ _ h => h) (Or.inl ⟨by rfl, fun w hw => by go_simp⟩) hHeld ?_
        simp only [Act.put, List.getElem_toArray, List.getElem_cons_zero, List.getElem_cons_succ, List.setIfInBounds_toArray, List.set_cons_zero, List.set_cons_succ]
        refine wpAnyH_take (i := 8) (v := .bool bi) rfl (by kernel_rfl) (by kernel_rfl) (by kernel_rfl) (fun _ _ _ h => h) (Or.inl ⟨by rfl, fun w hw => by have h7 := hw.1; have h8 := hw.2.1; have h9 := hw.2.2; go_simp⟩) hHeld ?_
        simp only [Act.put, List.getElem_toArray, List.getElem_cons_zero, List.getElem_cons_succ, List.setIfInBounds_toArray, List.set_cons_zero, List.set_cons_succ]
        refine wpAnyH_take (i := 9) (v := .bool false) rfl (by kernel_rfl) (by kernel_rfl) (by kernel_rfl) (fun _ _ _ h => h) (Or.inl ⟨by rfl, fun w hw => by go_simp⟩) hHeld ?_
        simp only [Act.put, List.getElem_toArray, List.getElem_cons_zero, List.getElem_cons_succ, List.setIfInBounds_toArray, List.set_cons_zero, List.set_cons_succ]
        refine wpAnyH_done (by kernel_rfl) ?_ _
        clear hHeld
        clear q1d q2d g5d q1 q2 g5
        go_wp2
        exact ⟨⟨i + 1, by omega, by go_num, HN2⟩, by simp [intOf]; omega⟩
      · have hin : kn = i := by omega
        have HE : Hid (PE Sa Sb w va vb (doO 7 at_ d keep torn cut o) wr) := by
          rw [HO.out]
          exact both HD.out HSB.out H1.out.2.1 H2.out.1 H2.out.2.1 H3.out.1 H3.out.2.1 HI.out
        clear HI
        go_wp2
        go_ret
        exact ⟨rfl, HE.out⟩
  have HO : Hid (doO kind at_ d keep torn cut o = o) := by
    show doO kind at_ d keep torn cut o = o
    unfold doO
    rw [if_neg k3, if_neg k5, if_neg k11, if_neg k7]
  have q3 : (kind == 3) = false := beq_eq_false_iff_ne.2 k3
  have q5 : (kind == 5) = false := beq_eq_false_iff_ne.2 k5
  have q11 : (kind == 11) = false := beq_eq_false_iff_ne.2 k11
  have q7 : (kind == 7) = false := beq_eq_false_iff_ne.2 k7
  have HE : Hid (PE Sa Sb w va vb (doO kind at_ d keep torn cut o) W) := by
    rw [HO.out]
    exact both HD.out HSB.out H0.out.2.1 (H0.out.1.a.sub (fun _ _ h => .inl h)) (Fr.refl _ _) (H0.out.1.b.sub (fun _ _ h => .inl h)) (Fr.refl _ _) (Below.refl _ _)
  clear k3 k5 k11 k7
  go_enter Try.func13, Try.ntmps13
  go_wp2_with fail
  rw [← hW]
  go_wp2_with fail
  go_ret
  exact ⟨rfl, HE.out⟩
end
end Go.Proofs.Ytglknmelcianjaa
