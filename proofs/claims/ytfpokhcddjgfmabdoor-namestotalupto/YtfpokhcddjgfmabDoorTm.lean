import Derived.Test.YtfpokhcddjgfmabDoorTl
namespace Go.Proofs.YtfpokhcddjgfmabDoor
open Go.RowKit
set_option maxRecDepth 100000 in
set_option maxHeartbeats 2000000 in
theorem total7eq (va vb vc : Value) (a b c : List ByteArray) (w : World) (ha : SR w a va) (hb : SR w b vb) (hc : SR w c vc) (sa' : va = .slice none 0 0 ∨ ∃ ad n c, va = .slice (some ad) n c) (sc' : vc = .slice none 0 0 ∨ ∃ ad n c, vc = .slice (some ad) n c)
    (hl : a.length + b.length + c.length ≤ 1048576) (hab : cl a b = 0) :
    Calls Tryd.prog 7 #[va, vb, vc] w fun e w' => e = .returned (.bool true) ∧ Below w.heap.size w w' := by
  have HS : Hid (SR w a va ∧ SR w b vb ∧ SR w c vc) := ⟨ha, hb, hc⟩
  have HA : Hid (va = .slice none 0 0 ∨ ∃ ad n c, va = .slice (some ad) n c) := sa'
  have HC : Hid (vc = .slice none 0 0 ∨ ∃ ad n c, vc = .slice (some ad) n c) := sc'
  have la : a.length * 16 ≤ 140737488351232 := by omega
  have lb : b.length * 16 ≤ 140737488351232 := by omega
  have lc : c.length * 16 ≤ 140737488351232 := by omega
  have lac : (a ++ c).length * 16 ≤ 140737488351232 := by rw [List.length_append]; omega
  have hneg := cl_neg a b
  have Hab : Hid (∀ v1 v2 w, SR w a v1 → SR w b v2 → Calls Tryd.prog 16 #[v1, v2] w fun e w' => e = .returned (.bool false) ∧ w' = w) := lxC la lb (by unfold lx; simp; omega)
  have Hba : Hid (∀ v1 v2 w, SR w b v1 → SR w a v2 → Calls Tryd.prog 16 #[v1, v2] w fun e w' => e = .returned (.bool false) ∧ w' = w) := lxC lb la (by unfold lx; simp; omega)
  have Haa : Hid (∀ v1 v2 w, SR w a v1 → SR w a v2 → Calls Tryd.prog 16 #[v1, v2] w fun e w' => e = .returned (.bool false) ∧ w' = w) := lxC la la (by unfold lx; rw [cl_self]; rfl)
  have Hin : Hid (∀ v1 v2 w, SR w a v1 → SR w (a ++ c) v2 → Calls Tryd.prog 16 #[v1, v2] w fun e w' => e = .returned (.bool (decide (0 < c.length))) ∧ w' = w) := lxC la lac (lx_app a c)
  have Hbc : Hid (∀ v1 v2 w, SR w b v1 → SR w c v2 → Calls Tryd.prog 16 #[v1, v2] w fun e w' => e = .returned (.bool (lx b c)) ∧ w' = w) := lxC lb lc rfl
  have Hac : Hid (∀ v1 v2 w, SR w a v1 → SR w c v2 → Calls Tryd.prog 16 #[v1, v2] w fun e w' => e = .returned (.bool (lx a c)) ∧ w' = w) := lxC la lc rfl
  generalize lx a c = zac at *
  generalize lx b c = zbc at *
  have Hsm : Hid (∀ v1 v2 w, SR w a v1 → SR w b v2 → Calls Tryd.prog 10 #[v1, v2] w fun e w' => e = .returned (.bool true) ∧ ∃ n, w' = w.drewN n) := fun v1 v2 w h1 h2 => by
    have := same14 v1 v2 a b w la lb h1 h2
    rw [cl_eq0 a b hab, smB_self] at this; exact this
  clear hab hneg sa' sc'
  obtain ⟨aa, ca, rfl, _, _⟩ := ha
  obtain ⟨ab, cb, rfl, _, _⟩ := hb
  obtain ⟨ac, cc, rfl, _, _⟩ := hc
  have HL : Hid ((a ++ c).length = a.length + c.length) := List.length_append
  go_enter Tryd.func7, Tryd.ntmps7
  go_wp2_with fail
  refine (awake11 _).mono ?_
  rintro e w1 ⟨rfl, hb1⟩
  have S1 : Hid (SR w1 a _ ∧ SR w1 b _ ∧ SR w1 c _) := ⟨HS.out.1.keep hb1, HS.out.2.1.keep hb1, HS.out.2.2.keep hb1⟩
  have B1 : Hid (Below w.heap.size w w1) := hb1
  clear hb1 HS
  go_wp2_with fail
  refine (Hab.out _ _ _ S1.out.1 S1.out.2.1).mono ?_
  rintro e w2 ⟨rfl, rfl⟩
  go_wp2_with fail
  refine (Hba.out _ _ _ S1.out.2.1 S1.out.1).mono ?_
  rintro e w3 ⟨rfl, rfl⟩
  go_wp2_with fail
  refine (Hbc.out _ _ _ S1.out.2.1 S1.out.2.2).mono ?_
  rintro e w4 ⟨rfl, rfl⟩
  go_wp2_with fail
  refine (Hac.out _ _ _ S1.out.1 S1.out.2.2).mono ?_
  rintro e w5 ⟨rfl, rfl⟩
  go_wp2_with fail
  refine (Haa.out _ _ _ S1.out.1 S1.out.1).mono ?_
  rintro e w6 ⟨rfl, rfl⟩
  go_wp2_with fail
  refine (Hsm.out _ _ _ S1.out.1 S1.out.2.1).mono ?_
  rintro e w7 ⟨rfl, n7, rfl⟩
  have S7 : Hid (SR (w6.drewN n7) a _ ∧ SR (w6.drewN n7) b _ ∧ SR (w6.drewN n7) c _) := ⟨S1.out.1.keep (drN _ _), S1.out.2.1.keep (drN _ _), S1.out.2.2.keep (drN _ _)⟩
  have B7 : Hid (Below w.heap.size w (w6.drewN n7)) := B1.out.trans ((drN _ _).mono B1.out.size)
  generalize w6.drewN n7 = w7 at *
  clear S1 B1
  go_wp2_with (first
    | (at_builtin; refine append_ls (l := []) (m := a) (B := w7.heap.size) (sv := .slice none 0 0) (v := .slice aa a.length ca) rfl _ _ rfl rfl (os_nil _ _) rfl S7.out.1 HA.out (Nat.le_refl _) (by simp; omega) ?_; intro v8 w8 ho8 hb8
       have O8 : Hid (OS w7.heap.size w8 v8 a) := ho8
       have S8 : Hid (SR w8 c _) := S7.out.2.2.keep hb8
       have B8 : Hid (Below w7.heap.size w7 w8) := hb8
       obtain ⟨a8, c8, rfl⟩ := O8.out.form
       clear ho8 hb8)
    | (at_builtin; refine append_ls (l := a) (m := c) (B := w7.heap.size) (sv := .slice a8 a.length c8) (v := .slice ac c.length cc) rfl _ _ rfl rfl O8.out rfl S8.out HC.out B8.out.size (by omega) ?_; intro v9 w9 ho9 hb9
       obtain ⟨a9, c9, he9⟩ := ho9.form
       subst he9
       rw [HL.out]))
  have B79 : Hid (Below w7.heap.size w7 w9) := B8.out.trans hb9
  have S9 : Hid (SR w9 a _ ∧ SR w9 b _ ∧ SR w9 c _) := ⟨S7.out.1.keep B79.out, S7.out.2.1.keep B79.out, S7.out.2.2.keep B79.out⟩
  have I9 : Hid (SR w9 (a ++ c) _) := ho9.sr
  have B9 : Hid (Below w.heap.size w w9) := B7.out.trans (B79.out.mono B7.out.size)
  clear ho9 hb9 B79 S7 B7 S8 O8 B8
  rw [HL.out] at I9
  go_wp2_with fail
  refine (Hin.out _ _ _ S9.out.1 I9.out).mono ?_
  rintro e w10 ⟨rfl, rfl⟩
  go_wp2
  go_ret
  exact ⟨rfl, B9.out⟩
set_option maxRecDepth 100000 in
set_option maxHeartbeats 2000000 in
theorem total7gt (va vb vc : Value) (a b c : List ByteArray) (w : World) (ha : SR w a va) (hb : SR w b vb) (hc : SR w c vc) (sa' : va = .slice none 0 0 ∨ ∃ ad n c, va = .slice (some ad) n c) (sc' : vc = .slice none 0 0 ∨ ∃ ad n c, vc = .slice (some ad) n c)
    (hl : a.length + b.length + c.length ≤ 1048576) (hab : 0 < cl a b) :
    Calls Tryd.prog 7 #[va, vb, vc] w fun e w' => e = .returned (.bool true) ∧ Below w.heap.size w w' := by
  have HS : Hid (SR w a va ∧ SR w b vb ∧ SR w c vc) := ⟨ha, hb, hc⟩
  have HA : Hid (va = .slice none 0 0 ∨ ∃ ad n c, va = .slice (some ad) n c) := sa'
  have HC : Hid (vc = .slice none 0 0 ∨ ∃ ad n c, vc = .slice (some ad) n c) := sc'
  have la : a.length * 16 ≤ 140737488351232 := by omega
  have lb : b.length * 16 ≤ 140737488351232 := by omega
  have lc : c.length * 16 ≤ 140737488351232 := by omega
  have lac : (a ++ c).length * 16 ≤ 140737488351232 := by rw [List.length_append]; omega
  have hneg := cl_neg a b
  have Hab : Hid (∀ v1 v2 w, SR w a v1 → SR w b v2 → Calls Tryd.prog 16 #[v1, v2] w fun e w' => e = .returned (.bool false) ∧ w' = w) := lxC la lb (by unfold lx; simp; omega)
  have Hba : Hid (∀ v1 v2 w, SR w b v1 → SR w a v2 → Calls Tryd.prog 16 #[v1, v2] w fun e w' => e = .returned (.bool true) ∧ w' = w) := lxC lb la (by unfold lx; simp; omega)
  have Haa : Hid (∀ v1 v2 w, SR w a v1 → SR w a v2 → Calls Tryd.prog 16 #[v1, v2] w fun e w' => e = .returned (.bool false) ∧ w' = w) := lxC la la (by unfold lx; rw [cl_self]; rfl)
  have Hin : Hid (∀ v1 v2 w, SR w a v1 → SR w (a ++ c) v2 → Calls Tryd.prog 16 #[v1, v2] w fun e w' => e = .returned (.bool (decide (0 < c.length))) ∧ w' = w) := lxC la lac (lx_app a c)
  have Hbc : Hid (∀ v1 v2 w, SR w b v1 → SR w c v2 → Calls Tryd.prog 16 #[v1, v2] w fun e w' => e = .returned (.bool (lx b c)) ∧ w' = w) := lxC lb lc rfl
  have Hac : Hid (∀ v1 v2 w, SR w a v1 → SR w c v2 → Calls Tryd.prog 16 #[v1, v2] w fun e w' => e = .returned (.bool (lx a c)) ∧ w' = w) := lxC la lc rfl
  generalize lx a c = zac at *
  generalize lx b c = zbc at *
  clear hab hneg sa' sc'
  obtain ⟨aa, ca, rfl, _, _⟩ := ha
  obtain ⟨ab, cb, rfl, _, _⟩ := hb
  obtain ⟨ac, cc, rfl, _, _⟩ := hc
  have HL : Hid ((a ++ c).length = a.length + c.length) := List.length_append
  go_enter Tryd.func7, Tryd.ntmps7
  go_wp2_with fail
  refine (awake11 _).mono ?_
  rintro e w1 ⟨rfl, hb1⟩
  have S1 : Hid (SR w1 a _ ∧ SR w1 b _ ∧ SR w1 c _) := ⟨HS.out.1.keep hb1, HS.out.2.1.keep hb1, HS.out.2.2.keep hb1⟩
  have B1 : Hid (Below w.heap.size w w1) := hb1
  clear hb1 HS
  go_wp2_with fail
  refine (Hab.out _ _ _ S1.out.1 S1.out.2.1).mono ?_
  rintro e w2 ⟨rfl, rfl⟩
  go_wp2_with fail
  refine (Hba.out _ _ _ S1.out.2.1 S1.out.1).mono ?_
  rintro e w3 ⟨rfl, rfl⟩
  go_wp2_with fail
  refine (Hbc.out _ _ _ S1.out.2.1 S1.out.2.2).mono ?_
  rintro e w4 ⟨rfl, rfl⟩
  go_wp2_with fail
  refine (Hac.out _ _ _ S1.out.1 S1.out.2.2).mono ?_
  rintro e w5 ⟨rfl, rfl⟩
  go_wp2_with fail
  refine (Haa.out _ _ _ S1.out.1 S1.out.1).mono ?_
  rintro e w6 ⟨rfl, rfl⟩
  have S7 := S1
  have B7 := B1
  generalize w6 = w7 at *
  go_wp2_with (first
    | (at_builtin; refine append_ls (l := []) (m := a) (B := w7.heap.size) (sv := .slice none 0 0) (v := .slice aa a.length ca) rfl _ _ rfl rfl (os_nil _ _) rfl S7.out.1 HA.out (Nat.le_refl _) (by simp; omega) ?_; intro v8 w8 ho8 hb8
       have O8 : Hid (OS w7.heap.size w8 v8 a) := ho8
       have S8 : Hid (SR w8 c _) := S7.out.2.2.keep hb8
       have B8 : Hid (Below w7.heap.size w7 w8) := hb8
       obtain ⟨a8, c8, rfl⟩ := O8.out.form
       clear ho8 hb8)
    | (at_builtin; refine append_ls (l := a) (m := c) (B := w7.heap.size) (sv := .slice a8 a.length c8) (v := .slice ac c.length cc) rfl _ _ rfl rfl O8.out rfl S8.out HC.out B8.out.size (by omega) ?_; intro v9 w9 ho9 hb9
       obtain ⟨a9, c9, he9⟩ := ho9.form
       subst he9
       rw [HL.out]))
  have B79 : Hid (Below w7.heap.size w7 w9) := B8.out.trans hb9
  have S9 : Hid (SR w9 a _ ∧ SR w9 b _ ∧ SR w9 c _) := ⟨S7.out.1.keep B79.out, S7.out.2.1.keep B79.out, S7.out.2.2.keep B79.out⟩
  have I9 : Hid (SR w9 (a ++ c) _) := ho9.sr
  have B9 : Hid (Below w.heap.size w w9) := B7.out.trans (B79.out.mono B7.out.size)
  clear ho9 hb9 B79 S7 B7 S8 O8 B8
  rw [HL.out] at I9
  go_wp2_with fail
  refine (Hin.out _ _ _ S9.out.1 I9.out).mono ?_
  rintro e w10 ⟨rfl, rfl⟩
  go_wp2
  go_ret
  exact ⟨rfl, B9.out⟩
set_option maxRecDepth 100000 in
set_option maxHeartbeats 2000000 in
theorem total7ltbb (va vb vc : Value) (a b c : List ByteArray) (w : World) (ha : SR w a va) (hb : SR w b vb) (hc : SR w c vc) (sa' : va = .slice none 0 0 ∨ ∃ ad n c, va = .slice (some ad) n c) (sc' : vc = .slice none 0 0 ∨ ∃ ad n c, vc = .slice (some ad) n c)
    (hl : a.length + b.length + c.length ≤ 1048576) (hab : cl a b < 0) (hbc : lx b c = true) (hbg : bg a b = true) :
    Calls Tryd.prog 7 #[va, vb, vc] w fun e w' => e = .returned (.bool true) ∧ Below w.heap.size w w' := by
  have HS : Hid (SR w a va ∧ SR w b vb ∧ SR w c vc) := ⟨ha, hb, hc⟩
  have HA : Hid (va = .slice none 0 0 ∨ ∃ ad n c, va = .slice (some ad) n c) := sa'
  have HC : Hid (vc = .slice none 0 0 ∨ ∃ ad n c, vc = .slice (some ad) n c) := sc'
  have la : a.length * 16 ≤ 140737488351232 := by omega
  have lb : b.length * 16 ≤ 140737488351232 := by omega
  have lc : c.length * 16 ≤ 140737488351232 := by omega
  have lac : (a ++ c).length * 16 ≤ 140737488351232 := by rw [List.length_append]; omega
  have hneg := cl_neg a b
  have Hab : Hid (∀ v1 v2 w, SR w a v1 → SR w b v2 → Calls Tryd.prog 16 #[v1, v2] w fun e w' => e = .returned (.bool true) ∧ w' = w) := lxC la lb (by unfold lx; simp; omega)
  have Hba : Hid (∀ v1 v2 w, SR w b v1 → SR w a v2 → Calls Tryd.prog 16 #[v1, v2] w fun e w' => e = .returned (.bool false) ∧ w' = w) := lxC lb la (by unfold lx; simp; omega)
  have Haa : Hid (∀ v1 v2 w, SR w a v1 → SR w a v2 → Calls Tryd.prog 16 #[v1, v2] w fun e w' => e = .returned (.bool false) ∧ w' = w) := lxC la la (by unfold lx; rw [cl_self]; rfl)
  have Hin : Hid (∀ v1 v2 w, SR w a v1 → SR w (a ++ c) v2 → Calls Tryd.prog 16 #[v1, v2] w fun e w' => e = .returned (.bool (decide (0 < c.length))) ∧ w' = w) := lxC la lac (lx_app a c)
  have Hbc : Hid (∀ v1 v2 w, SR w b v1 → SR w c v2 → Calls Tryd.prog 16 #[v1, v2] w fun e w' => e = .returned (.bool true) ∧ w' = w) := lxC lb lc hbc
  have Hac : Hid (∀ v1 v2 w, SR w a v1 → SR w c v2 → Calls Tryd.prog 16 #[v1, v2] w fun e w' => e = .returned (.bool true) ∧ w' = w) := lxC la lc (decide_eq_true (cl_tr a b c hab (of_decide_eq_true hbc)))
  have Hbg : Hid (∀ v1 v2 w, SR w a v1 → SR w b v2 → Calls Tryd.prog 17 #[v1, v2] w fun e w' => e = .returned (.bool true) ∧ ∃ n, w' = w.drewN n) := fun v1 v2 w h1 h2 => hbg ▸ begins17 v1 v2 a b w la lb h1 h2
  clear hbc hbg
  clear hab hneg sa' sc'
  obtain ⟨aa, ca, rfl, _, _⟩ := ha
  obtain ⟨ab, cb, rfl, _, _⟩ := hb
  obtain ⟨ac, cc, rfl, _, _⟩ := hc
  have HL : Hid ((a ++ c).length = a.length + c.length) := List.length_append
  go_enter Tryd.func7, Tryd.ntmps7
  go_wp2_with fail
  refine (awake11 _).mono ?_
  rintro e w1 ⟨rfl, hb1⟩
  have S1 : Hid (SR w1 a _ ∧ SR w1 b _ ∧ SR w1 c _) := ⟨HS.out.1.keep hb1, HS.out.2.1.keep hb1, HS.out.2.2.keep hb1⟩
  have B1 : Hid (Below w.heap.size w w1) := hb1
  clear hb1 HS
  go_wp2_with fail
  refine (Hab.out _ _ _ S1.out.1 S1.out.2.1).mono ?_
  rintro e w2 ⟨rfl, rfl⟩
  go_wp2_with fail
  refine (Hba.out _ _ _ S1.out.2.1 S1.out.1).mono ?_
  rintro e w3 ⟨rfl, rfl⟩
  go_wp2_with fail
  refine (Hbc.out _ _ _ S1.out.2.1 S1.out.2.2).mono ?_
  rintro e w4 ⟨rfl, rfl⟩
  go_wp2_with fail
  refine (Hac.out _ _ _ S1.out.1 S1.out.2.2).mono ?_
  rintro e w5 ⟨rfl, rfl⟩
  go_wp2_with fail
  refine (Haa.out _ _ _ S1.out.1 S1.out.1).mono ?_
  rintro e w6 ⟨rfl, rfl⟩
  have S7 := S1
  have B7 := B1
  generalize w6 = w7 at *
  go_wp2_with (first
    | (at_builtin; refine append_ls (l := []) (m := a) (B := w7.heap.size) (sv := .slice none 0 0) (v := .slice aa a.length ca) rfl _ _ rfl rfl (os_nil _ _) rfl S7.out.1 HA.out (Nat.le_refl _) (by simp; omega) ?_; intro v8 w8 ho8 hb8
       have O8 : Hid (OS w7.heap.size w8 v8 a) := ho8
       have S8 : Hid (SR w8 c _) := S7.out.2.2.keep hb8
       have B8 : Hid (Below w7.heap.size w7 w8) := hb8
       obtain ⟨a8, c8, rfl⟩ := O8.out.form
       clear ho8 hb8)
    | (at_builtin; refine append_ls (l := a) (m := c) (B := w7.heap.size) (sv := .slice a8 a.length c8) (v := .slice ac c.length cc) rfl _ _ rfl rfl O8.out rfl S8.out HC.out B8.out.size (by omega) ?_; intro v9 w9 ho9 hb9
       obtain ⟨a9, c9, he9⟩ := ho9.form
       subst he9
       rw [HL.out]))
  have B79 : Hid (Below w7.heap.size w7 w9) := B8.out.trans hb9
  have S9 : Hid (SR w9 a _ ∧ SR w9 b _ ∧ SR w9 c _) := ⟨S7.out.1.keep B79.out, S7.out.2.1.keep B79.out, S7.out.2.2.keep B79.out⟩
  have I9 : Hid (SR w9 (a ++ c) _) := ho9.sr
  have B9 : Hid (Below w.heap.size w w9) := B7.out.trans (B79.out.mono B7.out.size)
  clear ho9 hb9 B79 S7 B7 S8 O8 B8
  rw [HL.out] at I9
  go_wp2_with fail
  refine (Hin.out _ _ _ S9.out.1 I9.out).mono ?_
  rintro e w10 ⟨rfl, rfl⟩
  go_wp2_with fail
  refine (Hbg.out _ _ _ S9.out.1 S9.out.2.1).mono ?_
  rintro e w11 ⟨rfl, n11, rfl⟩
  go_wp2
  go_ret
  exact ⟨rfl, B9.out.trans ((drN _ _).mono B9.out.size)⟩
set_option maxRecDepth 100000 in
set_option maxHeartbeats 2000000 in
theorem total7ltbn (va vb vc : Value) (a b c : List ByteArray) (w : World) (ha : SR w a va) (hb : SR w b vb) (hc : SR w c vc) (sa' : va = .slice none 0 0 ∨ ∃ ad n c, va = .slice (some ad) n c) (sc' : vc = .slice none 0 0 ∨ ∃ ad n c, vc = .slice (some ad) n c)
    (hl : a.length + b.length + c.length ≤ 1048576) (hab : cl a b < 0) (hbc : lx b c = true) (hbg : bg a b = false) :
    Calls Tryd.prog 7 #[va, vb, vc] w fun e w' => e = .returned (.bool true) ∧ Below w.heap.size w w' := by
  have HS : Hid (SR w a va ∧ SR w b vb ∧ SR w c vc) := ⟨ha, hb, hc⟩
  have HA : Hid (va = .slice none 0 0 ∨ ∃ ad n c, va = .slice (some ad) n c) := sa'
  have HC : Hid (vc = .slice none 0 0 ∨ ∃ ad n c, vc = .slice (some ad) n c) := sc'
  have la : a.length * 16 ≤ 140737488351232 := by omega
  have lb : b.length * 16 ≤ 140737488351232 := by omega
  have lc : c.length * 16 ≤ 140737488351232 := by omega
  have lac : (a ++ c).length * 16 ≤ 140737488351232 := by rw [List.length_append]; omega
  have hneg := cl_neg a b
  have Hab : Hid (∀ v1 v2 w, SR w a v1 → SR w b v2 → Calls Tryd.prog 16 #[v1, v2] w fun e w' => e = .returned (.bool true) ∧ w' = w) := lxC la lb (by unfold lx; simp; omega)
  have Hba : Hid (∀ v1 v2 w, SR w b v1 → SR w a v2 → Calls Tryd.prog 16 #[v1, v2] w fun e w' => e = .returned (.bool false) ∧ w' = w) := lxC lb la (by unfold lx; simp; omega)
  have Haa : Hid (∀ v1 v2 w, SR w a v1 → SR w a v2 → Calls Tryd.prog 16 #[v1, v2] w fun e w' => e = .returned (.bool false) ∧ w' = w) := lxC la la (by unfold lx; rw [cl_self]; rfl)
  have Hin : Hid (∀ v1 v2 w, SR w a v1 → SR w (a ++ c) v2 → Calls Tryd.prog 16 #[v1, v2] w fun e w' => e = .returned (.bool (decide (0 < c.length))) ∧ w' = w) := lxC la lac (lx_app a c)
  have Hbc : Hid (∀ v1 v2 w, SR w b v1 → SR w c v2 → Calls Tryd.prog 16 #[v1, v2] w fun e w' => e = .returned (.bool true) ∧ w' = w) := lxC lb lc hbc
  have Hac : Hid (∀ v1 v2 w, SR w a v1 → SR w c v2 → Calls Tryd.prog 16 #[v1, v2] w fun e w' => e = .returned (.bool true) ∧ w' = w) := lxC la lc (decide_eq_true (cl_tr a b c hab (of_decide_eq_true hbc)))
  have Hbg : Hid (∀ v1 v2 w, SR w a v1 → SR w b v2 → Calls Tryd.prog 17 #[v1, v2] w fun e w' => e = .returned (.bool false) ∧ ∃ n, w' = w.drewN n) := fun v1 v2 w h1 h2 => hbg ▸ begins17 v1 v2 a b w la lb h1 h2
  have Hst : Hid (∀ v1 v2 w, SR w (a ++ c) v1 → SR w b v2 → Calls Tryd.prog 16 #[v1, v2] w fun e w' => e = .returned (.bool true) ∧ w' = w) := lxC lac lb (decide_eq_true (cl_in a b c hab fun h => by rw [bg_iff.2 h] at hbg; cases hbg))
  clear hbc hbg
  clear hab hneg sa' sc'
  obtain ⟨aa, ca, rfl, _, _⟩ := ha
  obtain ⟨ab, cb, rfl, _, _⟩ := hb
  obtain ⟨ac, cc, rfl, _, _⟩ := hc
  have HL : Hid ((a ++ c).length = a.length + c.length) := List.length_append
  go_enter Tryd.func7, Tryd.ntmps7
  go_wp2_with fail
  refine (awake11 _).mono ?_
  rintro e w1 ⟨rfl, hb1⟩
  have S1 : Hid (SR w1 a _ ∧ SR w1 b _ ∧ SR w1 c _) := ⟨HS.out.1.keep hb1, HS.out.2.1.keep hb1, HS.out.2.2.keep hb1⟩
  have B1 : Hid (Below w.heap.size w w1) := hb1
  clear hb1 HS
  go_wp2_with fail
  refine (Hab.out _ _ _ S1.out.1 S1.out.2.1).mono ?_
  rintro e w2 ⟨rfl, rfl⟩
  go_wp2_with fail
  refine (Hba.out _ _ _ S1.out.2.1 S1.out.1).mono ?_
  rintro e w3 ⟨rfl, rfl⟩
  go_wp2_with fail
  refine (Hbc.out _ _ _ S1.out.2.1 S1.out.2.2).mono ?_
  rintro e w4 ⟨rfl, rfl⟩
  go_wp2_with fail
  refine (Hac.out _ _ _ S1.out.1 S1.out.2.2).mono ?_
  rintro e w5 ⟨rfl, rfl⟩
  go_wp2_with fail
  refine (Haa.out _ _ _ S1.out.1 S1.out.1).mono ?_
  rintro e w6 ⟨rfl, rfl⟩
  have S7 := S1
  have B7 := B1
  generalize w6 = w7 at *
  go_wp2_with (first
    | (at_builtin; refine append_ls (l := []) (m := a) (B := w7.heap.size) (sv := .slice none 0 0) (v := .slice aa a.length ca) rfl _ _ rfl rfl (os_nil _ _) rfl S7.out.1 HA.out (Nat.le_refl _) (by simp; omega) ?_; intro v8 w8 ho8 hb8
       have O8 : Hid (OS w7.heap.size w8 v8 a) := ho8
       have S8 : Hid (SR w8 c _) := S7.out.2.2.keep hb8
       have B8 : Hid (Below w7.heap.size w7 w8) := hb8
       obtain ⟨a8, c8, rfl⟩ := O8.out.form
       clear ho8 hb8)
    | (at_builtin; refine append_ls (l := a) (m := c) (B := w7.heap.size) (sv := .slice a8 a.length c8) (v := .slice ac c.length cc) rfl _ _ rfl rfl O8.out rfl S8.out HC.out B8.out.size (by omega) ?_; intro v9 w9 ho9 hb9
       obtain ⟨a9, c9, he9⟩ := ho9.form
       subst he9
       rw [HL.out]))
  have B79 : Hid (Below w7.heap.size w7 w9) := B8.out.trans hb9
  have S9 : Hid (SR w9 a _ ∧ SR w9 b _ ∧ SR w9 c _) := ⟨S7.out.1.keep B79.out, S7.out.2.1.keep B79.out, S7.out.2.2.keep B79.out⟩
  have I9 : Hid (SR w9 (a ++ c) _) := ho9.sr
  have B9 : Hid (Below w.heap.size w w9) := B7.out.trans (B79.out.mono B7.out.size)
  clear ho9 hb9 B79 S7 B7 S8 O8 B8
  rw [HL.out] at I9
  go_wp2_with fail
  refine (Hin.out _ _ _ S9.out.1 I9.out).mono ?_
  rintro e w10 ⟨rfl, rfl⟩
  go_wp2_with fail
  refine (Hbg.out _ _ _ S9.out.1 S9.out.2.1).mono ?_
  rintro e w11 ⟨rfl, n11, rfl⟩
  go_wp2_with fail
  refine (Hst.out _ _ _ (I9.out.keep (drN _ _)) (S9.out.2.1.keep (drN _ _))).mono ?_
  rintro e w12 ⟨rfl, rfl⟩
  go_wp2
  go_ret
  exact ⟨rfl, B9.out.trans ((drN _ _).mono B9.out.size)⟩
set_option maxRecDepth 100000 in
set_option maxHeartbeats 2000000 in
theorem total7ltnb (va vb vc : Value) (a b c : List ByteArray) (w : World) (ha : SR w a va) (hb : SR w b vb) (hc : SR w c vc) (sa' : va = .slice none 0 0 ∨ ∃ ad n c, va = .slice (some ad) n c) (sc' : vc = .slice none 0 0 ∨ ∃ ad n c, vc = .slice (some ad) n c)
    (hl : a.length + b.length + c.length ≤ 1048576) (hab : cl a b < 0) (hbc : lx b c = false) (hbg : bg a b = true) :
    Calls Tryd.prog 7 #[va, vb, vc] w fun e w' => e = .returned (.bool true) ∧ Below w.heap.size w w' := by
  have HS : Hid (SR w a va ∧ SR w b vb ∧ SR w c vc) := ⟨ha, hb, hc⟩
  have HA : Hid (va = .slice none 0 0 ∨ ∃ ad n c, va = .slice (some ad) n c) := sa'
  have HC : Hid (vc = .slice none 0 0 ∨ ∃ ad n c, vc = .slice (some ad) n c) := sc'
  have la : a.length * 16 ≤ 140737488351232 := by omega
  have lb : b.length * 16 ≤ 140737488351232 := by omega
  have lc : c.length * 16 ≤ 140737488351232 := by omega
  have lac : (a ++ c).length * 16 ≤ 140737488351232 := by rw [List.length_append]; omega
  have hneg := cl_neg a b
  have Hab : Hid (∀ v1 v2 w, SR w a v1 → SR w b v2 → Calls Tryd.prog 16 #[v1, v2] w fun e w' => e = .returned (.bool true) ∧ w' = w) := lxC la lb (by unfold lx; simp; omega)
  have Hba : Hid (∀ v1 v2 w, SR w b v1 → SR w a v2 → Calls Tryd.prog 16 #[v1, v2] w fun e w' => e = .returned (.bool false) ∧ w' = w) := lxC lb la (by unfold lx; simp; omega)
  have Haa : Hid (∀ v1 v2 w, SR w a v1 → SR w a v2 → Calls Tryd.prog 16 #[v1, v2] w fun e w' => e = .returned (.bool false) ∧ w' = w) := lxC la la (by unfold lx; rw [cl_self]; rfl)
  have Hin : Hid (∀ v1 v2 w, SR w a v1 → SR w (a ++ c) v2 → Calls Tryd.prog 16 #[v1, v2] w fun e w' => e = .returned (.bool (decide (0 < c.length))) ∧ w' = w) := lxC la lac (lx_app a c)
  have Hbc : Hid (∀ v1 v2 w, SR w b v1 → SR w c v2 → Calls Tryd.prog 16 #[v1, v2] w fun e w' => e = .returned (.bool false) ∧ w' = w) := lxC lb lc hbc
  have Hac : Hid (∀ v1 v2 w, SR w a v1 → SR w c v2 → Calls Tryd.prog 16 #[v1, v2] w fun e w' => e = .returned (.bool (lx a c)) ∧ w' = w) := lxC la lc rfl
  generalize lx a c = zac at *
  have Hbg : Hid (∀ v1 v2 w, SR w a v1 → SR w b v2 → Calls Tryd.prog 17 #[v1, v2] w fun e w' => e = .returned (.bool true) ∧ ∃ n, w' = w.drewN n) := fun v1 v2 w h1 h2 => hbg ▸ begins17 v1 v2 a b w la lb h1 h2
  clear hbc hbg
  clear hab hneg sa' sc'
  obtain ⟨aa, ca, rfl, _, _⟩ := ha
  obtain ⟨ab, cb, rfl, _, _⟩ := hb
  obtain ⟨ac, cc, rfl, _, _⟩ := hc
  have HL : Hid ((a ++ c).length = a.length + c.length) := List.length_append
  go_enter Tryd.func7, Tryd.ntmps7
  go_wp2_with fail
  refine (awake11 _).mono ?_
  rintro e w1 ⟨rfl, hb1⟩
  have S1 : Hid (SR w1 a _ ∧ SR w1 b _ ∧ SR w1 c _) := ⟨HS.out.1.keep hb1, HS.out.2.1.keep hb1, HS.out.2.2.keep hb1⟩
  have B1 : Hid (Below w.heap.size w w1) := hb1
  clear hb1 HS
  go_wp2_with fail
  refine (Hab.out _ _ _ S1.out.1 S1.out.2.1).mono ?_
  rintro e w2 ⟨rfl, rfl⟩
  go_wp2_with fail
  refine (Hba.out _ _ _ S1.out.2.1 S1.out.1).mono ?_
  rintro e w3 ⟨rfl, rfl⟩
  go_wp2_with fail
  refine (Hbc.out _ _ _ S1.out.2.1 S1.out.2.2).mono ?_
  rintro e w4 ⟨rfl, rfl⟩
  go_wp2_with fail
  refine (Hac.out _ _ _ S1.out.1 S1.out.2.2).mono ?_
  rintro e w5 ⟨rfl, rfl⟩
  go_wp2_with fail
  refine (Haa.out _ _ _ S1.out.1 S1.out.1).mono ?_
  rintro e w6 ⟨rfl, rfl⟩
  have S7 := S1
  have B7 := B1
  generalize w6 = w7 at *
  go_wp2_with (first
    | (at_builtin; refine append_ls (l := []) (m := a) (B := w7.heap.size) (sv := .slice none 0 0) (v := .slice aa a.length ca) rfl _ _ rfl rfl (os_nil _ _) rfl S7.out.1 HA.out (Nat.le_refl _) (by simp; omega) ?_; intro v8 w8 ho8 hb8
       have O8 : Hid (OS w7.heap.size w8 v8 a) := ho8
       have S8 : Hid (SR w8 c _) := S7.out.2.2.keep hb8
       have B8 : Hid (Below w7.heap.size w7 w8) := hb8
       obtain ⟨a8, c8, rfl⟩ := O8.out.form
       clear ho8 hb8)
    | (at_builtin; refine append_ls (l := a) (m := c) (B := w7.heap.size) (sv := .slice a8 a.length c8) (v := .slice ac c.length cc) rfl _ _ rfl rfl O8.out rfl S8.out HC.out B8.out.size (by omega) ?_; intro v9 w9 ho9 hb9
       obtain ⟨a9, c9, he9⟩ := ho9.form
       subst he9
       rw [HL.out]))
  have B79 : Hid (Below w7.heap.size w7 w9) := B8.out.trans hb9
  have S9 : Hid (SR w9 a _ ∧ SR w9 b _ ∧ SR w9 c _) := ⟨S7.out.1.keep B79.out, S7.out.2.1.keep B79.out, S7.out.2.2.keep B79.out⟩
  have I9 : Hid (SR w9 (a ++ c) _) := ho9.sr
  have B9 : Hid (Below w.heap.size w w9) := B7.out.trans (B79.out.mono B7.out.size)
  clear ho9 hb9 B79 S7 B7 S8 O8 B8
  rw [HL.out] at I9
  go_wp2_with fail
  refine (Hin.out _ _ _ S9.out.1 I9.out).mono ?_
  rintro e w10 ⟨rfl, rfl⟩
  go_wp2_with fail
  refine (Hbg.out _ _ _ S9.out.1 S9.out.2.1).mono ?_
  rintro e w11 ⟨rfl, n11, rfl⟩
  go_wp2
  go_ret
  exact ⟨rfl, B9.out.trans ((drN _ _).mono B9.out.size)⟩
set_option maxRecDepth 100000 in
set_option maxHeartbeats 2000000 in
theorem total7ltnn (va vb vc : Value) (a b c : List ByteArray) (w : World) (ha : SR w a va) (hb : SR w b vb) (hc : SR w c vc) (sa' : va = .slice none 0 0 ∨ ∃ ad n c, va = .slice (some ad) n c) (sc' : vc = .slice none 0 0 ∨ ∃ ad n c, vc = .slice (some ad) n c)
    (hl : a.length + b.length + c.length ≤ 1048576) (hab : cl a b < 0) (hbc : lx b c = false) (hbg : bg a b = false) :
    Calls Tryd.prog 7 #[va, vb, vc] w fun e w' => e = .returned (.bool true) ∧ Below w.heap.size w w' := by
  have HS : Hid (SR w a va ∧ SR w b vb ∧ SR w c vc) := ⟨ha, hb, hc⟩
  have HA : Hid (va = .slice none 0 0 ∨ ∃ ad n c, va = .slice (some ad) n c) := sa'
  have HC : Hid (vc = .slice none 0 0 ∨ ∃ ad n c, vc = .slice (some ad) n c) := sc'
  have la : a.length * 16 ≤ 140737488351232 := by omega
  have lb : b.length * 16 ≤ 140737488351232 := by omega
  have lc : c.length * 16 ≤ 140737488351232 := by omega
  have lac : (a ++ c).length * 16 ≤ 140737488351232 := by rw [List.length_append]; omega
  have hneg := cl_neg a b
  have Hab : Hid (∀ v1 v2 w, SR w a v1 → SR w b v2 → Calls Tryd.prog 16 #[v1, v2] w fun e w' => e = .returned (.bool true) ∧ w' = w) := lxC la lb (by unfold lx; simp; omega)
  have Hba : Hid (∀ v1 v2 w, SR w b v1 → SR w a v2 → Calls Tryd.prog 16 #[v1, v2] w fun e w' => e = .returned (.bool false) ∧ w' = w) := lxC lb la (by unfold lx; simp; omega)
  have Haa : Hid (∀ v1 v2 w, SR w a v1 → SR w a v2 → Calls Tryd.prog 16 #[v1, v2] w fun e w' => e = .returned (.bool false) ∧ w' = w) := lxC la la (by unfold lx; rw [cl_self]; rfl)
  have Hin : Hid (∀ v1 v2 w, SR w a v1 → SR w (a ++ c) v2 → Calls Tryd.prog 16 #[v1, v2] w fun e w' => e = .returned (.bool (decide (0 < c.length))) ∧ w' = w) := lxC la lac (lx_app a c)
  have Hbc : Hid (∀ v1 v2 w, SR w b v1 → SR w c v2 → Calls Tryd.prog 16 #[v1, v2] w fun e w' => e = .returned (.bool false) ∧ w' = w) := lxC lb lc hbc
  have Hac : Hid (∀ v1 v2 w, SR w a v1 → SR w c v2 → Calls Tryd.prog 16 #[v1, v2] w fun e w' => e = .returned (.bool (lx a c)) ∧ w' = w) := lxC la lc rfl
  generalize lx a c = zac at *
  have Hbg : Hid (∀ v1 v2 w, SR w a v1 → SR w b v2 → Calls Tryd.prog 17 #[v1, v2] w fun e w' => e = .returned (.bool false) ∧ ∃ n, w' = w.drewN n) := fun v1 v2 w h1 h2 => hbg ▸ begins17 v1 v2 a b w la lb h1 h2
  have Hst : Hid (∀ v1 v2 w, SR w (a ++ c) v1 → SR w b v2 → Calls Tryd.prog 16 #[v1, v2] w fun e w' => e = .returned (.bool true) ∧ w' = w) := lxC lac lb (decide_eq_true (cl_in a b c hab fun h => by rw [bg_iff.2 h] at hbg; cases hbg))
  clear hbc hbg
  clear hab hneg sa' sc'
  obtain ⟨aa, ca, rfl, _, _⟩ := ha
  obtain ⟨ab, cb, rfl, _, _⟩ := hb
  obtain ⟨ac, cc, rfl, _, _⟩ := hc
  have HL : Hid ((a ++ c).length = a.length + c.length) := List.length_append
  go_enter Tryd.func7, Tryd.ntmps7
  go_wp2_with fail
  refine (awake11 _).mono ?_
  rintro e w1 ⟨rfl, hb1⟩
  have S1 : Hid (SR w1 a _ ∧ SR w1 b _ ∧ SR w1 c _) := ⟨HS.out.1.keep hb1, HS.out.2.1.keep hb1, HS.out.2.2.keep hb1⟩
  have B1 : Hid (Below w.heap.size w w1) := hb1
  clear hb1 HS
  go_wp2_with fail
  refine (Hab.out _ _ _ S1.out.1 S1.out.2.1).mono ?_
  rintro e w2 ⟨rfl, rfl⟩
  go_wp2_with fail
  refine (Hba.out _ _ _ S1.out.2.1 S1.out.1).mono ?_
  rintro e w3 ⟨rfl, rfl⟩
  go_wp2_with fail
  refine (Hbc.out _ _ _ S1.out.2.1 S1.out.2.2).mono ?_
  rintro e w4 ⟨rfl, rfl⟩
  go_wp2_with fail
  refine (Hac.out _ _ _ S1.out.1 S1.out.2.2).mono ?_
  rintro e w5 ⟨rfl, rfl⟩
  go_wp2_with fail
  refine (Haa.out _ _ _ S1.out.1 S1.out.1).mono ?_
  rintro e w6 ⟨rfl, rfl⟩
  have S7 := S1
  have B7 := B1
  generalize w6 = w7 at *
  go_wp2_with (first
    | (at_builtin; refine append_ls (l := []) (m := a) (B := w7.heap.size) (sv := .slice none 0 0) (v := .slice aa a.length ca) rfl _ _ rfl rfl (os_nil _ _) rfl S7.out.1 HA.out (Nat.le_refl _) (by simp; omega) ?_; intro v8 w8 ho8 hb8
       have O8 : Hid (OS w7.heap.size w8 v8 a) := ho8
       have S8 : Hid (SR w8 c _) := S7.out.2.2.keep hb8
       have B8 : Hid (Below w7.heap.size w7 w8) := hb8
       obtain ⟨a8, c8, rfl⟩ := O8.out.form
       clear ho8 hb8)
    | (at_builtin; refine append_ls (l := a) (m := c) (B := w7.heap.size) (sv := .slice a8 a.length c8) (v := .slice ac c.length cc) rfl _ _ rfl rfl O8.out rfl S8.out HC.out B8.out.size (by omega) ?_; intro v9 w9 ho9 hb9
       obtain ⟨a9, c9, he9⟩ := ho9.form
       subst he9
       rw [HL.out]))
  have B79 : Hid (Below w7.heap.size w7 w9) := B8.out.trans hb9
  have S9 : Hid (SR w9 a _ ∧ SR w9 b _ ∧ SR w9 c _) := ⟨S7.out.1.keep B79.out, S7.out.2.1.keep B79.out, S7.out.2.2.keep B79.out⟩
  have I9 : Hid (SR w9 (a ++ c) _) := ho9.sr
  have B9 : Hid (Below w.heap.size w w9) := B7.out.trans (B79.out.mono B7.out.size)
  clear ho9 hb9 B79 S7 B7 S8 O8 B8
  rw [HL.out] at I9
  go_wp2_with fail
  refine (Hin.out _ _ _ S9.out.1 I9.out).mono ?_
  rintro e w10 ⟨rfl, rfl⟩
  go_wp2_with fail
  refine (Hbg.out _ _ _ S9.out.1 S9.out.2.1).mono ?_
  rintro e w11 ⟨rfl, n11, rfl⟩
  go_wp2_with fail
  refine (Hst.out _ _ _ (I9.out.keep (drN _ _)) (S9.out.2.1.keep (drN _ _))).mono ?_
  rintro e w12 ⟨rfl, rfl⟩
  go_wp2
  go_ret
  exact ⟨rfl, B9.out.trans ((drN _ _).mono B9.out.size)⟩
theorem total7 (va vb vc : Value) (a b c : List ByteArray) (w : World) (ha : SR w a va) (hb : SR w b vb) (hc : SR w c vc) (sa' : va = .slice none 0 0 ∨ ∃ ad n c, va = .slice (some ad) n c) (sc' : vc = .slice none 0 0 ∨ ∃ ad n c, vc = .slice (some ad) n c)
    (hl : a.length + b.length + c.length ≤ 1048576) :
    Calls Tryd.prog 7 #[va, vb, vc] w fun e w' => e = .returned (.bool true) ∧ Below w.heap.size w w' := by
  rcases Int.lt_trichotomy (cl a b) 0 with h | h | h
  · cases h1 : lx b c <;> cases h2 : bg a b
    · exact total7ltnn va vb vc a b c w ha hb hc sa' sc' hl h h1 h2
    · exact total7ltnb va vb vc a b c w ha hb hc sa' sc' hl h h1 h2
    · exact total7ltbn va vb vc a b c w ha hb hc sa' sc' hl h h1 h2
    · exact total7ltbb va vb vc a b c w ha hb hc sa' sc' hl h h1 h2
  · exact total7eq va vb vc a b c w ha hb hc sa' sc' hl h
  · exact total7gt va vb vc a b c w ha hb hc sa' sc' hl h
end Go.Proofs.YtfpokhcddjgfmabDoor
