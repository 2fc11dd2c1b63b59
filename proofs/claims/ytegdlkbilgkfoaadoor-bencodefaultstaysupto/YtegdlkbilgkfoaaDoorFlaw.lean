import Derived.Test.YtegdlkbilgkfoaaDoorFs
namespace Go.Proofs.YtegdlkbilgkfoaaDoor
open Go.RowKit Go.Deep
set_option maxRecDepth 10000 in
set_option maxHeartbeats 4000000 in
theorem faults7 (v1 v2 : Value) (b m : List UInt8) (w : World) (h1 : RB w v1 b) (h2 : RB w v2 m) (s1 : v1 = .slice none 0 0 ∨ ∃ ad n c, v1 = .slice (some ad) n c) (s2 : v2 = .slice none 0 0 ∨ ∃ ad n c, v2 = .slice (some ad) n c)
    (hlim : b.length + m.length ≤ 1048576) (hev : EVw w) (hT : TB w.heap.size w) :
    Calls Tryd.prog 7 #[v1, v2] w fun e w' => e = .returned (.bool true) ∧ Below w.heap.size w w' := by
  have HR := Lib.hid (And.intro h1 h2)
  have S1 := Lib.hid s1
  have S2 := Lib.hid s2
  have HE := Lib.hid hev
  have HT := Lib.hid hT
  obtain ⟨a1, c1, rfl, _⟩ := h1
  obtain ⟨a2, c2, rfl, _⟩ := h2
  clear s1 s2 hev hT
  go_enter Tryd.func7, Tryd.ntmps7
  go_wp2_with fail
  refine (awake14 _ HE.out HT.out).mono ?_
  rintro e w1 ⟨rfl, hb1⟩
  have R1 := Lib.hid (And.intro (HR.out.1.keep hb1) (HR.out.2.keep hb1))
  have E1 := Lib.hid (HE.out.keep hb1)
  have B1 := Lib.hid hb1
  clear hb1 HR HE
  go_wp2_with fail
  refine (decode10 _ b _ R1.out.1 E1.out).mono ?_
  rintro e w2 ⟨t, x, y, k, er, rfl, hrv, hok, hout, hb2⟩
  obtain ⟨⟨xa, xn, xc, rfl⟩, ⟨ya, yn, yc, rfl⟩⟩ := hrv.slices
  have hba : Below w2.heap.size w2 (w2.alloc (Obj.cells #[.int .i64 t.k, .int .i64 t.n, .string t.s, .slice xa xn xc, .slice ya yn yc] 27)) := (Below.refl _ _).alloc (Nat.le_refl _) _
  have hbb := hb2.trans (hba.mono hb2.size)
  have R2 := Lib.hid (And.intro (R1.out.1.keep hbb) (R1.out.2.keep hbb))
  have E2 := Lib.hid (E1.out.keep hbb)
  have B2 := Lib.hid (B1.out.trans (hbb.mono B1.out.size))
  have HC := Lib.hid (dout_cases hout)
  clear hba hbb hrv hok hout hb2 R1 E1 B1
  unfold vv
  go_wp2_with fail
  generalize (w2.alloc (Obj.cells #[.int .i64 t.k, .int .i64 t.n, .string t.s, .slice xa xn xc, .slice ya yn yc] 27)) = w3 at *
  refine (num15 _ _).mono ?_
  rintro e w4 ⟨rfl, rfl⟩
  rcases HC.out with ⟨rfl, rfl⟩ | ⟨rfl, rfl, hl⟩ | ⟨rfl, hk, hl⟩ | ⟨e1, e2, hk, hl, hall⟩
  · go_wp2
    go_ret
    exact ⟨rfl, B2.out⟩
  · omega
  · have hki : (k : Int) = (b.length : Int) := by omega
    subst hk
    go_wp2
    go_ret
    exact ⟨by simp, B2.out⟩
  · have HA := Lib.hid hall
    clear HC hall
    have g0 : (er == 0) = false := beq_eq_false_iff_ne.2 (by omega)
    have g1 : (er == 20) = false := beq_eq_false_iff_ne.2 (by omega)
    have g2 : (er == 21) = false := beq_eq_false_iff_ne.2 (by omega)
    have g3 : ¬ er < 22 := by omega
    have g4 : ¬ 26 < er := by omega
    have g5 : ¬ (b.length : Int) ≤ (k : Int) := by omega
    go_wp2_with fail
    refine (together19 _ _ b m _ R2.out.1 R2.out.2 S1.out S2.out (by omega)).mono ?_
    rintro e w5 ⟨v5, rfl, ho5, hb5⟩
    have R5 := Lib.hid ho5.rb
    have E5 := Lib.hid (E2.out.keep hb5)
    have B5 := Lib.hid (B2.out.trans (hb5.mono B2.out.size))
    obtain ⟨a5, c5, rfl⟩ := ho5.form'
    have hlen : (b ++ m).length ≤ 1048576 := by rw [List.length_append]; exact hlim
    have HD := Lib.hid (HA.out m hlen)
    clear ho5 hb5 R2 E2 B2 HA
    generalize b ++ m = q at *
    go_wp2_with fail
    refine (decode10 _ q _ R5.out E5.out).mono ?_
    rintro e w6 ⟨t', x', y', k', er', rfl, hrv, hok, hout, hb6⟩
    obtain ⟨rfl, rfl, rfl⟩ := DOUT.unique hout HD.out
    obtain ⟨⟨xa', xn', xc', rfl⟩, ⟨ya', yn', yc', rfl⟩⟩ := hrv.slices
    have H6 : Hid (∀ ob, RV (fun _ => True) (w6.alloc ob) t0 (.slice xa' xn' xc') (.slice ya' yn' yc') ∧ Below w.heap.size w (w6.alloc ob)) := fun ob => by
      have hba : Below w6.heap.size w6 (w6.alloc ob) := (Below.refl _ _).alloc (Nat.le_refl _) _
      have h56 := B5.out.trans (hb6.mono B5.out.size)
      exact ⟨Below.rv hba (Nat.le_refl _) hrv, h56.trans (hba.mono h56.size)⟩
    clear hrv hok hout hb6 R5 E5 B5 HD
    unfold vv
    have z0 : t0.k = 0 := rfl
    have z1 : t0.n = 0 := rfl
    have z2 : t0.s = { data := #[] } := rfl
    rw [z0, z1, z2]
    clear z0 z1 z2
    go_wp2_with fail
    refine (num15 _ _).mono ?_
    rintro e w7 ⟨rfl, rfl⟩
    go_wp2_with fail
    show Calls Tryd.prog 12 #[vv t0 (.slice xa' xn' xc') (.slice ya' yn' yc'), vv t0 (.slice none 0 0) (.slice none 0 0)] _ _
    refine (same11 t0 _ _ _ _ _ t0_ok (H6.out _).1 (rv_t0 _ _)).mono ?_
    rintro e w8 ⟨rfl, hb8⟩
    have B8 := (H6.out _).2.trans (hb8.mono (H6.out _).2.size)
    go_wp2
    go_ret
    exact ⟨rfl, B8⟩
end Go.Proofs.YtegdlkbilgkfoaaDoor
