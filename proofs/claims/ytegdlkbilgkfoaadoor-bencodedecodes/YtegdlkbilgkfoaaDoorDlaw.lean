import Derived.Test.YtegdlkbilgkfoaaDoorDed
namespace Go.Proofs.YtegdlkbilgkfoaaDoor
open Go.RowKit Go.Deep
set_option maxHeartbeats 400000 in
theorem decodes3 (v : Value) (b : List UInt8) (w : World) (hr : RB w v b) (hl : b.length ≤ 140737488351232) (hev : EVw w) :
    Calls Tryd.prog 3 #[v] w fun e w' => e = .returned (.bool true) ∧ Below w.heap.size w w' := by
  have HR : Hid (RB w v b ∧ EVw w) := ⟨hr, hev⟩
  clear hev
  obtain ⟨a, c, rfl, _⟩ := hr
  go_enter Tryd.func3, Tryd.ntmps3
  go_wp2_with (go_at_call 9; refine (twin11 _ b _ hl HR.out.1).mono ?_; rintro e w1 ⟨v1, rfl, ho, hb1⟩)
  obtain ⟨a1, c1, rfl⟩ := ho.form'
  have HO : Hid (RB w1 (.slice a1 b.length c1) b ∧ RB w1 (.slice a b.length c) b ∧ EVw w1 ∧ Below w.heap.size w w1) := ⟨ho.rb, HR.out.1.keep hb1, HR.out.2.keep hb1, hb1⟩
  clear ho hb1 HR
  go_wp2_with (go_at_call 10; refine (decode10 _ b _ HO.out.2.1 HO.out.2.2.1).mono ?_; rintro e w2 ⟨t, x, y, k, er, rfl, hrv, hok, hout, hb2⟩; obtain ⟨⟨xa, xn, xc, rfl⟩, ⟨ya, yn, yc, rfl⟩⟩ := hrv.slices; unfold vv)
  have hba : Below w2.heap.size w2 (w2.alloc (Obj.cells #[.int .i64 t.k, .int .i64 t.n, .string t.s, .slice xa xn xc, .slice ya yn yc] 27)) := (Below.refl _ _).alloc (Nat.le_refl _) _
  have hb12 : Below w1.heap.size w1 (w2.alloc (Obj.cells #[.int .i64 t.k, .int .i64 t.n, .string t.s, .slice xa xn xc, .slice ya yn yc] 27)) := hb2.trans (hba.mono hb2.size)
  have H3 : Hid (obj (w2.alloc (Obj.cells #[.int .i64 t.k, .int .i64 t.n, .string t.s, .slice xa xn xc, .slice ya yn yc] 27)) w2.heap.size (.int .i64 t.k) (.int .i64 t.n) (.string t.s) (.slice xa xn xc) (.slice ya yn yc) ∧
      RV (fun _ => True) (w2.alloc (Obj.cells #[.int .i64 t.k, .int .i64 t.n, .string t.s, .slice xa xn xc, .slice ya yn yc] 27)) t (.slice xa xn xc) (.slice ya yn yc) ∧ RB (w2.alloc (Obj.cells #[.int .i64 t.k, .int .i64 t.n, .string t.s, .slice xa xn xc, .slice ya yn yc] 27)) (.slice a1 b.length c1) b ∧
      RB (w2.alloc (Obj.cells #[.int .i64 t.k, .int .i64 t.n, .string t.s, .slice xa xn xc, .slice ya yn yc] 27)) (.slice a b.length c) b ∧ Below w.heap.size w (w2.alloc (Obj.cells #[.int .i64 t.k, .int .i64 t.n, .string t.s, .slice xa xn xc, .slice ya yn yc] 27)) ∧ t.ok ∧ DOUT b t k er) :=
    ⟨heap_new _ _, Below.rv hba (Nat.le_refl _) hrv, HO.out.1.keep hb12, HO.out.2.1.keep hb12, HO.out.2.2.2.trans (hb12.mono HO.out.2.2.2.size), hok, hout⟩
  clear hba hb12 HO hrv hok hout hb2
  generalize (w2.alloc (Obj.cells #[.int .i64 t.k, .int .i64 t.n, .string t.s, .slice xa xn xc, .slice ya yn yc] 27)) = w3 at *
  generalize w2.heap.size = VB at *
  refine (decode11 _ b _ H3.out.2.2.1 hl).mono ?_
  rintro e w4 ⟨t', x', y', k', er', rfl, hrv', hout', hb4⟩
  obtain ⟨rfl, rfl, rfl⟩ := DOUT.unique H3.out.2.2.2.2.2.2 hout'
  obtain ⟨⟨xa', xn', xc', rfl⟩, ⟨ya', yn', yc', rfl⟩⟩ := hrv'.slices
  have H4 : Hid (∀ ob, obj (w4.alloc ob) VB (.int .i64 t.k) (.int .i64 t.n) (.string t.s) (.slice xa xn xc) (.slice ya yn yc) ∧ RV (fun _ => True) (w4.alloc ob) t (.slice xa xn xc) (.slice ya yn yc) ∧ RV (fun _ => True) (w4.alloc ob) t (.slice xa' xn' xc') (.slice ya' yn' yc') ∧
      RB (w4.alloc ob) (.slice a1 b.length c1) b ∧ RB (w4.alloc ob) (.slice a b.length c) b ∧ Below w.heap.size w (w4.alloc ob)) := fun ob => by
    have hba : Below w4.heap.size w4 (w4.alloc ob) := (Below.refl _ _).alloc (Nat.le_refl _) _
    have h34 : Below w3.heap.size w3 (w4.alloc ob) := hb4.trans (hba.mono hb4.size)
    obtain ⟨q1, q2, q3, q4, q5, q6, q7⟩ := H3.out
    exact ⟨q1.keep (h34.block _ q1.lt), Below.rv h34 (Nat.le_refl _) q2, Below.rv hba (Nat.le_refl _) hrv', q3.keep h34, q4.keep h34, q5.trans (h34.mono q5.size)⟩
  have HK : Hid (t.ok) := H3.out.2.2.2.2.2.1
  have d := fun ob => (H4.out ob).1.cells
  have d0 := fun ob => (d ob).1
  have d1 := fun ob => (d ob).2.1
  have d2 := fun ob => (d ob).2.2.1
  have d3 := fun ob => (d ob).2.2.2.1
  have d4 := fun ob => (d ob).2.2.2.2
  clear d hrv' hout' hb4 H3
  unfold vv
  go_wp2_with (first
    | (go_at_call 12; refine (same11 t _ _ _ _ _ HK.out (H4.out _).2.1 (H4.out _).2.2.1).mono ?_; rintro e w5 ⟨rfl, hb5⟩)
    | fail)
  have HE := H4.out (Obj.cells #[.int .i64 t.k, .int .i64 t.n, .string t.s, .slice xa' xn' xc', .slice ya' yn' yc'] 27)
  have HZ : Hid (RB w5 (.slice a b.length c) b ∧ RB w5 (.slice a1 b.length c1) b ∧ Below w.heap.size w w5) := ⟨HE.2.2.2.2.1.keep hb5, HE.2.2.2.1.keep hb5, HE.2.2.2.2.2.trans (hb5.mono HE.2.2.2.2.2.size)⟩
  clear HE H4 d0 d1 d2 d3 d4 hb5
  refine (same9 _ _ b _ hl HZ.out.1 HZ.out.2.1).mono ?_
  rintro e w6 ⟨rfl, nq, rfl⟩
  go_wp2
  go_ret
  exact ⟨rfl, ⟨HZ.out.2.2.os, HZ.out.2.2.tape, HZ.out.2.2.output, HZ.out.2.2.size, HZ.out.2.2.block⟩⟩
end Go.Proofs.YtegdlkbilgkfoaaDoor
