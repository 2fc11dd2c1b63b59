import Derived.Test.YtegdlkbilgkfoaaDoorFx
import Derived.Test.YtegdlkbilgkfoaaDoorEncp
import Derived.Test.YtegdlkbilgkfoaaDoorTwin
import Derived.Lib.SmallJoins
import Derived.Laws.IdiomStrings
namespace Go.Proofs.YtegdlkbilgkfoaaDoor
open Go.RowKit Go.Deep
def bT : List UInt8 := [108, 105, 45, 55, 101, 49, 58, 120, 101]
def tA : T := tList [tNum (-7), tStr { data := #[120] }]
theorem stA0 : step bT [] 0 = .go [{ d := false }] 1 := by kernel_rfl
theorem stA1 : step bT [{ d := false }] 1 = .go [{ d := false, ls := [tNum (-7)] }] 5 := by kernel_rfl
theorem stA2 : step bT [{ d := false, ls := [tNum (-7)] }] 5 = .go [{ d := false, ls := [tNum (-7), tStr { data := #[120] }] }] 8 := by kernel_rfl
theorem stA3 : step bT [{ d := false, ls := [tNum (-7), tStr { data := #[120] }] }] 8 = .val tA 9 := by kernel_rfl
theorem runA : Run bT (.go [] 0) (.val tA 9) := (Run.one stA0).trans ((Run.one stA1).trans ((Run.one stA2).trans (Run.one stA3)))
theorem doutA : DOUT bT tA 0 0 := .inl ⟨rfl, rfl, by decide, 9, runA, by decide⟩
theorem wkA : wk tA 0 = 0 := by kernel_rfl
theorem txtA : txt tA = bT := by kernel_rfl
theorem two {i : Nat} (h : i < 2) : i = 0 ∨ i = 1 := by omega
theorem ok_num (n : Int) : (tNum n).ok := ⟨by show ByteArray.size _ ≤ _; decide, Nat.zero_le _, Nat.zero_le _, fun i hi => absurd hi (Nat.not_lt_zero _), fun i hi => absurd hi (Nat.not_lt_zero _)⟩
theorem ok_x : (tStr { data := #[120] }).ok := ⟨by show ByteArray.size _ ≤ _; decide, Nat.zero_le _, Nat.zero_le _, fun i hi => absurd hi (Nat.not_lt_zero _), fun i hi => absurd hi (Nat.not_lt_zero _)⟩
theorem okA : tA.ok := ⟨by show ByteArray.size _ ≤ _; decide, by show 2 ≤ _; omega, Nat.zero_le _, fun i hi => by
  rcases two hi with rfl | rfl
  · exact ok_num _
  · exact ok_x, fun i hi => absurd hi (Nat.not_lt_zero _)⟩
theorem smA : tA.small := ⟨by show 2 ≤ _; omega, Nat.zero_le _, fun i hi => by
  rcases two hi with rfl | rfl
  · exact ⟨Nat.zero_le _, Nat.zero_le _, fun i hi => absurd hi (Nat.not_lt_zero _), fun i hi => absurd hi (Nat.not_lt_zero _)⟩
  · exact ⟨Nat.zero_le _, Nat.zero_le _, fun i hi => absurd hi (Nat.not_lt_zero _), fun i hi => absurd hi (Nat.not_lt_zero _)⟩, fun i hi => absurd hi (Nat.not_lt_zero _)⟩
theorem rgA : tA.rng := ⟨by decide, by decide, by show 2 ≤ _; omega, Nat.zero_le _, fun i hi => by
  rcases two hi with rfl | rfl
  · exact ⟨by decide, by decide, Nat.zero_le _, Nat.zero_le _, fun i hi => absurd hi (Nat.not_lt_zero _), fun i hi => absurd hi (Nat.not_lt_zero _)⟩
  · exact ⟨by decide, by decide, Nat.zero_le _, Nat.zero_le _, fun i hi => absurd hi (Nat.not_lt_zero _), fun i hi => absurd hi (Nat.not_lt_zero _)⟩, fun i hi => absurd hi (Nat.not_lt_zero _)⟩
set_option maxHeartbeats 400000 in
theorem num15 (z : Int) (w : World) : Calls Tryd.prog 15 #[.int .i64 z] w fun e w' => e = .returned (.int .i64 z) ∧ w' = w := by
  go_enter Tryd.func15, Tryd.ntmps15
  go_wp2
  go_ret
  exact ⟨rfl, rfl⟩
theorem rb_bT (w : World) : RB (w.alloc (.cells #[.int .u8 108, .int .u8 105, .int .u8 45, .int .u8 55, .int .u8 101, .int .u8 49, .int .u8 58, .int .u8 120, .int .u8 101] 5 (9, 10))) (.slice (some ⟨w.heap.size, 0, none⟩) 9 9) bT := by
  refine ⟨_, 9, rfl, Nat.le_refl _, .inr ⟨_, 0, rfl, by simp, fun i hi => ?_⟩⟩
  rw [Nat.zero_add, World.cell?_alloc_mark]
  have hi' : i < 9 := hi
  match i, hi' with
  | 0, _ => rfl
  | 1, _ => rfl
  | 2, _ => rfl
  | 3, _ => rfl
  | 4, _ => rfl
  | 5, _ => rfl
  | 6, _ => rfl
  | 7, _ => rfl
  | 8, _ => rfl
/-- what lies in memory of the list of -7 and x -/
theorem rvA {w : World} {x y : Value} (h : RV (fun _ => True) w tA x y) : ∃ g o c ya yc, x = .slice (some ⟨g, o, none⟩) 2 c ∧ y = .slice ya 0 yc ∧ g < w.heap.size ∧ w.cell? ⟨g, o, none⟩ = some (.int .i64 1) ∧ w.cell? ⟨g, o + 1, none⟩ = some (.int .i64 (-7)) ∧ w.cell? ⟨g, o + 5, none⟩ = some (.int .i64 2) ∧ w.cell? ⟨g, o + 5 + 2, none⟩ = some (.string { data := #[120] }) := by
  obtain ⟨⟨a, ca, rfl, h1⟩, ⟨a', ca', rfl, _⟩⟩ := h
  rcases h1 with h1 | ⟨g, o, rfl, _, hg, hc⟩
  · cases h1
  · obtain ⟨x0, y0, _, f0⟩ := hc 0 (by show 0 < 2; omega)
    obtain ⟨x1, y1, _, f1⟩ := hc 1 (by show 1 < 2; omega)
    exact ⟨g, o, ca, a', ca', rfl, rfl, hg, f0.1, f0.2.1, f1.1, f1.2.2.1⟩
theorem decodeA (v : Value) (w : World) (hr : RB w v bT) (hev : EVw w) :
    Calls Tryd.prog 10 #[v] w fun e w' => ∃ g o c ya yc, e = .returned (.tuple #[.agg #[.int .i64 3, .int .i64 0, .string { data := #[] }, .slice (some ⟨g, o, none⟩) 2 c, .slice ya 0 yc], .int .i64 0, .int .i64 0]) ∧
      RV (fun _ => True) w' tA (.slice (some ⟨g, o, none⟩) 2 c) (.slice ya 0 yc) ∧ (g < w'.heap.size ∧ w'.cell? ⟨g, o, none⟩ = some (.int .i64 1) ∧ w'.cell? ⟨g, o + 1, none⟩ = some (.int .i64 (-7)) ∧ w'.cell? ⟨g, o + 5, none⟩ = some (.int .i64 2) ∧ w'.cell? ⟨g, o + 5 + 2, none⟩ = some (.string { data := #[120] })) ∧ Below w.heap.size w w' := by
  refine (decode10 v bT w hr hev).mono ?_
  rintro e w' ⟨t, x, y, k, er, rfl, hrv, _, ho, hb⟩
  obtain ⟨rfl, rfl, rfl⟩ := DOUT.unique ho doutA
  obtain ⟨g, o, c, ya, yc, rfl, rfl, h1⟩ := rvA hrv
  exact ⟨g, o, c, ya, yc, rfl, hrv, h1, hb⟩
theorem encodeA (g o c : Nat) (ya : Option Addr) (yc : Nat) (w : World) (hT : TB w.heap.size w) (hr : RV (fun _ => True) w tA (.slice (some ⟨g, o, none⟩) 2 c) (.slice ya 0 yc)) :
    Calls Tryd.prog 17 #[.agg #[.int .i64 3, .int .i64 0, .string { data := #[] }, .slice (some ⟨g, o, none⟩) 2 c, .slice ya 0 yc]] w fun e w' => ∃ a c', e = .returned (.tuple #[.slice a 9 c', .int .i64 0]) ∧ RB w' (.slice a 9 c') bT ∧ Below w.heap.size w w' := by
  refine (encode7 tA _ _ w okA smA rgA (by rw [txtA]; decide) hT hr).mono ?_
  rintro e w' ⟨v, er, rfl, B, l, ho, he, hl, hb⟩
  rw [if_pos wkA, txtA, if_neg (by decide)] at he
  rw [txtA, if_pos ⟨wkA, by decide⟩] at hl
  subst he hl
  obtain ⟨a, c', rfl⟩ := ho.form'
  exact ⟨a, c', rfl, ho.rb, hb⟩
theorem TB.on' {w w' : World} (h : TB w.heap.size w) (hb : Below w.heap.size w w') : TB w'.heap.size w' := tb_up (TB.on h hb) hb.size
theorem conv22 (w : World) : Sem.run Tryd.prog (convert 22 22 (.slice (some ⟨w.heap.size, 0, none⟩) 9 9)) (w.alloc (.cells #[.int .u8 108, .int .u8 105, .int .u8 45, .int .u8 55, .int .u8 101, .int .u8 49, .int .u8 58, .int .u8 120, .int .u8 101] 5)) = .ok (.slice (some ⟨w.heap.size, 0, none⟩) 9 9) (w.alloc (.cells #[.int .u8 108, .int .u8 105, .int .u8 45, .int .u8 55, .int .u8 101, .int .u8 49, .int .u8 58, .int .u8 120, .int .u8 101] 5 (9, 10))) := Lib.run_convert_bytes_const w 22 5 _ 9 9 Tryd.underlying22 Tryd.underlying5
set_option maxRecDepth 10000 in
set_option maxHeartbeats 4000000 in
theorem awake14 (w : World) (hev : EVw w) (hT : TB w.heap.size w) : Calls Tryd.prog 14 #[] w fun e w' => e = .returned (.bool true) ∧ Below w.heap.size w w' := by
  have B0 : Hid (Below w.heap.size w (w.alloc (Obj.cells #[.int .u8 108, .int .u8 105, .int .u8 45, .int .u8 55, .int .u8 101, .int .u8 49, .int .u8 58, .int .u8 120, .int .u8 101] 5 (9, 10)))) := (Below.refl _ _).alloc (Nat.le_refl _) _
  have HT := Lib.hid hT
  have HE := Lib.hid hev
  clear hT hev
  have hcv := conv22
  go_enter Tryd.func14, Tryd.ntmps14
  go_wp2_with fail
  refine (decodeA _ _ (rb_bT w) (HE.out.keep B0.out)).mono ?_
  rintro e w1 ⟨g, o, c, ya, yc, rfl, hrv, ⟨hg, k0, k1, k2, k3⟩, hb1⟩
  have B1 : Hid (Below w.heap.size w w1) := B0.out.trans (hb1.mono B0.out.size)
  have HV : Hid (RV (fun _ => True) w1 tA (.slice (some ⟨g, o, none⟩) 2 c) (.slice ya 0 yc)) := hrv
  clear hb1 B0 hrv
  go_wp2_with fail
  refine (num15 _ _).mono ?_
  rintro e w2 ⟨rfl, rfl⟩
  have hba : Below w1.heap.size w1 (w1.alloc (Obj.cells #[.int .i64 3, .int .i64 0, .string { data := #[] }, .slice (some ⟨g, o, none⟩) 2 c, .slice ya 0 yc] 27)) := (Below.refl _ _).alloc (Nat.le_refl _) _
  have H2 : Hid (RV (fun _ => True) (w1.alloc (Obj.cells #[.int .i64 3, .int .i64 0, .string { data := #[] }, .slice (some ⟨g, o, none⟩) 2 c, .slice ya 0 yc] 27)) tA (.slice (some ⟨g, o, none⟩) 2 c) (.slice ya 0 yc) ∧ Below w.heap.size w (w1.alloc (Obj.cells #[.int .i64 3, .int .i64 0, .string { data := #[] }, .slice (some ⟨g, o, none⟩) 2 c, .slice ya 0 yc] 27))) := ⟨Below.rv hba (Nat.le_refl _) HV.out, B1.out.trans (hba.mono B1.out.size)⟩
  clear hba
  go_wp2_with fail
  generalize (w1.alloc (Obj.cells #[.int .i64 3, .int .i64 0, .string { data := #[] }, .slice (some ⟨g, o, none⟩) 2 c, .slice ya 0 yc] 27)) = w3 at *
  refine (encodeA g o c ya yc _ (HT.out.on' H2.out.2) H2.out.1).mono ?_
  rintro e w4 ⟨a4, c4, rfl, hr4, hb4⟩
  have R4 : Hid (RB w4 (.slice a4 9 c4) bT) := hr4
  have B4 : Hid (Below w.heap.size w w4) := H2.out.2.trans (hb4.mono H2.out.2.size)
  clear hr4 hb4 H2 B1 HV k0 k1 k2 k3 hg
  go_wp2_with fail
  refine (num15 _ _).mono ?_
  rintro e w5 ⟨rfl, rfl⟩
  go_wp2_with fail
  have hba : Below w5.heap.size w5 (w5.alloc (Obj.cells #[.int .u8 108, .int .u8 105, .int .u8 45, .int .u8 55, .int .u8 101, .int .u8 49, .int .u8 58, .int .u8 120, .int .u8 101] 5 (9, 10))) := (Below.refl _ _).alloc (Nat.le_refl _) _
  refine (same9 _ _ bT _ (by decide) (R4.out.keep hba) (rb_bT w5)).mono ?_
  rintro e w6 ⟨rfl, nq, rfl⟩
  have B6 : Hid (Below w.heap.size w ((w5.alloc (Obj.cells #[.int .u8 108, .int .u8 105, .int .u8 45, .int .u8 55, .int .u8 101, .int .u8 49, .int .u8 58, .int .u8 120, .int .u8 101] 5 (9, 10))).drewN nq)) := by
    have h1 := B4.out.trans (hba.mono B4.out.size)
    exact ⟨h1.os, h1.tape, h1.output, h1.size, h1.block⟩
  clear hba
  go_wp2
  go_ret
  exact ⟨rfl, B6.out⟩
end Go.Proofs.YtegdlkbilgkfoaaDoor
