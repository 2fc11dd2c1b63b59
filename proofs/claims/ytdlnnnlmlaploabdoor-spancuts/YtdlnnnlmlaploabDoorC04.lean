import Derived.Test.YtdlnnnlmlaploabDoorC03
import Derived.Test.YtdlnnnlmlaploabDoorC00
import Derived.Test.YtdlnnnlmlaploabDoorM25
import Derived.Test.YtdlnnnlmlaploabDoorC02
namespace Go.Proofs.YtdlnnnlmlaploabDoor
open Go.RowKit Go.Deep
/-- what the reference's Cut answers -/
def CUTR (b : List UInt8) (p : List (Int × ByteArray)) (w : World) (v : Value) (er : Int) : Prop :=
  ∃ t k e0, DOUT b t k e0 ∧ ((e0 ≠ 0 ∧ er = e0 ∧ v = .slice none 0 0) ∨ (e0 = 0 ∧ p = [] ∧ er = 35 ∧ v = .slice none 0 0) ∨ (e0 = 0 ∧ p ≠ [] ∧ ∃ x f, FND b p x f ∧ ((f ≠ 0 ∧ er = f ∧ v = .slice none 0 0) ∨ (f = 0 ∧ er = 0 ∧ ∃ B, OW B w v (txt (woT p t))))))
def AWO : Prop := ∀ (t : T) (fr fi : Nat) (p : List (Int × ByteArray)) (u : T) (fr' fi' : Nat), Desc t fr fi p u fr' fi' → p ≠ [] → VT t → WOC p t
set_option maxRecDepth 10000 in
set_option maxHeartbeats 2000000 in
theorem cut21 (HWO : Hid AWO) (a : Option Addr) (c : Nat) (b : List UInt8) (w : World) (pa : Option Addr) (pc : Nat) (p : List (Int × ByteArray)) (hr : RB w (.slice a b.length c) b) (hl0 : b.length ≤ 140737488351232) (hT : TB w.heap.size w) (hP : PSA w.heap.size w (.slice pa p.length pc) p) (hpc : p.length ≤ pc) (hp : p.length ≤ 140737488351232) :
    Calls Tryd.prog 21 #[.slice a b.length c, .slice pa p.length pc] w fun e w' => ∃ v' er, e = .returned (.tuple #[v', .int .i64 er]) ∧ CUTR b p w' v' er ∧ Below w.heap.size w w' := by
  have HR := Lib.hid (And.intro hr (And.intro hT hP))
  clear hr hT hP
  go_enter Tryd.func21, Tryd.ntmps21
  go_wp2_with fail
  refine (decode11 _ b w HR.out.1 hl0).mono ?_
  rintro e w1 ⟨t, x, y, k, e0, rfl, hrv, hd, hb1⟩
  obtain ⟨⟨xa, xn, xc, rfl⟩, ⟨ya, yn, yc, rfl⟩⟩ := hrv.slices
  have H1 : Hid (RV (fun _ => True) w1 t (.slice xa xn xc) (.slice ya yn yc) ∧ DOUT b t k e0 ∧ Below w.heap.size w w1 ∧ Below w1.heap.size w1 (w1.alloc (Obj.cells #[.int .i64 t.k, .int .i64 t.n, .string t.s, .slice xa xn xc, .slice ya yn yc] 31)) ∧ obj (w1.alloc (Obj.cells #[.int .i64 t.k, .int .i64 t.n, .string t.s, .slice xa xn xc, .slice ya yn yc] 31)) w1.heap.size (.int .i64 t.k) (.int .i64 t.n) (.string t.s) (.slice xa xn xc) (.slice ya yn yc)) := ⟨hrv, hd, hb1, (Below.refl _ _).alloc (Nat.le_refl _) _, heap_new _ _⟩
  clear hrv hd hb1
  unfold vv
  by_cases he : e0 = 0
  case neg =>
    have he' : (e0 != 0) = true := by simpa using he
    have HE : Hid (∀ w', CUTR b p w' (.slice none 0 0) e0) := fun w' => ⟨t, k, e0, H1.out.2.1, .inl ⟨he, rfl, rfl⟩⟩
    have HB : Hid (Below w.heap.size w (w1.alloc (Obj.cells #[.int .i64 t.k, .int .i64 t.n, .string t.s, .slice xa xn xc, .slice ya yn yc] 31))) := H1.out.2.2.1.trans (H1.out.2.2.2.1.mono H1.out.2.2.1.size)
    clear H1
    go_wp2
    go_ret2
    exact ⟨_, _, rfl, HE.out _, HB.out⟩
  subst he
  by_cases hp0 : p = []
  · subst hp0
    have HE : Hid (∀ w', CUTR b [] w' (.slice none 0 0) 35) := fun w' => ⟨t, k, 0, H1.out.2.1, .inr (.inl ⟨rfl, rfl, rfl, rfl⟩)⟩
    have HB : Hid (Below w.heap.size w (w1.alloc (Obj.cells #[.int .i64 t.k, .int .i64 t.n, .string t.s, .slice xa xn xc, .slice ya yn yc] 31))) := H1.out.2.2.1.trans (H1.out.2.2.2.1.mono H1.out.2.2.1.size)
    clear H1
    go_wp2
    go_ret2
    exact ⟨_, _, rfl, HE.out _, HB.out⟩
  have hpl : ((p.length : Int) == 0) = false := by
    have := List.length_pos_iff.2 hp0
    exact beq_eq_false_iff_ne.2 (by omega)
  have hpn : ¬ p.length = 0 := by
    have := List.length_pos_iff.2 hp0
    omega
  go_wp2_with fail
  have HB : Hid (Below w.heap.size w (w1.alloc (Obj.cells #[.int .i64 t.k, .int .i64 t.n, .string t.s, .slice xa xn xc, .slice ya yn yc] 31))) := H1.out.2.2.1.trans (H1.out.2.2.2.1.mono H1.out.2.2.1.size)
  refine (find16 _ _ b p (w1.alloc (Obj.cells #[.int .i64 t.k, .int .i64 t.n, .string t.s, .slice xa xn xc, .slice ya yn yc] 31)) (HR.out.1.keep HB.out) hl0 (tb_up (HR.out.2.1.on HB.out) HB.out.size) (HR.out.2.2.on HB.out) hp).mono ?_
  rintro e w2 ⟨xv, f, rfl, hf, hb2⟩
  obtain ⟨kd, fr, to, dp, up, nt, ky, pl, fi⟩ := xv
  have eSP : (Vi.sp (⟨kd, fr, to, dp, up, nt, ky, pl, fi⟩ : Vi)).toArray = #[.int .i64 kd, .int .i64 fr, .int .i64 to, .int .i64 dp, .int .i64 up, .int .i64 nt, .string ky] := rfl
  rw [eSP]
  replace hb2 : Below (w1.alloc (Obj.cells #[.int .i64 t.k, .int .i64 t.n, .string t.s, .slice xa xn xc, .slice ya yn yc] 31)).heap.size (w1.alloc (Obj.cells #[.int .i64 t.k, .int .i64 t.n, .string t.s, .slice xa xn xc, .slice ya yn yc] 31)) (w2.alloc (Obj.cells #[.int .i64 kd, .int .i64 fr, .int .i64 to, .int .i64 dp, .int .i64 up, .int .i64 nt, .string ky] 37)) := hb2.alloc hb2.size _
  have HSZ : Hid ((w2.alloc (Obj.cells #[.int .i64 kd, .int .i64 fr, .int .i64 to, .int .i64 dp, .int .i64 up, .int .i64 nt, .string ky] 37)).heap.size = w2.heap.size + 1) := by show _ = _; simp
  have H2 : Hid (RV (fun b => b < (w2.alloc (Obj.cells #[.int .i64 kd, .int .i64 fr, .int .i64 to, .int .i64 dp, .int .i64 up, .int .i64 nt, .string ky] 37)).heap.size) (w2.alloc (Obj.cells #[.int .i64 kd, .int .i64 fr, .int .i64 to, .int .i64 dp, .int .i64 up, .int .i64 nt, .string ky] 37)) t (.slice xa xn xc) (.slice ya yn yc) ∧ DOUT b t k 0 ∧ Below w.heap.size w (w2.alloc (Obj.cells #[.int .i64 kd, .int .i64 fr, .int .i64 to, .int .i64 dp, .int .i64 up, .int .i64 nt, .string ky] 37)) ∧ obj (w2.alloc (Obj.cells #[.int .i64 kd, .int .i64 fr, .int .i64 to, .int .i64 dp, .int .i64 up, .int .i64 nt, .string ky] 37)) w1.heap.size (.int .i64 t.k) (.int .i64 t.n) (.string t.s) (.slice xa xn xc) (.slice ya yn yc) ∧ FND b p ⟨kd, fr, to, dp, up, nt, ky, pl, fi⟩ f) := by
    obtain ⟨q1, q2, q3, q4, q5⟩ := H1.out
    refine ⟨RV.move (fun _ _ hl => Nat.lt_of_lt_of_le hl (Nat.le_trans q4.size hb2.size)) (Nat.le_trans q4.size hb2.size) (fun b _ hl => (hb2.block b (Nat.lt_of_lt_of_le hl q4.size)).trans (q4.block b hl)) _ _ _ q1, q2, HB.out.trans (hb2.mono HB.out.size), q5.keep (hb2.block _ q5.lt), hf⟩
  clear hf hb2 H1 HB
  generalize w1.heap.size = Vb at *
  by_cases he : f = 0
  case neg =>
    have he' : (f != 0) = true := by simpa using he
    have HE : Hid (∀ w', CUTR b p w' (.slice none 0 0) f) := fun w' => ⟨t, k, 0, H2.out.2.1, .inr (.inr ⟨rfl, hp0, _, f, H2.out.2.2.2.2, .inl ⟨he, rfl, rfl⟩⟩)⟩
    have HB : Hid (Below w.heap.size w (w2.alloc (Obj.cells #[.int .i64 kd, .int .i64 fr, .int .i64 to, .int .i64 dp, .int .i64 up, .int .i64 nt, .string ky] 37))) := H2.out.2.2.1
    clear H2
    go_wp2
    go_ret2
    exact ⟨_, _, rfl, HE.out _, HB.out⟩
  subst he
  obtain ⟨c0, c1, c2, c3, c4⟩ := H2.out.2.2.2.1.cells
  have HG := Lib.hid (cut_gd H2.out.2.1 hp0 H2.out.2.2.2.2)
  have HC : Hid (WOC p t) := by
    obtain ⟨u, fr, fi, hD⟩ := HG.out.2.2
    exact HWO.out _ _ _ _ _ _ _ hD hp0 (vt_of_wk t _ (dout_txt H2.out.2.1).2.1.1)
  go_wp2_with fail
  generalize (w2.alloc (Obj.cells #[.int .i64 kd, .int .i64 fr, .int .i64 to, .int .i64 dp, .int .i64 up, .int .i64 nt, .string ky] 37)) = W2 at *
  refine (HC.out W2.heap.size _ _ W2 pa pc (Nat.le_refl _) (HR.out.2.2.on H2.out.2.2.1) hpc hp H2.out.1 (dout_txt H2.out.2.1).2.1.2.1).mono ?_
  rintro e w3 ⟨x3, y3, rfl, hr3, hb3⟩
  have H3 : Hid (RV (fun _ => True) w3 (woT p t) x3 y3 ∧ Below w.heap.size w w3) := ⟨RV.move (fun _ _ _ => trivial) (Nat.le_refl _) (fun _ _ _ => rfl) _ _ _ hr3, H2.out.2.2.1.trans (hb3.mono H2.out.2.2.1.size)⟩
  clear hr3 hb3 c0 c1 c2 c3 c4
  go_wp2_with fail
  refine (encode8 (woT p t) x3 y3 w3 (ok_of _ (vt_of_wk _ _ HG.out.1.1) HG.out.1.2.1 HG.out.2.1) HG.out.1.2.2 (Nat.le_trans HG.out.2.1 (by decide)) (tb_up (HR.out.2.1.on H3.out.2) H3.out.2.size) H3.out.1).mono ?_
  rintro e w4 ⟨v4, er4, rfl, B4, l4, ho4, he4, hl4, hb4⟩
  have hz : wk (woT p t) 0 = 0 := HG.out.1.1
  rw [if_pos hz, if_neg (by have := HG.out.2.1; omega)] at he4
  rw [if_pos ⟨hz, HG.out.2.1⟩] at hl4
  subst he4 hl4
  have HE : Hid (CUTR b p w4 v4 0 ∧ Below w.heap.size w w4) := ⟨⟨t, k, 0, H2.out.2.1, .inr (.inr ⟨rfl, hp0, _, 0, H2.out.2.2.2.2, .inr ⟨rfl, rfl, B4, ho4⟩⟩)⟩, H3.out.2.trans (hb4.mono H3.out.2.size)⟩
  obtain ⟨a4, c4, rfl⟩ := ow_slice ho4
  clear ho4 hb4 hz
  go_wp2
  go_ret2
  exact ⟨_, _, rfl, HE.out.1, HE.out.2⟩
end Go.Proofs.YtdlnnnlmlaploabDoor
namespace Go.Proofs.YtdlnnnlmlaploabDoor
open Go.RowKit Go.Deep
theorem cuts_rb {b : List UInt8} {p : List (Int × ByteArray)} {B : Nat} {w w' : World} {v v' : Value} {er er' : Int} (h : CUTP b p B w v er) (h' : CUTR b p w' v' er') : er = er' ∧ ∃ l, RB w v l ∧ RB w' v' l ∧ l.length ≤ 1048576 := by
  have nil : ∀ W : World, RB W (.slice none 0 0) [] := fun W => ⟨none, 0, rfl, Nat.le_refl _, .inl rfl⟩
  obtain ⟨x, e0, hf, h⟩ := h
  obtain ⟨t, k, d0, hd, h'⟩ := h'
  rcases h' with ⟨n0, rfl, rfl⟩ | ⟨rfl, rfl, rfl, rfl⟩ | ⟨rfl, hp, x', f, hf', h'⟩
  · -- no text that can be read
    obtain ⟨t2, k2, d2, hd2, hc⟩ := hf
    obtain ⟨rfl, rfl, rfl⟩ := hd.unique hd2
    rcases hc with ⟨_, rfl, rfl⟩ | ⟨e, _⟩
    · rcases h with ⟨_, rfl, rfl⟩ | ⟨e, _⟩ | ⟨e, _⟩
      · exact ⟨rfl, [], nil _, nil _, by simp⟩
      · exact absurd e n0
      · exact absurd e n0
    · exact absurd e n0
  · have e := fnd_nil hd hf
    rcases h with ⟨n, _⟩ | ⟨_, _, rfl, rfl⟩ | ⟨_, hp, _⟩
    · exact absurd e n
    · exact ⟨rfl, [], nil _, nil _, by simp⟩
    · exact absurd rfl hp
  · obtain ⟨rfl, rfl⟩ := hf.unique hf'
    rcases h' with ⟨n, rfl, rfl⟩ | ⟨rfl, rfl, B', ho'⟩
    · rcases h with ⟨_, rfl, rfl⟩ | ⟨e, _⟩ | ⟨e, _⟩
      · exact ⟨rfl, [], nil _, nil _, by simp⟩
      · exact absurd e n
      · exact absurd e n
    · rcases h with ⟨n, _⟩ | ⟨_, e, _⟩ | ⟨_, _, rfl, q, f, U, t2, k2, hd2, hfi, he, h1, h2, _, ho⟩
      · exact absurd rfl n
      · exact absurd e hp
      · obtain ⟨rfl, rfl, _⟩ := hd.unique hd2
        have e := cut_text hd hp hf hfi he h1 h2
        rw [e] at ho
        exact ⟨rfl, _, ho.rb, ho'.rb, (cut_gd hd hp hf).2.1⟩
set_option maxRecDepth 10000 in
set_option maxHeartbeats 2000000 in
theorem cuts5 (HWO : Hid AWO) (v pv : Value) (b : List UInt8) (p : List (Int × ByteArray)) (w : World) (hr : RB w v b) (hs : v = .slice none 0 0 ∨ ∃ ad n c, v = .slice (some ad) n c) (hl : b.length ≤ 140737488351232) (hP : PSA w.heap.size w pv p) (hPs : pv = .slice none 0 0 ∨ ∃ ad n c, pv = .slice (some ad) n c) (hp : p.length * 24 ≤ 140737488355328) (hev : EVw w) (hT : TB w.heap.size w) :
    Calls Tryd.prog 5 #[v, pv] w fun e w' => e = .returned (.bool true) ∧ Below w.heap.size w w' := by
  have HR := Lib.hid (And.intro hr (And.intro hs (And.intro hev (And.intro hT (And.intro hP hPs)))))
  obtain ⟨a, c, rfl, _⟩ := hr
  obtain ⟨pa, pc, rfl, _⟩ := hP
  have hp2 : p.length ≤ 140737488351232 := by omega
  clear hs hev hT hPs
  go_enter Tryd.func5, Tryd.ntmps5
  go_wp2_with fail
  refine (twin13 _ b w HR.out.1 HR.out.2.1 hl).mono ?_
  rintro e w1 ⟨v1, rfl, ho, hb1⟩
  obtain ⟨a1, c1, rfl⟩ := ho.form'
  have HO : Hid (RB w1 (.slice a1 b.length c1) b ∧ RB w1 (.slice a b.length c) b ∧ EVw w1 ∧ TB w1.heap.size w1 ∧ Below w.heap.size w w1 ∧ PSA w1.heap.size w1 (.slice pa p.length pc) p ∧ (Value.slice pa p.length pc = .slice none 0 0 ∨ ∃ ad n c, Value.slice pa p.length pc = .slice (some ad) n c)) := ⟨ho.rb, HR.out.1.keep hb1, HR.out.2.2.1.keep hb1, tb_up (HR.out.2.2.2.1.on hb1) hb1.size, hb1, HR.out.2.2.2.2.1.on hb1, HR.out.2.2.2.2.2⟩
  clear ho hb1 HR
  go_wp2_with fail
  refine (twinSteps15 _ p w1 HO.out.2.2.2.2.2.1 HO.out.2.2.2.2.2.2 hp).mono ?_
  rintro e w2 ⟨v2, rfl, ho, hb2⟩
  obtain ⟨pa1, pc1, rfl, hcap⟩ : ∃ pa1 pc1, v2 = .slice pa1 p.length pc1 ∧ p.length ≤ pc1 := by
    obtain ⟨_, h⟩ := ho
    rcases h with ⟨rfl, h0⟩ | ⟨g, cap, cur, rfl, hB, hg, hc, hm, hs, ht⟩
    · exact ⟨none, 0, by rw [h0], by omega⟩
    · exact ⟨_, cap, rfl, by omega⟩
  have H2 : Hid (HLaw w w2 a c a1 c1 b pa pc pa1 pc1 p) := by
    obtain ⟨q1, q2, q3, q4, q5, q6, _⟩ := HO.out
    exact ⟨q2.keep hb2, q1.keep hb2, q6.on hb2, (PSA.of_own ho).1, q3.keep hb2, tb_up (q4.on hb2) hb2.size, q5.trans (hb2.mono q5.size)⟩
  clear HO ho hb2
  go_wp2_with fail
  refine (cut20 a c b w2 pa pc p H2.out.rb H2.out.ev H2.out.pp hp2).mono ?_
  rintro e w3 ⟨v3, er3, rfl, hc3, hb3⟩
  have H3 : Hid (HLaw w w3 a c a1 c1 b pa pc pa1 pc1 p ∧ CUTP b p w2.heap.size w3 v3 er3) := ⟨H2.out.on hb3, hc3⟩
  clear hb3 hc3 H2
  go_wp2_with fail
  refine (cut21 HWO a1 c1 b w3 pa1 pc1 p H3.out.1.rc hl H3.out.1.tb H3.out.1.pw hcap hp2).mono ?_
  rintro e w7 ⟨v7, er7, rfl, hw7, hb7⟩
  obtain ⟨rfl, l, hl6, hl7, hll⟩ := cuts_rb H3.out.2 hw7
  have H9 : Hid (HLaw w w7 a c a1 c1 b pa pc pa1 pc1 p ∧ RB w7 v3 l ∧ RB w7 v7 l) := ⟨H3.out.1.on hb7, hl6.keep hb7, hl7⟩
  clear hb7 hw7 hl6 hl7 H3
  go_wp2_with fail
  refine (same9 _ _ l _ (by omega) H9.out.2.1 H9.out.2.2).mono ?_
  rintro e w8 ⟨rfl, nq, rfl⟩
  have HA : Hid (HLaw w (w7.drewN nq) a c a1 c1 b pa pc pa1 pc1 p) := H9.out.1.on ⟨rfl, rfl, rfl, Nat.le_refl _, fun _ _ => rfl⟩
  clear H9
  go_wp2_with fail
  refine (same9 _ _ b _ hl HA.out.rb HA.out.rc).mono ?_
  rintro e w9 ⟨rfl, nq2, rfl⟩
  have HB : Hid (HLaw w ((w7.drewN nq).drewN nq2) a c a1 c1 b pa pc pa1 pc1 p) := HA.out.on ⟨rfl, rfl, rfl, Nat.le_refl _, fun _ _ => rfl⟩
  clear HA
  generalize (w7.drewN nq).drewN nq2 = w9 at *
  go_wp2_with fail
  refine (stepsSame19 _ _ p _ hp2 HB.out.pp HB.out.pw).mono ?_
  rintro e w10 ⟨rfl, hb10⟩
  have HC : Hid (Below w.heap.size w w10) := HB.out.bel.trans (hb10.mono HB.out.bel.size)
  clear HB hb10
  go_wp2
  go_ret
  exact ⟨rfl, HC.out⟩
end Go.Proofs.YtdlnnnlmlaploabDoor
namespace Go.Proofs.YtdlnnnlmlaploabDoor
open Go.RowKit Go.Deep
theorem awo : AWO := by
  intro t fr fi p u fr' fi' h
  induction h with
  | here => exact fun h => absurd rfl h
  | @list n s ln l dn ky dv fr fi i nm key p u fr' fi' h1 hnm hD ih =>
    intro _ hv
    obtain ⟨_, v2⟩ := vt_kinds hv
    obtain rfl : dn = 0 := by omega
    subst hnm
    exact wo_list (fun hp => ih hp (hv.2.1 i h1))
  | @dict n s ln l dn ky dv fr fi i nm key p u fr' fi' h1 hkey hD ih =>
    intro _ hv
    obtain ⟨v1, _⟩ := vt_kinds hv
    obtain rfl : ln = 0 := by omega
    exact wo_dict (i := i) (fun j hj ej => rise_ne (fun i hi => (hv.2.2 i hi).1) h1 hj (ej.trans hkey)) (fun hp => ih hp (hv.2.2 i h1).2)
theorem cuts5' (v pv : Value) (b : List UInt8) (p : List (Int × ByteArray)) (w : World) (hr : RB w v b) (hs : v = .slice none 0 0 ∨ ∃ ad n c, v = .slice (some ad) n c) (hl : b.length ≤ 140737488351232) (hP : PSA w.heap.size w pv p) (hPs : pv = .slice none 0 0 ∨ ∃ ad n c, pv = .slice (some ad) n c) (hp : p.length * 24 ≤ 140737488355328) (hev : EVw w) (hT : TB w.heap.size w) :
    Calls Tryd.prog 5 #[v, pv] w fun e w' => e = .returned (.bool true) ∧ Below w.heap.size w w' := cuts5 awo v pv b p w hr hs hl hP hPs hp hev hT
end Go.Proofs.YtdlnnnlmlaploabDoor
