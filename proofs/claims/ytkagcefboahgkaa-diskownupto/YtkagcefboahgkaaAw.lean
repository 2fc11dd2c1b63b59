import Derived.Test.YtkagcefboahgkaaMd
import Derived.Lib.SmallJoins
namespace Go.Proofs.Ytkagcefboahgkaa
open Go.RowKit
/-- a disk that was made since -/
def DKB (w wr : World) (p : Nat) (D : Dk) : Prop := DK (fun b => w.heap.size ≤ b) wr p D ∧ Below w.heap.size w wr
theorem DKB.on {w w2 w3 : World} {p : Nat} {D : Dk} (h : DKB w w2 p D) (hb : Below w2.heap.size w2 w3) : DKB w w3 p D := ⟨h.1.below hb, h.2.trans (hb.mono h.2.size)⟩
theorem DKB.mut {w w2 w3 : World} {p : Nat} {D D' : Dk} (h : DKB w w2 p D) (hd : DK (fun b => w.heap.size ≤ b ∨ w2.heap.size ≤ b) w3 p D') (hf : Fr (fun b => ¬ w.heap.size ≤ b) w2 w3) : DKB w w3 p D' := by
  have h1 := h.2.size
  exact ⟨hd.sub (fun _ _ hb => hb.elim id (fun h => by omega)), hf.os.trans h.2.os, hf.tape.trans h.2.tape, hf.output.trans h.2.output, Nat.le_trans h1 hf.size, fun b hb => (hf.block b (by omega) (by omega)).trans (h.2.block b hb)⟩
theorem DKB.mut' {w w2 w3 : World} {p : Nat} {D D' : Dk} (h : DKB w w2 p D) (hd : DK (fun b => w.heap.size ≤ b) w3 p D') (hf : Fr (fun b => ¬ w.heap.size ≤ b) w2 w3) : DKB w w3 p D' := h.mut (hd.sub (fun _ _ hb => .inl hb)) hf
def wOne : List UInt8 := [111, 110, 101]
def wTwo : List UInt8 := [116, 119, 111]
def wFar : List UInt8 := [102, 97, 114]
theorem word_rb (u : World) (a b c : UInt8) (f : Nat × Nat) : RB (u.alloc (.cells #[.int .u8 (a.toNat : Int), .int .u8 (b.toNat : Int), .int .u8 (c.toNat : Int)] 5 f)) (.slice (some ⟨u.heap.size, 0, none⟩) 3 3) [a, b, c] := by
  have hg := heapNew u (.cells #[.int .u8 (a.toNat : Int), .int .u8 (b.toNat : Int), .int .u8 (c.toNat : Int)] 5 f)
  refine ⟨_, 3, rfl, Nat.le_refl _, .inr ⟨u.heap.size, 0, rfl, (Array.getElem?_eq_some_iff.1 hg).1, fun i hi => ?_⟩⟩
  simp only [World.cell?, hg]
  match i, hi with
  | 0, _ => rfl
  | 1, _ => rfl
  | 2, _ => rfl
theorem conv3 (u : World) (x y z : Value) (g : Nat) (hg : g = u.heap.size) : (convert 22 22 (.slice (some ⟨g, 0, none⟩) 3 3)).run Try.prog (u.alloc (.cells #[x, y, z] 5)) = .ok (.slice (some ⟨g, 0, none⟩) 3 3) (u.alloc (.cells #[x, y, z] 5 (3, 4))) :=
  by subst hg; exact Lib.run_convert_bytes_const u 22 5 #[x, y, z] 3 3 Try.underlying22 Try.underlying5
/-- the states of the first disk -/
def dA0 (z : List UInt8) : Dk := ⟨z, [], none⟩
def dA1 (z : List UInt8) : Dk := ⟨z, [⟨1, fl wOne, false⟩], none⟩
def dA2 (z : List UInt8) : Dk := ⟨img z [⟨1, fl wOne, false⟩], [], none⟩
def dA3 (z : List UInt8) : Dk := ⟨img z [⟨1, fl wOne, false⟩], [⟨1, fl wTwo, false⟩], none⟩
def dA4 (z : List UInt8) : Dk := ⟨img z [⟨1, fl wOne, false⟩], [⟨1, fl wTwo, false⟩, ⟨0, fl wFar, false⟩], none⟩
def dA5 (z : List UInt8) : Dk := ⟨crD [false, true] (-1) 0 (img z [⟨1, fl wOne, false⟩]) [⟨1, fl wTwo, false⟩, ⟨0, fl wFar, false⟩], [], none⟩
section
variable {z : List UInt8} (hz : z.length = 128)
include hz
theorem dA5L : (dA5 z).last.length = 128 := by show (crD _ _ _ _ _).length = 128; rw [crD_len, img_len, hz]
theorem seenA5_1 : seen (dA5 z) 1 = fl wOne := by
  show sec (dA5 z).last 1 = fl wOne
  apply byt_ext (by rw [sec_len _ _ (by rw [dA5L hz]; omega), fl_len])
  intro i hi
  rw [sec_len _ _ (by rw [dA5L hz]; omega)] at hi
  rw [sec_byt _ _ _ hi]
  show byt (crD _ _ _ _ _) _ = _
  rw [crD_eq, lf_byt _ _ _ (by rw [img_len, hz]; omega)]
  unfold crB
  have h1 : (64 * 1 + i) / 64 = 1 := by omega
  have h2 : (64 * 1 + i) % 64 = i := by omega
  rw [h1, h2]
  have e : lv 1 0 [⟨1, fl wTwo, false⟩, ⟨0, fl wFar, false⟩] = [(0, fl wTwo)] := by simp [lv]
  rw [e]
  simp only [crS, List.foldl_cons, List.foldl_nil, crX]
  simp only [List.getD]
  rw [if_neg (by decide)]
  simp only [List.getElem?_cons_zero, Option.getD_some, Bool.false_eq_true, if_false]
  rw [sec_byt _ _ _ hi]
  show byt (lf _ _) _ = _
  rw [lf_byt _ _ _ (by rw [hz]; omega)]
  unfold imB
  rw [h1, h2]
  simp [nw]
theorem seenA5_0 : seen (dA5 z) 0 = fl wFar := by
  show sec (dA5 z).last 0 = fl wFar
  apply byt_ext (by rw [sec_len _ _ (by rw [dA5L hz]; omega), fl_len])
  intro i hi
  rw [sec_len _ _ (by rw [dA5L hz]; omega)] at hi
  rw [sec_byt _ _ _ hi]
  show byt (crD _ _ _ _ _) _ = _
  rw [crD_eq, lf_byt _ _ _ (by rw [img_len, hz]; omega)]
  unfold crB
  have h1 : (64 * 0 + i) / 64 = 0 := by omega
  have h2 : (64 * 0 + i) % 64 = i := by omega
  rw [h1, h2]
  have e : lv 0 0 [⟨1, fl wTwo, false⟩, ⟨0, fl wFar, false⟩] = [(1, fl wFar)] := by simp [lv]
  rw [e]
  simp only [crS, List.foldl_cons, List.foldl_nil, crX]
  simp only [List.getD]
  rw [if_neg (by decide)]
  simp
end
theorem seenA1 (z : List UInt8) : seen (dA1 z) 1 = fl wOne := by simp [seen, dA1, nw]
theorem bools2 (u : World) : RBo (u.alloc (.cells #[.bool false, .bool true] 4)) (.slice (some ⟨u.heap.size, 0, none⟩) 2 2) [false, true] := by
  have hg := heapNew u (.cells #[.bool false, .bool true] 4)
  refine ⟨_, 2, rfl, Nat.le_refl _, .inr ⟨u.heap.size, 0, rfl, (Array.getElem?_eq_some_iff.1 hg).1, fun i hi => ?_⟩⟩
  simp only [World.cell?, hg]
  match i, hi with
  | 0, _ => rfl
  | 1, _ => rfl
set_option maxHeartbeats 4000000 in
set_option maxRecDepth 100000 in
theorem awake (w : World) : Calls Try.prog 5 #[] w fun e w' => e = .returned (.bool true) ∧ Below w.heap.size w w' := by
  have HZ : Hid ((zr (64 * 2)).length = 128 ∧ byt (zr (64 * 2)) 64 = 0) := ⟨zr_len _, byt_zr _ _⟩
  have HNew := Lib.hid (new_ok 2 w (by omega) (by omega))
  generalize zr (64 * 2) = z at *
  have hcv1 := fun (u : World) (g : Nat) (h : g = u.heap.size) => conv3 u (.int .u8 111) (.int .u8 110) (.int .u8 101) g h
  have hcv2 := fun (u : World) (g : Nat) (h : g = u.heap.size) => conv3 u (.int .u8 116) (.int .u8 119) (.int .u8 111) g h
  have hcv3 := fun (u : World) (g : Nat) (h : g = u.heap.size) => conv3 u (.int .u8 102) (.int .u8 97) (.int .u8 114) g h
  have HAB : Hid (∀ (u : World) (o : Obj), Below u.heap.size u (u.alloc o)) := fun u o => (Below.refl _ _).alloc (Nat.le_refl _) _
  go_enter Try.func5, Try.ntmps5
  go_wp2_with fail
  refine HNew.out.mono ?_
  rintro e w1 ⟨p, rfl, _, hd, hb⟩
  have N1 : Hid (DKB w w1 p (dA0 z)) := ⟨hd, hb⟩
  clear hd hb HNew
  go_wp2_with fail
  refine (size N1.out.1).mono ?_
  rintro e w1' ⟨rfl, rfl⟩
  have hsz : (((dA0 z).last.length / 64 : Nat) : Int) = 2 := by show ((z.length / 64 : Nat) : Int) = 2; rw [HZ.out.1]; rfl
  rw [hsz]
  go_wp2_with fail
  refine (full _ wOne _ (word_rb w1' 111 110 101 (3, 4)) (by decide)).mono ?_
  rintro e w2 ⟨gw2, rfl, hg, hr, hb⟩
  have Bw2 : Hid (Below w1'.heap.size w1' w2 ∧ RB w2 (.slice (some ⟨gw2, 0, none⟩) 64 64) (fl wOne)) := ⟨(HAB.out w1' _).trans (hb.mono (HAB.out w1' (.cells #[.int .u8 111, .int .u8 110, .int .u8 101] 5 (3, 4))).size), hr⟩
  clear hg hr hb
  go_wp2_with fail
  refine (write (N1.out.on Bw2.out.1).1 1 (by show 64 * 1 + 64 ≤ z.length; rw [HZ.out.1]; omega) _ (fl wOne) Bw2.out.2 (fl_len _) (by show ([] : List Wt).length < _; simp)).mono ?_
  rintro e w3 ⟨rfl, hd, hf⟩
  have N3 : Hid (DKB w w3 p (dA1 z)) := (N1.out.on Bw2.out.1).mut hd hf
  clear hd hf Bw2 N1
  go_wp2_with fail
  refine (read N3.out.1 1 (by show 64 * 1 + 64 ≤ z.length; rw [HZ.out.1]; omega)).mono ?_
  rintro e w4 ⟨v4, rfl, ho, hb⟩
  rw [seenA1] at ho
  have N4 : Hid (DKB w w4 p (dA1 z) ∧ RB w4 v4 (fl wOne)) := ⟨N3.out.on hb, ho.rb⟩
  obtain ⟨a4, c4, e4⟩ := ho.form
  rw [fl_len] at e4
  subst e4
  clear ho hb N3
  go_wp2_with fail
  refine (durable N4.out.1.1).mono ?_
  rintro e w5 ⟨v5, rfl, ho, hb⟩
  have N5 : Hid (DKB w w5 p (dA1 z) ∧ RB w5 (.slice a4 64 c4) (fl wOne) ∧ OW 0 w5 v5 z) := ⟨N4.out.1.on hb, N4.out.2.keep hb, ho.mono (Nat.zero_le _)⟩
  obtain ⟨g5, c5, e5, hc5⟩ : ∃ g c, v5 = .slice (some ⟨g, 0, none⟩) 128 c ∧ 128 ≤ c := by
    have ho2 : OW w4.heap.size w5 v5 z := ho
    rcases ho2.2 with ⟨_, h0⟩ | ⟨g, c, _, h1, _, _, h2, _⟩
    · have := HZ.out.1; omega
    · have h3 := HZ.out.1
      exact ⟨g, c, by rw [h1, HZ.out.1], by omega⟩
  subst e5
  clear ho hb N4
  go_wp2_with fail
  refine (full _ wOne _ (word_rb w5 111 110 101 (3, 4)) (by decide)).mono ?_
  rintro e w6 ⟨gw6, rfl, hg, hr, hb⟩
  have Bw6 : Hid (Below w5.heap.size w5 w6 ∧ RB w6 (.slice (some ⟨gw6, 0, none⟩) 64 64) (fl wOne)) := ⟨(HAB.out w5 _).trans (hb.mono (HAB.out w5 (.cells #[.int .u8 111, .int .u8 110, .int .u8 101] 5 (3, 4))).size), hr⟩
  clear hg hr hb
  have N6 : Hid (DKB w w6 p (dA1 z) ∧ RB w6 (.slice a4 64 c4) (fl wOne) ∧ w6.cell? ⟨g5, 64, none⟩ = some (.int .u8 0)) := ⟨N5.out.1.on Bw6.out.1, N5.out.2.1.keep Bw6.out.1, by
    have h1 := (N5.out.2.2.rb.keep Bw6.out.1).cells 64 (by rw [HZ.out.1]; omega)
    rw [HZ.out.2] at h1
    simpa using h1⟩
  clear N5
  go_wp2_with fail
  refine (same _ _ (fl wOne) w6 (by rw [fl_len]; omega) N6.out.2.1 Bw6.out.2).mono ?_
  rintro e w7 ⟨rfl, nq, rfl⟩
  have N7 : Hid (DKB w (w6.drewN nq) p (dA1 z)) := N6.out.1.on (belowDrew _ _)
  have c7 : (w6.drewN nq).cell? ⟨g5, 64, none⟩ = some (.int .u8 0) := N6.out.2.2
  clear N6 Bw6
  generalize w6.drewN nq = w7 at *
  go_wp2_with fail
  refine (pending N7.out.1 (by show ([⟨1, fl wOne, false⟩] : List Wt).length ≤ _; simp)).mono ?_
  rintro e w8 ⟨v8, rfl, ho, hb⟩
  obtain ⟨a8, c8, e8⟩ := ownsRow_form ho
  have N8 : Hid (DKB w w8 p (dA1 z)) := N7.out.on hb
  have e8' : v8 = .slice a8 1 c8 := e8
  subst e8'
  clear ho hb N7 c7 e8
  go_wp2_with fail
  refine (sync_live N8.out.1 rfl).mono ?_
  rintro e w9 ⟨rfl, hd, hf⟩
  have N9 : Hid (DKB w w9 p (dA2 z)) := N8.out.mut' hd hf
  clear hd hf N8
  go_wp2_with fail
  refine (full _ wTwo _ (word_rb w9 116 119 111 (3, 4)) (by decide)).mono ?_
  rintro e w10 ⟨gw10, rfl, hg, hr, hb⟩
  have Bw10 : Hid (Below w9.heap.size w9 w10 ∧ RB w10 (.slice (some ⟨gw10, 0, none⟩) 64 64) (fl wTwo)) := ⟨(HAB.out w9 _).trans (hb.mono (HAB.out w9 (.cells #[.int .u8 116, .int .u8 119, .int .u8 111] 5 (3, 4))).size), hr⟩
  clear hg hr hb
  go_wp2_with fail
  refine (write (N9.out.on Bw10.out.1).1 1 (by show 64 * 1 + 64 ≤ (img z _).length; rw [img_len, HZ.out.1]; omega) _ (fl wTwo) Bw10.out.2 (fl_len _) (by show ([] : List Wt).length < _; simp)).mono ?_
  rintro e w11 ⟨rfl, hd, hf⟩
  have N11 : Hid (DKB w w11 p (dA3 z)) := (N9.out.on Bw10.out.1).mut hd hf
  clear hd hf Bw10 N9
  go_wp2_with fail
  refine (full _ wFar _ (word_rb w11 102 97 114 (3, 4)) (by decide)).mono ?_
  rintro e w12 ⟨gw12, rfl, hg, hr, hb⟩
  have Bw12 : Hid (Below w11.heap.size w11 w12 ∧ RB w12 (.slice (some ⟨gw12, 0, none⟩) 64 64) (fl wFar)) := ⟨(HAB.out w11 _).trans (hb.mono (HAB.out w11 (.cells #[.int .u8 102, .int .u8 97, .int .u8 114] 5 (3, 4))).size), hr⟩
  clear hg hr hb
  go_wp2_with fail
  refine (write (N11.out.on Bw12.out.1).1 0 (by show 64 * 0 + 64 ≤ (img z _).length; rw [img_len, HZ.out.1]; omega) _ (fl wFar) Bw12.out.2 (fl_len _) (by show ([⟨1, fl wTwo, false⟩] : List Wt).length < _; simp)).mono ?_
  rintro e w13 ⟨rfl, hd, hf⟩
  have N13 : Hid (DKB w w13 p (dA4 z)) := (N11.out.on Bw12.out.1).mut hd hf
  clear hd hf Bw12 N11
  have NC := Lib.hid (crash (S := fun b => w.heap.size ≤ b ∧ b < w13.heap.size) ((N13.out.1.sub (fun k hk h => ⟨h, hk⟩)).below (HAB.out w13 (.cells #[.bool false, .bool true] 4))) _ [false, true] (bools2 w13) rfl (fun g hg h => by simp [Value.ownBlock] at hg; omega) (by show ([⟨1, fl wTwo, false⟩, ⟨0, fl wFar, false⟩] : List Wt).length ≤ _; simp) (-1) 0 (by omega) (by omega) (fun h => absurd rfl h))
  go_wp2_with fail
  refine NC.out.mono ?_
  rintro e w14 ⟨rfl, hd, hf⟩
  have N14 : Hid (DKB w w14 p (dA5 z)) := by
    have h0 := N13.out.on (HAB.out w13 (.cells #[.bool false, .bool true] 4))
    refine h0.mut' (hd.sub (fun b _ h => h.1)) (hf.mono (fun b _ hn h => hn h.1))
  clear hd hf NC N13
  go_wp2_with fail
  refine (read N14.out.1 1 (by rw [dA5L HZ.out.1]; omega)).mono ?_
  rintro e w15 ⟨v15, rfl, ho, hb⟩
  rw [seenA5_1 HZ.out.1] at ho
  have N15 : Hid (DKB w w15 p (dA5 z) ∧ RB w15 v15 (fl wOne)) := ⟨N14.out.on hb, ho.rb⟩
  obtain ⟨a15, c15, e15⟩ := ho.form
  rw [fl_len] at e15
  subst e15
  clear ho hb N14
  go_wp2_with fail
  refine (read N15.out.1.1 0 (by rw [dA5L HZ.out.1]; omega)).mono ?_
  rintro e w16 ⟨v16, rfl, ho, hb⟩
  rw [seenA5_0 HZ.out.1] at ho
  have N16 : Hid (DKB w w16 p (dA5 z) ∧ RB w16 (.slice a15 64 c15) (fl wOne) ∧ RB w16 v16 (fl wFar)) := ⟨N15.out.1.on hb, N15.out.2.keep hb, ho.rb⟩
  obtain ⟨a16, c16, e16⟩ := ho.form
  rw [fl_len] at e16
  subst e16
  clear ho hb N15
  go_wp2_with fail
  refine (full _ wOne _ (word_rb w16 111 110 101 (3, 4)) (by decide)).mono ?_
  rintro e w17 ⟨gw17, rfl, hg, hr, hb⟩
  have Bw17 : Hid (Below w16.heap.size w16 w17 ∧ RB w17 (.slice (some ⟨gw17, 0, none⟩) 64 64) (fl wOne)) := ⟨(HAB.out w16 _).trans (hb.mono (HAB.out w16 (.cells #[.int .u8 111, .int .u8 110, .int .u8 101] 5 (3, 4))).size), hr⟩
  clear hg hr hb
  have N17 : Hid (Below w.heap.size w w17 ∧ RB w17 (.slice a15 64 c15) (fl wOne) ∧ RB w17 (.slice a16 64 c16) (fl wFar)) := ⟨(N16.out.1.on Bw17.out.1).2, N16.out.2.1.keep Bw17.out.1, N16.out.2.2.keep Bw17.out.1⟩
  clear N16
  go_wp2_with fail
  refine (same _ _ (fl wOne) w17 (by rw [fl_len]; omega) N17.out.2.1 Bw17.out.2).mono ?_
  rintro e w18 ⟨rfl, nq, rfl⟩
  have N18 : Hid (Below w.heap.size w (w17.drewN nq) ∧ RB (w17.drewN nq) (.slice a16 64 c16) (fl wFar)) := ⟨belowN N17.out.1 nq, N17.out.2.2.keep (belowDrew _ _)⟩
  clear N17 Bw17
  generalize w17.drewN nq = w18 at *
  go_wp2_with fail
  refine (full _ wFar _ (word_rb w18 102 97 114 (3, 4)) (by decide)).mono ?_
  rintro e w19 ⟨gw19, rfl, hg, hr, hb⟩
  have Bw19 : Hid (Below w18.heap.size w18 w19 ∧ RB w19 (.slice (some ⟨gw19, 0, none⟩) 64 64) (fl wFar)) := ⟨(HAB.out w18 _).trans (hb.mono (HAB.out w18 (.cells #[.int .u8 102, .int .u8 97, .int .u8 114] 5 (3, 4))).size), hr⟩
  clear hg hr hb
  have N19 : Hid (Below w.heap.size w w19 ∧ RB w19 (.slice a16 64 c16) (fl wFar)) := ⟨N18.out.1.trans (Bw19.out.1.mono N18.out.1.size), N18.out.2.keep Bw19.out.1⟩
  clear N18
  go_wp2_with fail
  refine (same _ _ (fl wFar) w19 (by rw [fl_len]; omega) N19.out.2 Bw19.out.2).mono ?_
  rintro e w20 ⟨rfl, nq, rfl⟩
  have N20 : Hid (Below w.heap.size w (w19.drewN nq)) := belowN N19.out.1 nq
  clear N19 Bw19
  generalize w19.drewN nq = w20 at *
  go_wp2_with fail
  go_ret
  exact ⟨rfl, N20.out⟩
end Go.Proofs.Ytkagcefboahgkaa
