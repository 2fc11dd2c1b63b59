import Derived.Test.YtnmeohacdbmplaaGreatDoorM22
import Derived.Test.YtnmeohacdbmplaaGreatDoorM21
namespace Go.Proofs.YtnmeohacdbmplaaGreatDoor
open Go.RowKit
set_option maxHeartbeats 1000000 in
theorem saysW (w : World) (g : Nat) (P : Pv) (h : PK w g P) (k : Int) :
    Calls Tryz.prog 45 #[.pointer (some ⟨g, 25, none⟩), .int .i64 k] w fun e w' => e = .returned (.tuple #[]) ∧ PK w' g { P with wc := (sy k P.wc P.wi P.wb).1, wi := (sy k P.wc P.wi P.wb).2.1, wb := (sy k P.wc P.wi P.wb).2.2 } ∧ Fm.Fr (fun k => k ≠ g) w w' := by
  have HK : Hid (PK w g P) := h
  obtain ⟨c1, c2, c3, _⟩ := h.sides
  have f1 := h.fr 25
  have f2 := h.fr 26
  have f3 := h.fr 27
  clear h
  by_cases k0 : k = -1
  · subst k0
    go_enter Tryz.func45, Tryz.ntmps45
    go_wp2
    (try simp only [Exit.inBlock, Exit.then]); refine bodyPost_ret (results_none rfl _ _ _) rfl ?_
    exact ⟨rfl, HK.out, Fm.Fr.refl _ _⟩
  by_cases k1 : k = 1000
  · subst k1
    go_enter Tryz.func45, Tryz.ntmps45
    go_wp2
    (try simp only [Exit.inBlock, Exit.then]); refine bodyPost_ret (results_none rfl _ _ _) rfl ?_
    exact ⟨rfl, HK.out, Fm.Fr.refl _ _⟩
  by_cases k2 : k = 0
  · subst k2
    go_enter Tryz.func45, Tryz.ntmps45
    go_wp2
    go_end0
    exact ⟨rfl, (HK.out.set 5 _ { P with wc := true } rfl rfl).set 7 _ _ rfl rfl, ((Fm.Fr.refl (fun k => k ≠ g) w).setCell g 25 _ (fun h => h rfl)).setCell g 27 _ (fun h => h rfl)⟩
  by_cases k3 : k = 1
  · subst k3
    go_enter Tryz.func45, Tryz.ntmps45
    go_wp2
    go_end0
    exact ⟨rfl, (HK.out.set 5 _ { P with wc := false } rfl rfl).set 7 _ _ rfl rfl, ((Fm.Fr.refl (fun k => k ≠ g) w).setCell g 25 _ (fun h => h rfl)).setCell g 27 _ (fun h => h rfl)⟩
  by_cases k4 : k = 2
  · subst k4
    go_enter Tryz.func45, Tryz.ntmps45
    go_wp2
    go_end0
    exact ⟨rfl, (HK.out.set 6 _ { P with wi := true } rfl rfl).set 7 _ _ rfl rfl, ((Fm.Fr.refl (fun k => k ≠ g) w).setCell g 26 _ (fun h => h rfl)).setCell g 27 _ (fun h => h rfl)⟩
  by_cases k5 : k = 3
  · subst k5
    go_enter Tryz.func45, Tryz.ntmps45
    go_wp2
    go_end0
    exact ⟨rfl, (HK.out.set 6 _ { P with wi := false } rfl rfl).set 7 _ _ rfl rfl, ((Fm.Fr.refl (fun k => k ≠ g) w).setCell g 26 _ (fun h => h rfl)).setCell g 27 _ (fun h => h rfl)⟩
  have e : sy k P.wc P.wi P.wb = (P.wc, P.wi, true) := by unfold sy; rw [if_neg (by omega), if_neg k2, if_neg k3, if_neg k4, if_neg k5]
  rw [e]
  have q0 : (k == -1) = false := by simp [k0]
  have q1 : (k == 1000) = false := by simp [k1]
  have q2 : (k == 0) = false := by simp [k2]
  have q3 : (k == 1) = false := by simp [k3]
  have q4 : (k == 2) = false := by simp [k4]
  have q5 : (k == 3) = false := by simp [k5]
  clear k0 k1 k2 k3 k4 k5 e
  go_enter Tryz.func45, Tryz.ntmps45
  go_wp2
  go_end0
  exact ⟨rfl, HK.out.set 7 _ _ rfl rfl, (Fm.Fr.refl (fun k => k ≠ g) w).setCell g 27 _ (fun h => h rfl)⟩
set_option maxHeartbeats 2000000 in
set_option maxRecDepth 100000 in
/-- a MsgHave of a piece that is there may be said -/
theorem mayHave (w : World) (g : Nat) (P : Pv) (L : List Int) (h : PL w g P L) (m : Mv) (hk : m.k = 4) (hp : pce L m.i = true) :
    Calls Tryz.prog 43 #[.pointer (some ⟨g, 0, none⟩), .agg m.cs] w fun e w' => e = .returned (.bool true) ∧ Below w.heap.size w w' := by
  have hb : MB (w.alloc (.cells m.cs 47)) w.heap.size m := heapNew w (.cells m.cs 47)
  have HB : Hid (Below w.heap.size w (w.alloc (.cells m.cs 47))) := (Below.refl _ _).alloc (Nat.le_refl _) _
  have HS0 : Hid (MB (w.alloc (.cells m.cs 47)) w.heap.size m) := hb
  have HPce : Hid (∀ u, Below w.heap.size w u → Calls Tryz.prog 65 #[.pointer (some ⟨g, 0, none⟩), .int .i64 m.i] u fun e w' => e = .returned (.bool true) ∧ w' = u) := fun u hu => by
    obtain ⟨la, lc, e, _⟩ := h.rz
    have h9 := isPieceT u g P (h.below hu).pk L la lc e m.i
    rw [hp] at h9
    exact h9
  have c0 := hb.c0
  rw [hk] at c0
  clear hb h hk hp
  go_enter Tryz.func43, Tryz.ntmps43
  go_upto_region 8 with fail
  refine wp_region_held_drew (S := fun u => MB u w.heap.size m ∧ Below w.heap.size w u) (by kernel_rfl) (⟨HS0.out.below (belowDrew _ 1), belowN HB.out 1⟩) (fun hHeld => ?_)
  refine wpAnyH_take (i := 0) (v := .pointer (some ⟨g, 0, none⟩)) rfl (by kernel_rfl) (by kernel_rfl) (by kernel_rfl) (fun _ _ _ h => h) (Or.inl ⟨by rfl, fun w hw => by go_simp⟩) hHeld ?_
  simp only [Act.put, List.getElem_toArray, List.getElem_cons_zero, List.setIfInBounds_toArray, List.set_cons_zero, List.set_cons_succ]
  refine wpAnyH_take (i := 1) (v := .pointer (some ⟨g, 0, none⟩)) rfl (by kernel_rfl) (by kernel_rfl) (by kernel_rfl) (fun _ _ _ h => h) (Or.inl ⟨by rfl, fun w hw => by go_simp⟩) hHeld ?_
  simp only [Act.put, List.getElem_toArray, List.getElem_cons_zero, List.getElem_cons_succ, List.setIfInBounds_toArray, List.set_cons_zero, List.set_cons_succ]
  refine wpAnyH_take (i := 2) (v := .pointer (some ⟨g, 0, none⟩)) rfl (by kernel_rfl) (by kernel_rfl) (by kernel_rfl) (fun _ _ _ h => h) (Or.inl ⟨by rfl, fun w hw => by go_simp⟩) hHeld ?_
  simp only [Act.put, List.getElem_toArray, List.getElem_cons_zero, List.getElem_cons_succ, List.setIfInBounds_toArray, List.set_cons_zero, List.set_cons_succ]
  refine wpAnyH_take (i := 3) (v := .pointer (some ⟨w.heap.size, 1, none⟩)) rfl (by kernel_rfl) (by kernel_rfl) (by kernel_rfl) (fun _ _ _ h => h) (Or.inl ⟨by rfl, fun w hw => by go_simp⟩) hHeld ?_
  simp only [Act.put, List.getElem_toArray, List.getElem_cons_zero, List.getElem_cons_succ, List.setIfInBounds_toArray, List.set_cons_zero, List.set_cons_succ]
  refine wpAnyH_take (i := 4) (v := .int .i64 m.i) rfl (by kernel_rfl) (by kernel_rfl) (by kernel_rfl) (fun _ _ _ h => h) (Or.inl ⟨by rfl, fun w hw => by have hq := hw.1.c1; go_simp⟩) hHeld ?_
  simp only [Act.put, List.getElem_toArray, List.getElem_cons_zero, List.getElem_cons_succ, List.setIfInBounds_toArray, List.set_cons_zero, List.set_cons_succ]
  refine wpAnyH_ready (rs := [5]) (by kernel_rfl) (by simp) ?_
  refine AllReadyH.cons (o := _) rfl (fun K hK => ?_) AllReadyH.nil
  go_simp
  refine (HPce.out _ hHeld.2).mono ?_
  rintro e w2 ⟨rfl, rfl⟩
  have HS1 := Lib.hid hHeld
  go_wp2_with fail
  refine hK.out _ _ (hHeld) (fun hHeld => ?_)
  clear hK K
  refine wpAnyH_take (i := 6) (v := .bool true) rfl (by kernel_rfl) (by kernel_rfl) (by kernel_rfl) (fun _ _ _ h => h) (Or.inl ⟨by rfl, fun w hw => by go_simp⟩) hHeld ?_
  simp only [Act.put, List.getElem_toArray, List.getElem_cons_zero, List.getElem_cons_succ, List.setIfInBounds_toArray, List.set_cons_zero, List.set_cons_succ]
  refine wpAnyH_done (by kernel_rfl) ?_ _
  clear hHeld
  go_wp2
  go_ret
  exact ⟨rfl, HS1.out.2⟩
end Go.Proofs.YtnmeohacdbmplaaGreatDoor
namespace Go.Proofs.YtnmeohacdbmplaaGreatDoor
open Go.RowKit
theorem rms_one {w : World} {x : Mg} (h : MM w x.m x.D x.hb) : RMS (w.alloc (.cells x.m.cs 47)) (.slice (some ⟨w.heap.size, 0, none⟩) 1 1) [x] := by
  refine ⟨some ⟨w.heap.size, 0, none⟩, 1, rfl, Nat.le_refl _, .inr ⟨w.heap.size, 0, rfl, by simp, fun i y hy j u hu => ?_⟩, fun y hy => ?_⟩
  · match i, hy with
    | 0, hy =>
      simp at hy
      subst hy
      have hb : MB (w.alloc (.cells x.m.cs 47)) w.heap.size x.m := heapNew _ _
      simpa using hb.cell j hu
  · simp at hy
    subst hy
    exact h.keep ((Below.refl _ _).alloc (Nat.le_refl _) _)
set_option maxHeartbeats 2000000 in
set_option maxRecDepth 100000 in
theorem sayHave (w : World) (g : Nat) (P : Pv) (L : List Int) (h : PL w g P L) (hw : P.why = 0) (hkt : KT w) (m : Mv) (D hb0 : List UInt8) (hmm : MM w m D hb0) (hk : m.k = 4) (hp : pce L m.i = true) (hv : valE m = 0) (hsh : sln m.h ≤ 140737488351232) (hsd : sln m.d ≤ 140737488351232) :
    Calls Tryz.prog 15 #[.pointer (some ⟨g, 0, none⟩), .agg m.cs] w fun e w' => ∃ v, e = .returned (.tuple #[v, .int .i64 0]) ∧ OW w.heap.size w' v (wirB [⟨m, D, hb0⟩]) ∧ PK w' g { P with wb := true } ∧ Fm.Fr (fun k => k ≠ g) w w' := by
  have bA : Below w.heap.size w (w.alloc (.cells m.cs 47)) := (Below.refl _ _).alloc (Nat.le_refl _) _
  have HB := Lib.hid bA
  have hb : MB (w.alloc (.cells m.cs 47)) w.heap.size m := heapNew w (.cells m.cs 47)
  have HS0 := Lib.hid hb
  have hi := info_msg hmm.ok
  have hs40 : m.cs.size = 40 := hmm.ok.size
  have HP : Hid (PL w g P L ∧ KT w ∧ MM w m D hb0) := ⟨h, hkt, hmm⟩
  have hgl := h.pk.lt
  have hkk := hk
  have HO : Hid (Calls Tryz.prog 37 #[.pointer (some ⟨g, 0, none⟩)] (w.alloc (.cells m.cs 47)) fun e w' => e = .returned (.int .i64 0) ∧ w' = w.alloc (.cells m.cs 47)) := by
    have h9 := openT (w.alloc (.cells m.cs 47)) g P (h.below bA).pk (by have := h.b0; omega)
    rw [if_pos hw] at h9
    exact h9
  have HV : Hid (∀ u, Below w.heap.size w u → Calls Tryz.prog 19 #[.agg m.cs] u fun e w' => e = .returned (.int .i64 0) ∧ Below u.heap.size u w') := fun u hu => by
    have h9 := validT u m hmm.ok (hkt.below hu hkt.pos) hsh hsd
    rw [hv] at h9
    exact h9
  have HMy : Hid (∀ u, Below w.heap.size w u → Calls Tryz.prog 43 #[.pointer (some ⟨g, 0, none⟩), .agg m.cs] u fun e w' => e = .returned (.bool true) ∧ Below u.heap.size u w') := fun u hu => mayHave u g P L (h.below hu) m hk hp
  have hwE : wirE [⟨m, D, hb0⟩] = 0 := by
    show (if valE m = 0 then wirE [] else valE m) = 0
    rw [if_pos hv]
    rfl
  have HWr : Hid (∀ u, Below w.heap.size w u → Calls Tryz.prog 44 #[.slice (some ⟨u.heap.size, 0, none⟩) 1 1] (u.alloc (.cells m.cs 47)) fun e w' => ∃ v, e = .returned (.tuple #[v, .int .i64 0]) ∧ OW (u.alloc (.cells m.cs 47)).heap.size w' v (wirB [⟨m, D, hb0⟩]) ∧ Below (u.alloc (.cells m.cs 47)).heap.size (u.alloc (.cells m.cs 47)) w') := fun u hu => by
    have h9 := wireT (u.alloc (.cells m.cs 47)) _ [⟨m, D, hb0⟩] (rms_one (x := ⟨m, D, hb0⟩) (hmm.keep hu)) ((hkt.below hu hkt.pos).below ((Below.refl u.heap.size u).alloc (Nat.le_refl _) _) (hkt.below hu hkt.pos).pos) (show 1 ≤ 2147483647 by decide)
    refine h9.mono ?_
    rintro e w' ⟨v, he, ho, hb⟩
    rw [hwE] at he
    rw [if_pos hwE] at ho
    exact ⟨v, he, ho, hb⟩
  clear h hkt hmm hk hp hv bA hb hwE
  go_enter Tryz.func15, Tryz.ntmps15
  go_wp2_with fail
  refine HO.out.mono ?_
  rintro e w0 ⟨rfl, rfl⟩
  have hg0 := HS0.out
  go_wp2_with (first | (refine load_msg_if rfl _ rfl w.heap.size rfl m.cs hg0 hi ?_))
  refine (HV.out _ HB.out).mono ?_
  rintro e w1 ⟨rfl, b1⟩
  have HB1 := Lib.hid (HB.out.trans (b1.mono HB.out.size))
  have HS1 := Lib.hid (HS0.out.below b1)
  clear b1 hg0 HO HV
  have hg1 := HS1.out
  go_wp2_with (first | (refine load_msg_if rfl _ rfl w.heap.size rfl m.cs hg1 hi ?_))
  refine (HMy.out _ HB1.out).mono ?_
  rintro e w2 ⟨rfl, b2⟩
  have HB2 := Lib.hid (HB1.out.trans (b2.mono HB1.out.size))
  have HS2 := Lib.hid (HS1.out.below b2)
  clear b2 hg1 HMy HS0 HS1 HB1
  have hg2 := HS2.out
  go_wp2_with (first | (refine load_msg_if rfl _ rfl w.heap.size rfl m.cs hg2 hi ?_) | (refine build_msg rfl _ rfl m.cs rfl hs40 ?_))
  refine (HWr.out _ HB2.out).mono ?_
  rintro e w7 ⟨v7, rfl, o7, b7⟩
  obtain ⟨a7, c7, rfl⟩ := o7.form
  have bU : Below w2.heap.size w2 (w2.alloc (.cells m.cs 47)) := (Below.refl _ _).alloc (Nat.le_refl _) _
  have HB7 : Hid (Below w.heap.size w w7) := (HB2.out.trans (bU.mono HB2.out.size)).trans (b7.mono (Nat.le_trans HB2.out.size bU.size))
  have HS9 : Hid (MB w7 w.heap.size m) := (HS2.out.below bU).below b7
  have HK7 : Hid (PK w7 g P) := (HP.out.1.below HB7.out).pk
  have HO7 : Hid (OW w.heap.size w7 (.slice a7 (wirB [⟨m, D, hb0⟩]).length c7) (wirB [⟨m, D, hb0⟩])) := o7.mono (Nat.le_trans HB2.out.size bU.size)
  clear o7 b7 bU hg2 HWr HS2 HB2
  generalize hWB : wirB [⟨m, D, hb0⟩] = wB at *
  go_upto_region 12 with fail
  refine wp_region_held_drew (S := fun u => MB u w.heap.size m) (by kernel_rfl) (HS9.out.below (belowDrew _ 1)) (fun hHeld => ?_)
  refine wpAnyH_take (i := 0) (v := .pointer (some ⟨g, 0, none⟩)) rfl (by kernel_rfl) (by kernel_rfl) (by kernel_rfl) (fun _ _ _ h => h) (Or.inl ⟨by rfl, fun w hw => by go_simp⟩) hHeld ?_
  simp only [Act.put, List.getElem_toArray, List.getElem_cons_zero, List.setIfInBounds_toArray, List.set_cons_zero, List.set_cons_succ]
  refine wpAnyH_take (i := 1) (v := .pointer (some ⟨g, 0, none⟩)) rfl (by kernel_rfl) (by kernel_rfl) (by kernel_rfl) (fun _ _ _ h => h) (Or.inl ⟨by rfl, fun w hw => by go_simp⟩) hHeld ?_
  simp only [Act.put, List.getElem_toArray, List.getElem_cons_zero, List.getElem_cons_succ, List.setIfInBounds_toArray, List.set_cons_zero, List.set_cons_succ]
  refine wpAnyH_take (i := 2) (v := .pointer (some ⟨g, 25, none⟩)) rfl (by kernel_rfl) (by kernel_rfl) (by kernel_rfl) (fun _ _ _ h => h) (Or.inl ⟨by rfl, fun w hw => by go_simp⟩) hHeld ?_
  simp only [Act.put, List.getElem_toArray, List.getElem_cons_zero, List.getElem_cons_succ, List.setIfInBounds_toArray, List.set_cons_zero, List.set_cons_succ]
  refine wpAnyH_take (i := 3) (v := .pointer (some ⟨w.heap.size, 0, none⟩)) rfl (by kernel_rfl) (by kernel_rfl) (by kernel_rfl) (fun _ _ _ h => h) (Or.inl ⟨by rfl, fun w hw => by go_simp⟩) hHeld ?_
  simp only [Act.put, List.getElem_toArray, List.getElem_cons_zero, List.getElem_cons_succ, List.setIfInBounds_toArray, List.set_cons_zero, List.set_cons_succ]
  refine wpAnyH_take (i := 4) (v := .int .i64 4) rfl (by kernel_rfl) (by kernel_rfl) (by kernel_rfl) (fun _ _ _ h => h) (Or.inl ⟨by rfl, fun w hw => by have hq := hw.c0; rw [hkk] at hq; go_simp⟩) hHeld ?_
  simp only [Act.put, List.getElem_toArray, List.getElem_cons_zero, List.getElem_cons_succ, List.setIfInBounds_toArray, List.set_cons_zero, List.set_cons_succ]
  refine wpAnyH_ready (rs := [5]) (by kernel_rfl) (by simp) ?_
  refine AllReadyH.cons (o := _) rfl (fun K hK => ?_) AllReadyH.nil
  go_simp
  refine (saysW w7.drew g P (HK7.out.keep rfl) 4).mono ?_
  rintro e w9 ⟨rfl, k9, f9⟩
  have HF9 : Hid _ := And.intro k9 f9
  have hm9 : MB w9 w.heap.size m := (f9.block w.heap.size HS9.out.lt (by omega)).trans HS9.out
  clear k9 f9
  go_wp2_with fail
  refine hK.out _ _ hm9 (fun hHeld => ?_)
  clear hK K
  refine wpAnyH_done (by kernel_rfl) ?_ _
  clear hHeld
  have HEnd : Hid (OW w.heap.size w9 (.slice a7 wB.length c7) wB ∧ PK w9 g { P with wb := true } ∧ Fm.Fr (fun k => k ≠ g) w w9) := ⟨OW.frame HO7.out hgl (frT (Fm.Fr.of_below (belowDrew w7 1)) HF9.out.2), HF9.out.1, frT (Fm.Fr.of_below HB7.out) (frT (Fm.Fr.of_below (belowDrew w7 1)) HF9.out.2)⟩
  clear HF9 hm9
  go_wp2
  go_ret2
  have hE := HEnd.out
  clear HEnd
  first | (subst hWB; exact ⟨_, rfl, hE⟩) | exact ⟨_, rfl, hE⟩
end Go.Proofs.YtnmeohacdbmplaaGreatDoor
namespace Go.Proofs.YtnmeohacdbmplaaGreatDoor
open Go.RowKit
/-- the message that awake says -/
def m41 : Mv := { zm with k := 4, i := 1 }
theorem m41_val : valE m41 = 0 := by decide
theorem m41_wir : wirB [⟨m41, [], []⟩] = [0, 0, 0, 5, 4, 0, 0, 0, 1] := by decide
theorem m41_ok : m41.ok := ⟨zr_len 32, ⟨_, _, _, rfl⟩, ⟨_, _, _, rfl⟩⟩
theorem rd_have {met bs : List (List UInt8)} {h' : Bool} {r : List UInt8} {e : Int} (x : Fm.Rd false [0, 0, 0, 5, 4, 0, 0, 0, 1] met bs h' r e) : met = [] ∧ bs = [[4, 0, 0, 0, 1]] ∧ h' = false ∧ r = [] ∧ e = 0 :=
  (Fm.Rd.body [0, 0, 0, 5, 4, 0, 0, 0, 1] [] [] false [] 0 (by decide) (by decide) (by decide) (Fm.Rd.num [] (by decide))).det x
theorem rd_hello {info me : List UInt8} (hi : info.length = 20) (hm : me.length = 20) {met bs : List (List UInt8)} {h' : Bool} {r : List UInt8} {e : Int} (x : Fm.Rd true (Fm.sgn ++ (fl8 ++ info ++ me)) met bs h' r e) : met = [fl8 ++ info ++ me] ∧ bs = [] ∧ h' = false ∧ r = [] ∧ e = 0 := by
  have h48 : (fl8 ++ info ++ me).length = 48 := by simp [fl8, hi, hm]
  have hs20 : Fm.sgn.length = 20 := rfl
  have hl : (Fm.sgn ++ (fl8 ++ info ++ me)).length = 68 := by rw [List.length_append, h48, hs20]
  have hd : (Fm.sgn ++ (fl8 ++ info ++ me)).drop 68 = [] := List.drop_eq_nil_of_le (by omega)
  have hh : Fm.hel (Fm.sgn ++ (fl8 ++ info ++ me)) = fl8 ++ info ++ me := by
    unfold Fm.hel
    rw [List.drop_left' hs20, List.take_of_length_le (by omega)]
  have hk : Fm.sok (Fm.sgn ++ (fl8 ++ info ++ me)) 0 = true := by
    unfold Fm.sok
    rw [show 20 - 0 = 20 from rfl, List.take_left' hs20, hl, List.drop_zero, List.take_of_length_le (by rw [hs20]; decide)]
    simp
  have y := Fm.Rd.hello (Fm.sgn ++ (fl8 ++ info ++ me)) [] [] false [] 0 hk (by omega) (by rw [hd]; exact Fm.Rd.num [] (by decide))
  rw [hh] at y
  exact y.det x
theorem hinf_greet {info me : List UInt8} (hi : info.length = 20) : hinf (fl8 ++ info ++ me) = info ∧ hpeer (fl8 ++ info ++ me) = me := by
  constructor
  · unfold hinf
    rw [List.append_assoc, List.drop_left' (show fl8.length = 8 from rfl), List.take_left' hi]
  · unfold hpeer
    exact List.drop_left' (by simp [fl8, hi])
theorem hr_nil {L : List Int} {pb : Int} {q q' : Qs} {xs : List Mg} {e : Int} (h : Hr L pb q [] xs q' e) : xs = [] ∧ q' = q ∧ e = 0 := by
  cases h
  exact ⟨rfl, rfl, rfl⟩
theorem dec_have : decE [4, 0, 0, 0, 1] = 0 ∧ (decS [4, 0, 0, 0, 1]).m = m41 ∧ (decS [4, 0, 0, 0, 1]).D = [] ∧ (decS [4, 0, 0, 0, 1]).hb = [] := by
  refine ⟨by decide, rfl, rfl, rfl⟩
theorem pu_have : Bs.PU 2 [0] 1 true [64] := by
  have h : Bs.BF 2 (Bs.bit [64]) [64] := Bs.ck_bf (n := 2) (l := [64]) (by decide)
  refine .inr ⟨by decide, h.1, fun i => (h.2 i).trans ?_⟩
  match i with
  | 0 => decide
  | 1 => decide
  | i + 2 =>
    have e : decide (i + 2 < 2) = false := by simp
    show (decide (i + 2 < 2) && _) = (decide (i + 2 < 2) && _)
    rw [e]
    rfl
theorem hr_have {q q' : Qs} {xs : List Mg} {e : Int} (h : Hr [130, 64] 64 q [[4, 0, 0, 0, 1]] xs q' e) (hH : q.H = [0]) : e = 0 ∧ xs = [⟨m41, [], []⟩] ∧ q'.H = [64] ∧ q'.c = q.c ∧ q'.i = q.i := by
  obtain ⟨d0, dm, dD, dh⟩ := dec_have
  have hleg : legE [130, 64] 64 q.b (decS [4, 0, 0, 0, 1]).m (decS [4, 0, 0, 0, 1]).D = 0 := by
    rw [dm]; rfl
  cases h with
  | dec => exact absurd d0 (by assumption)
  | ill => exact absurd hleg (by assumption)
  | ok _ q1 _ _ _ xs1 _ _ _ h3 h4 =>
    obtain ⟨rfl, rfl, rfl⟩ := hr_nil h4
    rw [dm, dD, dh]
    rw [dm, dD] at h3
    obtain ⟨s1, s2, s3, s4⟩ := h3
    refine ⟨rfl, rfl, ?_, s1, s2⟩
    rw [hH] at s4
    rcases s4 with ⟨_, ⟨h5, _⟩ | ⟨_, h5⟩⟩ | ⟨h5, _⟩ | ⟨h5, _⟩
    · exact absurd h5 (by decide)
    · exact h5.unique pu_have
    · exact absurd h5 (by decide)
    · exact absurd rfl h5
end Go.Proofs.YtnmeohacdbmplaaGreatDoor
namespace Go.Proofs.YtnmeohacdbmplaaGreatDoor
open Go.RowKit
theorem nd (k : Nat) : (Value.slice none 0 0).ownBlock ≠ some k := by simp [Value.ownBlock]
/-- new blocks leave a connection at rest as it is -/
theorem FP.below {w w' : World} {g R : Nat} {P : Pv} {L : List Int} {H : List UInt8} {p s : Nat} {held : List UInt8} {hv : Value} (h : FP w g R P L H p s held hv) (hb : Below w.heap.size w w') : FP w' g R P L H p s held hv :=
  ⟨h.pk.keep (hb.block g h.pk.lt), h.stp, h.why, h.gR, h.g1, h.b0, h.b1, h.lok, own_at h.lo (fun k hk _ => hb.block k (own_ge h.lo hk).2), h.lj, own_at h.ho (fun k hk _ => hb.block k (own_ge h.ho hk).2), h.hj, h.hl, (hb.block R h.rk.lt).trans h.rk, h.st, own_at h.ow (fun k hk _ => hb.block k (own_ge h.ow hk).2), h.nil, h.kt.below hb h.kt.pos, h.mt.keep hb⟩
theorem FP.pl {w : World} {g R : Nat} {P : Pv} {L : List Int} {H : List UInt8} {p s : Nat} {held : List UInt8} {hv : Value} (h : FP w g R P L H p s held hv) : PL w g P L := ⟨h.pk, h.b0, h.b1, Bs.OZ.rz h.lo, h.lok⟩
/-- a Feed of one handshake of this torrent, at a new connection -/
theorem feedHello (w : World) (g R : Nat) (P : Pv) (L : List Int) (H : List UInt8) (hf : FP w g R P L H 2 0 [] (.slice none 0 0)) (me : List UInt8) (hme : me.length = 20) (bv : Value) (hb : RB w bv (Fm.sgn ++ (fl8 ++ P.info ++ me))) :
    Calls Tryz.prog 13 #[.pointer (some ⟨g, 0, none⟩), bv] w fun e w' => ∃ ev B P' s', e = .returned (.tuple #[ev, .int .i64 0]) ∧ EVS B w' ev [⟨true, me, ⟨zm, [], []⟩⟩] ∧ FP w' g R P' L H 0 s' [] (.slice none 0 0) ∧ P' = { P with sh := true, hs := P'.hs } ∧ Fm.Fr (fun k => k ≠ g ∧ k ≠ R) w w' := by
  have hi : P.info.length = 20 := hf.pk.1
  have hl68 : (Fm.sgn ++ (fl8 ++ P.info ++ me)).length = 68 := by simp [Fm.sgn, fl8, hi, hme]
  refine (feedT w g R P L H 2 0 [] (.slice none 0 0) hf bv _ (Fm.rn_free hb) (by omega)).mono ?_
  rintro e w' ⟨ev, fin, mv, bsv, er, met, bs, h', r, p', s', held', hv', w1, er1, w2, rfl, po, hrs, hfin, hend⟩
  obtain ⟨rfl, rfl, rfl, rfl, rfl⟩ := rd_hello hi hme (show Fm.Rd true (Fm.sgn ++ (fl8 ++ P.info ++ me)) met bs h' r er from po.rd)
  obtain ⟨i1, i2⟩ := hinf_greet (info := P.info) (me := me) hi
  rcases hrs with ⟨h, _⟩ | ⟨h, h1, ⟨h2, _⟩ | ⟨h2, fr2, es, xs, q', P', hvs, hem, hr, hc, hP', ho, hdj⟩⟩
  · cases h
  · cases h1
    exact absurd i1 h2
  · cases h1
    obtain ⟨rfl, rfl, rfl⟩ := hr_nil hr
    have hes : es = [] := List.length_eq_zero_iff.1 hem.1
    subst hes
    rw [if_pos rfl] at hfin
    subst hfin
    rcases hend with ⟨_, rfl⟩ | ⟨h, _⟩
    · obtain ⟨st1, st2, st3⟩ := po.st rfl
      have hp0 : p' = 0 ∧ held' = [] := by
        rcases st1 with ⟨rfl, _⟩ | ⟨rfl, _⟩ | ⟨rfl, _⟩
        · cases st2
        · exact ⟨rfl, by simpa [Fm.tx] using st3⟩
        · simp [Fm.tx, be4] at st3
      obtain ⟨rfl, rfl⟩ := hp0
      have hnil := po.nil rfl
      subst hnil
      have ha := hf.after po fr2 hc (by rw [hP']) (by rw [hP']) (by rw [hP']) ho
      refine ⟨ev, w1.heap.size, P', s', rfl, ?_, ha, hP', ?_⟩
      · have : hev (fl8 ++ P.info ++ me) = ⟨true, me, ⟨zm, [], []⟩⟩ := by unfold hev; rw [i2]
        rw [← this]
        exact hvs
      · exact (po.fr.mono (fun k _ h => ⟨h.2, nd k⟩)).trans (fr2.mono (fun k _ h => h.1)) (fun _ _ x => x)
    · exact absurd rfl h
/-- a Feed of one have, behind the handshake -/
theorem feedHave (w : World) (g R : Nat) (P : Pv) (s : Nat) (hf : FP w g R P [130, 64] [0] 0 s [] (.slice none 0 0)) (hpb : P.b = 64) (bv : Value) (hb : RB w bv [0, 0, 0, 5, 4, 0, 0, 0, 1]) :
    Calls Tryz.prog 13 #[.pointer (some ⟨g, 0, none⟩), bv] w fun e w' => ∃ ev B P' x, e = .returned (.tuple #[ev, .int .i64 0]) ∧ EVS B w' ev [x] ∧ x.x.m.k = 4 ∧ x.x.m.i = 1 ∧ PK w' g P' ∧ RB w' P'.hs [64] ∧ P'.b = 64 ∧ P'.sh = P.sh ∧ P'.why = 0 ∧ P'.ic = P.ic ∧ P'.wc = P.wc ∧ Fm.Fr (fun k => k ≠ g ∧ k ≠ R) w w' := by
  refine (feedT w g R P _ [0] 0 s [] (.slice none 0 0) hf bv _ (Fm.rn_free hb) (by decide)).mono ?_
  rintro e w' ⟨ev, fin, mv, bsv, er, met, bs, h', r, p', s', held', hv', w1, er1, w2, rfl, po, hrs, hfin, hend⟩
  obtain ⟨rfl, rfl, rfl, rfl, rfl⟩ := rd_have (show Fm.Rd false [0, 0, 0, 5, 4, 0, 0, 0, 1] met bs h' r er from po.rd)
  rcases hrs with ⟨_, fr2, es, xs, q', P', hvs, hem, hr, hc, hP', ho, hdj⟩ | ⟨h, h1, _⟩
  · rw [hpb] at hr
    obtain ⟨rfl, rfl, hH, hqc, hqi⟩ := hr_have hr rfl
    rw [if_pos rfl] at hfin
    subst hfin
    rcases hend with ⟨_, rfl⟩ | ⟨h, _⟩
    · obtain ⟨x, rfl⟩ := List.length_eq_one_iff.1 hem.1
      obtain ⟨_, _, _, _, hx⟩ := hem.2 0 x _ rfl rfl
      have hz := hc.hz.now
      rw [hH] at hz
      refine ⟨ev, w1.heap.size, P', x, rfl, hvs, ?_, ?_, hc.pk, hz, ?_, ?_, ?_, ?_, ?_, ?_⟩
      · rw [hx]; rfl
      · rw [hx]; rfl
      · rw [hP']; exact hpb
      · rw [hP']
      · rw [hP']; exact hf.why
      · rw [hP']; exact hqc
      · rw [hP']
      · exact (po.fr.mono (fun k _ h => ⟨h.2, nd k⟩)).trans (fr2.mono (fun k _ h => h.1)) (fun _ _ x => x)
    · exact absurd rfl h
  · cases h1
/-- the hash that awake names -/
def inf12 : List UInt8 := [1, 2] ++ zr 30
theorem newA (w : World) (hkt : KT w) (hmt : Bs.MT w) :
    Calls Tryz.prog 10 #[.agg #[.int .i64 64, .int .i64 32], .agg (bc inf12), .slice (some ⟨w.heap.size, 0, none⟩) 2 2] (w.alloc (.cells #[.int .i64 130, .int .i64 64] 3)) fun e w' => ∃ g R P, e = .returned (.tuple #[.pointer (some ⟨g, 0, none⟩), .int .i64 0]) ∧ w.heap.size ≤ g ∧ FP w' g R P [130, 64] [0] 2 0 [] (.slice none 0 0) ∧ P.info = inf12.take 20 ∧ P.b = 64 ∧ P.wc = true ∧ P.ic = true ∧ P.wb = false ∧ Below w.heap.size w w' := by
  have bA : Below w.heap.size w (w.alloc (.cells #[.int .i64 130, .int .i64 64] 3)) := (Below.refl _ _).alloc (Nat.le_refl _) _
  have hrz : Bs.RZ (w.alloc (.cells #[.int .i64 130, .int .i64 64] 3)) (.slice (some ⟨w.heap.size, 0, none⟩) 2 2) [130, 64] := by
    refine ⟨_, _, rfl, (fun h => by cases h), .inr ⟨w.heap.size, 0, rfl, by simp, fun i hi => ?_⟩⟩
    have hn := heapNew w (.cells #[.int .i64 130, .int .i64 64] 3)
    match i, hi with
    | 0, _ => unfold World.cell?; simp only [hn]; rfl
    | 1, _ => unfold World.cell?; simp only [hn]; rfl
  have h := newP 64 32 inf12 (by decide) (.slice (some ⟨w.heap.size, 0, none⟩) 2 2) [130, 64] (w.alloc (.cells #[.int .i64 130, .int .i64 64] 3)) (by decide) hrz (hkt.below bA hkt.pos) (hmt.keep bA)
  have hE : nwE 64 32 [130, 64] = 0 := by decide
  rw [hE] at h
  refine h.mono ?_
  rintro e w' ⟨p, rfl, _, hb, hN⟩
  obtain ⟨g, R, P, rfl, hg, hf, h1, h2, h3, h4, h5, h6, h7, _⟩ := hN rfl
  exact ⟨g, R, P, rfl, Nat.le_trans bA.size hg, hf, h1, h2, h4, h7, h6, bA.trans (hb.mono bA.size)⟩
end Go.Proofs.YtnmeohacdbmplaaGreatDoor
namespace Go.Proofs.YtnmeohacdbmplaaGreatDoor
open Go.RowKit
theorem FP.frame {w w' : World} {g R : Nat} {P : Pv} {L : List Int} {H : List UInt8} {p s : Nat} {S : Nat → Prop} (h : FP w g R P L H p s [] (.slice none 0 0)) (fr : Fm.Fr S w w') (hg : S g) (hR : S R) (h0 : S 0) (h1 : S 1) (hz : ∀ k cs, w.heap[k]? = some (.cells cs 3 (0, 0)) → S k) (h8 : ∀ k cs, w.heap[k]? = some (.cells cs 5 (0, 0)) → S k) : FP w' g R P L H p s [] (.slice none 0 0) :=
  ⟨h.pk.keep (fr.block g h.pk.lt hg), h.stp, h.why, h.gR, h.g1, h.b0, h.b1, h.lok, own_at h.lo (fun k hk hx => fr.block k (own_ge h.lo hk).2 (hx.elim (hz k))), h.lj, own_at h.ho (fun k hk hx => fr.block k (own_ge h.ho hk).2 (hx.elim (h8 k))), h.hj, h.hl, (fr.block R h.rk.lt hR).trans h.rk, h.st, World.ownsRow_nil _ _ _ _, h.nil,
    fun j v hj => by rw [World.cell?_of_block (w := w) (fr.block 1 h.kt.pos h1)]; exact h.kt j v hj,
    ⟨Nat.lt_of_lt_of_le h.mt.1 fr.size, fun j hj => (World.cell?_of_block (w := w) (fr.block 0 h.mt.1 h0)).trans (h.mt.2 j hj)⟩⟩
/-- the two blocks of a connection are neither rows of numbers nor of bytes -/
theorem FP.rows {w : World} {g R : Nat} {P : Pv} {L : List Int} {H : List UInt8} {p s : Nat} {held : List UInt8} {hv : Value} (h : FP w g R P L H p s held hv) : (∀ k cs, w.heap[k]? = some (.cells cs 3 (0, 0)) → k ≠ g ∧ k ≠ R) ∧ (∀ k cs, w.heap[k]? = some (.cells cs 5 (0, 0)) → k ≠ g ∧ k ≠ R) := by
  have hk := h.pk.2
  have hr : w.heap[R]? = _ := h.rk
  refine ⟨fun k cs e => ⟨?_, ?_⟩, fun k cs e => ⟨?_, ?_⟩⟩ <;> (rintro rfl; first | (rw [hk] at e; simp at e; done) | (rw [hr] at e; simp at e; done))
theorem below_fr {B : Nat} {S : Nat → Prop} {a b c : World} (h : Below B a b) (f : Fm.Fr S b c) (hB : B ≤ b.heap.size) (hS : ∀ k, k < B → S k) : Below B a c :=
  ⟨f.os.trans h.os, f.tape.trans h.tape, f.output.trans h.output, Nat.le_trans h.size f.size, fun k hk => (f.block k (by omega) (hS k hk)).trans (h.block k hk)⟩
end Go.Proofs.YtnmeohacdbmplaaGreatDoor
namespace Go.Proofs.YtnmeohacdbmplaaGreatDoor
open Go.RowKit
theorem bc12 : bc inf12 = #[.int .u8 1, .int .u8 2, .int .u8 0, .int .u8 0, .int .u8 0, .int .u8 0, .int .u8 0, .int .u8 0, .int .u8 0, .int .u8 0, .int .u8 0, .int .u8 0, .int .u8 0, .int .u8 0, .int .u8 0, .int .u8 0, .int .u8 0, .int .u8 0, .int .u8 0, .int .u8 0, .int .u8 0, .int .u8 0, .int .u8 0, .int .u8 0, .int .u8 0, .int .u8 0, .int .u8 0, .int .u8 0, .int .u8 0, .int .u8 0, .int .u8 0, .int .u8 0] := by rfl
theorem mm41 (w : World) : MM w m41 [] [] := ⟨m41_ok, OW.rb (B := 0) (World.ownsRow_nil _ _ _ _), ⟨none, 0, 0, rfl, rfl, Nat.le_refl _, .inl rfl⟩, by decide, by decide⟩
theorem cs41 : m41.cs = #[.int .i64 4, .int .i64 1, .int .i64 0, .int .i64 0, .slice none 0 0, .int .u8 0, .int .u8 0, .int .u8 0, .int .u8 0, .int .u8 0, .int .u8 0, .int .u8 0, .int .u8 0, .int .u8 0, .int .u8 0, .int .u8 0, .int .u8 0, .int .u8 0, .int .u8 0, .int .u8 0, .int .u8 0, .int .u8 0, .int .u8 0, .int .u8 0, .int .u8 0, .int .u8 0, .int .u8 0, .int .u8 0, .int .u8 0, .int .u8 0, .int .u8 0, .int .u8 0, .int .u8 0, .int .u8 0, .int .u8 0, .int .u8 0, .int .u8 0, .int .i64 0, .int .i64 0, .slice none 0 0] := by rfl
def me7 : List UInt8 := [7] ++ zr 19
theorem bc7 : bc me7 = #[.int .u8 7, .int .u8 0, .int .u8 0, .int .u8 0, .int .u8 0, .int .u8 0, .int .u8 0, .int .u8 0, .int .u8 0, .int .u8 0, .int .u8 0, .int .u8 0, .int .u8 0, .int .u8 0, .int .u8 0, .int .u8 0, .int .u8 0, .int .u8 0, .int .u8 0, .int .u8 0] := by rfl
set_option maxHeartbeats 2000000 in
set_option maxRecDepth 100000 in
theorem awakeT (w : World) (hkt : KT w) (hmt : Bs.MT w) : Calls Tryz.prog 9 #[] w fun e w' => e = .returned (.bool true) ∧ Below w.heap.size w w' := by
  have bA : Below w.heap.size w (w.alloc (.cells #[.int .i64 64, .int .i64 32] 23)) := (Below.refl _ _).alloc (Nat.le_refl _) _
  have hN := newA (w.alloc (.cells #[.int .i64 64, .int .i64 32] 23)) (hkt.below bA hkt.pos) (hmt.keep bA)
  have hz : (w.alloc (.cells #[.int .i64 64, .int .i64 32] 23)).heap.size = w.heap.size + 1 := by simp
  have hs0 := heapNew w (.cells #[.int .i64 64, .int .i64 32] 23)
  rw [hz, bc12] at hN
  have HN := Lib.hid hN
  have HBA := Lib.hid bA
  have HS := Lib.hid hs0
  have HZ := Lib.hid hz
  clear hN bA hs0 hz hkt hmt
  go_enter Tryz.func9, Tryz.ntmps9
  go_wp2_with fail
  refine HN.out.mono ?_
  rintro e w1 ⟨g, R, P, rfl, hg, hf, hi, hpb, hwc, hic, hwb, b1⟩
  rw [← HZ.out] at b1
  have HB1 : Hid (Below w.heap.size w w1) := HBA.out.trans (b1.mono HBA.out.size)
  have hsc : w1.heap[w.heap.size]? = some (.cells #[.int .i64 64, .int .i64 32] 23) := (b1.block w.heap.size (by rw [HZ.out]; omega)).trans HS.out
  have c0 : w1.cell? ⟨w.heap.size, 0, none⟩ = some (.int .i64 64) := by unfold World.cell?; simp only [hsc]; rfl
  have c1 : w1.cell? ⟨w.heap.size, 1, none⟩ = some (.int .i64 32) := by unfold World.cell?; simp only [hsc]; rfl
  have HF := Lib.hid hf
  have HP : Hid (P.info = inf12.take 20 ∧ P.b = 64 ∧ P.wc = true ∧ P.ic = true ∧ w.heap.size + 1 ≤ g) := ⟨hi, hpb, hwc, hic, hg⟩
  have hN2 := newA w1 hf.kt hf.mt
  rw [bc12] at hN2
  have HN2 := Lib.hid hN2
  clear hN2 hf hi hpb hwc hic hg b1 HN HS HZ HBA hsc hwb
  go_wp2_with fail
  refine HN2.out.mono ?_
  rintro e w2 ⟨g2, R2, P2, rfl, hg2, hf2, hi2, hpb2, hwc2, hic2, hwb2, b2⟩
  have HB2 : Hid (Below w.heap.size w w2) := HB1.out.trans (b2.mono HB1.out.size)
  have HFa : Hid (FP w2 g R P [130, 64] [0] 2 0 [] (.slice none 0 0)) := HF.out.below b2
  have HFb := Lib.hid hf2
  have HL : Hid (g < w1.heap.size ∧ R < w1.heap.size) := ⟨HF.out.pk.lt, HF.out.rk.lt⟩
  have HP2 : Hid (P2.info = inf12.take 20 ∧ P2.b = 64 ∧ w1.heap.size ≤ g2) := ⟨hi2, hpb2, hg2⟩
  clear hf2 hi2 hpb2 hwc2 hic2 hwb2 hg2 HN2 b2 c0 c1 HF HB1
  have hG := greetP w2 g2 P2 HFb.out.pk (by rw [HP2.out.2.1]; decide) me7 (by decide)
  rw [bc7, HP2.out.1, ← HP.out.1] at hG
  have HG := Lib.hid hG
  clear hG
  go_wp2_with (first | (go_at_call 11; refine (numLT _ _).mono ?_; rintro e w9 ⟨rfl, rfl⟩))
  refine HG.out.mono ?_
  rintro e w3 ⟨v3, rfl, o3, b3⟩
  obtain ⟨a3, n3, c3, rfl⟩ : ∃ a n c, v3 = Value.slice a n c := by
    obtain ⟨a, c, h⟩ := o3.form
    exact ⟨a, _, c, h⟩
  have HH := Lib.hid (feedHello w3 g R P [130, 64] [0] (HFa.out.below b3) me7 (by decide) _ o3.rb)
  have HFb3 : Hid (FP w3 g2 R2 P2 [130, 64] [0] 2 0 [] (.slice none 0 0)) := HFb.out.below b3
  have HFa3 : Hid (FP w3 g R P [130, 64] [0] 2 0 [] (.slice none 0 0)) := HFa.out.below b3
  have HB3 : Hid (Below w.heap.size w w3) := HB2.out.trans (b3.mono HB2.out.size)
  have HZ3 : Hid (w1.heap.size ≤ w3.heap.size ∧ g2 < w3.heap.size) := ⟨by have := HFb.out.pk.lt; have := HP2.out.2.2; have := b3.size; show _ ≤ _; omega, by have := HFb.out.pk.lt; have := b3.size; show _ < _; omega⟩
  clear HG o3 b3 HFa HFb HB2
  go_wp2_with fail
  refine HH.out.mono ?_
  rintro e w4 ⟨ev, B4, P', s', rfl, hev4, hf4, hP', fr4⟩
  obtain ⟨hrow, hev5⟩ := hev4
  obtain ⟨q4, k4, rfl, e0, e1⟩ : ∃ q c, ev = .slice (some ⟨q, 0, none⟩) 1 c ∧ w4.cell? ⟨q, 0, none⟩ = some (.bool true) ∧ w4.cell? ⟨q, 1, none⟩ = some (.int .u8 7) := by
    rcases hrow.2 with ⟨_, h0⟩ | ⟨q, cap, cur, rfl, _, h3, _⟩
    · simp at h0
    · exact ⟨q, cap, rfl, World.ownsRow.cellAt hrow 0 (by decide), World.ownsRow.cellAt hrow 1 (by decide)⟩
  have HF4 := Lib.hid hf4
  have HP4 := Lib.hid hP'
  have HR4 := Lib.hid fr4
  clear hrow hev5 hf4 hP' fr4 HH
  go_wp2_with (first | (go_at_call 11; refine (numLT _ _).mono ?_; rintro e w9 ⟨rfl, rfl⟩))
  have HFb4 : Hid (FP w4 g2 R2 P2 [130, 64] [0] 2 0 [] (.slice none 0 0)) := by
    have h1 := HL.out
    have h2 := HP2.out.2.2
    have h3 := HFb3.out.gR
    have h4 := HFa3.out.g1
    have h5 := HFa3.out.gR
    exact HFb3.out.frame HR4.out ⟨by omega, by omega⟩ ⟨by omega, by omega⟩ ⟨by omega, by omega⟩ ⟨by omega, by omega⟩ HFa3.out.rows.1 HFa3.out.rows.2
  have hS := sayHave w4 g2 P2 [130, 64] HFb4.out.pl HFb4.out.why HFb4.out.kt m41 [] [] (mm41 w4) rfl rfl m41_val (by decide) (by decide)
  rw [m41_wir, cs41] at hS
  have HSy := Lib.hid hS
  clear hS
  refine HSy.out.mono ?_
  rintro e w5 ⟨v5, rfl, o5, k5, fr5⟩
  obtain ⟨a5, c5, rfl⟩ := o5.form
  have HF5 : Hid (FP w5 g R P' [130, 64] [0] 0 s' [] (.slice none 0 0)) := by
    have h1 := HL.out
    have h2 := HP2.out.2.2
    have h4 := HFa3.out.g1
    have h5 := HFa3.out.gR
    exact HF4.out.frame fr5 (by omega) (by omega) (by omega) (by omega) (fun k cs e => (HFb4.out.rows.1 k cs e).1) (fun k cs e => (HFb4.out.rows.2 k cs e).1)
  have HHv := Lib.hid (feedHave w5 g R P' s' HF5.out (by rw [HP4.out]; exact HP.out.2.1) _ o5.rb)
  have HB5 : Hid (Below w.heap.size w w5) := by
    have h1 := HL.out
    have h2 := HP2.out.2.2
    have h3 := HP.out.2.2.2.2
    have h5 := HFa3.out.gR
    have hs4 := HR4.out.size
    have hs3 := HB3.out.size
    exact below_fr (below_fr HB3.out HR4.out hs3 (fun k hk => ⟨by omega, by omega⟩)) fr5 (by omega) (fun k hk => by omega)
  clear HSy o5 k5 fr5 e0 e1
  go_wp2_with fail
  refine HHv.out.mono ?_
  rintro e w6 ⟨ev6, B6, P6, x6, rfl, hev6, hxk, hxi, hk6, hr6, hpb6, hsh6, hwy6, hic6, hwc6, fr6⟩
  obtain ⟨hrow, hev7⟩ := hev6
  obtain ⟨q6, k6, rfl, hq6, e0, e1⟩ : ∃ q c, ev6 = .slice (some ⟨q, 0, none⟩) 1 c ∧ q < w6.heap.size ∧ w6.cell? ⟨q, 21, none⟩ = some (.int .i64 4) ∧ w6.cell? ⟨q, 22, none⟩ = some (.int .i64 1) := by
    have hp20 := (hev7 x6 (by simp)).1
    rcases hrow.2 with ⟨_, h0⟩ | ⟨q, cap, cur, rfl, _, h3, _⟩
    · simp at h0
    · refine ⟨q, cap, rfl, (Array.getElem?_eq_some_iff.1 h3).1, (World.ownsRow.cellAt hrow 21 (show 21 < 1 * 61 by decide)).trans ?_, (World.ownsRow.cellAt hrow 22 (show 22 < 1 * 61 by decide)).trans ?_⟩
      · rw [← hxk]; simp [Ev.ls, Mv.ls, bcl_len, hp20]
      · rw [← hxi]
        simp [Ev.ls, Mv.ls]
        rw [List.getElem?_append_right (by rw [bcl_len, hp20]; decide), bcl_len, hp20]
        rfl
  have hSt := stateT w6 g P6 hk6 (by omega) [64] hr6 (by decide)
  have hsh : P6.sh = true := by rw [hsh6, HP4.out]
  have hwc : P6.wc = true := by rw [hwc6, HP4.out]; exact HP.out.2.2.1
  have hic : P6.ic = true := by rw [hic6, HP4.out]; exact HP.out.2.2.2.1
  rw [hsh, hwy6, hwc, hic] at hSt
  have HSt := Lib.hid hSt
  have HB6 : Hid (Below w.heap.size w w6) := by
    have h3 := HP.out.2.2.2.2
    have h5 := HFa3.out.gR
    exact below_fr HB5.out fr6 HB5.out.size (fun k hk => ⟨by omega, by omega⟩)
  clear hrow hev7 HHv hSt hsh hwc hic hk6 hr6 hpb6 hsh6 hwy6 hic6 hwc6 fr6 HB5 HF5 HFb4 HF4 HFb3 HFa3 HR4 HP4 HP HP2 HL HB3 HZ3
  go_wp2_with fail
  refine HSt.out.mono ?_
  rintro e w7 ⟨v7, rfl, o7, b7⟩
  obtain ⟨a7, c7, rfl⟩ := o7.form
  obtain ⟨o8, ho8⟩ : ∃ o, o = Obj.cells #[.bool true, .bool false, .int .i64 0, .bool true, .bool P6.wi, .bool true, .bool P6.ii, .slice a7 1 c7] 43 := ⟨_, rfl⟩
  have b8 : Below w7.heap.size w7 (w7.alloc o8) := (Below.refl _ _).alloc (Nat.le_refl _) _
  have hs7 := b7.size
  have f0 := (World.cell?_of_block (w := w7) (a := ⟨q6, 21, none⟩) (b8.block q6 (by omega))).trans ((World.cell?_of_block (w := w6) (a := ⟨q6, 21, none⟩) (b7.block q6 hq6)).trans e0)
  have f1 := (World.cell?_of_block (w := w7) (a := ⟨q6, 22, none⟩) (b8.block q6 (by omega))).trans ((World.cell?_of_block (w := w6) (a := ⟨q6, 22, none⟩) (b7.block q6 hq6)).trans e1)
  have b9 : Below (w7.alloc o8).heap.size (w7.alloc o8) ((w7.alloc o8).alloc (.cells #[.int .u8 64] 5)) := (Below.refl _ _).alloc (Nat.le_refl _) _
  have r9 : RB ((w7.alloc o8).alloc (.cells #[.int .u8 64] 5)) (.slice (some ⟨(w7.alloc o8).heap.size, 0, none⟩) 1 1) [64] := by
    exact rb_new (w := w7.alloc o8) (l := [64]) (n := 1) rfl
  have hSm := same (.slice a7 1 c7) (.slice (some ⟨(w7.alloc o8).heap.size, 0, none⟩) 1 1) [64] _ (by decide) (((o7.rb).keep b8).keep b9) r9
  have hz8 : (w7.alloc o8).heap.size = w7.heap.size + 1 := by simp
  rw [hz8] at hSm
  have HB9 : Hid (Below w.heap.size w ((w7.alloc o8).alloc (.cells #[.int .u8 64] 5))) := ((HB6.out.trans (b7.mono HB6.out.size)).trans (b8.mono (Nat.le_trans HB6.out.size hs7))).trans (b9.mono (by rw [hz8]; have := HB6.out.size; omega))
  subst ho8
  have HSm := Lib.hid hSm
  clear hSm hz8 r9 b9 b8 hs7
  clear e0 e1 hq6 HSt b7 o7 HB6
  go_wp2_with (first | (go_at_call 11; refine (numLT _ _).mono ?_; rintro e w9 ⟨rfl, rfl⟩))
  refine HSm.out.mono ?_
  rintro e w10 ⟨rfl, n10, rfl⟩
  clear HSm
  go_wp2
  go_ret
  exact ⟨rfl, HB9.out.trans ((belowDrew _ _).mono HB9.out.size)⟩
end Go.Proofs.YtnmeohacdbmplaaGreatDoor
namespace Go.Proofs.YtnmeohacdbmplaaGreatDoor
open Go.RowKit
/-- what stands behind any Feed of a connection at rest that holds no bytes -/
theorem FdE.sum {w : World} {g R : Nat} {P : Pv} {L : List Int} {H : List UInt8} {p s : Nat} {l : List UInt8} (hf : FP w g R P L H p s [] (.slice none 0 0)) {e : Ending} {w' : World} (h : FdE w g R P L H p s [] (.slice none 0 0) l e w') :
    ∃ ev fin P' H', e = .returned (.tuple #[ev, .int .i64 fin]) ∧ (∃ a n c, ev = .slice a n c) ∧ PK w' g P' ∧ P'.why = fin ∧ P'.b = P.b ∧ RB w' P'.hs H' ∧ H'.length ≤ 140737488351232 ∧ Fm.Fr (fun k => k ≠ g ∧ k ≠ R) w w' := by
  obtain ⟨ev, fin, mv, bsv, er, met, bs, h', r, p', s', held', hv', w1, er1, w2, rfl, po, hrs, hfin, hend⟩ := h
  obtain ⟨hc1, _, _⟩ := hf.hc po.fr
  have fr1 : Fm.Fr (fun k => k ≠ g ∧ k ≠ R) w w1 := po.fr.mono (fun k _ h => ⟨h.2, nd k⟩)
  have key : ∃ P' H', HC w2 g P' L H' ∧ P'.why = 0 ∧ P'.b = P.b ∧ Fm.Fr (fun k => k ≠ g) w1 w2 := by
    rcases hrs with ⟨_, fr2, es, xs, q', P', hvs, hem, hr, hc, hP', ho, hdj⟩ | ⟨h, h1, ⟨_, _, _, hb⟩ | ⟨_, fr2, es, xs, q', P', hvs, hem, hr, hc, hP', ho, hdj⟩⟩
    · exact ⟨P', _, hc, by rw [hP']; exact hf.why, by rw [hP'], fr2⟩
    · exact ⟨P, H, hc1.below hb, hf.why, rfl, Fm.Fr.of_below hb⟩
    · exact ⟨P', _, hc, by rw [hP']; exact hf.why, by rw [hP'], fr2⟩
  obtain ⟨P', H', hc, hw, hb, fr2⟩ := key
  have fr12 : Fm.Fr (fun k => k ≠ g ∧ k ≠ R) w w2 := fr1.trans (fr2.mono (fun k _ (h : k ≠ g ∧ k ≠ R) => h.1)) (fun _ _ x => x)
  rcases hend with ⟨h0, rfl⟩ | ⟨h0, P1, k1, k2, fr3⟩
  · exact ⟨ev, fin, P', H', rfl, hrs.form, hc.pk, by rw [hw, h0], hb, hc.hz.now, hc.hl, fr12⟩
  · have e1 : P1.hs = P'.hs := by
      have x := k1.cells.2.2.2.2.2
      have y := hc.pk.cells.2.2.2.2.2
      rw [x] at y
      simpa using y
    have e2 : P1.b = P'.b := by
      have x := k1.cells.1
      have y := hc.pk.cells.1
      rw [x] at y
      simpa using y
    exact ⟨ev, fin, _, H', rfl, hrs.form, k2, rfl, by show P1.b = _; rw [e2, hb], by show RB w' P1.hs H'; rw [e1]; exact hc.hz w' (Fe.of_fr fr3), hc.hl, fr12.trans (fr3.mono (fun k _ (h : k ≠ g ∧ k ≠ R) => h.1)) (fun _ _ x => x)⟩
end Go.Proofs.YtnmeohacdbmplaaGreatDoor
