import Derived.Test.YtnmeohacdbmplaaGreatDoorM27
import Derived.Test.YtnmeohacdbmplaaGreatDoorM26
import Derived.Test.YtnmeohacdbmplaaGreatDoorM23
import Derived.BigQuiet
namespace Go.Proofs.YtnmeohacdbmplaaGreatDoor
open Go.RowKit
set_option maxRecDepth 100000 in
/-- a valid message's numbers are within their bounds -/
theorem val_bd {m : Mv} (h : valE m = 0) : 0 ≤ m.b ∧ m.b ≤ 4294967295 ∧ 0 ≤ m.l ∧ m.l ≤ 4294967295 := by
  unfold valE at h
  cases hr : rowFor m.k with
  | none => rw [hr] at h; simp at h
  | some r =>
    rw [hr] at h
    simp only at h
    have hf : frn (blks r.cs m) = false := by
      cases hx : frn (blks r.cs m) with
      | false => rfl
      | true => rw [hx] at h; simp at h
    rw [hf] at h
    simp only [Bool.false_eq_true, if_false] at h
    have hl : lks r.cs m = true := by
      cases hx : lks r.cs m with
      | true => rfl
      | false => rw [hx] at h; simp at h
    have hm := (rowFor_mem hr).1
    clear h hr
    simp only [rws, List.mem_cons, List.not_mem_nil, or_false] at hm
    rcases hm with rfl | rfl | rfl | rfl | rfl | rfl | rfl | rfl | rfl | rfl | rfl | rfl | rfl | rfl <;> (simp [Kr.cs, List.takeWhile, blks, blk, frn] at hf; simp [Kr.cs, List.takeWhile, lks, lk, rng] at hl; omega)
set_option maxHeartbeats 2000000 in
set_option maxRecDepth 100000 in
theorem sayOk (w : World) (g : Nat) (P : Pv) (L : List Int) (h : PL w g P L) (hw : P.why = 0) (hkt : KT w) (hmt : Bs.MT w) (m : Mv) (D hb0 : List UInt8) (hmm : MM w m D hb0) (hbd : MBd m D.length) (hp : mayE L P m D = true) (hv : valE m = 0) (hsh : sln m.h ≤ 140737488351232) (hsd : sln m.d ≤ 140737488351232) :
    Calls Tryz.prog 15 #[.pointer (some ⟨g, 0, none⟩), .agg m.cs] w fun e w' => ∃ v, e = .returned (.tuple #[v, .int .i64 0]) ∧ OW w.heap.size w' v (wirB [⟨m, D, hb0⟩]) ∧ PK w' g { P with wc := (sy m.k P.wc P.wi P.wb).1, wi := (sy m.k P.wc P.wi P.wb).2.1, wb := (sy m.k P.wc P.wi P.wb).2.2 } ∧ Fm.Fr (fun k => k ≠ g) w w' := by
  have bA : Below w.heap.size w (w.alloc (.cells m.cs 47)) := (Below.refl _ _).alloc (Nat.le_refl _) _
  have HB := Lib.hid bA
  have hb : MB (w.alloc (.cells m.cs 47)) w.heap.size m := heapNew w (.cells m.cs 47)
  have HS0 := Lib.hid hb
  have hi := info_msg hmm.ok
  have hs40 : m.cs.size = 40 := hmm.ok.size
  have HP : Hid (PL w g P L ∧ KT w ∧ MM w m D hb0) := ⟨h, hkt, hmm⟩
  have hgl := h.pk.lt
  have HO : Hid (Calls Tryz.prog 37 #[.pointer (some ⟨g, 0, none⟩)] (w.alloc (.cells m.cs 47)) fun e w' => e = .returned (.int .i64 0) ∧ w' = w.alloc (.cells m.cs 47)) := by
    have h9 := openT (w.alloc (.cells m.cs 47)) g P (h.below bA).pk (by have := h.b0; omega)
    rw [if_pos hw] at h9
    exact h9
  have HV : Hid (∀ u, Below w.heap.size w u → Calls Tryz.prog 19 #[.agg m.cs] u fun e w' => e = .returned (.int .i64 0) ∧ Below u.heap.size u w') := fun u hu => by
    have h9 := validT u m hmm.ok (hkt.below hu hkt.pos) hsh hsd
    rw [hv] at h9
    exact h9
  have HMy : Hid (∀ u, Below w.heap.size w u → Calls Tryz.prog 43 #[.pointer (some ⟨g, 0, none⟩), .agg m.cs] u fun e w' => e = .returned (.bool true) ∧ Below u.heap.size u w') := fun u hu => by
    have h9 := mayT u g P L (h.below hu) m hmm.ok D (hmm.d.keep hu) hbd (hmt.keep hu)
    rw [hp] at h9
    exact h9
  have hwE : wirE [⟨m, D, hb0⟩] = 0 := by
    show (if valE m = 0 then wirE [] else valE m) = 0
    rw [if_pos hv]
    rfl
  have HWr : Hid (∀ u, Below w.heap.size w u → Calls Tryz.prog 44 #[.slice (some ⟨u.heap.size, 0, none⟩) 1 1] (u.alloc (.cells m.cs 47)) fun e w' => ∃ v, e = .returned (.tuple #[v, .int .i64 0]) ∧ OW (u.alloc (.cells m.cs 47)).heap.size w' v (wirB [⟨m, D, hb0⟩]) ∧ Below (u.alloc (.cells m.cs 47)).heap.size (u.alloc (.cells m.cs 47)) w') := fun u hu => by
    have h9 := wireT (u.alloc (.cells m.cs 47)) _ [⟨m, D, hb0⟩] (rms_one (x := ⟨m, D, hb0⟩) (hmm.keep hu)) ((hkt.below hu hkt.pos).below ((Below.refl u.heap.size u).alloc (Nat.le_refl _) _) (hkt.below hu hkt.pos).pos) (show 1 ≤ 2147483647 by decide)
    refine h9.mono ?_
    rintro e w' ⟨v, he, ho, hb⟩
    rw [hwE] at he
    rw [if_pos hwE] at ho
    exact ⟨v, he, ho, hb⟩
  clear h hkt hmt hmm hbd hp hv bA hb hwE
  go_enter Tryz.func15, Tryz.ntmps15
  go_wp2_with fail
  refine HO.out.mono ?_
  rintro e w0 ⟨rfl, rfl⟩
  have hg0 := HS0.out
  go_wp2_with (first | (refine load_msg_if rfl _ rfl w.heap.size rfl m.cs hg0 hi ?_))
  refine (HV.out _ HB.out).mono ?_
  rintro e w1 ⟨rfl, b1⟩
  have HB1 := Lib.hid (HB.out.trans (b1.mono HB.out.size))
  have HS1 := Lib.hid (HS0.out.below b1)
  clear b1 hg0 HO HV
  have hg1 := HS1.out
  go_wp2_with (first | (refine load_msg_if rfl _ rfl w.heap.size rfl m.cs hg1 hi ?_))
  refine (HMy.out _ HB1.out).mono ?_
  rintro e w2 ⟨rfl, b2⟩
  have HB2 := Lib.hid (HB1.out.trans (b2.mono HB1.out.size))
  have HS2 := Lib.hid (HS1.out.below b2)
  clear b2 hg1 HMy HS0 HS1 HB1
  have hg2 := HS2.out
  go_wp2_with (first | (refine load_msg_if rfl _ rfl w.heap.size rfl m.cs hg2 hi ?_) | (refine build_msg rfl _ rfl m.cs rfl hs40 ?_))
  refine (HWr.out _ HB2.out).mono ?_
  rintro e w7 ⟨v7, rfl, o7, b7⟩
  obtain ⟨a7, c7, rfl⟩ := o7.form
  have bU : Below w2.heap.size w2 (w2.alloc (.cells m.cs 47)) := (Below.refl _ _).alloc (Nat.le_refl _) _
  have HB7 : Hid (Below w.heap.size w w7) := (HB2.out.trans (bU.mono HB2.out.size)).trans (b7.mono (Nat.le_trans HB2.out.size bU.size))
  have HS9 : Hid (MB w7 w.heap.size m) := (HS2.out.below bU).below b7
  have HK7 : Hid (PK w7 g P) := (HP.out.1.below HB7.out).pk
  have HO7 : Hid (OW w.heap.size w7 (.slice a7 (wirB [⟨m, D, hb0⟩]).length c7) (wirB [⟨m, D, hb0⟩])) := o7.mono (Nat.le_trans HB2.out.size bU.size)
  clear o7 b7 bU hg2 HWr HS2 HB2
  generalize hWB : wirB [⟨m, D, hb0⟩] = wB at *
  go_upto_region 12 with fail
  refine wp_region_held_drew (S := fun u => MB u w.heap.size m) (by kernel_rfl) (HS9.out.below (belowDrew _ 1)) (fun hHeld => ?_)
  refine wpAnyH_take (i := 0) (v := .pointer (some ⟨g, 0, none⟩)) rfl (by kernel_rfl) (by kernel_rfl) (by kernel_rfl) (fun _ _ _ h => h) (Or.inl ⟨by rfl, fun w hw => by go_simp⟩) hHeld ?_
  simp only [Act.put, List.getElem_toArray, List.getElem_cons_zero, List.setIfInBounds_toArray, List.set_cons_zero, List.set_cons_succ]
  refine wpAnyH_take (i := 1) (v := .pointer (some ⟨g, 0, none⟩)) rfl (by kernel_rfl) (by kernel_rfl) (by kernel_rfl) (fun _ _ _ h => h) (Or.inl ⟨by rfl, fun w hw => by go_simp⟩) hHeld ?_
  simp only [Act.put, List.getElem_toArray, List.getElem_cons_zero, List.getElem_cons_succ, List.setIfInBounds_toArray, List.set_cons_zero, List.set_cons_succ]
  refine wpAnyH_take (i := 2) (v := .pointer (some ⟨g, 25, none⟩)) rfl (by kernel_rfl) (by kernel_rfl) (by kernel_rfl) (fun _ _ _ h => h) (Or.inl ⟨by rfl, fun w hw => by go_simp⟩) hHeld ?_
  simp only [Act.put, List.getElem_toArray, List.getElem_cons_zero, List.getElem_cons_succ, List.setIfInBounds_toArray, List.set_cons_zero, List.set_cons_succ]
  refine wpAnyH_take (i := 3) (v := .pointer (some ⟨w.heap.size, 0, none⟩)) rfl (by kernel_rfl) (by kernel_rfl) (by kernel_rfl) (fun _ _ _ h => h) (Or.inl ⟨by rfl, fun w hw => by go_simp⟩) hHeld ?_
  simp only [Act.put, List.getElem_toArray, List.getElem_cons_zero, List.getElem_cons_succ, List.setIfInBounds_toArray, List.set_cons_zero, List.set_cons_succ]
  refine wpAnyH_take (i := 4) (v := .int .i64 m.k) rfl (by kernel_rfl) (by kernel_rfl) (by kernel_rfl) (fun _ _ _ h => h) (Or.inl ⟨by rfl, fun w hw => by have hq := hw.c0; go_simp⟩) hHeld ?_
  simp only [Act.put, List.getElem_toArray, List.getElem_cons_zero, List.getElem_cons_succ, List.setIfInBounds_toArray, List.set_cons_zero, List.set_cons_succ]
  refine wpAnyH_ready (rs := [5]) (by kernel_rfl) (by simp) ?_
  refine AllReadyH.cons (o := _) rfl (fun K hK => ?_) AllReadyH.nil
  go_simp
  refine (saysW w7.drew g P (HK7.out.keep rfl) m.k).mono ?_
  rintro e w9 ⟨rfl, k9, f9⟩
  have HF9 : Hid _ := And.intro k9 f9
  have hm9 : MB w9 w.heap.size m := (f9.block w.heap.size HS9.out.lt (by omega)).trans HS9.out
  clear k9 f9
  go_wp2_with fail
  refine hK.out _ _ hm9 (fun hHeld => ?_)
  clear hK K
  refine wpAnyH_done (by kernel_rfl) ?_ _
  clear hHeld
  have HEnd : Hid (OW w.heap.size w9 (.slice a7 wB.length c7) wB ∧ PK w9 g { P with wc := (sy m.k P.wc P.wi P.wb).1, wi := (sy m.k P.wc P.wi P.wb).2.1, wb := (sy m.k P.wc P.wi P.wb).2.2 } ∧ Fm.Fr (fun k => k ≠ g) w w9) := ⟨OW.frame HO7.out hgl (frT (Fm.Fr.of_below (belowDrew w7 1)) HF9.out.2), HF9.out.1, frT (Fm.Fr.of_below HB7.out) (frT (Fm.Fr.of_below (belowDrew w7 1)) HF9.out.2)⟩
  clear HF9 hm9
  go_wp2
  go_ret2
  have hE := HEnd.out
  clear HEnd
  first | (subst hWB; exact ⟨_, rfl, hE⟩) | exact ⟨_, rfl, hE⟩
set_option maxHeartbeats 2000000 in
set_option maxRecDepth 100000 in
/-- a message that is not valid, or may not be said -/
theorem sayNo (w : World) (g : Nat) (P : Pv) (L : List Int) (h : PL w g P L) (hw : P.why = 0) (hkt : KT w) (hmt : Bs.MT w) (m : Mv) (D hb0 : List UInt8) (hmm : MM w m D hb0) (hno : valE m ≠ 0 ∨ mayE L P m D = false) (hsh : sln m.h ≤ 140737488351232) (hsd : sln m.d ≤ 140737488351232) :
    Calls Tryz.prog 15 #[.pointer (some ⟨g, 0, none⟩), .agg m.cs] w fun e w' => e = .returned (.tuple #[.slice none 0 0, .int .i64 (if valE m = 0 then 175 else valE m)]) ∧ Below w.heap.size w w' := by
  have bA : Below w.heap.size w (w.alloc (.cells m.cs 47)) := (Below.refl _ _).alloc (Nat.le_refl _) _
  have HB := Lib.hid bA
  have hb : MB (w.alloc (.cells m.cs 47)) w.heap.size m := heapNew w (.cells m.cs 47)
  have HS0 := Lib.hid hb
  have hi := info_msg hmm.ok
  have HO : Hid (Calls Tryz.prog 37 #[.pointer (some ⟨g, 0, none⟩)] (w.alloc (.cells m.cs 47)) fun e w' => e = .returned (.int .i64 0) ∧ w' = w.alloc (.cells m.cs 47)) := by
    have h9 := openT (w.alloc (.cells m.cs 47)) g P (h.below bA).pk (by have := h.b0; omega)
    rw [if_pos hw] at h9
    exact h9
  have HV : Hid (∀ u, Below w.heap.size w u → Calls Tryz.prog 19 #[.agg m.cs] u fun e w' => e = .returned (.int .i64 (valE m)) ∧ Below u.heap.size u w') := fun u hu => validT u m hmm.ok (hkt.below hu hkt.pos) hsh hsd
  by_cases hv : valE m = 0
  · rw [if_pos hv]
    rw [hv] at HV
    have hp : mayE L P m D = false := hno.elim (fun h => absurd hv h) id
    have hbd := val_bd hv
    have HMy : Hid (∀ u, Below w.heap.size w u → Calls Tryz.prog 43 #[.pointer (some ⟨g, 0, none⟩), .agg m.cs] u fun e w' => e = .returned (.bool false) ∧ Below u.heap.size u w') := fun u hu => by
      have h9 := mayT u g P L (h.below hu) m hmm.ok D (hmm.d.keep hu) ⟨hbd.1, hbd.2.1, hbd.2.2.1, hbd.2.2.2, hmm.dl⟩ (hmt.keep hu)
      rw [hp] at h9
      exact h9
    clear h hkt hmt hmm hno hp hv bA hb hbd
    go_enter Tryz.func15, Tryz.ntmps15
    go_wp2_with fail
    refine HO.out.mono ?_
    rintro e w0 ⟨rfl, rfl⟩
    have hg0 := HS0.out
    go_wp2_with (first | (refine load_msg_if rfl _ rfl w.heap.size rfl m.cs hg0 hi ?_))
    refine (HV.out _ HB.out).mono ?_
    rintro e w1 ⟨rfl, b1⟩
    have HB1 := Lib.hid (HB.out.trans (b1.mono HB.out.size))
    have hg1 := HS0.out.below b1
    clear b1 hg0 HO HV
    go_wp2_with (first | (refine load_msg_if rfl _ rfl w.heap.size rfl m.cs hg1 hi ?_))
    refine (HMy.out _ HB1.out).mono ?_
    rintro e w2 ⟨rfl, b2⟩
    have HB2 := Lib.hid (HB1.out.trans (b2.mono HB1.out.size))
    clear b2 hg1 HMy
    go_wp2
    go_ret2
    exact ⟨rfl, HB2.out⟩
  · rw [if_neg hv]
    have hne : (valE m != 0) = true := by simp [hv]
    generalize valE m = ve at *
    clear h hkt hmt hmm hno hv bA hb
    go_enter Tryz.func15, Tryz.ntmps15
    go_wp2_with fail
    refine HO.out.mono ?_
    rintro e w0 ⟨rfl, rfl⟩
    have hg0 := HS0.out
    go_wp2_with (first | (refine load_msg_if rfl _ rfl w.heap.size rfl m.cs hg0 hi ?_))
    refine (HV.out _ HB.out).mono ?_
    rintro e w1 ⟨rfl, b1⟩
    have HB1 := Lib.hid (HB.out.trans (b1.mono HB.out.size))
    clear b1 hg0 HO HV
    go_wp2
    go_ret2
    exact ⟨rfl, HB1.out⟩
end Go.Proofs.YtnmeohacdbmplaaGreatDoor
namespace Go.Proofs.YtnmeohacdbmplaaGreatDoor
open Go.RowKit
theorem FP.sayQ {w w' : World} {g R : Nat} {P P' : Pv} {L : List Int} {H : List UInt8} {p s : Nat} {held : List UInt8} {hv : Value} (h : FP w g R P L H p s held hv) (fr : Fm.Fr (fun k => k ≠ g) w w') (hk : PK w' g P') (e1 : P'.st = P.st) (e2 : P'.why = P.why) (e3 : P'.b = P.b) (e4 : P'.ln = P.ln) (e5 : P'.hs = P.hs) : FP w' g R P' L H p s held hv := by
  have hgR := h.gR
  have hg1 := h.g1
  refine ⟨hk, e1.trans h.stp, e2.trans h.why, hgR, hg1, by rw [e3]; exact h.b0, by rw [e3]; exact h.b1, h.lok, ?_, by rw [e4]; exact h.lj, ?_, by rw [e5]; exact h.hj, h.hl, (fr.block R h.rk.lt (by omega)).trans h.rk, h.st, own_at h.ow (fun k hk _ => fr.block k (own_ge h.ow hk).2 (by have := (own_ge h.ow hk).1; omega)), h.nil, h.kt.fr fr hg1, MT.fr h.mt fr hg1⟩
  · rw [e4]
    exact own_at h.lo (fun k hk _ => fr.block k (own_ge h.lo hk).2 (h.lj k hk).1)
  · rw [e5]
    exact own_at h.ho (fun k hk _ => fr.block k (own_ge h.ho hk).2 (h.hj k hk).1)
/-- the answers of a connection that are kept -/
structure SD (w2 : World) (g : Nat) (v : Value) (n : Nat) (vs : List Value) (L : List (List UInt8)) (wr : World) : Prop where
  row : wr.ownsRow w2.heap.size 31 1 v n vs
  fl : FL w2.heap.size wr vs L
  len : L.length = n
  bd : ∀ j, (L.getD j []).length ≤ 1048576
  fr : Fm.Fr (fun k => k ≠ g) w2 wr
  gl : g < w2.heap.size
theorem SD.start {w2 : World} {g : Nat} (hg : g < w2.heap.size) : SD w2 g (.slice none 0 0) 0 [] [] w2 :=
  ⟨World.ownsRow_nil _ _ _ _, ⟨rfl, fun _ h => absurd h (Nat.not_lt_zero _), fun _ _ _ h => absurd h (Nat.not_lt_zero _)⟩, rfl, fun _ => by simp, Fm.Fr.refl _ _, hg⟩
theorem SD.next {w2 : World} {g : Nat} {v : Value} {n : Nat} {vs : List Value} {L : List (List UInt8)} {wr w' : World} (h : SD w2 g v n vs L wr) (f : Fm.Fr (fun k => k ≠ g) wr w') : SD w2 g v n vs L w' :=
  have hne : ∀ k, w2.heap.size ≤ k → k ≠ g := fun k hk e => by have := h.gl; omega
  ⟨rowFr h.row f (fun k hk => hne k (rowTag h.row hk).1), h.fl.fr f (fun k hk => hne k (h.fl.lt hk).1), h.len, h.bd, frT h.fr f, h.gl⟩
theorem getD_app_l {α : Type} (a b : List α) (d : α) (j : Nat) (h : j < a.length) : (a ++ b).getD j d = a.getD j d := by simp [List.getD, List.getElem?_append_left h]
theorem getD_app_r {α : Type} (a : List α) (x d : α) : (a ++ [x]).getD a.length d = x := by simp [List.getD]
/-- one more answer is kept -/
theorem append_sd {ops : Array Oper} {rest : List Oper} {o : Oper} {a : Act} {Q : Exit → Act → World → Prop} {w2 w0 w : World} {g n : Nat} {v xv : Value} {vs : List Value} {L : List (List UInt8)} {xl : List UInt8} (hgd : o.guard = none) (s x : Operand)
    (ho : o.op = .call { callee := .builtin .append, args := #[s, x], argTypes := #[74, 74] }) (hs : a.eval s = v) (h : SD w2 g v n vs L w0) (f : Fm.Fr (fun k => k ≠ g) w0 w) (hx : OW w0.heap.size w xv xl) (hxl : xl.length ≤ 1048576) (hn : n ≤ 100) (hxe : a.eval x = .slice (some ⟨w.heap.size, 0, none⟩) 1 1)
    (K : ∀ v' w6, SD w2 g v' (n + 1) (vs ++ [xv]) (L ++ [xl]) w6 → Below w2.heap.size w w6 → wpList Tryz.prog ops Q rest (a.put o.dst v') w6) : wpList Tryz.prog ops Q (o :: rest) a (w.alloc (.cells #[xv] 31)) := by
  obtain ⟨i1, hi1, hy0, hy1, hy2⟩ := info_parts info31
  have bA : Below w.heap.size w (w.alloc (.cells #[xv] 31)) := (Below.refl _ _).alloc (Nat.le_refl _) _
  have h1 := (h.next f).next (Fm.Fr.of_below bA)
  have hsz : w2.heap.size ≤ w.heap.size := Nat.le_trans h.fr.size f.size
  refine wpList_append_own _ hgd s x 74 ho w2.heap.size 31 i1 _ 1 24 Tryz.underlying74 hi1 hy0 hy1 hy2 rfl (by omega) v n vs hs h1.row ⟨w.heap.size, 0, none⟩ 1 1 [xv] hxe rfl (cell_one_new _ _ _) ?_ (by unfold maxLen; omega) (by omega) (Nat.le_trans hsz bA.size) (fun v' w6 s1 s2 _ => K v' w6 ?_ ?_)
  · obtain ⟨xa, xc, rfl⟩ := hx.form
    simp [Value.oneCell']
  · have fr5 : Fm.Fr (fun k => v.ownBlock ≠ some k) (w.alloc (.cells #[xv] 31)) w6 := ⟨s2.os, s2.tape, s2.output, s2.size, fun k hk hs => s2.block k hk (fun e => hs e.symm)⟩
    have ok : ∀ {B : Nat} {u : Value} {l : List UInt8}, OW B (w.alloc (.cells #[xv] 31)) u l → OW B w6 u l := fun ho => ho.frS fr5 (fun q hq hqe => by
      obtain ⟨_, _, cs', ht'⟩ := rowTag h1.row hqe
      obtain ⟨_, _, cs, ht⟩ := rowTag ho hq
      exact tag_ne ht ht' (by decide) rfl)
    have hvl : vs.length = n := by rw [h1.fl.len, h1.len]
    have hLl : L.length = n := h.len
    have hlast : (vs ++ [xv]).getD n nv = xv := by rw [← hvl]; exact getD_app_r _ _ _
    have hlastL : (L ++ [xl]).getD n [] = xl := by rw [← hLl]; exact getD_app_r _ _ _
    have hblk : ∀ k, xv.ownBlock = some k → ∀ j, j < n → (vs.getD j nv).ownBlock ≠ some k := fun k hk j hj e => by
      have := (rowTag hx hk).1
      have := (rowTag (h.fl.each j (by omega)) e).2.1
      omega
    refine ⟨s1, ⟨by simp [hvl, hLl], fun j hj => ?_, fun i j k hi hj hij hk => ?_⟩, by simp [hLl], fun j => ?_, ?_, h.gl⟩
    · rw [List.length_append, List.length_singleton, hLl] at hj
      by_cases hjn : j = n
      · subst hjn; rw [hlast, hlastL]; exact ok ((OW.mono hx h.fr.size).alloc _)
      · rw [getD_app_l _ _ _ _ (by omega), getD_app_l _ _ _ _ (by omega)]; exact ok (h1.fl.each j (by omega))
    · rw [List.length_append, List.length_singleton, hLl] at hi hj
      by_cases hin : i = n
      · subst hin
        rw [hlast] at hk
        rw [getD_app_l _ _ _ _ (by omega)]
        exact hblk k hk j (by omega)
      · rw [getD_app_l _ _ _ _ (by omega)] at hk
        by_cases hjn : j = n
        · subst hjn
          rw [hlast]
          exact fun e => hblk k e i (by omega) hk
        · rw [getD_app_l _ _ _ _ (by omega)]
          exact h1.fl.ap i j k (by omega) (by omega) hij hk
    · rcases Nat.lt_trichotomy j n with hj | hj | hj
      · rw [getD_app_l _ _ _ _ (by omega)]; exact h.bd j
      · subst hj; rw [hlastL]; exact hxl
      · simp [List.getD, List.getElem?_eq_none (show (L ++ [xl]).length ≤ j by simp [hLl]; omega)]
    · exact h1.fr.trans fr5 (fun k hk _ e => by have := (rowTag h1.row e).1; omega)
  · exact ⟨s2.os, s2.tape, s2.output, Nat.le_trans bA.size s2.size, fun k hk => (s2.block k (by have := bA.size; omega) (fun e => by have := (rowTag h1.row e.symm).1; omega)).trans (bA.block k (by omega))⟩
set_option maxHeartbeats 1000000 in
/-- the same bytes in memory of their own -/
theorem joinedQ (w : World) (v : Value) (l : List UInt8) (h : RB w v l) (hl : l.length ≤ 140737488351232) :
    Calls Tryz.prog 51 #[v] w fun e w' => ∃ v', e = .returned v' ∧ OW w.heap.size w' v' l ∧ Below w.heap.size w w' := by
  obtain ⟨a1, c1, rfl, _⟩ := id h
  have HO : Hid (OW w.heap.size w (.slice none 0 0) [] ∧ RB w (.slice a1 l.length c1) l ∧ ([] : List UInt8).length + l.length ≤ 140737488351232) := ⟨World.ownsRow_nil _ _ _ _, h, by simp; omega⟩
  clear h hl
  go_enter Tryz.func51, Tryz.ntmps51
  go_wp2_with (first | (at_builtin; refine append_bytes rfl _ _ rfl rfl HO.out.1 rfl HO.out.2.1 (Nat.le_refl _) HO.out.2.2 ?_; intro v3 w1 o1 b1; simp only [List.nil_append] at o1; obtain ⟨ca, cn, cc, rfl⟩ := o1.form3))
  have H2 : Hid (OW w.heap.size w1 (.slice ca cn cc) l ∧ Below w.heap.size w w1) := ⟨o1, b1⟩
  clear o1 b1
  go_wp2
  go_ret
  exact ⟨_, rfl, H2.out⟩
end Go.Proofs.YtnmeohacdbmplaaGreatDoor
namespace Go.Proofs.YtnmeohacdbmplaaGreatDoor
open Go.RowKit
theorem load_hash_if {ops : Array Oper} {rest : List Oper} {o : Oper} {a : Act} {w : World} {Q : Exit → Act → World → Prop} (hw : Region.wanted o (yielded ops a.tmps) = true) (x : Operand) (ho : o.op = .load 25 x)
    (g : Nat) (hx : a.eval x = .pointer (some ⟨g, 0, none⟩)) (r : List UInt8) (hg : w.heap[g]? = some (.cells (bc r) 25 (0, 0))) (hl : r.length = 32)
    (h : wpList Tryz.prog ops Q rest (a.put o.dst (.agg (bc r))) w) : wpList Tryz.prog ops Q (o :: rest) a w := by
  unfold wpList
  rw [if_pos hw]
  exact .inl (wp_load_row 25 x ho g hx 25 (bc r) (0, 0) _ hg Tryz.underlying25 rfl (by rw [bc_size, hl]; exact info_hash) h)
/-- a state in a variable -/
def SV (u : World) (q : Nat) (cs : Array Value) : Prop := u.heap[q]? = some (.cells cs 43 (0, 0))
theorem SV.cell {u : World} {q : Nat} {cs : Array Value} (h : SV u q cs) (j : Nat) : u.cell? ⟨q, j, none⟩ = cs[j]? := by
  unfold World.cell?
  unfold SV at h
  simp only [h]
  rfl
theorem SV.keep {u u' : World} {q : Nat} {cs : Array Value} (h : SV u q cs) (hb : Below u.heap.size u u') : SV u' q cs := (hb.block q (Array.getElem?_eq_some_iff.1 h).1).trans h
theorem three (w : World) (A B C : Obj) : (((w.alloc A).alloc B).alloc C).heap[w.heap.size]? = some A ∧ (((w.alloc A).alloc B).alloc C).heap[w.heap.size + 1]? = some B ∧ (((w.alloc A).alloc B).alloc C).heap[w.heap.size + 1 + 1]? = some C ∧ (((w.alloc A).alloc B).alloc C).heap.size = w.heap.size + 3 := by
  have z1 : (w.alloc A).heap.size = w.heap.size + 1 := by simp
  have z2 : ((w.alloc A).alloc B).heap.size = w.heap.size + 1 + 1 := by simp
  have bB : Below (w.alloc A).heap.size (w.alloc A) ((w.alloc A).alloc B) := (Below.refl _ _).alloc (Nat.le_refl _) _
  have bC : Below ((w.alloc A).alloc B).heap.size ((w.alloc A).alloc B) (((w.alloc A).alloc B).alloc C) := (Below.refl _ _).alloc (Nat.le_refl _) _
  refine ⟨(bC.block _ (by omega)).trans ((bB.block _ (by omega)).trans (heapNew w A)), (bC.block _ (by omega)).trans ?_, ?_, by simp⟩
  · rw [← z1]; exact heapNew _ B
  · rw [← z2]; exact heapNew _ C
end Go.Proofs.YtnmeohacdbmplaaGreatDoor
namespace Go.Proofs.YtnmeohacdbmplaaGreatDoor
open Go.RowKit
def mH (z : Int) : Mv := { zm with k := 4, i := z }
theorem mmH (w : World) (z : Int) : MM w (mH z) [] [] := ⟨⟨zr_len 32, ⟨_, _, _, rfl⟩, ⟨_, _, _, rfl⟩⟩, OW.rb (B := 0) (World.ownsRow_nil _ _ _ _), ⟨none, 0, 0, rfl, rfl, Nat.le_refl _, .inl rfl⟩, by simp, by simp⟩
theorem csH (z : Int) : (mH z).cs = #[.int .i64 4, .int .i64 z, .int .i64 0, .int .i64 0, .slice none 0 0, .int .u8 0, .int .u8 0, .int .u8 0, .int .u8 0, .int .u8 0, .int .u8 0, .int .u8 0, .int .u8 0, .int .u8 0, .int .u8 0, .int .u8 0, .int .u8 0, .int .u8 0, .int .u8 0, .int .u8 0, .int .u8 0, .int .u8 0, .int .u8 0, .int .u8 0, .int .u8 0, .int .u8 0, .int .u8 0, .int .u8 0, .int .u8 0, .int .u8 0, .int .u8 0, .int .u8 0, .int .u8 0, .int .u8 0, .int .u8 0, .int .u8 0, .int .u8 0, .int .i64 0, .int .i64 0, .slice none 0 0] := by rfl
def meX (x : UInt8) : List UInt8 := [x] ++ zr 19
theorem bcX (x : UInt8) : bc (meX x) = #[.int .u8 (x.toNat : Int), .int .u8 0, .int .u8 0, .int .u8 0, .int .u8 0, .int .u8 0, .int .u8 0, .int .u8 0, .int .u8 0, .int .u8 0, .int .u8 0, .int .u8 0, .int .u8 0, .int .u8 0, .int .u8 0, .int .u8 0, .int .u8 0, .int .u8 0, .int .u8 0, .int .u8 0] := by rfl
theorem meX_len (x : UInt8) : (meX x).length = 20 := by simp [meX, zr_len]
/-- Say of a have, of a piece or of none -/
theorem sayH (w : World) (g R : Nat) (P : Pv) (L : List Int) (H : List UInt8) (h : FP w g R P L H 2 0 [] (.slice none 0 0)) (z : Int) (hz : z = 0 ∨ z = 1) :
    Calls Tryz.prog 15 #[.pointer (some ⟨g, 0, none⟩), .agg (mH z).cs] w fun e w' => ∃ v er x bb, e = .returned (.tuple #[v, .int .i64 er]) ∧ OW w.heap.size w' v x ∧ x.length ≤ 9 ∧ PK w' g { P with wb := bb } ∧ Fm.Fr (fun k => k ≠ g) w w' := by
  have hv : valE (mH z) = 0 := by rcases hz with rfl | rfl <;> decide
  have hw : (wirB [⟨mH z, [], []⟩]).length = 9 := by rcases hz with rfl | rfl <;> decide
  cases hp : pce L z with
  | true =>
    refine (sayHave w g P L h.pl h.why h.kt (mH z) [] [] (mmH w z) rfl hp hv (Nat.zero_le _) (Nat.zero_le _)).mono ?_
    rintro e w' ⟨v, rfl, o, k, f⟩
    exact ⟨v, 0, _, true, rfl, o, by omega, k, f⟩
  | false =>
    refine (sayNo w g P L h.pl h.why h.kt h.mt (mH z) [] [] (mmH w z) (.inr ?_) (Nat.zero_le _) (Nat.zero_le _)).mono ?_
    · show mayE L P (mH z) [] = false
      unfold mayE
      have e5 : ¬ (mH z).k = 5 := by show ¬ ((4 : Int) = 5); decide
      have e4 : (mH z).k = 4 := rfl
      rw [if_neg e5, if_pos e4]
      exact hp
    · rintro e w' ⟨rfl, b⟩
      exact ⟨_, _, [], P.wb, rfl, World.ownsRow_nil _ _ _ _, by simp, h.pk.keep (b.block g h.pk.lt), Fm.Fr.of_below b⟩
/-- what stands between the calls -/
structure SX (w2 : World) (g R : Nat) (P : Pv) (L : List Int) (H : List UInt8) (v : Value) (n : Nat) (wr : World) : Prop where
  fp : ∃ bb, FP wr g R { P with wb := bb } L H 2 0 [] (.slice none 0 0)
  sd : ∃ vs Ls, SD w2 g v n vs Ls wr ∧ (0 < n → Ls.getD 0 [] = Fm.sgn ++ (fl8 ++ P.info ++ meX 1)) ∧ (6 < n → Ls.getD 6 [] = H)
theorem SX.form {w2 : World} {g R : Nat} {P : Pv} {L : List Int} {H : List UInt8} {v : Value} {n : Nat} {wr : World} (h : SX w2 g R P L H v n wr) : ∃ a c, v = .slice a n c := by
  obtain ⟨vs, Ls, h1, _⟩ := h.sd
  exact rowForm h1.row
theorem append_sx {ops : Array Oper} {rest : List Oper} {o : Oper} {a : Act} {Q : Exit → Act → World → Prop} {w2 w0 w : World} {g R n : Nat} {P : Pv} {L : List Int} {H : List UInt8} {v xv : Value} {xl : List UInt8} (hgd : o.guard = none) (s x : Operand)
    (ho : o.op = .call { callee := .builtin .append, args := #[s, x], argTypes := #[74, 74] }) (hs : a.eval s = v) (f2 : FP w2 g R P L H 2 0 [] (.slice none 0 0)) (h : SX w2 g R P L H v n w0) (f : Fm.Fr (fun k => k ≠ g) w0 w) (bb : Bool) (hk : PK w g { P with wb := bb }) (hx : OW w0.heap.size w xv xl) (hxl : xl.length ≤ 1048576) (hn : n ≤ 100) (h0 : n = 0 → xl = Fm.sgn ++ (fl8 ++ P.info ++ meX 1)) (h6 : n = 6 → xl = H) (hxe : a.eval x = .slice (some ⟨w.heap.size, 0, none⟩) 1 1)
    (K : ∀ v' w6, SX w2 g R P L H v' (n + 1) w6 → wpList Tryz.prog ops Q rest (a.put o.dst v') w6) : wpList Tryz.prog ops Q (o :: rest) a (w.alloc (.cells #[xv] 31)) := by
  obtain ⟨vs, Ls, h1, q0, q6⟩ := h.sd
  refine append_sd hgd s x ho hs h1 f hx hxl hn hxe (fun v' w6 k1 k2 => K v' w6 ⟨⟨bb, ?_⟩, _, _, k1, fun _ => ?_, fun h7 => ?_⟩)
  · exact f2.sayQ k1.fr (hk.keep (k2.block g h1.gl)) rfl rfl rfl rfl rfl
  · by_cases hn0 : n = 0
    · subst hn0
      have : Ls = [] := List.length_eq_zero_iff.1 h1.len
      subst this
      exact h0 rfl
    · rw [getD_app_l _ _ _ _ (by rw [h1.len]; omega)]
      exact q0 (by omega)
  · by_cases hn6 : n = 6
    · have e : Ls.length = 6 := by rw [h1.len, hn6]
      have := getD_app_r Ls xl []
      rw [e] at this
      rw [this]
      exact h6 hn6
    · rw [getD_app_l _ _ _ _ (by rw [h1.len]; omega)]
      exact q6 (by omega)
theorem twoQ (w : World) (A B : Obj) : ((w.alloc A).alloc B).heap[w.heap.size]? = some A ∧ ((w.alloc A).alloc B).heap[w.heap.size + 1]? = some B ∧ ((w.alloc A).alloc B).heap.size = w.heap.size + 2 := by
  have z1 : (w.alloc A).heap.size = w.heap.size + 1 := by simp
  have bB : Below (w.alloc A).heap.size (w.alloc A) ((w.alloc A).alloc B) := (Below.refl _ _).alloc (Nat.le_refl _) _
  refine ⟨(bB.block _ (by omega)).trans (heapNew w A), ?_, by simp⟩
  rw [← z1]; exact heapNew _ B
set_option maxHeartbeats 4000000 in
set_option maxRecDepth 100000 in
theorem saidT (w : World) (hkt : KT w) (hmt : Bs.MT w) (b v : Int) (hb0 : List UInt8) (h320 : hb0.length = 32) (lv : Value) (L : List Int) (hl : L.length * 8 ≤ 140737488351232) (hr : Bs.RZ w lv L) :
    Calls Tryz.prog 29 #[Bs.sc b v, .agg (bc hb0), lv] w fun e w' => e = .returned (.bool true) ∧ Below w.heap.size w w' := by
  have HC0 := Lib.hid (And.intro hkt (And.intro hmt hr))
  clear hkt hmt hr
  go_enter Tryz.func29, Tryz.ntmps29
  go_upto_region 1 with fail
  obtain ⟨u0, hu0⟩ : ∃ x, x = (w.alloc (Obj.cells #[Value.int IntKind.i64 b, Value.int IntKind.i64 v] 23)).alloc (Obj.cells (bc hb0) 25) := ⟨_, rfl⟩
  have B0 : Hid (Below w.heap.size w u0) := by
    rw [hu0]
    exact ((Below.refl _ _).alloc (Nat.le_refl _) _).alloc (by simp) _
  rw [← hu0]
  have hs0 : u0.heap[w.heap.size]? = some (.cells #[.int .i64 b, .int .i64 v] 23) ∧ u0.heap[w.heap.size + 1]? = some (.cells (bc hb0) 25) ∧ u0.heap.size = w.heap.size + 2 := by
    rw [hu0]
    exact twoQ w _ _
  have hN := newP b v hb0 h320 lv L u0 hl (HC0.out.2.2.keep B0.out) (HC0.out.1.below B0.out HC0.out.1.pos) (HC0.out.2.1.keep B0.out)
  have HN := Lib.hid hN
  have hsc := hs0.1
  have hsh := hs0.2.1
  have hsz := Lib.hid hs0.2.2
  have c0 : u0.cell? ⟨w.heap.size, 0, none⟩ = some (.int .i64 b) := by unfold World.cell?; simp only [hsc]; rfl
  have c1 : u0.cell? ⟨w.heap.size, 1, none⟩ = some (.int .i64 v) := by unfold World.cell?; simp only [hsc]; rfl
  clear hN hs0 hu0 hsc
  go_wp2_with (first | (refine load_hash_if rfl _ rfl (w.heap.size + 1) rfl hb0 hsh h320 ?_))
  refine HN.out.mono ?_
  rintro e w2 ⟨p, rfl, hpp, b2, hnew⟩
  have B2 : Hid (Below w.heap.size w w2) := B0.out.trans (b2.mono B0.out.size)
  by_cases hE : nwE b v L = 0
  · obtain ⟨g, R, P, rfl, hg, hf, hi, hpb, hsh0, -⟩ := hnew hE
    rw [hE]
    have HF := Lib.hid hf
    have HG : Hid (u0.heap.size ≤ g ∧ w.heap.size ≤ u0.heap.size ∧ g < w2.heap.size) := ⟨hg, B0.out.size, hf.pk.lt⟩
    generalize hHH : List.replicate ((L.length + 7) / 8) (0 : UInt8) = HH at *
    have hHl : HH.length ≤ 1048576 := by
      rw [← hHH, List.length_replicate]
      have := HF.out.lok.1
      omega
    clear hHH hf hg hpb hi hsh0 hpp hnew hE hsh c0 c1 HN b2
    have HX0 : Hid (SX w2 g R P L HH (.slice none 0 0) 0 w2) := ⟨⟨P.wb, HF.out⟩, [], [], SD.start HG.out.2.2, (fun h => absurd h (Nat.lt_irrefl _)), (fun h => absurd h (by omega))⟩
    go_wp2_with (first | (go_at_call 11; refine (numLT _ _).mono ?_; rintro e w9 ⟨rfl, rfl⟩))
    go_loopw [9, 10] (fun av t wr => ∃ (i : Nat) (aa : Option Addr) (ac : Nat), i ≤ 3 ∧ t = .int .i64 i ∧ av = .slice aa i ac ∧ Hid (SX w2 g R P L HH (.slice aa i ac) i wr)) (fun _ t _ => 3 - (intOf t).toNat)
    case atStart => exact ⟨0, none, 0, by omega, rfl, rfl, HX0⟩
    case round =>
      clear HX0
      obtain ⟨i, aa, ac, hi, rfl, rfl, HX⟩ := hrel
      obtain ⟨w3, hw3⟩ : ∃ x, x = wr := ⟨_, rfl⟩
      subst hw3
      by_cases hlt : i < 3
      · as_aux_lemma =>
        obtain ⟨bb, fp⟩ := HX.out.fp
        have hi2 : (i = 0 ∨ i = 1) ∨ i = 2 := by omega
        obtain ⟨x, hx, hxi, hxt⟩ : ∃ x : UInt8, ((x.toNat : Int) = 1 + (i : Int) / 2) ∧ (i = 0 → x = 1) ∧ x.toNat ≤ 2 := by
          rcases hi2 with (rfl | rfl) | rfl
          · exact ⟨1, by decide, fun _ => rfl, by decide⟩
          · exact ⟨1, by decide, fun _ => rfl, by decide⟩
          · exact ⟨2, by decide, (fun h => by omega), by decide⟩
        have hG := greetP w3 g { P with wb := bb } fp.pk (by have := fp.b0; show 0 < P.b; exact Int.lt_of_lt_of_le (by decide) this) (meX x) (meX_len x)
        rw [bcX, hx] at hG
        have HGr := Lib.hid hG
        have HFP := Lib.hid fp
        have HXI := Lib.hid hxi
        clear hG fp hi2 hx hxi
        go_wp2_with fail
        refine HGr.out.mono ?_
        rintro e w4 ⟨v4, rfl, o4, b4⟩
        have HO4 : Hid (OW w3.heap.size w4 v4 (Fm.sgn ++ (fl8 ++ P.info ++ meX x))) := o4
        have HB4 := Lib.hid b4
        have HK4 : Hid (PK w4 g { P with wb := bb }) := HFP.out.pk.keep (b4.block g HFP.out.pk.lt)
        have HL4 : Hid ((Fm.sgn ++ (fl8 ++ P.info ++ meX x)).length ≤ 1048576) := by
          have : P.info.length = 20 := HFP.out.pk.1
          show _ ≤ _
          simp [Fm.sgn, fl8, this, meX_len]
        obtain ⟨a4, n4, c4, rfl⟩ := o4.form3
        clear o4 b4 HGr
        go_wp2_with (at_builtin; refine append_sx rfl _ _ rfl rfl HF.out HX.out (Fm.Fr.of_below HB4.out) bb HK4.out HO4.out HL4.out (by omega) (fun h => by rw [HXI.out h]) (fun h => by omega) rfl ?_; intro v6 w6 sx; have HX6 := Lib.hid sx; obtain ⟨a6, c6, rfl⟩ := sx.form; clear sx)
        exact ⟨⟨i + 1, a6, c6, by omega, by go_num, rfl, HX6⟩, by simp [intOf]; omega⟩
      · have HI3 : Hid (i = 3) := (by omega : i = 3)
        obtain ⟨i3, hi3⟩ : ∃ x, x = i := ⟨_, rfl⟩
        subst hi3
        have HX0 : Hid (SX w2 g R P L HH (.slice aa i3 ac) i3 w3) := HX
        clear HX
        go_wp2
        clear hlt hi
        go_loopw [9, 12] (fun av t wr => ∃ (i n : Nat) (aa : Option Addr) (ac : Nat), i ≤ 3 ∧ Hid (n = 3 + i) ∧ t = .int .i64 i ∧ av = .slice aa n ac ∧ Hid (SX w2 g R P L HH (.slice aa n ac) n wr)) (fun _ t _ => 3 - (intOf t).toNat)
        case atStart => exact ⟨0, i3, aa, ac, by omega, HI3.out, rfl, rfl, HX0⟩
        case round =>
          clear HX0
          obtain ⟨i, n, aa, ac, hi, HNI, rfl, rfl, HX⟩ := hrel
          obtain ⟨w3, hw3⟩ : ∃ x, x = wr := ⟨_, rfl⟩
          subst hw3
          by_cases hlt : i < 3
          · as_aux_lemma =>
            obtain ⟨bb, fp⟩ := HX.out.fp
            have HS := sayH w3 g R { P with wb := bb } L HH fp ((i : Int) / 2) (by omega)
            rw [csH] at HS
            have HSy := Lib.hid HS
            clear HS fp
            go_wp2_with fail
            refine HSy.out.mono ?_
            rintro e w4 ⟨v4, er, x4, b9, rfl, o4, l4, k4, f4⟩
            rw [← csH]
            generalize (mH ((i : Int) / 2)).cs = agc
            have HO4 := Lib.hid o4
            have HB4 := Lib.hid f4
            have HK4 : Hid (PK w4 g { P with wb := b9 }) := k4
            have HL4 : Hid (x4.length ≤ 1048576) := Nat.le_trans l4 (by decide)
            obtain ⟨a4, n4, c4, rfl⟩ := o4.form3
            clear o4 l4 k4 f4 HSy
            go_wp2_with (at_builtin; refine append_sx rfl _ _ rfl rfl HF.out HX.out HB4.out b9 HK4.out HO4.out HL4.out (by have := HNI.out; omega) (fun h => by have := HNI.out; omega) (fun h => by have := HNI.out; omega) rfl ?_; intro v6 w6 sx; have HX6 := Lib.hid sx; obtain ⟨a6, c6, rfl⟩ := sx.form; clear sx)
            exact ⟨⟨i + 1, n + 1, a6, c6, by omega, by have := HNI.out; show _ = _; omega, by go_num, rfl, HX6⟩, by simp [intOf]; omega⟩
          · have HI6 : Hid (n = 6 + 0) := by have := HNI.out; show _ = _; omega
            obtain ⟨i4, hi4⟩ : ∃ x, x = i := ⟨_, rfl⟩
            subst hi4
            obtain ⟨n6, hn6⟩ : ∃ x, x = n := ⟨_, rfl⟩
            subst hn6
            have HX0 : Hid (SX w2 g R P L HH (.slice aa n6 ac) n6 w3) := HX
            clear HX HNI
            go_wp2
            clear hlt hi
            go_loopw [9, 15] (fun av t wr => ∃ (i n : Nat) (aa : Option Addr) (ac : Nat), i ≤ 3 ∧ Hid (n = 6 + i) ∧ t = .int .i64 i ∧ av = .slice aa n ac ∧ Hid (SX w2 g R P L HH (.slice aa n ac) n wr)) (fun _ t _ => 3 - (intOf t).toNat)
            case atStart => exact ⟨0, n6, aa, ac, by omega, HI6.out, rfl, rfl, HX0⟩
            case round =>
              clear HX0
              obtain ⟨i, n, aa, ac, hi, HNI, rfl, rfl, HX⟩ := hrel
              obtain ⟨w3, hw3⟩ : ∃ x, x = wr := ⟨_, rfl⟩
              subst hw3
              by_cases hlt : i < 3
              · as_aux_lemma =>
                obtain ⟨bb, fp⟩ := HX.out.fp
                have HSt := Lib.hid (stateT w3 g { P with wb := bb } fp.pk (by have := fp.b0; show 0 < P.b; exact Int.lt_of_lt_of_le (by decide) this) HH fp.ho.rb fp.hl)
                have HFP := Lib.hid fp
                clear fp
                go_wp2_with fail
                refine HSt.out.mono ?_
                rintro e w4 ⟨v4, rfl, o4, b4⟩
                obtain ⟨a4, n4, c4, rfl⟩ := o4.form3
                have bA : Below w4.heap.size w4 (w4.alloc (.cells #[.bool P.sh, .bool (P.why != 0), .int .i64 P.why, .bool P.wc, .bool P.wi, .bool P.ic, .bool P.ii, .slice a4 n4 c4] 43)) := (Below.refl _ _).alloc (Nat.le_refl _) _
                have HO4 : Hid (OW w3.heap.size (w4.alloc (.cells #[.bool P.sh, .bool (P.why != 0), .int .i64 P.why, .bool P.wc, .bool P.wi, .bool P.ic, .bool P.ii, .slice a4 n4 c4] 43)) (.slice a4 n4 c4) HH) := o4.grow bA
                have HB4 : Hid (Below w3.heap.size w3 (w4.alloc (.cells #[.bool P.sh, .bool (P.why != 0), .int .i64 P.why, .bool P.wc, .bool P.wi, .bool P.ic, .bool P.ii, .slice a4 n4 c4] 43))) := b4.trans (bA.mono b4.size)
                have HK4 : Hid (PK (w4.alloc (.cells #[.bool P.sh, .bool (P.why != 0), .int .i64 P.why, .bool P.wc, .bool P.wi, .bool P.ic, .bool P.ii, .slice a4 n4 c4] 43)) g { P with wb := bb }) := HFP.out.pk.keep (HB4.out.block g HFP.out.pk.lt)
                have HZ4 : Hid ((w4.alloc (.cells #[.bool P.sh, .bool (P.why != 0), .int .i64 P.why, .bool P.wc, .bool P.wi, .bool P.ic, .bool P.ii, .slice a4 n4 c4] 43)).heap.size = w4.heap.size + 1) := (by simp : _ = _)
                clear o4 b4 bA HSt
                go_wp2_with (at_builtin; refine append_sx rfl _ _ rfl rfl HF.out HX.out (Fm.Fr.of_below HB4.out) bb HK4.out HO4.out hHl (by have := HNI.out; omega) (fun h => by have := HNI.out; omega) (fun h => rfl) (by rw [HZ4.out]; rfl) ?_; intro v6 w6 sx; have HX6 := Lib.hid sx; obtain ⟨a6, c6, rfl⟩ := sx.form; clear sx)
                exact ⟨⟨i + 1, n + 1, a6, c6, by omega, by have := HNI.out; show _ = _; omega, by go_num, rfl, HX6⟩, by simp [intOf]; omega⟩
              · have HI9 : Hid (n = 9) := by have := HNI.out; show _ = _; omega
                obtain ⟨i5, hi5⟩ : ∃ x, x = i := ⟨_, rfl⟩
                subst hi5
                obtain ⟨vs, Ls, sd, q0, q6⟩ := HX.out.sd
                have hn9 : n = 9 := HI9.out
                obtain ⟨g9, hg9, c90, _⟩ := rowCell sd.row 0 (by omega)
                obtain ⟨g9', hg9', c96, _⟩ := rowCell sd.row 6 (by omega)
                subst hg9
                simp only [Option.some.injEq, Addr.mk.injEq, and_true] at hg9'
                subst hg9'
                have o0 := sd.fl.each 0 (by rw [sd.len]; omega)
                have o6 := sd.fl.each 6 (by rw [sd.len]; omega)
                rw [q0 (by omega)] at o0
                rw [q6 (by omega)] at o6
                obtain ⟨a0, n0, c0, e0⟩ := o0.form3
                obtain ⟨a6, n6', c6, e6⟩ := o6.form3
                rw [e0] at c90 o0
                rw [e6] at c96 o6
                have hGl : (Fm.sgn ++ (fl8 ++ P.info ++ meX 1)).length ≤ 1048576 := by
                  have : P.info.length = 20 := HF.out.pk.1
                  simp [Fm.sgn, fl8, this, meX_len]
                have HJ0 := Lib.hid (joinedQ w3 (.slice a0 n0 c0) _ o0.rb (by omega))
                have HSD := Lib.hid sd
                have HR6 := Lib.hid o6.rb
                have HGL := Lib.hid hGl
                have hn0 : 0 < n := by omega
                have hn6 : 6 < n := by omega
                clear sd q0 q6 o0 o6 e0 e6 hn9 hi hGl
                go_wp2_with fail
                refine HJ0.out.mono ?_
                rintro e w4 ⟨v4, rfl, o4, b4⟩
                obtain ⟨ya, yn, yc, rfl⟩ := o4.form3
                have HJ6 := Lib.hid (joinedQ w4 (.slice a6 n6' c6) _ (HR6.out.keep b4) (by omega))
                have c96' : w4.cell? ⟨g9, 6, none⟩ = some (.slice a6 n6' c6) := ((b4.cell (p := ⟨g9, 6, none⟩) (World.block_lt_of_cell? w3 _ c96)).trans c96)
                have HR4 : Hid (OW w3.heap.size w4 (.slice ya yn yc) (Fm.sgn ++ (fl8 ++ P.info ++ meX 1)) ∧ Below w3.heap.size w3 w4) := ⟨o4, b4⟩
                clear c90 c96 o4 b4 HJ0
                go_wp2_with fail
                refine HJ6.out.mono ?_
                rintro e w5 ⟨v5, rfl, o5, b5⟩
                obtain ⟨za, zn, zc, rfl⟩ := o5.form3
                have HR5 : Hid (Below w3.heap.size w3 w5 ∧ OW w3.heap.size w5 (.slice ya yn yc) (Fm.sgn ++ (fl8 ++ P.info ++ meX 1)) ∧ OW w3.heap.size w5 (.slice za zn zc) HH) := ⟨HR4.out.2.trans (b5.mono HR4.out.2.size), HR4.out.1.grow b5, o5.mono HR4.out.2.size⟩
                have HS5 : Hid (SD w2 g (.slice (some ⟨g9, 0, none⟩) n ac) n vs Ls w5) := HSD.out.next (Fm.Fr.of_below HR5.out.1)
                have HAp := Lib.hid (apartT (.slice (some ⟨g9, 0, none⟩) n ac) w2.heap.size vs Ls w5 (by rw [HS5.out.len]; exact HS5.out.row) HS5.out.fl HS5.out.fr.size (by rw [HS5.out.len, HI9.out]; decide) HS5.out.bd)
                clear c96' o5 b5 HJ6 HR4
                go_wp2_with fail
                refine HAp.out.mono ?_
                rintro e w6 ⟨rfl, f6⟩
                obtain ⟨bb, fp⟩ := HX.out.fp
                have hlo : ∀ k, k < w2.heap.size → ¬ bks vs k := fun k hk hb => by have := (HS5.out.fl.lt hb).1; omega
                have hlo3 : ∀ k, w3.heap.size ≤ k → ¬ bks vs k := fun k hk hb => by have := (HSD.out.fl.lt hb).2.1; omega
                have HR6' : Hid (OW w3.heap.size w6 (.slice ya yn yc) (Fm.sgn ++ (fl8 ++ P.info ++ meX 1)) ∧ OW w3.heap.size w6 (.slice za zn zc) HH) := ⟨HR5.out.2.1.frS f6 (fun k hk => hlo3 k (rowTag HR5.out.2.1 hk).1), HR5.out.2.2.frS f6 (fun k hk => hlo3 k (rowTag HR5.out.2.2 hk).1)⟩
                have f26 : Fm.Fr (fun k => k ≠ g) w2 w6 := HS5.out.fr.trans f6 (fun k hk _ => hlo k hk)
                have HF6 : Hid (FP w6 g R { P with wb := bb } L HH 2 0 [] (.slice none 0 0)) := HF.out.sayQ f26 (fp.pk.keep ((f6.block g (by have := HG.out.2.2; have := HS5.out.fr.size; omega) (hlo g HG.out.2.2)).trans (HR5.out.1.block g (by have := HG.out.2.2; have := HSD.out.fr.size; omega)))) rfl rfl rfl rfl rfl
                have HB6 : Hid (Below w.heap.size w w6) := by
                  have h1 := HG.out
                  exact below_fr B2.out f26 B2.out.size (fun k hk => by omega)
                have HSt := Lib.hid (stateT w6 g { P with wb := bb } HF6.out.pk (by have := HF6.out.b0; show 0 < P.b; exact Int.lt_of_lt_of_le (by decide) this) HH HF6.out.ho.rb HF6.out.hl)
                clear f6 fp hlo hlo3 f26 HAp HS5 HSD HR5 HX
                go_wp2_with fail
                refine HSt.out.mono ?_
                rintro e w7 ⟨v7, rfl, o7, b7⟩
                obtain ⟨xa, xn, xc, rfl⟩ := o7.form3
                have bA : Below w7.heap.size w7 (w7.alloc (.cells #[.bool P.sh, .bool (P.why != 0), .int .i64 P.why, .bool P.wc, .bool P.wi, .bool P.ic, .bool P.ii, .slice xa xn xc] 43)) := (Below.refl _ _).alloc (Nat.le_refl _) _
                obtain ⟨w8, hw8⟩ : ∃ x, x = w7.alloc (.cells #[.bool P.sh, .bool (P.why != 0), .int .i64 P.why, .bool P.wc, .bool P.wi, .bool P.ic, .bool P.ii, .slice xa xn xc] 43) := ⟨_, rfl⟩
                rw [← hw8] at bA
                have hB68 : Below w6.heap.size w6 w8 := b7.trans (bA.mono b7.size)
                have hSV : SV w8 w7.heap.size #[.bool P.sh, .bool (P.why != 0), .int .i64 P.why, .bool P.wc, .bool P.wi, .bool P.ic, .bool P.ii, .slice xa xn xc] := by rw [hw8]; exact heapNew _ _
                have HG8 := greetP w8 g { P with wb := bb } (HF6.out.below hB68).pk (by have := HF6.out.b0; show 0 < P.b; exact Int.lt_of_lt_of_le (by decide) this) (meX 1) (meX_len 1)
                rw [bcX, show (((1 : UInt8).toNat : Nat) : Int) = 1 from rfl] at HG8
                have HGr := Lib.hid HG8
                have HR8 : Hid (OW w3.heap.size w8 (.slice ya yn yc) (Fm.sgn ++ (fl8 ++ P.info ++ meX 1)) ∧ OW w3.heap.size w8 (.slice za zn zc) HH ∧ OW w6.heap.size w8 (.slice xa xn xc) HH ∧ Below w.heap.size w w8 ∧ SV w8 w7.heap.size #[.bool P.sh, .bool (P.why != 0), .int .i64 P.why, .bool P.wc, .bool P.wi, .bool P.ic, .bool P.ii, .slice xa xn xc]) := ⟨HR6'.out.1.grow hB68, HR6'.out.2.grow hB68, o7.grow bA, HB6.out.trans (hB68.mono HB6.out.size), hSV⟩
                have HW8 := Lib.hid hw8
                clear o7 b7 bA hw8 hB68 hSV HG8 HSt HR6'
                go_upto_region 24 with fail
                rw [← HW8.out]
                go_wp2_with fail
                refine HGr.out.mono ?_
                rintro e w9 ⟨v9, rfl, o9, b9⟩
                obtain ⟨ta, tn, tc, rfl⟩ := o9.form3
                have HS1 := Lib.hid (same _ _ _ w9 (by have := HGL.out; exact Nat.le_trans this (by decide)) o9.rb (HR8.out.1.grow b9).rb)
                have HS2 : Hid (∀ nn, Calls Tryz.prog 23 #[.slice xa xn xc, .slice za zn zc] (w9.drewN nn) fun e w' => e = .returned (.bool true) ∧ ∃ m, w' = (w9.drewN nn).drewN m) := fun nn => same _ _ _ _ (Nat.le_trans hHl (by decide)) (((HR8.out.2.2.1.grow b9).grow (belowDrew _ nn)).rb) (((HR8.out.2.1.grow b9).grow (belowDrew _ nn)).rb)
                have hSV9 := HR8.out.2.2.2.2.keep b9
                have q7 : ∀ nn, (w9.drewN nn).cell? ⟨w7.heap.size, 7, none⟩ = some (.slice xa xn xc) := fun nn => (hSV9.keep (belowDrew _ nn)).cell 7
                have HBE : Hid (∀ nn, Below w.heap.size w (w9.drewN nn)) := fun nn => (HR8.out.2.2.2.1.trans (b9.mono HR8.out.2.2.2.1.size)).trans ((belowDrew _ nn).mono (Nat.le_trans HR8.out.2.2.2.1.size b9.size))
                clear o9 b9 hSV9 HGr HR8 HW8
                go_wp2_with fail
                refine HS1.out.mono ?_
                rintro e w10 ⟨rfl, nq, rfl⟩
                have q8 := q7 nq
                go_wp2_with fail
                refine (HS2.out nq).mono ?_
                rintro e w11 ⟨rfl, nq2, rfl⟩
                have HBF := Lib.hid (HBE.out (nq + nq2))
                rw [World.drewN_drewN]
                clear q7 q8 HBE HS1 HS2
                go_wp2
                go_ret
                exact ⟨rfl, HBF.out⟩
  · have hp := hpp.2 hE
    subst hp
    have q1 : (nwE b v L != 0) = true := by simp [hE]
    have HB2 := B2
    clear hpp hnew hE hsh c0 c1 HN HC0
    go_wp2_with (first | (go_at_call 11; refine (numLT _ _).mono ?_; rintro e w9 ⟨rfl, rfl⟩))
    go_wp2
    go_ret
    exact ⟨rfl, HB2.out⟩
end Go.Proofs.YtnmeohacdbmplaaGreatDoor
