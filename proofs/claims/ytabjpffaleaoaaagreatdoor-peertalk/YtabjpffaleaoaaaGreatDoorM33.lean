import Derived.Test.YtabjpffaleaoaaaGreatDoorM32
import Derived.Test.YtabjpffaleaoaaaGreatDoorM25
import Derived.Test.YtabjpffaleaoaaaGreatDoorM31
import Derived.Test.YtabjpffaleaoaaaGreatDoorM29
import Derived.Deep.Cut
import Derived.Deep.CutRange
namespace Go.Proofs.YtabjpffaleaoaaaGreatDoor
open Go.RowKit
set_option maxRecDepth 100000 in
/-- a valid message's numbers are within their bounds -/
theorem val_bd {m : Mv} (h : valE m = 0) : 0 ≤ m.b ∧ m.b ≤ 4294967295 ∧ 0 ≤ m.l ∧ m.l ≤ 4294967295 := by
  unfold valE at h
  cases hr : rowFor m.k with
  | none => rw [hr] at h; simp at h
  | some r =>
    rw [hr] at h
    simp only at h
    have hf : frn (blks r.cs m) = false := by
      cases hx : frn (blks r.cs m) with
      | false => rfl
      | true => rw [hx] at h; simp at h
    rw [hf] at h
    simp only [Bool.false_eq_true, if_false] at h
    have hl : lks r.cs m = true := by
      cases hx : lks r.cs m with
      | true => rfl
      | false => rw [hx] at h; simp at h
    have hm := (rowFor_mem hr).1
    clear h hr
    simp only [rws, List.mem_cons, List.not_mem_nil, or_false] at hm
    rcases hm with rfl | rfl | rfl | rfl | rfl | rfl | rfl | rfl | rfl | rfl | rfl | rfl | rfl | rfl <;> (simp [Kr.cs, List.takeWhile, blks, blk, frn] at hf; simp [Kr.cs, List.takeWhile, lks, lk, rng] at hl; omega)
set_option maxHeartbeats 2000000 in
set_option maxRecDepth 100000 in
theorem sayOk (w : World) (g : Nat) (P : Pv) (L : List Int) (h : PL w g P L) (hw : P.why = 0) (hkt : KT w) (hmt : Bs.MT w) (m : Mv) (D hb0 : List UInt8) (hmm : MM w m D hb0) (hbd : MBd m D.length) (hp : mayE L P m D = true) (hv : valE m = 0) (hsh : sln m.h ≤ 140737488351232) (hsd : sln m.d ≤ 140737488351232) :
    Calls Tryz.prog 15 #[.pointer (some ⟨g, 0, none⟩), .agg m.cs] w fun e w' => ∃ v, e = .returned (.tuple #[v, .int .i64 0]) ∧ OW w.heap.size w' v (wirB [⟨m, D, hb0⟩]) ∧ PK w' g { P with wc := (sy m.k P.wc P.wi P.wb).1, wi := (sy m.k P.wc P.wi P.wb).2.1, wb := (sy m.k P.wc P.wi P.wb).2.2 } ∧ Fm.Fr (fun k => k ≠ g) w w' := by
  have bA : Below w.heap.size w (w.alloc (.cells m.cs 47)) := (Below.refl _ _).alloc (Nat.le_refl _) _
  have HB := Lib.hid bA
  have hb : MB (w.alloc (.cells m.cs 47)) w.heap.size m := heapNew w (.cells m.cs 47)
  have HS0 := Lib.hid hb
  have hi := info_msg hmm.ok
  have hs40 : m.cs.size = 40 := hmm.ok.size
  have HP : Hid (PL w g P L ∧ KT w ∧ MM w m D hb0) := ⟨h, hkt, hmm⟩
  have hgl := h.pk.lt
  have HO : Hid (Calls Tryz.prog 37 #[.pointer (some ⟨g, 0, none⟩)] (w.alloc (.cells m.cs 47)) fun e w' => e = .returned (.int .i64 0) ∧ w' = w.alloc (.cells m.cs 47)) := by
    have h9 := openT (w.alloc (.cells m.cs 47)) g P (h.below bA).pk (by have := h.b0; omega)
    rw [if_pos hw] at h9
    exact h9
  have HV : Hid (∀ u, Below w.heap.size w u → Calls Tryz.prog 19 #[.agg m.cs] u fun e w' => e = .returned (.int .i64 0) ∧ Below u.heap.size u w') := fun u hu => by
    have h9 := validT u m hmm.ok (hkt.below hu hkt.pos) hsh hsd
    rw [hv] at h9
    exact h9
  have HMy : Hid (∀ u, Below w.heap.size w u → Calls Tryz.prog 43 #[.pointer (some ⟨g, 0, none⟩), .agg m.cs] u fun e w' => e = .returned (.bool true) ∧ Below u.heap.size u w') := fun u hu => by
    have h9 := mayT u g P L (h.below hu) m hmm.ok D (hmm.d.keep hu) hbd (hmt.keep hu)
    rw [hp] at h9
    exact h9
  have hwE : wirE [⟨m, D, hb0⟩] = 0 := by
    show (if valE m = 0 then wirE [] else valE m) = 0
    rw [if_pos hv]
    rfl
  have HWr : Hid (∀ u, Below w.heap.size w u → Calls Tryz.prog 44 #[.slice (some ⟨u.heap.size, 0, none⟩) 1 1] (u.alloc (.cells m.cs 47)) fun e w' => ∃ v, e = .returned (.tuple #[v, .int .i64 0]) ∧ OW (u.alloc (.cells m.cs 47)).heap.size w' v (wirB [⟨m, D, hb0⟩]) ∧ Below (u.alloc (.cells m.cs 47)).heap.size (u.alloc (.cells m.cs 47)) w') := fun u hu => by
    have h9 := wireT (u.alloc (.cells m.cs 47)) _ [⟨m, D, hb0⟩] (rms_one (x := ⟨m, D, hb0⟩) (hmm.keep hu)) ((hkt.below hu hkt.pos).below ((Below.refl u.heap.size u).alloc (Nat.le_refl _) _) (hkt.below hu hkt.pos).pos) (show 1 ≤ 2147483647 by decide)
    refine h9.mono ?_
    rintro e w' ⟨v, he, ho, hb⟩
    rw [hwE] at he
    rw [if_pos hwE] at ho
    exact ⟨v, he, ho, hb⟩
  clear h hkt hmt hmm hbd hp hv bA hb hwE
  go_enter Tryz.func15, Tryz.ntmps15
  go_wp2_with fail
  refine HO.out.mono ?_
  rintro e w0 ⟨rfl, rfl⟩
  have hg0 := HS0.out
  go_wp2_with (first | (refine load_msg_if rfl _ rfl w.heap.size rfl m.cs hg0 hi ?_))
  refine (HV.out _ HB.out).mono ?_
  rintro e w1 ⟨rfl, b1⟩
  have HB1 := Lib.hid (HB.out.trans (b1.mono HB.out.size))
  have HS1 := Lib.hid (HS0.out.below b1)
  clear b1 hg0 HO HV
  have hg1 := HS1.out
  go_wp2_with (first | (refine load_msg_if rfl _ rfl w.heap.size rfl m.cs hg1 hi ?_))
  refine (HMy.out _ HB1.out).mono ?_
  rintro e w2 ⟨rfl, b2⟩
  have HB2 := Lib.hid (HB1.out.trans (b2.mono HB1.out.size))
  have HS2 := Lib.hid (HS1.out.below b2)
  clear b2 hg1 HMy HS0 HS1 HB1
  have hg2 := HS2.out
  go_wp2_with (first | (refine load_msg_if rfl _ rfl w.heap.size rfl m.cs hg2 hi ?_) | (refine build_msg rfl _ rfl m.cs rfl hs40 ?_))
  refine (HWr.out _ HB2.out).mono ?_
  rintro e w7 ⟨v7, rfl, o7, b7⟩
  obtain ⟨a7, c7, rfl⟩ := o7.form
  have bU : Below w2.heap.size w2 (w2.alloc (.cells m.cs 47)) := (Below.refl _ _).alloc (Nat.le_refl _) _
  have HB7 : Hid (Below w.heap.size w w7) := (HB2.out.trans (bU.mono HB2.out.size)).trans (b7.mono (Nat.le_trans HB2.out.size bU.size))
  have HS9 : Hid (MB w7 w.heap.size m) := (HS2.out.below bU).below b7
  have HK7 : Hid (PK w7 g P) := (HP.out.1.below HB7.out).pk
  have HO7 : Hid (OW w.heap.size w7 (.slice a7 (wirB [⟨m, D, hb0⟩]).length c7) (wirB [⟨m, D, hb0⟩])) := o7.mono (Nat.le_trans HB2.out.size bU.size)
  clear o7 b7 bU hg2 HWr HS2 HB2
  generalize hWB : wirB [⟨m, D, hb0⟩] = wB at *
  go_upto_region 12 with fail
  refine wp_region_held_drew (S := fun u => MB u w.heap.size m) (by kernel_rfl) (HS9.out.below (belowDrew _ 1)) (fun hHeld => ?_)
  refine wpAnyH_take (i := 0) (v := .pointer (some ⟨g, 0, none⟩)) rfl (by kernel_rfl) (by kernel_rfl) (by kernel_rfl) (fun _ _ _ h => h) (Or.inl ⟨by rfl, fun w hw => by go_simp⟩) hHeld ?_
  simp only [Act.put, List.getElem_toArray, List.getElem_cons_zero, List.setIfInBounds_toArray, List.set_cons_zero, List.set_cons_succ]
  refine wpAnyH_take (i := 1) (v := .pointer (some ⟨g, 0, none⟩)) rfl (by kernel_rfl) (by kernel_rfl) (by kernel_rfl) (fun _ _ _ h => h) (Or.inl ⟨by rfl, fun w hw => by go_simp⟩) hHeld ?_
  simp only [Act.put, List.getElem_toArray, List.getElem_cons_zero, List.getElem_cons_succ, List.setIfInBounds_toArray, List.set_cons_zero, List.set_cons_succ]
  refine wpAnyH_take (i := 2) (v := .pointer (some ⟨g, 25, none⟩)) rfl (by kernel_rfl) (by kernel_rfl) (by kernel_rfl) (fun _ _ _ h => h) (Or.inl ⟨by rfl, fun w hw => by go_simp⟩) hHeld ?_
  simp only [Act.put, List.getElem_toArray, List.getElem_cons_zero, List.getElem_cons_succ, List.setIfInBounds_toArray, List.set_cons_zero, List.set_cons_succ]
  refine wpAnyH_take (i := 3) (v := .pointer (some ⟨w.heap.size, 0, none⟩)) rfl (by kernel_rfl) (by kernel_rfl) (by kernel_rfl) (fun _ _ _ h => h) (Or.inl ⟨by rfl, fun w hw => by go_simp⟩) hHeld ?_
  simp only [Act.put, List.getElem_toArray, List.getElem_cons_zero, List.getElem_cons_succ, List.setIfInBounds_toArray, List.set_cons_zero, List.set_cons_succ]
  refine wpAnyH_take (i := 4) (v := .int .i64 m.k) rfl (by kernel_rfl) (by kernel_rfl) (by kernel_rfl) (fun _ _ _ h => h) (Or.inl ⟨by rfl, fun w hw => by have hq := hw.c0; go_simp⟩) hHeld ?_
  simp only [Act.put, List.getElem_toArray, List.getElem_cons_zero, List.getElem_cons_succ, List.setIfInBounds_toArray, List.set_cons_zero, List.set_cons_succ]
  refine wpAnyH_ready (rs := [5]) (by kernel_rfl) (by simp) ?_
  refine AllReadyH.cons (o := _) rfl (fun K hK => ?_) AllReadyH.nil
  go_simp
  refine (saysW w7.drew g P (HK7.out.keep rfl) m.k).mono ?_
  rintro e w9 ⟨rfl, k9, f9⟩
  have HF9 : Hid _ := And.intro k9 f9
  have hm9 : MB w9 w.heap.size m := (f9.block w.heap.size HS9.out.lt (by omega)).trans HS9.out
  clear k9 f9
  go_wp2_with fail
  refine hK.out _ _ hm9 (fun hHeld => ?_)
  clear hK K
  refine wpAnyH_done (by kernel_rfl) ?_ _
  clear hHeld
  have HEnd : Hid (OW w.heap.size w9 (.slice a7 wB.length c7) wB ∧ PK w9 g { P with wc := (sy m.k P.wc P.wi P.wb).1, wi := (sy m.k P.wc P.wi P.wb).2.1, wb := (sy m.k P.wc P.wi P.wb).2.2 } ∧ Fm.Fr (fun k => k ≠ g) w w9) := ⟨OW.frame HO7.out hgl (frT (Fm.Fr.of_below (belowDrew w7 1)) HF9.out.2), HF9.out.1, frT (Fm.Fr.of_below HB7.out) (frT (Fm.Fr.of_below (belowDrew w7 1)) HF9.out.2)⟩
  clear HF9 hm9
  go_wp2
  go_ret2
  have hE := HEnd.out
  clear HEnd
  first | (subst hWB; exact ⟨_, rfl, hE⟩) | exact ⟨_, rfl, hE⟩
set_option maxHeartbeats 2000000 in
set_option maxRecDepth 100000 in
/-- a message that is not valid, or may not be said -/
theorem sayNo (w : World) (g : Nat) (P : Pv) (L : List Int) (h : PL w g P L) (hw : P.why = 0) (hkt : KT w) (hmt : Bs.MT w) (m : Mv) (D hb0 : List UInt8) (hmm : MM w m D hb0) (hno : valE m ≠ 0 ∨ mayE L P m D = false) (hsh : sln m.h ≤ 140737488351232) (hsd : sln m.d ≤ 140737488351232) :
    Calls Tryz.prog 15 #[.pointer (some ⟨g, 0, none⟩), .agg m.cs] w fun e w' => e = .returned (.tuple #[.slice none 0 0, .int .i64 (if valE m = 0 then 175 else valE m)]) ∧ Below w.heap.size w w' := by
  have bA : Below w.heap.size w (w.alloc (.cells m.cs 47)) := (Below.refl _ _).alloc (Nat.le_refl _) _
  have HB := Lib.hid bA
  have hb : MB (w.alloc (.cells m.cs 47)) w.heap.size m := heapNew w (.cells m.cs 47)
  have HS0 := Lib.hid hb
  have hi := info_msg hmm.ok
  have HO : Hid (Calls Tryz.prog 37 #[.pointer (some ⟨g, 0, none⟩)] (w.alloc (.cells m.cs 47)) fun e w' => e = .returned (.int .i64 0) ∧ w' = w.alloc (.cells m.cs 47)) := by
    have h9 := openT (w.alloc (.cells m.cs 47)) g P (h.below bA).pk (by have := h.b0; omega)
    rw [if_pos hw] at h9
    exact h9
  have HV : Hid (∀ u, Below w.heap.size w u → Calls Tryz.prog 19 #[.agg m.cs] u fun e w' => e = .returned (.int .i64 (valE m)) ∧ Below u.heap.size u w') := fun u hu => validT u m hmm.ok (hkt.below hu hkt.pos) hsh hsd
  by_cases hv : valE m = 0
  · rw [if_pos hv]
    rw [hv] at HV
    have hp : mayE L P m D = false := hno.elim (fun h => absurd hv h) id
    have hbd := val_bd hv
    have HMy : Hid (∀ u, Below w.heap.size w u → Calls Tryz.prog 43 #[.pointer (some ⟨g, 0, none⟩), .agg m.cs] u fun e w' => e = .returned (.bool false) ∧ Below u.heap.size u w') := fun u hu => by
      have h9 := mayT u g P L (h.below hu) m hmm.ok D (hmm.d.keep hu) ⟨hbd.1, hbd.2.1, hbd.2.2.1, hbd.2.2.2, hmm.dl⟩ (hmt.keep hu)
      rw [hp] at h9
      exact h9
    clear h hkt hmt hmm hno hp hv bA hb hbd
    go_enter Tryz.func15, Tryz.ntmps15
    go_wp2_with fail
    refine HO.out.mono ?_
    rintro e w0 ⟨rfl, rfl⟩
    have hg0 := HS0.out
    go_wp2_with (first | (refine load_msg_if rfl _ rfl w.heap.size rfl m.cs hg0 hi ?_))
    refine (HV.out _ HB.out).mono ?_
    rintro e w1 ⟨rfl, b1⟩
    have HB1 := Lib.hid (HB.out.trans (b1.mono HB.out.size))
    have hg1 := HS0.out.below b1
    clear b1 hg0 HO HV
    go_wp2_with (first | (refine load_msg_if rfl _ rfl w.heap.size rfl m.cs hg1 hi ?_))
    refine (HMy.out _ HB1.out).mono ?_
    rintro e w2 ⟨rfl, b2⟩
    have HB2 := Lib.hid (HB1.out.trans (b2.mono HB1.out.size))
    clear b2 hg1 HMy
    go_wp2
    go_ret2
    exact ⟨rfl, HB2.out⟩
  · rw [if_neg hv]
    have hne : (valE m != 0) = true := by simp [hv]
    generalize valE m = ve at *
    clear h hkt hmt hmm hno hv bA hb
    go_enter Tryz.func15, Tryz.ntmps15
    go_wp2_with fail
    refine HO.out.mono ?_
    rintro e w0 ⟨rfl, rfl⟩
    have hg0 := HS0.out
    go_wp2_with (first | (refine load_msg_if rfl _ rfl w.heap.size rfl m.cs hg0 hi ?_))
    refine (HV.out _ HB.out).mono ?_
    rintro e w1 ⟨rfl, b1⟩
    have HB1 := Lib.hid (HB.out.trans (b1.mono HB.out.size))
    clear b1 hg0 HO HV
    go_wp2
    go_ret2
    exact ⟨rfl, HB1.out⟩
end Go.Proofs.YtabjpffaleaoaaaGreatDoor
namespace Go.Proofs.YtabjpffaleaoaaaGreatDoor
open Go.RowKit
/-- the bodies of these messages -/
def encs (ms : List Mg) : List (List UInt8) := ms.map fun x => encB x.m x.D x.hb
theorem nm_frm (b rest : List UInt8) (hb : b.length ≤ 32768) : Fm.nm (frm b ++ rest) = b.length := by
  unfold frm
  rw [List.append_assoc]
  exact Fm.nm_be4 b.length _ (by omega)
theorem frm_len (b : List UInt8) : (frm b).length = 4 + b.length := by unfold frm; rw [List.length_append, be4_len]
theorem drop_frm (b rest : List UInt8) : (frm b ++ rest).drop (4 + b.length) = rest := List.drop_left' (frm_len b)
theorem body_frm (b rest : List UInt8) : ((frm b ++ rest).drop 4).take b.length = b := by
  unfold frm
  rw [List.append_assoc, List.drop_left' (be4_len _)]
  exact List.take_left' rfl
/-- a frame at the begin of a stream is told first -/
theorem rd_inv {b rest : List UInt8} {met bs : List (List UInt8)} {h' : Bool} {r : List UInt8} {e : Int} (hb : b.length ≤ 32768) (x : Fm.Rd false (frm b ++ rest) met bs h' r e) : ∃ bs', bs = b :: bs' ∧ Fm.Rd false rest met bs' h' r e := by
  have hn := nm_frm b rest hb
  have hl : (frm b ++ rest).length = 4 + b.length + rest.length := by rw [List.length_append, frm_len]
  generalize hL : frm b ++ rest = L at *
  cases x with
  | num _ h1 => omega
  | big _ h1 h2 => omega
  | part _ h1 h2 h3 => omega
  | body _ _ bs' _ _ _ h1 h2 h3 x =>
    refine ⟨bs', ?_, ?_⟩
    · rw [hn, ← hL, body_frm]
    · rw [hn, ← hL, drop_frm] at x
      exact x
theorem rd_wire (ms : List Mg) (hl : ∀ x ∈ ms, (encB x.m x.D x.hb).length ≤ 32768) {rest : List UInt8} {met bs : List (List UInt8)} {h' : Bool} {r : List UInt8} {e : Int} (x : Fm.Rd false (wirB ms ++ rest) met bs h' r e) : ∃ bs', bs = encs ms ++ bs' ∧ Fm.Rd false rest met bs' h' r e := by
  induction ms generalizing bs with
  | nil => exact ⟨bs, rfl, x⟩
  | cons y ms ih =>
    have e1 : wirB (y :: ms) ++ rest = frm (encB y.m y.D y.hb) ++ (wirB ms ++ rest) := by
      show (y.fr ++ wirB ms) ++ rest = _
      rw [List.append_assoc]; rfl
    rw [e1] at x
    obtain ⟨bs1, rfl, x1⟩ := rd_inv (hl y (by simp)) x
    obtain ⟨bs2, rfl, x2⟩ := ih (fun z hz => hl z (by simp [hz])) x1
    exact ⟨bs2, rfl, x2⟩
theorem rd_few {l : List UInt8} {met bs : List (List UInt8)} {h' : Bool} {r : List UInt8} {e : Int} (x : Fm.Rd false l met bs h' r e) (h : l.length < 4 ∨ (Fm.nm l ≤ 32768 ∧ l.length < 4 + Fm.nm l)) : bs = [] ∧ e = 0 := by
  cases x with
  | num => exact ⟨rfl, rfl⟩
  | big _ h1 h2 => omega
  | part => exact ⟨rfl, rfl⟩
  | body _ _ _ _ _ _ h1 h2 h3 _ => omega
theorem rd_big {l : List UInt8} {met bs : List (List UInt8)} {h' : Bool} {r : List UInt8} {e : Int} (x : Fm.Rd false l met bs h' r e) (h4 : 4 ≤ l.length) (h : 32768 < Fm.nm l) : bs = [] ∧ e = 102 := by
  cases x with
  | num _ h1 => omega
  | big => exact ⟨rfl, rfl⟩
  | part _ _ h2 _ => omega
  | body _ _ _ _ _ _ h1 h2 h3 _ => omega
theorem gds_app (cs bs : List (List UInt8)) (h : ∀ a ∈ cs, decE a = 0) : gds (cs ++ bs) = cs ++ gds bs := by
  induction cs with
  | nil => rfl
  | cons a cs ih =>
    have h0 := h a (by simp)
    have h1 := ih (fun b hb => h b (by simp [hb]))
    unfold gds at h1 ⊢
    rw [List.cons_append, List.takeWhile_cons, if_pos (by simpa using h0), h1]
    rfl
theorem unwE_app (cs bs : List (List UInt8)) (er : Int) (h : ∀ a ∈ cs, decE a = 0) : unwE (cs ++ bs) er = unwE bs er := by
  unfold unwE
  rw [gds_app cs bs h, List.length_append, List.drop_append, List.drop_eq_nil_of_le (by omega), List.nil_append, Nat.add_sub_cancel_left]
theorem sz_encs (ms : List Mg) : Fm.sz (encs ms) = (wirB ms).length := by
  induction ms with
  | nil => rfl
  | cons y ms ih =>
    have e1 : wirB (y :: ms) = frm (encB y.m y.D y.hb) ++ wirB ms := rfl
    rw [e1, List.length_append, frm_len, ← ih]
    exact Fm.sz_cons _ _
theorem wirE_mem {ms : List Mg} (h : wirE ms = 0) : ∀ x ∈ ms, valE x.m = 0 := by
  induction ms with
  | nil => simp
  | cons y ms ih =>
    unfold wirE at h
    split at h
    · rename_i h0
      intro x hx
      rcases List.mem_cons.1 hx with rfl | hx
      · exact h0
      · exact ih h x hx
    · rename_i h0
      exact absurd h h0
theorem encs_good {w : World} {ms : List Mg} (hm : ∀ x ∈ ms, MM w x.m x.D x.hb) (h : wirE ms = 0) : ∀ a ∈ encs ms, decE a = 0 := by
  intro a ha
  obtain ⟨x, hx, rfl⟩ := List.mem_map.1 ha
  have := hm x hx
  exact (back_way x.m this.ok x.D x.hb (wirE_mem h x hx) this.sd this.sh).1
theorem ms_back {w : World} {ms ns : List Mg} (hm : ∀ x ∈ ms, MM w x.m x.D x.hb) (h : wirE ms = 0) (hn : MsOf ns (encs ms)) : MsEq ns ms := by
  refine ⟨by rw [hn.1]; simp [encs], fun i x y hx hy => ?_⟩
  have hy2 : (encs ms)[i]? = some (encB y.m y.D y.hb) := by unfold encs; rw [List.getElem?_map, hy]; rfl
  obtain ⟨d, h', rfl⟩ := hn.2 i x _ hx hy2
  have hmem := List.mem_of_getElem? hy
  have hM := hm y hmem
  obtain ⟨_, k2, k3, k4, _⟩ := back_way y.m hM.ok y.D y.hb (wirE_mem h y hmem) hM.sd hM.sh
  refine ⟨k2.symm, k3.symm, ?_⟩
  show y.m = { ({ (decS (encB y.m y.D y.hb)).m with d := d, h := h' } : Mv) with d := y.m.d, h := y.m.h }
  rw [k4 d h']
theorem rws_szs (r : Kr) (hr : r ∈ rws) (m : Mv) : szs r.cs m ≤ 49 + sln m.d + 32 * sln m.h := by
  simp only [rws, List.mem_cons, List.not_mem_nil, or_false] at hr
  rcases hr with rfl | rfl | rfl | rfl | rfl | rfl | rfl | rfl | rfl | rfl | rfl | rfl | rfl | rfl
  · show 0 ≤ _; omega
  all_goals first | (show 1 + 0 ≤ _; omega) | (show 1 + (4 + 0) ≤ _; omega) | (show 1 + (sln m.d + 0) ≤ _; omega) | (show 1 + (4 + (4 + (4 + 0))) ≤ _; omega) | (show 1 + (4 + (4 + (sln m.d + 0))) ≤ _; omega) | (show 1 + (32 + (4 + (4 + (4 + (4 + 0))))) ≤ _; omega) | (show 1 + (32 + (4 + (4 + (4 + (4 + (32 * sln m.h + 0)))))) ≤ _; omega)
theorem lays_len (r : Kr) (hmem : r ∈ rws) (m : Mv) (ok : m.ok) (D hb : List UInt8) (hkk : r.k = m.k) (hfrn : frn (blks r.cs m) = false) (hlk : lks r.cs m = true) (hd : sln m.d = D.length) (hh : hb.length = sln m.h * 32) : (lays r.cs m D hb).length = szs r.cs m := by
  simp only [rws, List.mem_cons, List.not_mem_nil, or_false] at hmem
  rcases hmem with rfl | rfl | rfl | rfl | rfl | rfl | rfl | rfl | rfl | rfl | rfl | rfl | rfl | rfl
  · exact (bk_n1 m ok D hb hkk.symm hfrn hlk hd hh).2.1
  · exact (bk_0 m ok D hb hkk.symm hfrn hlk hd hh).2.1
  · exact (bk_1 m ok D hb hkk.symm hfrn hlk hd hh).2.1
  · exact (bk_2 m ok D hb hkk.symm hfrn hlk hd hh).2.1
  · exact (bk_3 m ok D hb hkk.symm hfrn hlk hd hh).2.1
  · exact (bk_4 m ok D hb hkk.symm hfrn hlk hd hh).2.1
  · exact (bk_5 m ok D hb hkk.symm hfrn hlk hd hh).2.1
  · exact (bk_6 m ok D hb hkk.symm hfrn hlk hd hh).2.1
  · exact (bk_7 m ok D hb hkk.symm hfrn hlk hd hh).2.1
  · exact (bk_8 m ok D hb hkk.symm hfrn hlk hd hh).2.1
  · exact (bk_21 m ok D hb hkk.symm hfrn hlk hd hh).2.1
  · exact (bk_22 m ok D hb hkk.symm hfrn hlk hd hh).2.1
  · exact (bk_23 m ok D hb hkk.symm hfrn hlk hd hh).2.1
  · exact (bk_1000 m ok D hb hkk.symm hfrn hlk hd hh).2.1
theorem enc_size {w : World} {x : Mg} (h : MM w x.m x.D x.hb) : (encB x.m x.D x.hb).length ≤ 49 + x.D.length + x.hb.length := by
  have h1 := h.sd
  have h2 := h.sh
  unfold encB
  split
  · rename_i h0
    split
    · rename_i r hr
      have hw : valE x.m = 0 := h0
      unfold valE at hw
      rw [hr] at hw
      simp only at hw
      split at hw
      · omega
      · rename_i hfrn
        split at hw
        · rename_i hlk
          obtain ⟨hmem, hkk⟩ := rowFor_mem hr
          have hs := rws_szs r hmem x.m
          have hlen := lays_len r hmem x.m h.ok x.D x.hb hkk (by simpa using hfrn) hlk h1 h2
          omega
        · omega
    · simp
  · simp
theorem wirB_bulk {w : World} (ms : List Mg) (h : ∀ x ∈ ms, MM w x.m x.D x.hb) : (wirB ms).length ≤ 6 * mgW ms ∧ ms.length ≤ mgW ms := by
  induction ms with
  | nil => simp [wirB, mgW]
  | cons y ms ih =>
    obtain ⟨i1, i2⟩ := ih (fun z hz => h z (by simp [hz]))
    have h1 := enc_size (h y (by simp))
    have e1 : wirB (y :: ms) = frm (encB y.m y.D y.hb) ++ wirB ms := rfl
    have e2 : mgW (y :: ms) = (10 + y.D.length + y.hb.length) + mgW ms := rfl
    rw [e1, e2, List.length_append, frm_len, List.length_cons]
    omega
end Go.Proofs.YtabjpffaleaoaaaGreatDoor
namespace Go.Proofs.YtabjpffaleaoaaaGreatDoor
open Go.RowKit
/-- a side's flags behind a row of messages -/
def fl (f : Bool × Bool × Bool) (S : List Mg) : Bool × Bool × Bool := S.foldl (fun f x => sy x.m.k f.1 f.2.1 f.2.2) f
/-- a message that can be sent -/
structure Vx (x : Mg) : Prop where
  v : valE x.m = 0
  ok : x.m.ok
  d : sln x.m.d = x.D.length
  h : x.hb.length = sln x.m.h * 32
/-- each message is legal where it stands -/
def LgS (L : List Int) (pb : Int) (f : Bool × Bool × Bool) (S : List Mg) : Prop := ∀ k x, S[k]? = some x → legE L pb (fl f (S.take k)).2.2 x.m x.D = 0 ∧ Vx x
theorem LgS.nil (L : List Int) (pb : Int) (f : Bool × Bool × Bool) : LgS L pb f [] := fun k x h => by simp at h
theorem fl_snoc (f : Bool × Bool × Bool) (S : List Mg) (x : Mg) : fl f (S ++ [x]) = sy x.m.k (fl f S).1 (fl f S).2.1 (fl f S).2.2 := by
  simp [fl]
theorem LgS.snoc {L : List Int} {pb : Int} {f : Bool × Bool × Bool} {S : List Mg} (h : LgS L pb f S) {x : Mg} (hl : legE L pb (fl f S).2.2 x.m x.D = 0) (hv : Vx x) : LgS L pb f (S ++ [x]) := by
  intro k y hy
  by_cases hk : k < S.length
  · rw [List.getElem?_append_left hk] at hy
    rw [List.take_append_of_le_length (by omega)]
    exact h k y hy
  · rw [List.getElem?_append_right (by omega)] at hy
    have hk0 : k - S.length = 0 := by
      have := (List.getElem?_eq_some_iff.1 hy).1
      simp at this
      omega
    rw [hk0] at hy
    simp at hy
    subst hy
    rw [show k = S.length by omega, List.take_left' rfl]
    exact ⟨hl, hv⟩
theorem LgS.tail {L : List Int} {pb : Int} {f : Bool × Bool × Bool} {x : Mg} {S : List Mg} (h : LgS L pb f (x :: S)) : LgS L pb (sy x.m.k f.1 f.2.1 f.2.2) S := by
  intro k y hy
  have := h (k + 1) y (by simpa using hy)
  simpa [fl] using this
/-- these are just those messages -/
def SameX (xs ys : List Mg) : Prop := xs.length = ys.length ∧ ∀ (k : Nat) (x y : Mg), xs[k]? = some x → ys[k]? = some y → x.D = y.D ∧ x.hb = y.hb ∧ ∀ d h, ({ x.m with d := d, h := h } : Mv) = { y.m with d := d, h := h }
theorem SameX.cons {x y : Mg} {xs ys : List Mg} (h : SameX xs ys) (h1 : x.D = y.D) (h2 : x.hb = y.hb) (h3 : ∀ d h, ({ x.m with d := d, h := h } : Mv) = { y.m with d := d, h := h }) : SameX (x :: xs) (y :: ys) := by
  refine ⟨by rw [List.length_cons, List.length_cons, h.1], fun k a b ha hb => ?_⟩
  cases k with
  | zero => simp at ha hb; subst ha hb; exact ⟨h1, h2, h3⟩
  | succ k => exact h.2 k a b (by simpa using ha) (by simpa using hb)
theorem legE_eq (L : List Int) (pb : Int) (ib : Bool) (m n : Mv) (D : List UInt8) (h : ∀ d h, ({ m with d := d, h := h } : Mv) = { n with d := d, h := h }) : legE L pb ib m D = legE L pb ib n D ∧ m.k = n.k := by
  have e := h (.slice none 0 0) (.slice none 0 0)
  simp only [Mv.mk.injEq] at e
  unfold legE
  obtain ⟨e1, e2, e3, e4, _⟩ := e
  rw [e1, e2, e3, e4]
  exact ⟨rfl, rfl⟩
/-- what the other side hears of messages that were said -/
theorem hr_said {L : List Int} {pb : Int} : ∀ {S : List Mg} {q q' : Qs} {xs : List Mg} {e : Int}, Hr L pb q (encs S) xs q' e → LgS L pb (q.c, q.i, q.b) S → e = 0 ∧ (q'.c, q'.i, q'.b) = fl (q.c, q.i, q.b) S ∧ SameX xs (S.filter fun x => decide (x.m.k ≠ 1000))
  | [], q, q', xs, e, h, _ => by
    cases h
    exact ⟨rfl, rfl, rfl, fun k x y h => by simp at h⟩
  | x :: S, q, q', xs, e, h, hl => by
    obtain ⟨h1, hv⟩ := hl 0 x rfl
    obtain ⟨b1, b2, b3, b4, _⟩ := back_way x.m hv.ok x.D x.hb hv.v hv.d hv.h
    have hlg : legE L pb q.b (decS (encB x.m x.D x.hb)).m (decS (encB x.m x.D x.hb)).D = 0 := by
      rw [b2, (legE_eq L pb q.b _ _ x.D b4).1]
      exact h1
    have hk := (legE_eq L pb q.b _ _ x.D b4).2
    have he : encs (x :: S) = encB x.m x.D x.hb :: encs S := rfl
    rw [he] at h
    cases h with
    | dec _ _ _ hd => exact absurd b1 hd
    | ill _ _ _ _ hi => exact absurd hlg hi
    | ok _ q1 _ _ _ xs1 _ _ _ hs h2 =>
      have hq1 : (q1.c, q1.i, q1.b) = sy x.m.k q.c q.i q.b := by
        obtain ⟨a1, a2, a3, _⟩ := hs
        rw [hk] at a1 a2 a3
        rw [a1, a2, a3]
      have hl2 : LgS L pb (q1.c, q1.i, q1.b) S := by rw [hq1]; exact hl.tail
      obtain ⟨r1, r2, r3⟩ := hr_said h2 hl2
      refine ⟨r1, by rw [r2, hq1]; rfl, ?_⟩
      rw [hk]
      by_cases hk1 : x.m.k = 1000
      · rw [if_pos hk1, List.nil_append, List.filter_cons_of_neg (by simp [hk1])]
        exact r3
      · rw [if_neg hk1, List.filter_cons_of_pos (by simp [hk1])]
        exact r3.cons b2 b3 b4
/-- a connection behind a Say -/
theorem FP.say {w w' : World} {g R : Nat} {P P' : Pv} {L : List Int} {H : List UInt8} {p s : Nat} {held : List UInt8} {hv : Value} (h : FP w g R P L H p s held hv) (fr : Fm.Fr (fun k => k ≠ g) w w') (hk : PK w' g P') (e1 : P'.st = P.st) (e2 : P'.why = P.why) (e3 : P'.b = P.b) (e4 : P'.ln = P.ln) (e5 : P'.hs = P.hs) : FP w' g R P' L H p s held hv := by
  have hgR := h.gR
  have hg1 := h.g1
  refine ⟨hk, e1.trans h.stp, e2.trans h.why, hgR, hg1, by rw [e3]; exact h.b0, by rw [e3]; exact h.b1, h.lok, ?_, by rw [e4]; exact h.lj, ?_, by rw [e5]; exact h.hj, h.hl, (fr.block R h.rk.lt (by omega)).trans h.rk, h.st, own_at h.ow (fun k hk _ => fr.block k (own_ge h.ow hk).2 (by have := (own_ge h.ow hk).1; omega)), h.nil, h.kt.fr fr hg1, MT.fr h.mt fr hg1⟩
  · rw [e4]
    exact own_at h.lo (fun k hk _ => fr.block k (own_ge h.lo hk).2 (h.lj k hk).1)
  · rw [e5]
    exact own_at h.ho (fun k hk _ => fr.block k (own_ge h.ho hk).2 (h.hj k hk).1)
set_option maxHeartbeats 1000000 in
set_option maxRecDepth 100000 in
theorem twinO (w : World) (m : Mv) (D hb : List UInt8) (hm : MM w m D hb) (hD : D.length ≤ 32768) (hH : hb.length ≤ 32768) :
    Calls Tryz.prog 50 #[.agg m.cs] w fun e w' => ∃ d' h', e = .returned (.agg { m with d := d', h := h' }.cs) ∧ OMg w.heap.size w' ⟨{ m with d := d', h := h' }, D, hb⟩ ∧ Below w.heap.size w w' := by
  have C0 : ∃ X, (((w.alloc (.cells m.cs 47)).alloc (.cells zm.cs 47)).alloc (.cells zm.cs 47)).setRow (w.heap.size + 2) m.cs = X ∧ MB X w.heap.size m ∧ MB X (w.heap.size + 1) zm ∧ MB X (w.heap.size + 2) m ∧ Below w.heap.size w X ∧ X.heap.size = w.heap.size + 3 := by
    have g2 : MB (((w.alloc (.cells m.cs 47)).alloc (.cells zm.cs 47)).alloc (.cells zm.cs 47)) (w.heap.size + 2) zm := heapLast _ _ (by simp)
    refine ⟨_, rfl, ?_, ?_, g2.setRow, belowSetRow ((((Below.refl _ _).alloc (Nat.le_refl _) _).alloc (by simp) _).alloc (by simp; omega) _) (by omega) _, by simp [World.setRow]⟩
    · show (World.setRow _ _ _).heap[_]? = _
      rw [setRow_other _ _ _ _ (by omega), heapOld _ _ _ (by simp; omega), heapOld _ _ _ (by simp), heapNew]
    · show (World.setRow _ _ _).heap[_]? = _
      rw [setRow_other _ _ _ _ (by omega), heapOld _ _ _ (by simp)]; exact heapLast _ _ (by simp)
  have g2 : MB (((w.alloc (.cells m.cs 47)).alloc (.cells zm.cs 47)).alloc (.cells zm.cs 47)) (w.heap.size + 2) zm := heapLast _ _ (by simp)
  have hc2 : ((w.alloc (.cells m.cs 47)).alloc (.cells zm.cs 47)).heap[w.heap.size]? = some (.cells m.cs 47 (0, 0)) := by rw [heapOld _ _ _ (by simp), heapNew]
  have HM : Hid (MM w m D hb) := hm
  have ok := hm.ok
  have him := info_msg ok
  have hone := ok.one
  have hsz : zm.cs.size = m.cs.size := by rw [zm_ok.size, ok.size]
  have l2 := g2.cells
  clear g2 hm
  go_enter Tryz.func50, Tryz.ntmps50
  go_upto_region 2 with (first | (refine wpList_load_row rfl 47 _ rfl w.heap.size rfl 47 m.cs (0, 0) _ hc2 Tryz.underlying47 rfl him ?_) | (refine wpList_store_row rfl 47 _ _ rfl (w.heap.size + 2) m.cs rfl rfl 47 zm.cs l2 him hsz hone ?_))
  rw [z40_eq]
  obtain ⟨X, hX, C0⟩ := C0
  rw [hX]
  clear hX hc2 l2 hsz hone
  have HX : Hid (MB X w.heap.size m ∧ MB X (w.heap.size + 1) zm ∧ MB X (w.heap.size + 2) m ∧ Below w.heap.size w X ∧ X.heap.size = w.heap.size + 3) := C0
  have a4 := C0.2.2.1.c4
  have f4 := C0.2.2.1.free 4
  clear C0
  go_upto_region 3 with fail
  have HX1 : Hid (MB (X.setCell ⟨w.heap.size + 2, 4, none⟩ (.slice none 0 0)) w.heap.size m ∧ MB (X.setCell ⟨w.heap.size + 2, 4, none⟩ (.slice none 0 0)) (w.heap.size + 1) zm ∧ MB (X.setCell ⟨w.heap.size + 2, 4, none⟩ (.slice none 0 0)) (w.heap.size + 2) { m with d := .slice none 0 0 } ∧ Below w.heap.size w (X.setCell ⟨w.heap.size + 2, 4, none⟩ (.slice none 0 0)) ∧ (X.setCell ⟨w.heap.size + 2, 4, none⟩ (.slice none 0 0)).heap.size = w.heap.size + 3) :=
    ⟨HX.out.1.besides (Besides.setCell _ _ _ _) (by omega), HX.out.2.1.besides (Besides.setCell _ _ _ _) (by omega), HX.out.2.2.1.set 4 _ rfl, HX.out.2.2.2.1.setCell (by show _ ≤ _ + 2; omega) _, by simp; exact HX.out.2.2.2.2⟩
  clear a4 f4 HX
  generalize X.setCell ⟨w.heap.size + 2, 4, none⟩ (.slice none 0 0) = X1 at *
  have ok1 : Mv.ok { m with d := .slice none 0 0 } := ⟨ok.r, ⟨_, _, _, rfl⟩, ok.h⟩
  have a39 := HX1.out.2.2.1.c39 ok1
  have f39 := HX1.out.2.2.1.free 39
  go_upto_region 4 with fail
  have HX2 : Hid (MB (X1.setCell ⟨w.heap.size + 2, 39, none⟩ (.slice none 0 0)) w.heap.size m ∧ MB (X1.setCell ⟨w.heap.size + 2, 39, none⟩ (.slice none 0 0)) (w.heap.size + 1) zm ∧ MB (X1.setCell ⟨w.heap.size + 2, 39, none⟩ (.slice none 0 0)) (w.heap.size + 2) { m with d := .slice none 0 0, h := .slice none 0 0 } ∧ Below w.heap.size w (X1.setCell ⟨w.heap.size + 2, 39, none⟩ (.slice none 0 0)) ∧ (X1.setCell ⟨w.heap.size + 2, 39, none⟩ (.slice none 0 0)).heap.size = w.heap.size + 3) :=
    ⟨HX1.out.1.besides (Besides.setCell _ _ _ _) (by omega), HX1.out.2.1.besides (Besides.setCell _ _ _ _) (by omega), HX1.out.2.2.1.set 39 _ (Mv.set39 ok1 _), HX1.out.2.2.2.1.setCell (by show _ ≤ _ + 2; omega) _, by simp; exact HX1.out.2.2.2.2⟩
  clear a39 f39 HX1 ok1
  generalize X1.setCell ⟨w.heap.size + 2, 39, none⟩ (.slice none 0 0) = X2 at *
  have a4 : X2.cell? ⟨w.heap.size + 2, 4, none⟩ = some (.slice none 0 0) := HX2.out.2.2.1.c4
  have f4 := HX2.out.2.2.1.free 4
  have m4 := HX2.out.1.c4
  have hlt2 : w.heap.size + 2 < X2.heap.size := by rw [HX2.out.2.2.2.2]; omega
  have HD : Hid (RB X2 m.d D ∧ RH X2 m.h hb ∧ ([] : List UInt8).length + D.length ≤ 140737488351232 ∧ hb.length ≤ 140737488351232) := by
    have hb' := HX2.out.2.2.2.1
    exact ⟨HM.out.d.keep hb', HM.out.h.keep hb', by have := HM.out.dl; simpa using this, HM.out.hl⟩
  have HO : Hid (OW X2.heap.size X2 (.slice none 0 0) []) := World.ownsRow_nil _ _ _ _
  go_upto_region 5 with (first | (at_builtin; refine append_bytes rfl _ _ rfl rfl HO.out rfl HD.out.1 (Nat.le_refl _) HD.out.2.2.1 ?_; intro d' X3 o3 b3; simp only [List.nil_append] at o3; obtain ⟨da, dc, rfl⟩ := o3.form; have t4 := (b3.cell (p := ⟨w.heap.size + 2, 4, none⟩) hlt2).trans a4; have t5 := (b3.frozen (p := ⟨w.heap.size + 2, 4, none⟩) hlt2).trans f4))
  have H4 : Hid (MB (X3.setCell ⟨w.heap.size + 2, 4, none⟩ (.slice da D.length dc)) w.heap.size m ∧ MB (X3.setCell ⟨w.heap.size + 2, 4, none⟩ (.slice da D.length dc)) (w.heap.size + 1) zm ∧ MB (X3.setCell ⟨w.heap.size + 2, 4, none⟩ (.slice da D.length dc)) (w.heap.size + 2) { m with d := .slice da D.length dc, h := .slice none 0 0 } ∧ Below w.heap.size w (X3.setCell ⟨w.heap.size + 2, 4, none⟩ (.slice da D.length dc)) ∧ w.heap.size + 2 < (X3.setCell ⟨w.heap.size + 2, 4, none⟩ (.slice da D.length dc)).heap.size ∧ OW (w.heap.size + 3) (X3.setCell ⟨w.heap.size + 2, 4, none⟩ (.slice da D.length dc)) (.slice da D.length dc) D ∧ RH (X3.setCell ⟨w.heap.size + 2, 4, none⟩ (.slice da D.length dc)) m.h hb) := by
    have hs2 := HX2.out.2.2.2.2
    have bb : Below X2.heap.size X2 X3 := b3
    have b4 : Below w.heap.size w X3 := HX2.out.2.2.2.1.trans (bb.mono (by omega))
    have hs3 := bb.size
    have g0 := HX2.out.1.below bb
    have g1 := HX2.out.2.1.below bb
    have g2 := HX2.out.2.2.1.below bb
    exact ⟨g0.besides (Besides.setCell _ _ _ _) (by omega), g1.besides (Besides.setCell _ _ _ _) (by omega), g2.set 4 _ rfl, b4.setCell (by show _ ≤ _ + 2; omega) _, by simp; omega, ownsRow_setCell_below (ownsRow_mono o3 (by omega)) (by show w.heap.size + 2 < _; omega) _, HM.out.h.keep (b4.setCell (by show _ ≤ _ + 2; omega) _)⟩
  clear t4 t5 o3 b3 HO HD hlt2 m4 f4 a4 HX2
  generalize X3.setCell ⟨w.heap.size + 2, 4, none⟩ (.slice da D.length dc) = X4 at *
  have ok4 : Mv.ok { m with d := .slice da D.length dc, h := .slice none 0 0 } := ⟨ok.r, ⟨_, _, _, rfl⟩, ⟨_, _, _, rfl⟩⟩
  have a39 : X4.cell? ⟨w.heap.size + 2, 39, none⟩ = some (.slice none 0 0) := H4.out.2.2.1.c39 ok4
  have f39 := H4.out.2.2.1.free 39
  have m39 := H4.out.1.c39 ok
  have hlt2 : w.heap.size + 2 < X4.heap.size := H4.out.2.2.2.2.1
  have HH : Hid (RH X4 m.h hb ∧ hb.length ≤ 140737488351232) := ⟨H4.out.2.2.2.2.2.2, HM.out.hl⟩
  go_upto_region 6 with (first | (at_builtin; refine append_hashes rfl _ _ rfl rfl rfl HH.out.1 HH.out.2 ?_; intro h' X5 o5 b5; obtain ⟨ha, hn, hc, rfl, _⟩ := o5.rh; have t4 := (b5.cell (p := ⟨w.heap.size + 2, 39, none⟩) hlt2).trans a39; have t5 := (b5.frozen (p := ⟨w.heap.size + 2, 39, none⟩) hlt2).trans f39))
  have H5 : Hid (MB (X5.setCell ⟨w.heap.size + 2, 39, none⟩ (.slice ha hn hc)) (w.heap.size + 1) zm ∧ MB (X5.setCell ⟨w.heap.size + 2, 39, none⟩ (.slice ha hn hc)) (w.heap.size + 2) { m with d := .slice da D.length dc, h := .slice ha hn hc } ∧ Below w.heap.size w (X5.setCell ⟨w.heap.size + 2, 39, none⟩ (.slice ha hn hc)) ∧ OW (w.heap.size + 3) (X5.setCell ⟨w.heap.size + 2, 39, none⟩ (.slice ha hn hc)) (.slice da D.length dc) D ∧ OH (w.heap.size + 3) (X5.setCell ⟨w.heap.size + 2, 39, none⟩ (.slice ha hn hc)) (.slice ha hn hc) hb) := by
    have b6 : Below w.heap.size w X5 := H4.out.2.2.2.1.trans (b5.mono (by omega))
    have g1 := H4.out.2.1.below b5
    have g2 := H4.out.2.2.1.below b5
    obtain ⟨n, hn', hown⟩ := o5
    exact ⟨g1.besides (Besides.setCell _ _ _ _) (by omega), g2.set 39 _ (Mv.set39 ok4 _), b6.setCell (by show _ ≤ _ + 2; omega) _, ownsRow_setCell_below (OW.grow H4.out.2.2.2.2.2.1 b5) (by show w.heap.size + 2 < _; omega) _, ⟨n, hn', ownsRow_setCell_below (ownsRow_mono hown (by omega)) (by show w.heap.size + 2 < _; omega) _⟩⟩
  clear t4 t5 o5 b5 HH hlt2 m39 f39 a39 H4 ok4
  generalize X5.setCell ⟨w.heap.size + 2, 39, none⟩ (.slice ha hn hc) = X6 at *
  have ok5 : Mv.ok { m with d := .slice da D.length dc, h := .slice ha hn hc } := ⟨ok.r, ⟨_, _, _, rfl⟩, ⟨_, _, _, rfl⟩⟩
  have l2 := H5.out.2.1.cells
  have l1 := H5.out.1.cells
  have him5 := info_msg ok5
  have hone5 := ok5.one
  have hsz5 : zm.cs.size = Array.size (Mv.cs { m with d := .slice da D.length dc, h := .slice ha hn hc }) := by rw [zm_ok.size, ok5.size]
  have HE : Hid (MB (X6.setRow (w.heap.size + 1) (Mv.cs { m with d := .slice da D.length dc, h := .slice ha hn hc })) (w.heap.size + 1) { m with d := .slice da D.length dc, h := .slice ha hn hc } ∧ OMg w.heap.size (X6.setRow (w.heap.size + 1) (Mv.cs { m with d := .slice da D.length dc, h := .slice ha hn hc })) ⟨{ m with d := .slice da D.length dc, h := .slice ha hn hc }, D, hb⟩ ∧ Below w.heap.size w (X6.setRow (w.heap.size + 1) (Mv.cs { m with d := .slice da D.length dc, h := .slice ha hn hc }))) := by
    refine ⟨H5.out.1.setRow, ⟨ok5, ?_, ?_, hD, hH⟩, belowSetRow H5.out.2.2.1 (by omega) _⟩
    · exact ownsRow_mono (ownsRow_keepB H5.out.2.2.2.1 (fun k hk _ => setRow_other _ _ _ _ (by omega))) (by omega)
    · obtain ⟨n, e1, e2⟩ := H5.out.2.2.2.2
      exact ⟨n, e1, ownsRow_mono (ownsRow_keepB e2 (fun k hk _ => setRow_other _ _ _ _ (by omega))) (by omega)⟩
  have HK : Hid (Mv.ok { m with d := .slice da D.length dc, h := .slice ha hn hc }) := ok5
  clear ok5 H5
  generalize hmm : ({ m with d := .slice da D.length dc, h := .slice ha hn hc } : Mv) = M at *
  have HMM : Hid (({ m with d := .slice da D.length dc, h := .slice ha hn hc } : Mv) = M) := hmm
  clear hmm
  go_wp2_with (first | (refine wpList_load_row rfl 47 _ rfl (w.heap.size + 2) rfl 47 M.cs (0, 0) _ l2 Tryz.underlying47 rfl him5 ?_) | (refine wpList_store_row rfl 47 _ _ rfl (w.heap.size + 1) M.cs rfl rfl 47 zm.cs l1 him5 hsz5 hone5 ?_))
  exact bodyPost_ret (results_msg Tryz.results50 _ _ (w.heap.size + 1) M rfl HE.out.1 HK.out) rfl ⟨_, _, by rw [HMM.out], by rw [HMM.out]; exact HE.out.2.1, HE.out.2.2⟩
set_option maxHeartbeats 2000000 in
set_option maxRecDepth 100000 in
theorem farMsgsT (w : World) (v : Value) (ms : List Mg) (hr : RMS w v ms) (hb : mgW ms ≤ 1048576) :
    Calls Tryz.prog 26 #[v] w fun e w' => e = .returned (.bool false) ∧ Below w.heap.size w w' := by
  obtain ⟨a, c, rfl, _⟩ := id hr
  have HR : Hid (RMS w (.slice a ms.length c) ms ∧ mgW ms ≤ 1048576) := ⟨hr, hb⟩
  clear hr hb
  go_enter Tryz.func26, Tryz.ntmps26
  go_wp2
  generalize hln : ms.length = len at *
  have HN : Hid (ms.length = len) := hln
  have hlm : len ≤ 1048576 := by
    have h1 := (wirB_bulk (w := w) ms (fun x hx => HR.out.1.mem x hx)).2
    have h2 := HR.out.2
    omega
  clear hln
  go_loopw [3, 4] (fun u t wr => ∃ n s : Nat, n ≤ len ∧ t = .int .i64 n ∧ u = .int .i64 s ∧ Hid (s + 9 * n = mgW (ms.take n)) ∧ Hid (Below w.heap.size w wr)) (fun _ t _ => len - (intOf t).toNat)
  case atStart => exact ⟨0, 0, by omega, rfl, rfl, rfl, Below.refl _ _⟩
  case round =>
    obtain ⟨n, s, hn, rfl, rfl, hs, hb⟩ := hrel
    by_cases hlt : n < len
    · have hl2 : n < ms.length := by rw [HN.out]; exact hlt
      have hx : ms[n]? = some ms[n] := List.getElem?_eq_getElem hl2
      generalize ms[n] = x at hx
      obtain ⟨g, o, rfl, hg, hrg, hmx⟩ := HR.out.1.at n x hx
      have hrg' : ∀ (j : Nat) y, x.m.ls[j]? = some y → wr.cell? ⟨g, o + n * 40 + j, none⟩ = some y := fun j y hj => (hb.out.cell (p := ⟨g, o + n * 40 + j, none⟩) hg).trans (hrg j y hj)
      obtain ⟨da, dc, ed, _⟩ := hmx.d
      obtain ⟨ha, hn', hc, eh, hhl, _⟩ := hmx.h
      have c4 : wr.cell? ⟨g, o + n * 40 + 4, none⟩ = some (.slice da x.D.length dc) := by rw [← ed]; exact hrg' 4 _ rfl
      have c39 : wr.cell? ⟨g, o + n * 40 + 39, none⟩ = some (.slice ha hn' hc) := by rw [← eh]; exact hrg' 39 _ hmx.ok.g39
      have ht : ms.take (n + 1) = ms.take n ++ [x] := by rw [List.take_add_one, hx]; rfl
      have hw1 : mgW (ms.take (n + 1)) = mgW (ms.take n) + (10 + x.D.length + x.hb.length) := by rw [ht]; unfold mgW; simp
      have hw2 : mgW (ms.take (n + 1)) ≤ mgW ms := by
        conv => rhs; rw [← List.take_append_drop (n + 1) ms]
        unfold mgW
        rw [List.map_append, List.sum_append]
        omega
      have hw3 := HR.out.2
      have hs0 := hs.out
      have HS : Hid (s + 1 + x.D.length + 32 * hn' + 9 * (n + 1) = mgW (ms.take (n + 1))) := by unfold Hid; omega
      have hsm : s + 1 + x.D.length + 32 * hn' ≤ 1048576 := by omega
      clear hw1 hw2 hw3 hs0 ht hx hrg hrg' hmx ed eh hhl hs
      generalize x.D.length = dl at *
      go_wp2
      go_quiet (fail)
      go_wp2
      exact ⟨⟨n + 1, s + 1 + dl + 32 * hn', by omega, by go_num, by go_num, HS, belowN hb.out _⟩, by simp [intOf]; omega⟩
    · go_wp2
      go_ret
      exact ⟨rfl, hb.out⟩
end Go.Proofs.YtabjpffaleaoaaaGreatDoor
namespace Go.Proofs.YtabjpffaleaoaaaGreatDoor
open Go.RowKit
/-- what the saying keeps -/
structure TL (W : World) (ga Ra : Nat) (Pa : Pv) (L : List Int) (b : Int) (Ha : List UInt8) (pa sa : Nat) (MS : List Mg) (i : Nat) (tv sv : Value) (Pn : Pv) (S ms : List Mg) (wr : World) : Prop where
  fa : FP wr ga Ra Pn L Ha pa sa [] (.slice none 0 0)
  pe : Pn = { Pa with wc := (fl (Pa.wc, Pa.wi, Pa.wb) S).1, wi := (fl (Pa.wc, Pa.wi, Pa.wb) S).2.1, wb := (fl (Pa.wc, Pa.wi, Pa.wb) S).2.2 }
  fr : Fm.Fr (fun k => k ≠ ga) W wr
  ot : OW W.heap.size wr tv (wirB S)
  os : OMS W.heap.size wr sv ms
  sm : SameX ms (S.filter fun x => decide (x.m.k ≠ 1000))
  lg : LgS L b (Pa.wc, Pa.wi, Pa.wb) S
  bu : (wirB S).length ≤ 6 * mgW (MS.take i)
  ml : ms.length ≤ i
  tn : wirB S = [] → tv = .slice none 0 0
  nh : ∀ y ∈ ms, ∀ k, y.m.d.ownBlock = some k → tv.ownBlock ≠ some k
theorem valE_170 (m : Mv) : valE m ≠ 170 := by
  unfold valE
  split
  · decide
  · split
    · decide
    · split
      · split <;> decide
      · decide
theorem leg_of_may {L : List Int} {P : Pv} {m : Mv} {D : List UInt8} (hm : mayE L P m D = true) (hct : m.k = 7 → ctp L P.b m.i m.b D.length = true) : legE L P.b P.wb m D = 0 := by
  unfold mayE at hm
  unfold legE
  by_cases k5 : m.k = 5
  · rw [if_pos k5] at hm ⊢
    simp at hm
    rw [hm.1, if_neg (by simp), if_pos hm.2]
  · rw [if_neg k5] at hm ⊢
    by_cases k4 : m.k = 4
    · rw [if_pos k4] at hm
      rw [if_neg (by omega), if_neg (by omega), if_pos k4, if_pos hm]
    · rw [if_neg k4] at hm
      by_cases k7 : m.k = 7
      · rw [if_pos k7] at hm ⊢
        simp only [Bool.and_eq_true] at hm
        rw [if_pos (hct k7), if_pos hm.2]
      · rw [if_neg k7] at hm ⊢
        by_cases k6 : m.k = 6
        · rw [if_pos k6] at hm
          simp only [Bool.and_eq_true] at hm
          rw [if_pos (.inl k6), if_pos hm.2]
        · rw [if_neg k6] at hm
          by_cases k8 : m.k = 8
          · rw [if_pos k8] at hm
            rw [if_pos (.inr k8), if_pos hm]
          · rw [if_neg (by omega), if_neg k4]
theorem SameX.snoc {xs ys : List Mg} {x y : Mg} (h : SameX xs ys) (h1 : x.D = y.D) (h2 : x.hb = y.hb) (h3 : ∀ d h, ({ x.m with d := d, h := h } : Mv) = { y.m with d := d, h := h }) : SameX (xs ++ [x]) (ys ++ [y]) := by
  refine ⟨by rw [List.length_append, List.length_append, h.1]; rfl, fun k a b ha hb => ?_⟩
  by_cases hk : k < xs.length
  · rw [List.getElem?_append_left hk] at ha
    rw [List.getElem?_append_left (by rw [← h.1]; exact hk)] at hb
    exact h.2 k a b ha hb
  · have e1 := h.1
    rw [List.getElem?_append_right (by omega)] at ha hb
    rw [← e1] at hb
    have hk0 : k - xs.length = 0 := by
      have := (List.getElem?_eq_some_iff.1 ha).1
      simp at this
      omega
    rw [hk0] at ha hb
    simp at ha hb
    subst ha hb
    exact ⟨h1, h2, h3⟩
theorem vx_small {x : Mg} (h : Vx x) : x.D.length ≤ 32768 ∧ x.hb.length ≤ 32768 := by
  obtain ⟨_, b2, b3, _, _⟩ := back_way x.m h.ok x.D x.hb h.v h.d h.h
  have := decS_len (encB x.m x.D x.hb)
  rw [b2, b3] at this
  exact this
theorem OMg.but {B : Nat} {w w' : World} {x : Mg} (h : OMg B w x) {k0 : Option Nat} (hd : ∀ k, x.m.d.ownBlock = some k → k0 ≠ some k) (h5 : ∀ (k : Nat) (cs : Array Value), k0 = some k → w.heap[k]? ≠ some (Obj.cells cs 25 (0, 0))) (g : w.grownBy w' k0) : OMg B w' x := by
  obtain ⟨n, en, hh⟩ := h.h
  refine ⟨h.ok, own_at h.d (fun k hk _ => g.block k (own_ge h.d hk).2 (fun e => hd k hk e.symm)), ⟨n, en, own_at hh (fun k hk hx => g.block k (own_ge hh hk).2 (fun e => ?_))⟩, h.dl, h.hl⟩
  obtain ⟨cs, hx⟩ := hx
  exact h5 k cs e.symm hx
/-- a connection whose blocks all lie below B -/
theorem FP.low {w w' : World} {g R : Nat} {P : Pv} {L : List Int} {H : List UInt8} {p s : Nat} (h : FP w g R P L H p s [] (.slice none 0 0)) {B : Nat} (hb : Below B w w') (hg : g < B) (hR : R < B) (hl : ∀ k, P.ln.ownBlock = some k → k < B) (hh : ∀ k, P.hs.ownBlock = some k → k < B) : FP w' g R P L H p s [] (.slice none 0 0) := by
  have hg1 := h.g1
  refine ⟨h.pk.keep (hb.block g hg), h.stp, h.why, h.gR, h.g1, h.b0, h.b1, h.lok, own_at h.lo (fun k hk _ => hb.block k (hl k hk)), h.lj, own_at h.ho (fun k hk _ => hb.block k (hh k hk)), h.hj, h.hl, (hb.block R hR).trans h.rk, h.st, World.ownsRow_nil _ _ _ _, h.nil, h.kt.below hb (by omega), Nat.lt_of_lt_of_le h.mt.1 hb.size, fun j hj => (World.cell?_of_block (w := w) (hb.block 0 (by omega))).trans (h.mt.2 j hj)⟩
theorem rangeKeepX {u u' : World} {g o : Nat} {xs : List Value} (hr : u.rangeAt g o xs) (hb : Below u.heap.size u u') : u'.rangeAt g o xs := fun j v hj =>
  (World.cell?_of_block (w := u) (hb.block g (World.block_lt_of_cell? u _ (hr j v hj)))).trans (hr j v hj)
theorem pceX {L : List Int} {i : Int} (h : pce L i = true) : 0 ≤ i ∧ i < (L.length : Int) := by
  unfold pce at h
  simpa using h
theorem TL.next {W : World} {ga Ra : Nat} {Pa : Pv} {L : List Int} {b : Int} {Ha : List UInt8} {pa sa : Nat} {MS : List Mg} {i : Nat} {tv sv : Value} {Pn : Pv} {S ms : List Mg} {wr w' : World} (h : TL W ga Ra Pa L b Ha pa sa MS i tv sv Pn S ms wr) (hb : Below wr.heap.size wr w') : TL W ga Ra Pa L b Ha pa sa MS (i + 1) tv sv Pn S ms w' :=
  ⟨h.fa.below hb, h.pe, h.fr.trans (T := fun _ => True) (Fm.Fr.of_below hb) (fun _ _ _ => trivial), h.ot.grow hb, h.os.grow hb, h.sm, h.lg, Nat.le_trans h.bu (Nat.mul_le_mul_left 6 (by
    simp only [mgW, List.map_take]
    rw [List.take_add_one, List.sum_append]
    omega)), Nat.le_succ_of_le h.ml, h.tn, h.nh⟩
theorem wirB_one (S : List Mg) (x : Mg) : wirB (S ++ [x]) = wirB S ++ wirB [x] := by
  unfold wirB
  rw [List.map_append, List.flatten_append]
theorem mgW_take {MS : List Mg} {i : Nat} {x : Mg} (h : MS[i]? = some x) : mgW (MS.take (i + 1)) = mgW (MS.take i) + mgW [x] := by
  rw [List.take_add_one, h]
  simp [mgW]
theorem mgW_le (MS : List Mg) (i : Nat) : mgW (MS.take i) ≤ mgW MS := by
  have e : mgW MS = mgW (MS.take i) + mgW (MS.drop i) := by
    simp only [mgW, List.map_take, List.map_drop]
    rw [← List.sum_append, List.take_append_drop]
  omega
end Go.Proofs.YtabjpffaleaoaaaGreatDoor
