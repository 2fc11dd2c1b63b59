import Derived.Test.YtjgioiljhefcbaaTo
namespace Go.Proofs.Ytjgioiljhefcbaa
open Go.RowKit
/-- those of the first j writes that are kept -/
def pk (us : List Wv) (kl : List Bool) (j : Nat) : List Wv := (List.range j).flatMap fun i => if kl.getD i false then us[i]?.toList else []
theorem pk_succ (us : List Wv) (kl : List Bool) (j : Nat) (u : Wv) (hu : us[j]? = some u) : pk us kl (j + 1) = pk us kl j ++ if kl.getD j false then [u] else [] := by
  unfold pk
  rw [List.range_succ, List.flatMap_append]
  simp [hu]
theorem pk_mem {us : List Wv} {kl : List Bool} {j : Nat} {u : Wv} (h : u ∈ pk us kl j) : u ∈ us := by
  unfold pk at h
  obtain ⟨i, _, hi⟩ := List.mem_flatMap.1 h
  split at hi
  · cases hq : us[i]? with
    | none => rw [hq] at hi; simp at hi
    | some x => rw [hq] at hi; simp at hi; subst hi; exact List.mem_of_getElem? hq
  · cases hi
theorem pk_len (us : List Wv) (kl : List Bool) : ∀ j, (pk us kl j).length ≤ j
  | 0 => by simp [pk]
  | j + 1 => by
    have h := pk_len us kl j
    cases hq : us[j]? with
    | none =>
      have : pk us kl (j + 1) = pk us kl j := by
        unfold pk
        rw [List.range_succ, List.flatMap_append]
        simp [hq]
      rw [this]; omega
    | some u =>
      rw [pk_succ us kl j u hq, List.length_append]
      split <;> simp <;> omega
theorem crS_pk (us : List Wv) (kl : List Bool) (s : Nat) (c : List UInt8) : ∀ j, j ≤ us.length → crS kl (-1) 0 (lv s 0 ((us.take j).map mkW)) c = (nw s ((pk us kl j).map mkW)).getD c
  | 0, _ => by simp [lv, crS, pk, nw]
  | j + 1, h => by
    have ih := crS_pk us kl s c j (by omega)
    obtain ⟨u, hu⟩ : ∃ u, us[j]? = some u := ⟨us[j]'(by omega), List.getElem?_eq_getElem _⟩
    obtain ⟨h1, h2⟩ := List.getElem?_eq_some_iff.1 hu
    have hl : ((us.take j).map mkW).length = j := by rw [List.length_map, List.length_take]; omega
    rw [List.take_succ_eq_append_getElem h1, List.map_append, h2, pk_succ us kl j u hu, List.map_append]
    show crS kl (-1) 0 (lv s 0 ((us.take j).map mkW ++ [mkW u])) c = _
    rw [lv_snoc, hl, Nat.zero_add]
    have hdead : (mkW u).dead = false := rfl
    by_cases hs : (mkW u).at_ = s
    · rw [if_pos ⟨hs, hdead⟩]
      unfold crS at ih ⊢
      rw [List.foldl_append, ih]
      simp only [List.foldl_cons, List.foldl_nil, crX]
      rw [if_neg (show ¬ ((j : Nat) : Int) = -1 by omega)]
      by_cases hk : kl.getD j false = true
      · simp only [hk, if_true, List.map_cons, List.map_nil]
        rw [nw_snoc, if_pos hs]
        rfl
      · simp only [hk]
        simp
    · rw [if_neg (fun h => hs h.1), List.append_nil, ih]
      by_cases hk : kl.getD j false = true
      · simp only [hk, if_true, List.map_cons, List.map_nil]
        rw [nw_snoc, if_neg hs]
      · simp only [hk]
        simp
/-- a crash that keeps some writes is a sync of those alone -/
theorem crash_sync (last : List UInt8) (us : List Wv) (kl : List Bool) : crD kl (-1) 0 last (us.map mkW) = img last ((pk us kl us.length).map mkW) := by
  rw [crD_eq]
  apply lf_congr
  intro i hi
  unfold crB imB
  have h := crS_pk us kl (i / 64) (sec last (i / 64)) us.length (Nat.le_refl _)
  rw [List.take_length] at h
  rw [h]
  cases hn : nw (i / 64) ((pk us kl us.length).map mkW) with
  | some d => rfl
  | none =>
    simp only [Option.getD_none]
    rw [sec_byt _ _ _ (Nat.mod_lt _ (by omega))]
    congr 1
    omega
set_option maxHeartbeats 8000000 in
set_option maxRecDepth 100000 in
theorem historyLaw (iv v kv : Value) (l : List UInt8) (us : List Wv) (keep : List Bool) (w : World) (hi : RB w iv l) (hl : l.length ≤ 140737488351232) (hr : RWv w v us) (hul : us.length ≤ 1048576) (hk : RBo w kv keep) (hkl : keep.length ≤ 1048576) :
    Calls Try.prog 5 #[iv, v, kv] w fun e w' => e = .returned (.bool true) ∧ Below w.heap.size w w' := by
  have HAW := Lib.hid (awake w)
  have HI : Hid (RB w iv l) := hi
  have HR : Hid (RWv w v us) := hr
  have HLL : Hid (l.length ≤ 140737488351232 ∧ us.length ≤ 1048576) := ⟨hl, hul⟩
  obtain ⟨ia, ic, rfl, _, _⟩ := hi
  obtain ⟨wa, wc, rfl, _, _⟩ := hr.1
  have HK : Hid (RBo w kv keep) := hk
  obtain ⟨ka, kc, rfl, _, _⟩ := hk
  clear hr
  go_enter Try.func5, Try.ntmps5
  go_wp2_with fail
  refine HAW.out.mono ?_
  rintro e w1 ⟨rfl, b1⟩
  have P1 : Hid (Below w.heap.size w w1 ∧ RB w1 (.slice ia l.length ic) l ∧ RWv w1 (.slice wa us.length wc) us) := ⟨b1, HI.out.keep b1, HR.out.keep b1⟩
  clear b1 HAW HI HR
  go_wp2_with fail
  refine (whole _ l w1 P1.out.2.1 HLL.out.1).mono ?_
  rintro e w2 ⟨ov, rfl, ho, b2⟩
  obtain ⟨oa, oc, rfl⟩ := ho.form
  have P2 : Hid (Below w.heap.size w w2 ∧ RB w2 (.slice ia l.length ic) l ∧ RWv w2 (.slice wa us.length wc) us ∧ OW w.heap.size w2 (.slice oa (wh l).length oc) (wh l)) := ⟨P1.out.1.trans (b2.mono P1.out.1.size), P1.out.2.1.keep b2, P1.out.2.2.keep b2, ho.mono P1.out.1.size⟩
  clear ho b2 P1
  have hwl : (wh l).length ≤ 32768 := (wh_gd l).2.2
  go_wp2_with fail
  refine (inside _ us ((wh l).length / 64) w2 P2.out.2.2.1 (by omega) (by have := HLL.out.2; omega)).mono ?_
  rintro e w3 ⟨lv', rfl, hx, b3⟩
  obtain ⟨la, lc, hlv⟩ := ownsRow_form hx
  have P3 : Hid (PX w w3 (.slice ia l.length ic) (.slice wa us.length wc) (.slice oa (wh l).length oc) (.slice la (ins l us).length lc) l us) := ⟨P2.out.1.trans (b3.mono P2.out.1.size), P2.out.2.1.keep b3, P2.out.2.2.1.keep b3, P2.out.2.2.2.grow b3, by rw [← show lv' = .slice la (ins l us).length lc from hlv]; exact ownsRow_base hx P2.out.1.size⟩
  have hlv' : lv' = .slice la (ins l us).length lc := hlv
  subst hlv'
  clear hx b3 P2 hlv
  have HNL : Hid ((ins l us).length ≤ 1048576) := Nat.le_trans (ins_len l us) HLL.out.2
  go_wp2_with fail
  refine (kept _ keep (ins l us).length w3 (HK.out.keep P3.out.b) (by omega) (by have := HNL.out; omega)).mono ?_
  rintro e w4 ⟨kw, rfl, hko, b4⟩
  obtain ⟨ga, ck, hkw⟩ := ownsRow_form hko
  rw [kp_len] at hkw
  subst hkw
  have P4 : Hid (PX w w4 (.slice ia l.length ic) (.slice wa us.length wc) (.slice oa (wh l).length oc) (.slice la (ins l us).length lc) l us ∧ OBo w.heap.size w4 (.slice ga (ins l us).length ck) (kp keep (ins l us).length)) := ⟨P3.out.on b4, ownsRow_base hko P3.out.b.size⟩
  clear hko b4 P3 HK
  have HKL : Hid ((kp keep (ins l us).length).length = (ins l us).length) := kp_len _ _
  generalize kp keep (ins l us).length = kl at *
  generalize hns : (ins l us).length = n at *
  have HNS : Hid ((ins l us).length = n) := hns
  clear hns
  go_wp2_with fail
  go_loopw [11, 12] (fun v i wr => ∃ (k vn : Nat) (va : Option Addr) (vc : Nat), k ≤ n ∧ i = .int .i64 k ∧ v = .slice va vn vc ∧ Hid (OWv w4.heap.size wr (.slice va vn vc) (pk (ins l us) kl k) ∧ Below w4.heap.size w4 wr)) (fun _ i _ => n - (intOf i).toNat)
  case atStart => exact ⟨0, 0, none, 0, Nat.zero_le _, rfl, rfl, World.ownsRow_nil _ _ _ _, Below.refl _ _⟩
  case round =>
    obtain ⟨k, vn, va, vc, hk, rfl, rfl, H⟩ := hrel
    have hn30 : n ≤ 1048576 := by have := HNL.out; omega
    by_cases hlt : k < n
    · have HX := Lib.hid (P4.out.1.on H.out.2)
      have HO := Lib.hid (P4.out.2.on H.out.2)
      obtain ⟨u, hu⟩ : ∃ u, (ins l us)[k]? = some u := ⟨(ins l us)[k]'(by rw [HNS.out]; exact hlt), List.getElem?_eq_getElem _⟩
      obtain ⟨g, rfl⟩ : ∃ g, la = some ⟨g, 0, none⟩ := by
        rcases HX.out.x.2 with ⟨e, h0⟩ | ⟨g, c', _, e, _⟩
        · have := HNS.out; omega
        · simp only [Value.slice.injEq] at e
          exact ⟨g, e.1⟩
      obtain ⟨gb, rfl⟩ : ∃ g, ga = some ⟨g, 0, none⟩ := by
        rcases HO.out.2 with ⟨e, h0⟩ | ⟨g, c', _, e, _⟩
        · have := HKL.out; omega
        · simp only [Value.slice.injEq] at e
          exact ⟨g, e.1⟩
      obtain ⟨hc1, hc2⟩ := OWv.at HX.out.x k u hu
      have hkc := (HO.out.set k (by rw [HKL.out]; exact hlt) false).1
      have HP := pk_succ (ins l us) kl k u hu
      have hone : u.dv.oneCell' = true := (HX.out.rx.2 u (List.mem_of_getElem? hu)).1.one
      cases hb : kl.getD k false with
      | false =>
        rw [hb] at hkc HP
        have HN : Hid (OWv w4.heap.size wr (.slice va vn vc) (pk (ins l us) kl (k + 1)) ∧ Below w4.heap.size w4 wr) := ⟨by rw [HP]; simpa using H.out.1, H.out.2⟩
        clear H hc1 hc2 HP hu hone HX HO
        go_wp2_with fail
        go_roundw
        case rel => exact ⟨k + 1, vn, va, vc, by omega, by go_num, rfl, HN⟩
        case measure => (simp [intOf]; omega)
      | true =>
        rw [hb] at hkc HP
        have HT : Hid (pk (ins l us) kl (k + 1) = pk (ins l us) kl k ++ [u]) := by rw [HP]; rfl
        have HA : Hid (OWv w4.heap.size (wr.alloc (.cells #[.int .i64 u.at_, u.dv] 45)) (.slice va vn vc) (pk (ins l us) kl k) ∧ w4.heap.size ≤ (wr.alloc (.cells #[.int .i64 u.at_, u.dv] 45)).heap.size ∧ Below w4.heap.size w4 (wr.alloc (.cells #[.int .i64 u.at_, u.dv] 45)) ∧ (pk (ins l us) kl k).length < 1073741824) :=
          ⟨ownsRow_fr (S := fun _ => True) H.out.1 (Fr.of_below ((Below.refl _ _).alloc (Nat.le_refl _) _)) (fun _ _ => trivial), by have := H.out.2.size; simp; omega, H.out.2.alloc H.out.2.size _, by have := pk_len (ins l us) kl k; omega⟩
        have HG : Hid (∀ W : World, (W.alloc (.cells #[.int .i64 u.at_, u.dv] 45)).heap[W.heap.size]? = some (.cells #[.int .i64 u.at_, u.dv] 45 (0, 0))) := fun W => heapNew _ _
        clear H hu HP HX HO
        obtain ⟨ua, ud, ul⟩ := u
        dsimp only at *
        go_wp2_with (at_builtin; refine append_wr rfl _ _ rfl rfl HA.out.1 wr.heap.size ⟨ua, ud, ul⟩ rfl (HG.out wr) hone HA.out.2.1 HA.out.2.2.2 ?_; intro v' w5 ho1 hb1; obtain ⟨a', n', c', rfl⟩ : ∃ a n c, v' = .slice a n c := (by obtain ⟨a, c, e⟩ := ownsRow_form ho1; exact ⟨a, _, c, e⟩); have HN : Hid (OWv w4.heap.size w5 (.slice a' n' c') (pk (ins l us) kl (k + 1)) ∧ Below w4.heap.size w4 w5) := ⟨by rw [HT.out]; exact ho1, HA.out.2.2.1.trans hb1⟩; clear ho1 hb1 HA HT)
        go_roundw
        case rel => exact ⟨k + 1, n', a', c', by omega, by go_num, rfl, HN⟩
        case measure => (simp [intOf]; omega)
    · have hkn : k = (ins l us).length := by rw [HNS.out]; omega
      have HE : Hid (OWv w4.heap.size wr (.slice va vn vc) (pk (ins l us) kl (ins l us).length) ∧ Below w4.heap.size w4 wr) := by rw [← hkn]; exact H.out
      have P5 : Hid (PX w wr (.slice ia l.length ic) (.slice wa us.length wc) (.slice oa (wh l).length oc) (.slice la n lc) l us ∧ OBo w.heap.size wr (.slice ga n ck) kl ∧ RWv wr (.slice va vn vc) (pk (ins l us) kl (ins l us).length)) :=
        ⟨P4.out.1.on H.out.2, P4.out.2.on H.out.2, HE.out.1.rw (fun u hu => (P4.out.1.on H.out.2).rx.2 u (pk_mem hu))⟩
      clear H hkn HE P4
      go_wp2_with fail
      refine (P5.out.1.made HLL.out.2).mono ?_
      rintro e w6 ⟨pa, rfl, hda, b6⟩
      have M6 : Hid (DK (fun k => wr.heap.size ≤ k ∧ k < w6.heap.size) w6 pa (dk0 l us) ∧ wr.heap.size ≤ w6.heap.size) := ⟨hda.sub (fun k hk h => ⟨h, hk⟩), b6.size⟩
      have P6 : Hid (PX w w6 (.slice ia l.length ic) (.slice wa us.length wc) (.slice oa (wh l).length oc) (.slice la n lc) l us ∧ OBo w.heap.size w6 (.slice ga n ck) kl ∧ RWv w6 (.slice va vn vc) (pk (ins l us) kl (ins l us).length) ∧ (∀ g, (Value.slice ga n ck).ownBlock = some g → g < wr.heap.size) ∧ w.heap.size ≤ wr.heap.size) := ⟨P5.out.1.on b6, P5.out.2.1.on b6, P5.out.2.2.keep b6, fun g hg => (ownsRow_lt P5.out.2.1 g hg).1, P5.out.1.b.size⟩
      clear hda b6 P5
      go_wp2_with fail
      have hgd := wh_gd l
      refine (made _ _ (wh l) (pk (ins l us) kl (ins l us).length) w6 P6.out.1.o.rb hgd.1 hgd.2.1 (by omega) P6.out.2.2.1 (by have := pk_len (ins l us) kl (ins l us).length; have := HNS.out; omega) (fun u hu => ins_in l us u (pk_mem hu))).mono ?_
      rintro e w7 ⟨pb, rfl, hdb, b7⟩
      have M7 : Hid (DK (fun k => wr.heap.size ≤ k ∧ k < w6.heap.size) w7 pa (dk0 l us) ∧ DK (fun k => w6.heap.size ≤ k) w7 pb ⟨wh l, (pk (ins l us) kl (ins l us).length).map mkW, none⟩ ∧ Below w.heap.size w w7 ∧ OBo w.heap.size w7 (.slice ga n ck) kl) := ⟨M6.out.1.below b7, hdb, (P6.out.1.on b7).b, P6.out.2.1.on b7⟩
      have HSZ : Hid (wr.heap.size ≤ w6.heap.size ∧ w.heap.size ≤ wr.heap.size ∧ ∀ g, (Value.slice ga n ck).ownBlock = some g → g < wr.heap.size) := ⟨M6.out.2, P6.out.2.2.2.2, P6.out.2.2.2.1⟩
      have HCS : Hid (crD kl (-1) 0 (dk0 l us).last (dk0 l us).ws = img (wh l) ((pk (ins l us) kl (ins l us).length).map mkW)) := crash_sync (wh l) (ins l us) kl
      have HGD : Hid ((dk0 l us).ws.length = n) := by rw [dk0_len]; exact HNS.out
      have HIL : Hid ((img (wh l) ((pk (ins l us) kl (ins l us).length).map mkW)).length ≤ 140737488351232) := by
        show (img _ _).length ≤ _
        rw [img_len]; omega
      clear hdb b7 M6 P6 hgd
      have NC := Lib.hid (crash M7.out.1 _ kl M7.out.2.2.2.rb (by rw [HGD.out]; exact HKL.out) (fun g hg h => by have := HSZ.out.2.2 g hg; omega) (by rw [HGD.out]; omega) (-1) 0 (by omega) (by omega) (fun h => absurd rfl h))
      rw [if_pos rfl, HCS.out] at NC
      generalize dk0 l us = D0 at *
      generalize (pk (ins l us) kl (ins l us).length).map mkW = ws2 at *
      generalize him : img (wh l) ws2 = im at *
      have HIM : Hid (img (wh l) ws2 = im) := him
      clear him
      go_wp2_with fail
      refine NC.out.mono ?_
      rintro e w8 ⟨rfl, hd, hf⟩
      have M8 : Hid (DK (fun k => wr.heap.size ≤ k ∧ k < w6.heap.size) w8 pa ⟨im, [], none⟩ ∧ DK (fun k => w6.heap.size ≤ k) w8 pb ⟨wh l, ws2, none⟩ ∧ Below w.heap.size w w8) := by
        obtain ⟨q1, q2, _⟩ := HSZ.out
        have hz := M7.out.2.2.1.size
        exact ⟨hd, M7.out.2.1.fr (hf.mono (fun k _ h => by omega)), ⟨hf.os.trans M7.out.2.2.1.os, hf.tape.trans M7.out.2.2.1.tape, hf.output.trans M7.out.2.2.1.output, Nat.le_trans hz hf.size, fun k hk => (hf.block k (by omega) (by omega)).trans (M7.out.2.2.1.block k hk)⟩⟩
      clear hd hf NC M7
      go_wp2_with fail
      refine (sync_live M8.out.2.1 rfl).mono ?_
      rintro e w9 ⟨rfl, hd, hf⟩
      have M9 : Hid (DK (fun k => wr.heap.size ≤ k ∧ k < w6.heap.size) w9 pa ⟨im, [], none⟩ ∧ DK (fun k => w6.heap.size ≤ k) w9 pb ⟨im, [], none⟩ ∧ Below w.heap.size w w9) := by
        obtain ⟨q1, q2, _⟩ := HSZ.out
        have hz := M8.out.2.2.size
        have hd' : DK (fun k => w6.heap.size ≤ k) w9 pb ⟨img (wh l) ws2, [], none⟩ := hd
        rw [HIM.out] at hd'
        exact ⟨M8.out.1.fr (hf.mono (fun k _ h => by omega)), hd', ⟨hf.os.trans M8.out.2.2.os, hf.tape.trans M8.out.2.2.tape, hf.output.trans M8.out.2.2.output, Nat.le_trans hz hf.size, fun k hk => (hf.block k (by omega) (by omega)).trans (M8.out.2.2.block k hk)⟩⟩
      clear hd hf M8
      go_wp2_with fail
      refine (image M9.out.1).mono ?_
      rintro e w10 ⟨v10, rfl, ho, hb⟩
      have ho' : OW w9.heap.size w10 v10 (img im []) := ho
      rw [img_nil] at ho'
      have M10 : Hid (DK (fun k => wr.heap.size ≤ k ∧ k < w6.heap.size) w10 pa ⟨im, [], none⟩ ∧ DK (fun k => w6.heap.size ≤ k) w10 pb ⟨im, [], none⟩ ∧ Below w.heap.size w w10 ∧ RB w10 v10 im) := ⟨M9.out.1.below hb, M9.out.2.1.below hb, M9.out.2.2.trans (hb.mono M9.out.2.2.size), ho'.rb⟩
      obtain ⟨a10, c10, e10⟩ := ho'.form
      subst e10
      clear ho ho' hb M9
      go_wp2_with fail
      refine (image M10.out.2.1).mono ?_
      rintro e w11 ⟨v11, rfl, ho, hb⟩
      have ho' : OW w10.heap.size w11 v11 (img im []) := ho
      rw [img_nil] at ho'
      have M11 : Hid (DK (fun k => wr.heap.size ≤ k ∧ k < w6.heap.size) w11 pa ⟨im, [], none⟩ ∧ DK (fun k => w6.heap.size ≤ k) w11 pb ⟨im, [], none⟩ ∧ Below w.heap.size w w11 ∧ RB w11 (.slice a10 im.length c10) im ∧ RB w11 v11 im) := ⟨M10.out.1.below hb, M10.out.2.1.below hb, M10.out.2.2.1.trans (hb.mono M10.out.2.2.1.size), M10.out.2.2.2.keep hb, ho'.rb⟩
      obtain ⟨a11, c11, e11⟩ := ho'.form
      subst e11
      clear ho ho' hb M10
      go_wp2_with fail
      refine (same _ _ im w11 HIL.out M11.out.2.2.2.1 M11.out.2.2.2.2).mono ?_
      rintro e w12 ⟨rfl, nq, rfl⟩
      have M12 : Hid (DK (fun k => wr.heap.size ≤ k ∧ k < w6.heap.size) (w11.drewN nq) pa ⟨im, [], none⟩ ∧ DK (fun k => w6.heap.size ≤ k) (w11.drewN nq) pb ⟨im, [], none⟩ ∧ Below w.heap.size w (w11.drewN nq)) := ⟨M11.out.1.below (belowDrew _ _), M11.out.2.1.below (belowDrew _ _), belowN M11.out.2.2.1 nq⟩
      clear M11
      generalize w11.drewN nq = w12 at *
      go_wp2_with fail
      refine (durable M12.out.1).mono ?_
      rintro e w13 ⟨v13, rfl, ho, hb⟩
      have ho' : OW w12.heap.size w13 v13 im := ho
      have M13 : Hid (DK (fun k => w6.heap.size ≤ k) w13 pb ⟨im, [], none⟩ ∧ Below w.heap.size w w13 ∧ RB w13 v13 im) := ⟨M12.out.2.1.below hb, M12.out.2.2.trans (hb.mono M12.out.2.2.size), ho'.rb⟩
      obtain ⟨a13, c13, e13⟩ := ho'.form
      subst e13
      clear ho ho' hb M12
      go_wp2_with fail
      refine (durable M13.out.1).mono ?_
      rintro e w14 ⟨v14, rfl, ho, hb⟩
      have ho' : OW w13.heap.size w14 v14 im := ho
      have M14 : Hid (Below w.heap.size w w14 ∧ RB w14 (.slice a13 im.length c13) im ∧ RB w14 v14 im) := ⟨M13.out.2.1.trans (hb.mono M13.out.2.1.size), M13.out.2.2.keep hb, ho'.rb⟩
      obtain ⟨a14, c14, e14⟩ := ho'.form
      subst e14
      clear ho ho' hb M13
      go_wp2_with fail
      refine (same _ _ im w14 HIL.out M14.out.2.1 M14.out.2.2).mono ?_
      rintro e w15 ⟨rfl, nq2, rfl⟩
      have M15 : Hid (Below w.heap.size w (w14.drewN nq2)) := belowN M14.out.1 nq2
      clear M14
      generalize w14.drewN nq2 = w15 at *
      go_wp2_with fail
      go_ret
      exact ⟨rfl, M15.out⟩
end Go.Proofs.Ytjgioiljhefcbaa
