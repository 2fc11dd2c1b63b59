import Derived.Test.YtmfeelkjbpjhdaaKh
namespace Go.Proofs.Ytmfeelkjbpjhdaa
open Go.RowKit
set_option maxHeartbeats 8000000 in
set_option maxRecDepth 100000 in
theorem keptLaw (hb : List UInt8) (v cv : Value) (L : List (List UInt8)) (zs : List Int) (h48 : hb.length = 48) (hl : L.length + (L.map List.length).sum ≤ 1048576) (hzl : zs.length ≤ 1048576) (hz : ∀ z ∈ zs, -9223372036854775808 ≤ z ∧ z ≤ 9223372036854775807) (w : World) (hr : RBS w v L) (hc : RI w cv zs) :
    Calls Try.prog 3 #[.agg (bc hb), v, cv] w fun e w' => e = .returned (.bool true) ∧ Below w.heap.size w w' := by
  have BW : Below w.heap.size w (w.alloc (.cells (bc hb) 25)) := (Below.refl _ _).alloc (Nat.le_refl _) _
  obtain ⟨W, hW⟩ : ∃ W, W = w.alloc (.cells (bc hb) 25) := ⟨_, rfl⟩
  have HR0 : RBS W v L := by rw [hW]; exact hr.keep BW
  have HC : Hid (RI w cv zs) := hc
  have HZ : Hid (∀ z ∈ zs, -9223372036854775808 ≤ z ∧ z ≤ 9223372036854775807) := hz
  have HBX : Hid (W.heap[w.heap.size]? = some (.cells (bc hb) 25 (0, 0)) ∧ Below w.heap.size w W ∧ w.heap.size < W.heap.size) := by rw [hW]; exact ⟨heapNew _ _, BW, by simp⟩
  have HWE : Hid (W = w.alloc (.cells (bc hb) 25)) := hW
  have HSZ : Hid (∀ i, sz (gd (L.take i)) ≤ 4194304 ∧ (gd (L.take i)).length ≤ 1048576) := fun i => ⟨by have := sz_gd_take L i; omega, by have := gd_len (L.take i); rw [List.length_take] at this; omega⟩
  have HTL : Hid (∀ i, i < L.length → (L.getD i []).length ≤ 1048576) := fun i hi => by have := mem_le L i hi; omega
  have hLn : L.length ≤ 1048576 := by omega
  obtain ⟨a, c, rfl, hle, _⟩ := hr
  obtain ⟨ca, cc, rfl, _, _⟩ := hc
  have HR : Hid (∀ i, i < L.length → ∃ g o ua uc, a = some ⟨g, o, none⟩ ∧ (∀ wr, Below W.heap.size W wr → wr.cell? ⟨g, o + i, none⟩ = some (.slice ua (L.getD i []).length uc)) ∧ RB W (.slice ua (L.getD i []).length uc) (L.getD i [])) := rbs_get HR0
  clear hz HR0 hl BW hW
  go_enter Try.func3, Try.ntmps3
  go_wp2
  rw [← HWE.out]
  clear HWE
  go_loopw [7, 8, 9, 10] (fun bv sv av t wr => ∃ (i : Nat) (BS : List (List UInt8)) (ba sa aa : Option Addr) (nb bcap ns scap na acap : Nat), bv = .slice ba nb bcap ∧ sv = .slice sa ns scap ∧ av = .slice aa na acap ∧ t = .int .i64 i ∧ i ≤ L.length ∧ Hid (BS = gd (L.take i) ∧ KJ W (fms BS) BS (dbl BS) wr.heap.size (.slice ba nb bcap) (.slice sa ns scap) (.slice aa na acap) wr)) (fun _ _ _ t _ => L.length - (intOf t).toNat)
  case atStart => exact ⟨0, [], none, none, none, 0, 0, 0, 0, 0, 0, rfl, rfl, rfl, rfl, Nat.zero_le _, by simp [gd], World.ownsRow_nil _ _ _ _, fun _ => rfl, RR.nil _ _, OB.nil _ _ _, fun g e => by simp [Value.ownBlock] at e, Below.refl _ _⟩
  case round =>
    obtain ⟨i, BS, ba, sa, aa, nb, bcap, ns, scap, na, acap, rfl, rfl, rfl, rfl, hi, H⟩ := hrel
    obtain ⟨w1, hw1⟩ : ∃ x, x = wr := ⟨_, rfl⟩
    subst hw1
    by_cases hlt : i < L.length
    · as_aux_lemma =>
      have i0 : (i : Int) < (L.length : Int) := by omega
      have i1 : (0 : Int) ≤ (i : Int) := by omega
      obtain ⟨g, o, ua, uc, rfl, hcell, hrb⟩ := HR.out i hlt
      have HRB : Hid (RB W (.slice ua (L.getD i []).length uc) (L.getD i [])) := hrb
      have hT := HTL.out i hlt
      have HI : Hid (i < L.length) := hlt
      have HNO : Hid (¬ (L.getD i []).length ≤ 32768 → gd (L.take (i + 1)) = gd (L.take i)) := gd_no L i hlt
      have HYE : Hid ((L.getD i []).length ≤ 32768 → gd (L.take (i + 1)) = gd (L.take i) ++ [L.getD i []]) := gd_yes L i hlt
      have HCE : Hid (∀ wr, Below W.heap.size W wr → wr.cell? ⟨g, o + i, none⟩ = some (.slice ua (L.getD i []).length uc)) := hcell
      clear hrb hcell HR HTL
      generalize L.getD i [] = T at *
      have q0 := HCE.out w1 H.out.2.bel
      have CP : Hid (Calls Try.prog 4 #[.slice ua T.length uc] w1 fun e w' => ∃ v, e = .returned v ∧ OW w1.heap.size w' v T ∧ Below w1.heap.size w1 w') := copied (HRB.out.keep H.out.2.bel) (by omega)
      go_wp2_with fail
      refine CP.out.mono ?_
      rintro e w2 ⟨cv2, rfl, o2, b2⟩
      clear q0 CP
      have K2 : Hid (OW w1.heap.size (w2.alloc (.cells #[.int .u8 201, .int .u8 202, .int .u8 203] 5)) cv2 T ∧ RB (w2.alloc (.cells #[.int .u8 201, .int .u8 202, .int .u8 203] 5)) (.slice (some ⟨w2.heap.size, 0, none⟩) 3 3) [201, 202, 203] ∧ Below w1.heap.size w1 (w2.alloc (.cells #[.int .u8 201, .int .u8 202, .int .u8 203] 5))) := ⟨o2.alloc _, rb_block (heapNew _ _) 3 rfl, b2.alloc b2.size _⟩
      obtain ⟨ca2, cc2, rfl⟩ := o2.form
      have hT3 : T.length + [(201 : UInt8), 202, 203].length ≤ 140737488351232 := by simp; omega
      clear o2 b2
      go_wp2_with (first | (at_builtin; refine append_bytes rfl _ _ rfl rfl K2.out.1 rfl K2.out.2.1 K2.out.2.2.size hT3 ?_; intro v3 w3 k1 k2; have K3 : Hid (OW w1.heap.size w3 v3 (T ++ [201, 202, 203]) ∧ Below w1.heap.size w1 w3) := ⟨k1, K2.out.2.2.trans k2⟩; obtain ⟨G, cap, hG, oG, hcap, c0, c1, c2, rfl⟩ := room_of k1 rfl; clear k1 k2 K2))
      have hGl : G < w3.heap.size := (oG.blk G rfl).2
      have KC : Hid (∀ wx, Below w3.heap.size w3 wx → wx.cell? ⟨G, T.length, none⟩ = some (.int .u8 201) ∧ wx.cell? ⟨G, T.length + 1, none⟩ = some (.int .u8 202) ∧ wx.cell? ⟨G, T.length + 2, none⟩ = some (.int .u8 203)) := fun wx hb => ⟨(hb.cell (p := ⟨G, T.length, none⟩) hGl).trans c0, (hb.cell (p := ⟨G, T.length + 1, none⟩) hGl).trans c1, (hb.cell (p := ⟨G, T.length + 2, none⟩) hGl).trans c2⟩
      have OG : Hid (OW w1.heap.size w3 (.slice (some ⟨G, 0, none⟩) T.length cap) T ∧ w1.heap.size ≤ G ∧ G < w3.heap.size) := ⟨oG, hG, hGl⟩
      clear c0 c1 c2 hGl oG hG
      by_cases hsm : T.length ≤ 32768
      · as_aux_lemma =>
        have HY2 : Hid (gd (L.take (i + 1)) = gd (L.take i) ++ [T]) := HYE.out hsm
        have WY : Hid (Calls Try.prog 5 #[.slice (some ⟨G, 0, none⟩) T.length cap] w3 fun e w' => ∃ v', e = .returned (.tuple #[v', .int .i64 0]) ∧ BK (fun g => w3.heap.size ≤ g) w' v' (frm T) ∧ Below w3.heap.size w3 w') := wrapK _ T hsm w3 OG.out.1.rb
        clear HYE HNO
        refine WY.out.mono ?_
        rintro e w4 ⟨fv, rfl, f4, b4⟩
        have WZ : Hid (Calls Try.prog 5 #[.slice (some ⟨G, 0, none⟩) T.length cap] w4 fun e w' => ∃ v', e = .returned (.tuple #[v', .int .i64 0]) ∧ BK (fun g => w4.heap.size ≤ g) w' v' (frm T) ∧ Below w4.heap.size w4 w') := wrapK _ T hsm w4 (OG.out.1.grow b4).rb
        have K4 : Hid (BK (fun g => w3.heap.size ≤ g) w4 fv (frm T) ∧ Below w3.heap.size w3 w4) := ⟨f4, b4⟩
        obtain ⟨fg, fn, rfl⟩ : ∃ g n, fv = .slice (some ⟨g, 0, none⟩) n n := by obtain ⟨g, _, e, _⟩ := f4; exact ⟨g, _, e⟩
        clear WY f4 b4
        go_wp2_with fail
        refine WZ.out.mono ?_
        rintro e w5 ⟨gv, rfl, g5, b5⟩
        obtain ⟨gg, gn, rfl⟩ : ∃ g n, gv = .slice (some ⟨g, 0, none⟩) n n := by obtain ⟨g, _, e, _⟩ := g5; exact ⟨g, _, e⟩
        have B35 : Below w3.heap.size w3 w5 := K4.out.2.trans (b5.mono K4.out.2.size)
        have B15 : Below w1.heap.size w1 w5 := K3.out.2.trans (B35.mono K3.out.2.size)
        have BW5 : Below W.heap.size W w5 := H.out.2.bel.trans (B15.mono H.out.2.bel.size)
        have K5 : Hid (BK (fun g => w3.heap.size ≤ g ∧ g < w4.heap.size) w5 (.slice (some ⟨fg, 0, none⟩) fn fn) (frm T) ∧ BK (fun g => w4.heap.size ≤ g) w5 (.slice (some ⟨gg, 0, none⟩) gn gn) (frm T) ∧ Below w1.heap.size w1 w5 ∧ OW w1.heap.size w5 (.slice (some ⟨G, 0, none⟩) (T.length + 3) cap) (T ++ [201, 202, 203]) ∧ w3.heap.size ≤ w4.heap.size ∧ w4.heap.size ≤ w5.heap.size) := ⟨K4.out.1.keep (fun k _ hl _ => b5.block k hl) (fun g x hl => ⟨x, hl⟩), g5, B15, K3.out.1.grow B35, K4.out.2.size, b5.size⟩
        obtain ⟨c0, c1, c2⟩ := KC.out w5 B35
        have q5 := HCE.out w5 BW5
        have SM : Hid (∀ n, Calls Try.prog 6 #[.slice (some ⟨G, 0, none⟩) T.length cap, .slice ua T.length uc] (w5.drewN n) fun e w' => e = .returned (.bool true) ∧ ∃ m, w' = w5.drewN m) := fun n => by
          refine (same _ _ T (w5.drewN n) (by omega) ((OG.out.1.grow B35).rb.keep (belowDrew _ _)) ((HRB.out.keep BW5).keep (belowDrew _ _))).mono ?_
          rintro e w' ⟨rfl, m, rfl⟩
          exact ⟨rfl, n + m, drewN2 _ _ _⟩
        have hl1 : (T.length : Int) + 2 < (T.length : Int) + 3 := by omega
        clear WZ g5 b5 B35 B15 BW5 K4 K3
        go_wp2
        go_quiet ((go_at_call 6; exact SM.out _))
        rename_i nq
        clear c0 c1 c2 q5 SM
        have MK : Hid (Calls Try.prog 7 #[.slice (some ⟨G, 0, none⟩) (T.length + 3) cap, .int .i64 5] (w5.drewN nq) fun e w' => (∃ v', e = .returned v') ∧ Fr (fun k => (Value.slice (some ⟨G, 0, none⟩) (T.length + 3) cap).ownBlock ≠ some k) (w5.drewN nq) w') := marked _ (T ++ [201, 202, 203]) 5 w1.heap.size (w5.drewN nq) (K5.out.2.2.2.1.grow (belowDrew _ _)) (fun e => by simp at e) K5.out.2.2.1.size (by simp; omega) (by omega)
        go_wp2_with fail
        refine MK.out.mono ?_
        rintro e w6 ⟨⟨mv, rfl⟩, f6⟩
        have B16 : Below w1.heap.size w1 w6 := bel_fr (belowN K5.out.2.2.1 nq) f6 (fun k hk e => by have := OG.out.2.1; simp [Value.ownBlock] at e; omega) (Nat.le_refl _)
        have hbv : ∀ g, w1.heap.size ≤ g → (Value.slice ba nb bcap).ownBlock ≠ some g := fun g hg e => by have := (H.out.2.ow.blk g e).2; omega
        have h6 : ∀ k, w3.heap.size ≤ k → k < w5.heap.size → w6.heap[k]? = w5.heap[k]? := fun k h1 h2 => f6.block k h2 (fun e => by have := OG.out.2.2; simp [Value.ownBlock] at e; omega)
        have hw13 : w1.heap.size ≤ w3.heap.size := by have := OG.out.2; omega
        have F6 : KF W (fms BS) BS (dbl BS) w1.heap.size w4.heap.size T (.slice ba nb bcap) (.slice sa ns scap) (.slice aa na acap) (.slice (some ⟨fg, 0, none⟩) fn fn) (.slice (some ⟨gg, 0, none⟩) gn gn) w6 :=
          ⟨H.out.2.keep B16, K5.out.1.keep (fun k hk hl _ => h6 k hk.1 hl) (fun g x _ => ⟨⟨by have := x.1; omega, hbv g (by have := x.1; omega)⟩, x.2⟩), K5.out.2.1.keep (fun k hk hl _ => h6 k (by have := K5.out.2.2.2.2.1; omega) hl) (fun g x _ => ⟨x, hbv g (by have := K5.out.2.2.2.2.1; omega)⟩), H.out.2.bel.size, by have := K5.out.2.2.2.2.1; omega⟩
        have q6 := HCE.out w6 F6.kj.bel
        have F7 : Hid (KF W (fms BS) BS (dbl BS) w1.heap.size w4.heap.size T (.slice ba nb bcap) (.slice sa ns scap) (.slice aa na acap) (.slice (some ⟨fg, 0, none⟩) fn fn) (.slice (some ⟨gg, 0, none⟩) gn gn) (w6.alloc (.cells #[.slice ua T.length uc] 28))) := F6.keep ((Below.refl _ _).alloc (Nat.le_refl _) _)
        have HBL : Hid (BS.length < 1073741824 ∧ (fms BS).length + (frm T).length ≤ 140737488351232 ∧ (dbl BS).length < 1073741824 ∧ (dbl BS ++ [frm T]).length < 1073741824) := by
          have h1 := HSZ.out i
          rw [← H.out.1] at h1
          exact ⟨by omega, by rw [fms_len, frm_len]; omega, by rw [dbl_len]; omega, by rw [List.length_append, dbl_len, List.length_singleton]; omega⟩
        have HBS : Hid (BS = gd (L.take i)) := H.out.1
        clear MK f6 B16 hbv h6 hw13 F6 K5 H
        go_wp2_with (first
          | (at_builtin; refine append_s rfl _ _ rfl rfl F7.out w6.heap.size _ rfl (cellNew _ _ _) HRB.out HBL.out.1 ?_; intro v' w7 k1; obtain ⟨va, vn, vc, hvn, rfl⟩ := k1.kj.rr.form3; have F8 : Hid (KF W (fms BS) (BS ++ [T]) (dbl BS) w1.heap.size w4.heap.size T (.slice ba nb bcap) (.slice va vn vc) (.slice aa na acap) (.slice (some ⟨fg, 0, none⟩) fn fn) (.slice (some ⟨gg, 0, none⟩) gn gn) w7) := k1; clear k1 hvn F7 q6)
          | (at_builtin; refine append_b rfl _ _ rfl rfl F8.out rfl HBL.out.2.1 ?_; intro v' w8 k1; rw [← fms_snoc] at k1; obtain ⟨xa, xn, xc, hxn, rfl⟩ := k1.kj.ow.form4; have F9 : Hid (KF W (fms (BS ++ [T])) (BS ++ [T]) (dbl BS) w1.heap.size w4.heap.size T (.slice xa xn xc) (.slice va vn vc) (.slice aa na acap) (.slice (some ⟨fg, 0, none⟩) fn fn) (.slice (some ⟨gg, 0, none⟩) gn gn) (w8.alloc (.cells #[.slice (some ⟨fg, 0, none⟩) fn fn] 28))) := k1.keep ((Below.refl _ _).alloc (Nat.le_refl _) _); clear k1 hxn F8)
          | (at_builtin; refine append_f rfl _ _ rfl rfl F9.out w8.heap.size rfl (cellNew _ _ _) HBL.out.2.2.1 ?_; intro v' w9 k1; obtain ⟨ya, yn, yc, rfl⟩ := k1.kj.al.rbs.form3; have FA : Hid (KG W (fms (BS ++ [T])) (BS ++ [T]) (dbl BS ++ [frm T]) w4.heap.size T (.slice xa xn xc) (.slice va vn vc) (.slice ya yn yc) (.slice (some ⟨gg, 0, none⟩) gn gn) (w9.alloc (.cells #[.slice (some ⟨gg, 0, none⟩) gn gn] 28))) := k1.keep ((Below.refl _ _).alloc (Nat.le_refl _) _); clear k1 F9)
          | (at_builtin; refine append_g rfl _ _ rfl rfl FA.out w9.heap.size rfl (cellNew _ _ _) HBL.out.2.2.2 ?_; intro v' w10 k1; rw [← dbl_snoc] at k1; obtain ⟨za, zn, zc, rfl⟩ := k1.al.rbs.form3; have FB : Hid (KJ W (fms (BS ++ [T])) (BS ++ [T]) (dbl (BS ++ [T])) w10.heap.size (.slice xa xn xc) (.slice va vn vc) (.slice za zn zc) w10) := k1; clear k1 FA))
        exact ⟨⟨i + 1, BS ++ [T], xa, va, za, xn, xc, vn, vc, zn, zc, rfl, rfl, rfl, by go_num, by have := HI.out; omega, by rw [HY2.out, HBS.out], FB.out⟩, by have := HI.out; simp [intOf]; omega⟩
      · as_aux_lemma =>
        have WN : Hid (∀ wx : World, Calls Try.prog 5 #[.slice (some ⟨G, 0, none⟩) T.length cap] wx fun e w' => e = .returned (.tuple #[.slice none 0 0, .int .i64 102]) ∧ wx = w') := fun wx => wrap_no _ T.length cap (by omega) (by omega) wx
        have BW3 : Below W.heap.size W w3 := H.out.2.bel.trans (K3.out.2.mono H.out.2.bel.size)
        have HN2 : Hid (gd (L.take (i + 1)) = gd (L.take i)) := HNO.out hsm
        have HO3 : Hid (OW w1.heap.size w3 (.slice (some ⟨G, 0, none⟩) (T.length + 3) cap) (T ++ [201, 202, 203])) := K3.out.1
        clear HNO HYE
        refine (WN.out w3).mono ?_
        rintro e w4 ⟨rfl, rfl⟩
        go_wp2_with fail
        refine (WN.out w3).mono ?_
        rintro e w4 ⟨rfl, rfl⟩
        obtain ⟨c0, c1, c2⟩ := KC.out w3 (Below.refl _ _)
        have q5 := HCE.out w3 BW3
        have SM : Hid (∀ n, Calls Try.prog 6 #[.slice (some ⟨G, 0, none⟩) T.length cap, .slice ua T.length uc] (w3.drewN n) fun e w' => e = .returned (.bool true) ∧ ∃ m, w' = w3.drewN m) := fun n => by
          refine (same _ _ T (w3.drewN n) (by omega) (OG.out.1.rb.keep (belowDrew _ _)) ((HRB.out.keep BW3).keep (belowDrew _ _))).mono ?_
          rintro e w' ⟨rfl, m, rfl⟩
          exact ⟨rfl, n + m, drewN2 _ _ _⟩
        have hl1 : (T.length : Int) + 2 < (T.length : Int) + 3 := by omega
        clear WN BW3
        go_wp2
        go_quiet ((go_at_call 6; exact SM.out _))
        rename_i nq
        clear c0 c1 c2 q5 SM
        have MK : Hid (Calls Try.prog 7 #[.slice (some ⟨G, 0, none⟩) (T.length + 3) cap, .int .i64 5] (w3.drewN nq) fun e w' => (∃ v', e = .returned v') ∧ Fr (fun k => (Value.slice (some ⟨G, 0, none⟩) (T.length + 3) cap).ownBlock ≠ some k) (w3.drewN nq) w') := marked _ (T ++ [201, 202, 203]) 5 w1.heap.size (w3.drewN nq) (HO3.out.grow (belowDrew _ _)) (fun e => by simp at e) K3.out.2.size (by simp; omega) (by omega)
        go_wp2_with fail
        refine MK.out.mono ?_
        rintro e w6 ⟨⟨mv, rfl⟩, f6⟩
        have B16 : Below w1.heap.size w1 w6 := bel_fr (belowN K3.out.2 nq) f6 (fun k hk e => by have := OG.out.2.1; simp [Value.ownBlock] at e; omega) (Nat.le_refl _)
        have FB : Hid (BS = gd (L.take (i + 1)) ∧ KJ W (fms BS) BS (dbl BS) w6.heap.size (.slice ba nb bcap) (.slice sa ns scap) (.slice aa na acap) w6) := ⟨by rw [HN2.out]; exact H.out.1, (H.out.2.keep B16).bound (Nat.le_refl _)⟩
        clear MK f6 B16 HO3 K3 H
        go_wp2
        exact ⟨⟨i + 1, BS, ba, sa, aa, nb, bcap, ns, scap, na, acap, rfl, rfl, rfl, by go_num, by have := HI.out; omega, FB.out⟩, by have := HI.out; simp [intOf]; omega⟩
    · as_aux_lemma =>
      have hiL : i = L.length := by omega
      have hiI : ¬ ((i : Int) < (L.length : Int)) := by omega
      have HBS : Hid (sz BS ≤ 4194304 ∧ BS.length ≤ 1048576 ∧ (∀ b ∈ BS, b.length ≤ 32768) ∧ Rd false (fms BS) [] BS false [] 0) := by
        have e : BS = gd L := by rw [H.out.1, hiL, List.take_length]
        have h1 := HSZ.out L.length
        rw [List.take_length, ← e] at h1
        have h2 : ∀ b ∈ BS, b.length ≤ 32768 := by rw [e]; exact gd_small L
        have h3 := rd_fms BS h2 [] (Rd.num [] (by simp))
        rw [List.append_nil, List.append_nil] at h3
        exact ⟨h1.1, h1.2, h2, h3⟩
      have K1 : Hid (KJ W (fms BS) BS (dbl BS) w1.heap.size (.slice ba nb bcap) (.slice sa ns scap) (.slice aa na acap) w1) := H.out.2
      have HFL : Hid ((fms BS).length ≤ 4194304) := by rw [fms_len]; exact HBS.out.1
      have hbb : ∀ k, (Value.slice ba nb bcap).ownBlock = some k → k < w1.heap.size := fun k hk => (K1.out.ow.blk k hk).2
      have hab : ∀ k, (Value.slice aa na acap).ownBlock = some k → k < w1.heap.size := fun k hk => by
        obtain ⟨us, hr⟩ := K1.out.al.row
        exact (World.ownsRow.lt hr k hk).2
      have HAB : Hid ((∀ k, (Value.slice ba nb bcap).ownBlock = some k → k < w1.heap.size) ∧ ∀ k, (Value.slice aa na acap).ownBlock = some k → k < w1.heap.size) := ⟨hbb, hab⟩
      have hnsb : ns = BS.length := by
        obtain ⟨_, n', _, hn', e⟩ := K1.out.rr.form3
        rw [Value.slice.injEq] at e
        omega
      have HNS : Hid (ns = BS.length) := hnsb
      have CP : Hid (Calls Try.prog 4 #[.slice ba nb bcap] w1 fun e w' => ∃ v', e = .returned v' ∧ OW w1.heap.size w' v' (fms BS) ∧ Below w1.heap.size w1 w' ∧ (fms BS = [] → v' = .slice none 0 0)) := copiedN K1.out.ow.rb K1.out.nil (by have := HFL.out; omega)
      clear H HSZ HTL HR hlt hi hbb hab hnsb
      generalize fms BS = l at *
      go_wp2_with fail
      refine CP.out.mono ?_
      rintro e w2 ⟨gv, rfl, o2, b2, n2⟩
      have G2 : Hid (OW w1.heap.size w2 gv l ∧ Below w1.heap.size w1 w2 ∧ (l = [] → gv = .slice none 0 0)) := ⟨o2, b2, n2⟩
      obtain ⟨ga, gn, gc, rfl⟩ := o2.form3
      have S3 : Hid (Calls Try.prog 8 #[.slice ga gn gc] w2 (SplE l w2)) := splitP _ l (by have := HFL.out; omega) w2 o2.rb
      clear CP o2 b2 n2
      go_wp2_with fail
      refine S3.out.mono ?_
      rintro e w3 ⟨bv1, bs1, er1, rfl, ⟨r1, R1⟩, ob1, b3⟩
      obtain ⟨_, rfl, _, _, rfl⟩ := R1.det HBS.out.2.2.2
      have G3 : Hid (OB w2.heap.size (fun g => w2.heap.size ≤ g) w3 bv1 BS ∧ Below w2.heap.size w2 w3) := ⟨ob1, b3⟩
      obtain ⟨b1a, b1c, rfl⟩ := ob1.form
      have S4 : Hid (Calls Try.prog 8 #[.slice ga gn gc] w3 (SplE l w3)) := splitP _ l (by have := HFL.out; omega) w3 (G2.out.1.grow b3).rb
      clear S3 R1 ob1 b3
      go_wp2_with fail
      refine S4.out.mono ?_
      rintro e w4 ⟨bv2, bs2, er2, rfl, ⟨r2, R2⟩, ob2, b4⟩
      obtain ⟨_, rfl, _, _, rfl⟩ := R2.det HBS.out.2.2.2
      have G4 : Hid (OB w3.heap.size (fun g => w3.heap.size ≤ g) w4 bv2 BS ∧ Below w3.heap.size w3 w4) := ⟨ob2, b4⟩
      obtain ⟨b2a, b2c, rfl⟩ := ob2.form
      have B24 : Below w2.heap.size w2 w4 := G3.out.2.trans (b4.mono G3.out.2.size)
      have MK : Hid (Calls Try.prog 7 #[.slice ga gn gc, .int .i64 40] w4 fun e w' => (∃ v', e = .returned v') ∧ Fr (fun k => (Value.slice ga gn gc).ownBlock ≠ some k) w4 w') := marked _ l 40 w1.heap.size w4 (G2.out.1.grow B24) G2.out.2.2 (Nat.le_trans G2.out.2.1.size B24.size) (by have := HFL.out; omega) (by omega)
      clear S4 R2 ob2 b4 B24
      go_wp2_with fail
      refine MK.out.mono ?_
      rintro e w5 ⟨⟨mv, rfl⟩, f5⟩
      have F5 : Hid (Fr (fun k => (Value.slice ga gn gc).ownBlock ≠ some k) w4 w5) := f5
      clear MK f5
      go_wp2_with fail
      refine (new w5 false).mono ?_
      rintro e w6 ⟨rfl, k6, b6⟩
      have G6 : Hid (RK w6 w5.heap.size 0 0 (.slice none 0 0) 0 ∧ Below w5.heap.size w5 w6) := ⟨k6, b6⟩
      clear k6 b6
      go_wp2_with fail
      refine (new w6 false).mono ?_
      rintro e w7 ⟨rfl, k7, b7⟩
      have G7 : Hid (RK w7 w6.heap.size 0 0 (.slice none 0 0) 0 ∧ Below w6.heap.size w6 w7) := ⟨k7, b7⟩
      clear k7 b7
      have B14 : Below w1.heap.size w1 w4 := (G2.out.2.1.trans (G3.out.2.mono G2.out.2.1.size)).trans (G4.out.2.mono (Nat.le_trans G2.out.2.1.size G3.out.2.size))
      have hgb : ∀ k, (Value.slice ga gn gc).ownBlock = some k → w1.heap.size ≤ k ∧ k < w2.heap.size := fun k hk => G2.out.1.blk k hk
      have B15 : Below w1.heap.size w1 w5 := bel_fr B14 F5.out (fun k hk e => by have := (hgb k e).1; omega) (Nat.le_refl _)
      have B16 : Below w1.heap.size w1 w6 := B15.trans (G6.out.2.mono B15.size)
      have B17 : Below w1.heap.size w1 w7 := B16.trans (G7.out.2.mono B16.size)
      have K7 : KJ W l BS (dbl BS) w1.heap.size (.slice ba nb bcap) (.slice sa ns scap) (.slice aa na acap) w7 := K1.out.keep B17
      have hR1 : w5.heap.size < w6.heap.size := G6.out.1.lt
      have hR2 : w6.heap.size < w7.heap.size := G7.out.1.lt
      have RK7 : RK w7 w5.heap.size 0 0 (.slice none 0 0) 0 := (G7.out.2.block _ hR1).trans G6.out.1
      have BX7 : Below w.heap.size w w7 := HBX.out.2.1.trans (K7.bel.mono (Nat.le_of_lt HBX.out.2.2))
      have PS : Hid (Calls Try.prog 10 #[.pointer (some ⟨w5.heap.size, 0, none⟩), .slice ba nb bcap, .slice ca zs.length cc] w7 (PushedE w7 w5.heap.size 0 l)) := pushed w7 w5.heap.size 0 _ _ l zs (.inr rfl) RK7 K7.ow.rb (HC.out.keepR BX7 (by have := BX7.size; have := K1.out.bel.size; have := HBX.out.2.2; have := B15.size; omega)) (by have := HFL.out; omega) hzl HZ.out
      have K7' : Hid (Below w1.heap.size w1 w7 ∧ w5.heap.size < w6.heap.size ∧ w6.heap.size < w7.heap.size ∧ w4.heap.size ≤ w5.heap.size ∧ (∀ k, (Value.slice ga gn gc).ownBlock = some k → w1.heap.size ≤ k ∧ k < w2.heap.size) ∧ w1.heap.size ≤ w5.heap.size) := ⟨B17, hR1, hR2, F5.out.size, hgb, B15.size⟩
      clear B14 hgb B15 B16 B17 K7 hR1 hR2 RK7 BX7
      go_wp2_with fail
      refine PS.out.mono ?_
      rintro e w8 ⟨mx, xv, why, met, bs, h1, r1, p1, s1, held1, hv1, rfl, QO1⟩
      obtain ⟨q1, q2, q3, q4, q5⟩ := HBS.out.2.2.2.det QO1.rd
      rw [q1, q2, q3, q4] at QO1
      subst q5
      clear q1 q2 q3 q4
      have Q1 : Hid (QO w7 w5.heap.size 0 l mx xv 0 [] BS false [] p1 s1 held1 hv1 w8) := QO1
      obtain ⟨mxa, mxc, hmf1⟩ := QO1.om.form
      obtain ⟨xa, xc, hbf1⟩ := QO1.ob.form
      have hmf : mx = .slice mxa 0 mxc := hmf1
      clear QO1 hmf1 PS
      subst hmf hbf1
      have hi1 := info_told (.slice mxa 0 mxc) (.slice xa BS.length xc) (.int .i64 0)
      have hone1 : (#[.slice mxa 0 mxc, .slice xa BS.length xc, Value.int .i64 0]).all (·.oneCell') = true := one3 _ _ _ _ _ _ _
      obtain ⟨w9, hw9⟩ : ∃ x, x = (w8.alloc (.cells #[.slice none 0 0, .slice none 0 0, .int .i64 0] 41)).setRow w8.heap.size #[.slice mxa 0 mxc, .slice xa BS.length xc, .int .i64 0] := ⟨_, rfl⟩
      have HW9 : Hid (w9 = (w8.alloc (.cells #[.slice none 0 0, .slice none 0 0, .int .i64 0] 41)).setRow w8.heap.size #[.slice mxa 0 mxc, .slice xa BS.length xc, .int .i64 0]) := hw9
      have G9 : Hid (w9.heap[w8.heap.size]? = some (.cells #[.slice mxa 0 mxc, .slice xa BS.length xc, .int .i64 0] 41 (0, 0)) ∧ Below w8.heap.size w8 w9) := by
        rw [hw9]
        exact ⟨(box_told w8 _ _ 0).1, (box_told w8 _ _ 0).2.1⟩
      have B18 : Below w1.heap.size w1 w8 := bel_fr K7'.out.1 Q1.out.fr (fun k hk e => by have := K7'.out.2.2.2.2.2; omega) (Nat.le_refl _)
      have B19 : Below w1.heap.size w1 w9 := B18.trans (G9.out.2.mono B18.size)
      have RK9 : RK w9 w6.heap.size 0 0 (.slice none 0 0) 0 := (G9.out.2.block _ (Nat.lt_of_lt_of_le K7'.out.2.2.1 Q1.out.fr.size)).trans ((Q1.out.fr.block _ K7'.out.2.2.1 (by have := K7'.out.2.1; omega)).trans G7.out.1)
      have PS : Hid (Calls Try.prog 10 #[.pointer (some ⟨w6.heap.size, 0, none⟩), .slice ba nb bcap, .slice none 0 0] w9 (PushedE w9 w6.heap.size 0 l)) := pushed w9 w6.heap.size 0 _ _ l [] (.inr rfl) RK9 (K1.out.keep B19).ow.rb (RJ.nil _ _) (by have := HFL.out; omega) (by simp) (by simp)
      have K9' : Hid (Below w1.heap.size w1 w9) := B19
      clear hw9 B18 B19 RK9
      go_wp2_with (first | (refine wpList_store_row rfl 41 _ _ rfl w8.heap.size _ rfl rfl 41 #[.slice none 0 0, .slice none 0 0, .int .i64 0] (heapNew w8 _) hi1 rfl hone1 ?_))
      rw [← HW9.out]
      refine PS.out.mono ?_
      rintro e w10 ⟨my, yv, why, met, bs, h1, r1, p2, s2, held2, hv2, rfl, QO2⟩
      obtain ⟨q1, q2, q3, q4, q5⟩ := HBS.out.2.2.2.det QO2.rd
      rw [q1, q2, q3, q4] at QO2
      subst q5
      clear q1 q2 q3 q4
      have Q2 : Hid (QO w9 w6.heap.size 0 l my yv 0 [] BS false [] p2 s2 held2 hv2 w10) := QO2
      obtain ⟨mya, myc, hmf1⟩ := QO2.om.form
      obtain ⟨ya, yc, hbf1⟩ := QO2.ob.form
      have hmf : my = .slice mya 0 myc := hmf1
      clear QO2 hmf1 PS hi1 hone1
      subst hmf hbf1
      have hi1 := info_told (.slice mya 0 myc) (.slice ya BS.length yc) (.int .i64 0)
      have hone1 : (#[.slice mya 0 myc, .slice ya BS.length yc, Value.int .i64 0]).all (·.oneCell') = true := one3 _ _ _ _ _ _ _
      obtain ⟨wz, hwz⟩ : ∃ x, x = (w10.alloc (.cells #[.slice none 0 0, .slice none 0 0, .int .i64 0] 41)).setRow w10.heap.size #[.slice mya 0 myc, .slice ya BS.length yc, .int .i64 0] := ⟨_, rfl⟩
      have HWZ : Hid (wz = (w10.alloc (.cells #[.slice none 0 0, .slice none 0 0, .int .i64 0] 41)).setRow w10.heap.size #[.slice mya 0 myc, .slice ya BS.length yc, .int .i64 0]) := hwz
      have GZ : wz.heap[w10.heap.size]? = some (.cells #[.slice mya 0 myc, .slice ya BS.length yc, .int .i64 0] 41 (0, 0)) ∧ Below w10.heap.size w10 wz := by
        rw [hwz]
        exact ⟨(box_told w10 _ _ 0).1, (box_told w10 _ _ 0).2.1⟩
      have KZ0 : Hid (KZ W l BS w1.heap.size w3.heap.size w4.heap.size w8.heap.size w10.heap.size w8.heap.size w10.heap.size (.slice ba nb bcap) (.slice sa ns scap) (.slice aa na acap) (.slice b1a BS.length b1c) (.slice b2a BS.length b2c) (.slice xa BS.length xc) (.slice ya BS.length yc) (.slice mxa 0 mxc) (.slice mya 0 myc) wz ∧ Below w1.heap.size w1 wz) := by
        obtain ⟨hb17, hr1, hr2, h45, hgb, h15⟩ := K7'.out
        have s12 := G2.out.2.1.size
        have s23 := G3.out.2.size
        have s34 := G4.out.2.size
        have s78 := Q1.out.fr.size
        have s89 := G9.out.2.size
        have s9x := Q2.out.fr.size
        have sxz := GZ.2.size
        have h1W := K1.out.bel.size
        have h9X : w8.heap.size < w9.heap.size := (Array.getElem?_eq_some_iff.1 G9.out.1).1
        have B1X : Below w1.heap.size w1 w10 := bel_fr K9'.out Q2.out.fr (fun k hk e => by omega) (Nat.le_refl _)
        have B1Z : Below w1.heap.size w1 wz := B1X.trans (GZ.2.mono B1X.size)
        have f8z : Fr (fun k => k ≠ w6.heap.size) w8 wz := ((Fr.of_below G9.out.2).trans Q2.out.fr (fun _ _ x => x)).trans (Fr.of_below (S := fun _ => True) GZ.2) (fun _ _ _ => trivial)
        have f5z : Fr (fun k => k < w5.heap.size) w5 wz := (((Fr.of_below G6.out.2).trans (Fr.of_below (S := fun _ => True) G7.out.2) (fun _ _ _ => trivial)).trans Q1.out.fr (fun k _ x => by omega)).trans f8z (fun k _ x => by omega)
        have f4z : Fr (fun k => k < w5.heap.size ∧ (Value.slice ga gn gc).ownBlock ≠ some k) w4 wz := (F5.out.mono (T := fun k => k < w5.heap.size ∧ (Value.slice ga gn gc).ownBlock ≠ some k) (fun k _ x => x.2)).trans f5z (fun k _ x => x.1)
        have f3z : Fr (fun k => k < w5.heap.size ∧ (Value.slice ga gn gc).ownBlock ≠ some k) w3 wz := (Fr.of_below G4.out.2).trans f4z (fun _ _ x => x)
        refine ⟨⟨K1.out.keep B1Z, ?_, ?_, ?_, ?_, ?_, GZ.1, HAB.out.1, HAB.out.2, by omega⟩, B1Z⟩
        · exact PB.fr G3.out.1 f3z (by omega) (by omega) (fun k h1 h2 => ⟨by omega, fun e => by have := (hgb k e).2; omega⟩) (fun g x hl => ⟨⟨by omega, by omega⟩, by omega, fun e => by have := (hgb g e).2; omega⟩)
        · exact PB.fr G4.out.1 f4z (by omega) (by omega) (fun k h1 h2 => ⟨by omega, fun e => by have := (hgb k e).2; omega⟩) (fun g x hl => ⟨⟨by omega, by omega⟩, by omega, fun e => by have := (hgb g e).2; omega⟩)
        · exact PB.fr Q1.out.ob f8z (by omega) (by omega) (fun k h1 h2 => by omega) (fun g x hl => ⟨⟨by have := x.1; omega, hl⟩, by have := x.1; omega⟩)
        · exact PB.fr Q2.out.ob (Fr.of_below (S := fun _ => True) GZ.2) (by omega) (by omega) (fun _ _ _ => trivial) (fun g x hl => ⟨⟨by have := x.1; omega, hl⟩, trivial⟩)
        · have f9z : Fr (fun k => k ≠ w6.heap.size) w9 wz := Q2.out.fr.trans (Fr.of_below (S := fun _ => True) GZ.2) (fun _ _ _ => trivial)
          exact (f9z.block _ h9X (by omega)).trans G9.out.1
      obtain rfl : ns = BS.length := HNS.out
      obtain ⟨_, x1, _, _⟩ := box_cell KZ0.out.1.bx
      obtain ⟨_, y1, _, _⟩ := box_cell KZ0.out.1.by_
      clear K7' G2 G3 G4 F5 G6 G7 Q1 Q2 G9 K9' GZ hwz HW9 HC HZ HNS HAB K1 hiL hiI hle hzl hLn
      go_wp2_with (first | (refine wpList_store_row rfl 41 _ _ rfl w10.heap.size _ rfl rfl 41 #[.slice none 0 0, .slice none 0 0, .int .i64 0] (heapNew w10 _) hi1 rfl hone1 ?_; rw [← HWZ.out]))
      go_loopw [28] (fun t wr => ∃ (k nq : Nat), k ≤ BS.length ∧ t = .int .i64 k ∧ wr = wz.drewN nq) (fun t _ => BS.length - (intOf t).toNat)
      case atStart => exact ⟨0, 0, Nat.zero_le _, rfl, rfl⟩
      case round =>
        obtain ⟨k, nq, hk, rfl, hw⟩ := hrel
        by_cases hlt : k < BS.length
        · as_aux_lemma =>
          obtain ⟨sg, so, ua, uc, hsa, hsc, hsr⟩ := rbs_get (KZ0.out.1.kj.rr.rbs KZ0.out.1.kj.bel) k hlt
          obtain ⟨g1, o1, u1, c1, h1a, h1c, h1r⟩ := rbs_get KZ0.out.1.o1.1.rbs k hlt
          obtain ⟨g2, o2, u2, c2, h2a, h2c, h2r⟩ := rbs_get KZ0.out.1.o2.1.rbs k hlt
          obtain ⟨g3, o3, u3, c3, h3a, h3c, h3r⟩ := rbs_get KZ0.out.1.ox.1.rbs k hlt
          obtain ⟨g4, o4, u4, c4, h4a, h4c, h4r⟩ := rbs_get KZ0.out.1.oy.1.rbs k hlt
          obtain ⟨ga0, gal, ml, haa, hac, hml, _, hgl, _⟩ := KZ0.out.1.kj.al.at (2 * k + 1) (by rw [dbl_len]; omega)
          have hna : na = 2 * BS.length := by
            obtain ⟨_, _, e⟩ := KZ0.out.1.kj.al.form
            rw [Value.slice.injEq, dbl_len] at e
            exact e.2.1
          rw [dbl_get BS k hlt] at hml hgl
          have hT : (BS.getD k []).length ≤ 32768 := HBS.out.2.2.1 _ (by simp [List.getD, List.getElem?_eq_getElem hlt])
          rw [frm_len] at hml
          generalize BS.getD k [] = T at *
          subst hsa h1a h2a h3a h4a haa
          have SMs : Hid (∀ (v : Value) (n : Nat), RB wz v T → Calls Try.prog 6 #[v, .slice ua T.length uc] (wr.drewN n) fun e w' => e = .returned (.bool true) ∧ ∃ m, w' = wr.drewN m) := fun v n hr => by
            subst hw
            refine (same _ _ T ((wz.drewN nq).drewN n) (by omega) ((hr.keep (belowDrew _ _)).keep (belowDrew _ _)) ((hsr.keep (belowDrew _ _)).keep (belowDrew _ _))).mono ?_
            rintro e w' ⟨rfl, m, rfl⟩
            exact ⟨rfl, n + m, drewN2 _ _ _⟩
          have HQ : Hid (∀ n, (wz.drewN n).cell? ⟨sg, so + k, none⟩ = some (.slice ua T.length uc) ∧ (wz.drewN n).cell? ⟨g1, o1 + k, none⟩ = some (.slice u1 T.length c1) ∧ (wz.drewN n).cell? ⟨g2, o2 + k, none⟩ = some (.slice u2 T.length c2) ∧ (wz.drewN n).cell? ⟨g3, o3 + k, none⟩ = some (.slice u3 T.length c3) ∧ (wz.drewN n).cell? ⟨g4, o4 + k, none⟩ = some (.slice u4 T.length c4) ∧ (wz.drewN n).cell? ⟨ga0, 2 * k + 1, none⟩ = some (.slice (some ⟨gal, 0, none⟩) (T.length + 4) (T.length + 4)) ∧ (wz.drewN n).cell? ⟨w8.heap.size, 1, none⟩ = some (.slice (some ⟨g3, o3, none⟩) BS.length xc) ∧ (wz.drewN n).cell? ⟨w10.heap.size, 1, none⟩ = some (.slice (some ⟨g4, o4, none⟩) BS.length yc)) := fun n => ⟨hsc _ (belowDrew _ _), h1c _ (belowDrew _ _), h2c _ (belowDrew _ _), h3c _ (belowDrew _ _), h4c _ (belowDrew _ _), by rw [Nat.add_comm T.length 4, ← hml]; exact hac, x1, y1⟩
          obtain ⟨a1, a2, a3, a4, a5, a6, a7, a8⟩ := HQ.out nq
          rw [← hw] at a1 a2 a3 a4 a5 a6 a7 a8
          have HW : Hid (wr = wz.drewN nq) := hw
          have HAL : RB wz (.slice (some ⟨gal, 0, none⟩) (frm T).length (frm T).length) (frm T) := rb_block hgl _ rfl
          have HAC := HAL.cut (m := 4) (n := (frm T).length) (by rw [frm_len]; omega) (Nat.le_refl _)
          have hfd : ((frm T).drop 4).take ((frm T).length - 4) = T := by
            have e : (frm T).drop 4 = T := rfl
            rw [e, frm_len, Nat.add_sub_cancel_left, List.take_length]
          rw [hfd, frm_len, Nat.add_sub_cancel_left] at HAC
          have hn2 : (2 * (k : Int) + 1) < (na : Int) := by omega
          have hn3 : (0 : Int) ≤ 2 * (k : Int) + 1 := by omega
          have hn4 : (2 * (k : Int) + 1).toNat = 2 * k + 1 := by omega
          clear hna hml
          have hkB : k ≤ 1048576 := by have := HBS.out.2.1; omega
          have hwr1 : IntKind.i64.wrap (2 * (k : Int)) = 2 * (k : Int) := IntWalk.i64_in _ (by omega)
          have hwr3 : IntKind.i64.wrap ((T.length : Int) + 4) = (T.length : Int) + 4 := IntWalk.i64_in _ (by omega)
          have hwr2 : IntKind.i64.wrap (2 * (k : Int) + 1) = 2 * (k : Int) + 1 := IntWalk.i64_in _ (by omega)
          by_cases hT0 : T.length = 0
          · rw [if_pos (by omega)] at HAC
            have HV : Hid (RB wz (.slice u1 T.length c1) T ∧ RB wz (.slice u2 T.length c2) T ∧ RB wz (.slice u3 T.length c3) T ∧ RB wz (.slice u4 T.length c4) T ∧ RB wz (.slice (some ⟨gal, 0, none⟩) T.length T.length) T) := ⟨h1r, h2r, h3r, h4r, HAC⟩
            clear hw hsc h1c h2c h3c h4c hac hgl h1r h2r h3r h4r hsr x1 y1 HAL HAC hfd HQ
            generalize T.length = n at *
            subst hT0
            rw [Nat.zero_add] at a6
            go_wp2_with fail
            simp only [List.append_eq, List.cons_append, List.nil_append]
            go_quiet ((go_at_call 6; exact SMs.out _ _ (by first | exact HV.out.1 | exact HV.out.2.1 | exact HV.out.2.2.1 | exact HV.out.2.2.2.1 | exact HV.out.2.2.2.2)))
            go_wp2
            exact ⟨⟨k + 1, _, by omega, by go_num, by rw [HW.out]; exact drewN2 _ _ _⟩, by simp [intOf]; omega⟩
          · rw [if_neg (by omega)] at HAC
            have HV : Hid (RB wz (.slice u1 T.length c1) T ∧ RB wz (.slice u2 T.length c2) T ∧ RB wz (.slice u3 T.length c3) T ∧ RB wz (.slice u4 T.length c4) T ∧ RB wz (.slice (some ⟨gal, 4, none⟩) T.length T.length) T) := ⟨h1r, h2r, h3r, h4r, HAC⟩
            clear hw hsc h1c h2c h3c h4c hac hgl h1r h2r h3r h4r hsr x1 y1 HAL HAC hfd HQ
            generalize T.length = n at *
            go_wp2_with fail
            simp only [List.append_eq, List.cons_append, List.nil_append]
            go_quiet ((go_at_call 6; exact SMs.out _ _ (by first | exact HV.out.1 | exact HV.out.2.1 | exact HV.out.2.2.1 | exact HV.out.2.2.2.1 | exact HV.out.2.2.2.2)))
            go_wp2
            exact ⟨⟨k + 1, _, by omega, by go_num, by rw [HW.out]; exact drewN2 _ _ _⟩, by simp [intOf]; omega⟩
        · as_aux_lemma =>
          have h68 : (sgn ++ hb).length = 68 := by rw [List.length_append, h48]; rfl
          have hkI : ¬ ((k : Int) < (BS.length : Int)) := by omega
          have KW : Hid (KZ W l BS w1.heap.size w3.heap.size w4.heap.size w8.heap.size w10.heap.size w8.heap.size w10.heap.size (.slice ba nb bcap) (.slice sa BS.length scap) (.slice aa na acap) (.slice b1a BS.length b1c) (.slice b2a BS.length b2c) (.slice xa BS.length xc) (.slice ya BS.length yc) (.slice mxa 0 mxc) (.slice mya 0 myc) wr) := by rw [hw]; exact KZ0.out.1.keep (belowDrew _ _)
          have hbx : wr.heap[w.heap.size]? = some (.cells (bc hb) 25 (0, 0)) := (KW.out.kj.bel.block _ HBX.out.2.2).trans HBX.out.1
          have hi48 : (Try.prog.info? 25).map (·.size) = some (bc hb).size := by rw [bc_size, h48]; kernel_rfl
          have GA : Hid (Calls Try.prog 11 #[.agg (bc hb)] wr fun e w' => ∃ v, e = .returned v ∧ BK (fun g => wr.heap.size ≤ g) w' v (sgn ++ hb) ∧ Below wr.heap.size wr w') := greetK hb h48 wr
          clear hw KZ0 x1 y1 hlt
          go_wp2_with (first | (refine wpList_load_row rfl 25 _ rfl w.heap.size rfl 25 (bc hb) (0, 0) _ hbx Try.underlying25 rfl hi48 ?_))
          refine GA.out.mono ?_
          rintro e wa ⟨ov, rfl, g1, d1⟩
          obtain ⟨og, on, rfl⟩ : ∃ g n, ov = .slice (some ⟨g, 0, none⟩) n n := by obtain ⟨g, _, e, _⟩ := g1; exact ⟨g, _, e⟩
          have HA : Hid (BK (fun g => wr.heap.size ≤ g) wa (.slice (some ⟨og, 0, none⟩) on on) (sgn ++ hb) ∧ Below wr.heap.size wr wa) := ⟨g1, d1⟩
          have CK : Hid (Calls Try.prog 4 #[.slice (some ⟨og, 0, none⟩) on on] wa fun e w' => ∃ v, e = .returned v ∧ OW wa.heap.size w' v (sgn ++ hb) ∧ Below wa.heap.size wa w') := copied g1.rb (by omega)
          clear GA g1 d1
          go_wp2_with fail
          refine CK.out.mono ?_
          rintro e wb ⟨kv, rfl, g2, d2⟩
          obtain ⟨ka, kc, hkf⟩ := g2.form
          rw [h68] at hkf
          subst hkf
          have HK : Hid (OW wa.heap.size wb (.slice ka 68 kc) (sgn ++ hb) ∧ Below wa.heap.size wa wb) := ⟨g2, d2⟩
          have GB : Hid (Calls Try.prog 11 #[.agg (bc hb)] wb fun e w' => ∃ v, e = .returned v ∧ BK (fun g => wb.heap.size ≤ g) w' v (sgn ++ hb) ∧ Below wb.heap.size wb w') := greetK hb h48 wb
          have hbxb : wb.heap[w.heap.size]? = some (.cells (bc hb) 25 (0, 0)) := by
            have hl0 := (Array.getElem?_eq_some_iff.1 hbx).1
            exact (d2.block _ (Nat.lt_of_lt_of_le hl0 HA.out.2.size)).trans ((HA.out.2.block _ hl0).trans hbx)
          clear CK g2 d2 hbx
          go_wp2_with (first | (refine wpList_load_row rfl 25 _ rfl w.heap.size rfl 25 (bc hb) (0, 0) _ hbxb Try.underlying25 rfl hi48 ?_))
          refine GB.out.mono ?_
          rintro e wd ⟨tv, rfl, g3, d3⟩
          obtain ⟨tg, tn, rfl⟩ : ∃ g n, tv = .slice (some ⟨g, 0, none⟩) n n := by obtain ⟨g, _, e, _⟩ := g3; exact ⟨g, _, e⟩
          have X0 := KW.out.kx HBX.out.1 HA.out.2 HK.out.2 d3 HA.out.1 HK.out.1 g3
          have SK : Hid (Calls Try.prog 6 #[.slice (some ⟨tg, 0, none⟩) tn tn, .slice ka 68 kc] wd fun e w' => e = .returned (.bool true) ∧ ∃ n, w' = wd.drewN n) := same _ _ (sgn ++ hb) wd (by omega) g3.rb X0.ky.kb.rb
          have HX0 : Hid (KX W w.heap.size hb l (fun g => (Value.slice ba nb bcap).ownBlock = some g ∨ (Value.slice ka 68 kc).ownBlock = some g) BS (dbl BS) w1.heap.size w1.heap.size w3.heap.size w4.heap.size w8.heap.size w10.heap.size wa.heap.size wd.heap.size w8.heap.size w10.heap.size (.slice aa na acap) (.slice ba nb bcap) (.slice ka 68 kc) (.slice b1a BS.length b1c) (.slice b2a BS.length b2c) (.slice xa BS.length xc) (.slice ya BS.length yc) (.slice mxa 0 mxc) (.slice mya 0 myc) (.slice (some ⟨og, 0, none⟩) on on) (.slice (some ⟨tg, 0, none⟩) tn tn) wd) := X0
          have HOR : Hid (W.heap.size ≤ w1.heap.size ∧ w1.heap.size ≤ w3.heap.size ∧ w3.heap.size ≤ w4.heap.size ∧ w4.heap.size ≤ w8.heap.size ∧ w8.heap.size ≤ w10.heap.size ∧ w10.heap.size ≤ wa.heap.size ∧ wa.heap.size ≤ wd.heap.size ∧ (∀ g, (Value.slice ba nb bcap).ownBlock = some g → g < w1.heap.size) ∧ (∀ g, (Value.slice ka 68 kc).ownBlock = some g → wa.heap.size ≤ g)) := by
            have h1 := KW.out.ord
            have h2 := HA.out.2.size
            have h3 := HK.out.2.size
            have h4 := d3.size
            exact ⟨by omega, by omega, by omega, by omega, by omega, by omega, by omega, KW.out.bb, fun g e => (HK.out.1.blk g e).1⟩
          clear GB g3 d3 X0 HA HK KW hbxb
          go_wp2_with fail
          refine SK.out.mono ?_
          rintro e we ⟨rfl, ne, rfl⟩
          clear SK
          have HX1 : Hid (KX W w.heap.size hb l (fun g => (Value.slice ba nb bcap).ownBlock = some g ∨ (Value.slice ka 68 kc).ownBlock = some g) BS (dbl BS) w1.heap.size w1.heap.size w3.heap.size w4.heap.size w8.heap.size w10.heap.size wa.heap.size wd.heap.size w8.heap.size w10.heap.size (.slice aa na acap) (.slice ba nb bcap) (.slice ka 68 kc) (.slice b1a BS.length b1c) (.slice b2a BS.length b2c) (.slice xa BS.length xc) (.slice ya BS.length yc) (.slice mxa 0 mxc) (.slice mya 0 myc) (.slice (some ⟨og, 0, none⟩) on on) (.slice (some ⟨tg, 0, none⟩) tn tn) (wd.drewN ne)) := HX0.out.keep (belowDrew _ _)
          clear HX0
          generalize wd.drewN ne = wD at *
          generalize w1.heap.size = m1 at *
          generalize w3.heap.size = m2 at *
          generalize w4.heap.size = m3 at *
          generalize w8.heap.size = m4 at *
          generalize w10.heap.size = m5 at *
          generalize wa.heap.size = m6 at *
          generalize wd.heap.size = m7 at *
          obtain ⟨D, hD⟩ : ∃ D : Nat → Prop, D = fun g => (Value.slice ba nb bcap).ownBlock = some g ∨ (Value.slice ka 68 kc).ownBlock = some g := ⟨_, rfl⟩
          rw [← hD] at HX1
          have HDD : Hid ((∀ g, m1 ≤ g → g < m6 → ¬ D g) ∧ (∀ g, (Value.slice ba nb bcap).ownBlock = some g → D g) ∧ (∀ g, (Value.slice ka 68 kc).ownBlock = some g → D g)) := by
            rw [hD]
            refine ⟨fun g h1 h2 e => ?_, fun g e => .inl e, fun g e => .inr e⟩
            rcases e with e | e
            · have := HOR.out.2.2.2.2.2.2.2.1 g e; omega
            · have := HOR.out.2.2.2.2.2.2.2.2 g e; omega
          have HLM : Hid (BS.length ≤ 1048576 ∧ (dbl BS).length = 2 * BS.length) := ⟨HBS.out.2.1, dbl_len BS⟩
          clear hD
          go_wp2_with (first
            | (at_builtin; refine append_o (P' := m2) rfl _ _ rfl rfl HX1.out.ka rfl HX1.out.ky.o1 (fun g x => ⟨⟨⟨by have := x.1; have := HOR.out; omega, HDD.out.1 g (by have := x.1; have := HOR.out; omega) (by have := x.2; have := HOR.out; omega)⟩, x.1⟩, x.2⟩) (by have := HOR.out; omega) HOR.out.1 (by have := HLM.out; first | omega | (simp only [List.length_append]; omega)) ?_; intro v' q0 k1 k2; obtain ⟨p0a, p0n, p0c, rfl⟩ := k1.al.rbs.form3; have X2 : Hid (KX W w.heap.size hb l D BS ((dbl BS) ++ BS) m2 m1 m2 m3 m4 m5 m6 m7 m4 m5 (.slice p0a p0n p0c) (.slice ba nb bcap) (.slice ka 68 kc) (.slice b1a BS.length b1c) (.slice b2a BS.length b2c) (.slice xa BS.length xc) (.slice ya BS.length yc) (.slice mxa 0 mxc) (.slice mya 0 myc) (.slice (some ⟨og, 0, none⟩) on on) (.slice (some ⟨tg, 0, none⟩) tn tn) (q0)) := ⟨k1, HX1.out.ky.kk k2⟩; clear k1 k2 HX1)
            | (at_builtin; refine append_o (P' := m3) rfl _ _ rfl rfl X2.out.ka rfl X2.out.ky.o2 (fun g x => ⟨⟨⟨by have := x.1; have := HOR.out; omega, HDD.out.1 g (by have := x.1; have := HOR.out; omega) (by have := x.2; have := HOR.out; omega)⟩, x.1⟩, x.2⟩) (by have := HOR.out; omega) HOR.out.1 (by have := HLM.out; first | omega | (simp only [List.length_append]; omega)) ?_; intro v' q1 k1 k2; obtain ⟨p1a, p1n, p1c, rfl⟩ := k1.al.rbs.form3; have X3 : Hid (KX W w.heap.size hb l D BS ((dbl BS) ++ BS ++ BS) m3 m1 m2 m3 m4 m5 m6 m7 m4 m5 (.slice p1a p1n p1c) (.slice ba nb bcap) (.slice ka 68 kc) (.slice b1a BS.length b1c) (.slice b2a BS.length b2c) (.slice xa BS.length xc) (.slice ya BS.length yc) (.slice mxa 0 mxc) (.slice mya 0 myc) (.slice (some ⟨og, 0, none⟩) on on) (.slice (some ⟨tg, 0, none⟩) tn tn) (q1)) := ⟨k1, X2.out.ky.kk k2⟩; obtain ⟨_, x1, _, _⟩ := box_cell X3.out.ky.bx; clear k1 k2 X2)
            | (at_builtin; refine append_o (P' := m4) rfl _ _ rfl rfl X3.out.ka rfl X3.out.ky.ox (fun g x => ⟨⟨⟨by have := x.1; have := HOR.out; omega, HDD.out.1 g (by have := x.1; have := HOR.out; omega) (by have := x.2; have := HOR.out; omega)⟩, x.1⟩, x.2⟩) (by have := HOR.out; omega) HOR.out.1 (by have := HLM.out; first | omega | (simp only [List.length_append]; omega)) ?_; intro v' q2 k1 k2; obtain ⟨p2a, p2n, p2c, rfl⟩ := k1.al.rbs.form3; have X4 : Hid (KX W w.heap.size hb l D BS ((dbl BS) ++ BS ++ BS ++ BS) m4 m1 m2 m3 m4 m5 m6 m7 m4 m5 (.slice p2a p2n p2c) (.slice ba nb bcap) (.slice ka 68 kc) (.slice b1a BS.length b1c) (.slice b2a BS.length b2c) (.slice xa BS.length xc) (.slice ya BS.length yc) (.slice mxa 0 mxc) (.slice mya 0 myc) (.slice (some ⟨og, 0, none⟩) on on) (.slice (some ⟨tg, 0, none⟩) tn tn) (q2)) := ⟨k1, X3.out.ky.kk k2⟩; obtain ⟨_, y1, _, _⟩ := box_cell X4.out.ky.by_; clear k1 k2 X3 x1)
            | (at_builtin; refine append_o (P' := m5) rfl _ _ rfl rfl X4.out.ka rfl X4.out.ky.oy (fun g x => ⟨⟨⟨by have := x.1; have := HOR.out; omega, HDD.out.1 g (by have := x.1; have := HOR.out; omega) (by have := x.2; have := HOR.out; omega)⟩, x.1⟩, x.2⟩) (by have := HOR.out; omega) HOR.out.1 (by have := HLM.out; first | omega | (simp only [List.length_append]; omega)) ?_; intro v' q3 k1 k2; obtain ⟨p3a, p3n, p3c, rfl⟩ := k1.al.rbs.form3; have X5 : Hid (KX W w.heap.size hb l D BS ((dbl BS) ++ BS ++ BS ++ BS ++ BS) m5 m1 m2 m3 m4 m5 m6 m7 m4 m5 (.slice p3a p3n p3c) (.slice ba nb bcap) (.slice ka 68 kc) (.slice b1a BS.length b1c) (.slice b2a BS.length b2c) (.slice xa BS.length xc) (.slice ya BS.length yc) (.slice mxa 0 mxc) (.slice mya 0 myc) (.slice (some ⟨og, 0, none⟩) on on) (.slice (some ⟨tg, 0, none⟩) tn tn) (q3.alloc (.cells #[.slice (some ⟨og, 0, none⟩) on on] 28))) := KX.keep ⟨k1, X4.out.ky.kk k2⟩ ((Below.refl _ _).alloc (Nat.le_refl _) _); clear k1 k2 X4 y1)
            | (at_builtin; refine append_p (P' := m6) rfl _ _ rfl rfl X5.out.ka q3.heap.size _ (sgn ++ hb) rfl (cellNew _ _ _) X5.out.ky.on (by have := HOR.out; omega) (by have := HLM.out; first | omega | (simp only [List.length_append]; omega) | (simp only [List.length_append, List.length_singleton]; omega)) ?_; intro v' q4 k1 k2; obtain ⟨p4a, p4n, p4c, rfl⟩ := k1.al.rbs.form3; have X6 : Hid (KX W w.heap.size hb l D BS ((dbl BS) ++ BS ++ BS ++ BS ++ BS ++ [sgn ++ hb]) m6 m1 m2 m3 m4 m5 m6 m7 m4 m5 (.slice p4a p4n p4c) (.slice ba nb bcap) (.slice ka 68 kc) (.slice b1a BS.length b1c) (.slice b2a BS.length b2c) (.slice xa BS.length xc) (.slice ya BS.length yc) (.slice mxa 0 mxc) (.slice mya 0 myc) (.slice (some ⟨og, 0, none⟩) on on) (.slice (some ⟨tg, 0, none⟩) tn tn) (q4.alloc (.cells #[.slice (some ⟨tg, 0, none⟩) tn tn] 28))) := KX.keep ⟨k1, X5.out.ky.kk k2⟩ ((Below.refl _ _).alloc (Nat.le_refl _) _); clear k1 k2 X5)
            | (at_builtin; refine append_p (P' := m7) rfl _ _ rfl rfl X6.out.ka q4.heap.size _ (sgn ++ hb) rfl (cellNew _ _ _) X6.out.ky.tw (by have := HOR.out; omega) (by have := HLM.out; first | omega | (simp only [List.length_append]; omega) | (simp only [List.length_append, List.length_singleton]; omega)) ?_; intro v' q5 k1 k2; obtain ⟨p5a, p5n, p5c, rfl⟩ := k1.al.rbs.form3; have X7 : Hid (KX W w.heap.size hb l D BS ((dbl BS) ++ BS ++ BS ++ BS ++ BS ++ [sgn ++ hb] ++ [sgn ++ hb]) m7 m1 m2 m3 m4 m5 m6 m7 m4 m5 (.slice p5a p5n p5c) (.slice ba nb bcap) (.slice ka 68 kc) (.slice b1a BS.length b1c) (.slice b2a BS.length b2c) (.slice xa BS.length xc) (.slice ya BS.length yc) (.slice mxa 0 mxc) (.slice mya 0 myc) (.slice (some ⟨og, 0, none⟩) on on) (.slice (some ⟨tg, 0, none⟩) tn tn) (q5)) := ⟨k1, X6.out.ky.kk k2⟩; clear k1 k2 X6))
          have hAll : ∀ j, ((dbl BS ++ BS ++ BS ++ BS ++ BS ++ [sgn ++ hb] ++ [sgn ++ hb]).getD j []).length ≤ 1048576 := fun j => by
            have key : ∀ b ∈ dbl BS ++ BS ++ BS ++ BS ++ BS ++ [sgn ++ hb] ++ [sgn ++ hb], b.length ≤ 1048576 := fun b hb' => by
              simp only [List.mem_append, List.mem_singleton] at hb'
              rcases hb' with (((((hb' | hb') | hb') | hb') | hb') | hb') | hb'
              · have := dbl_small BS HBS.out.2.2.1 b hb'; omega
              · have := HBS.out.2.2.1 b hb'; omega
              · have := HBS.out.2.2.1 b hb'; omega
              · have := HBS.out.2.2.1 b hb'; omega
              · have := HBS.out.2.2.1 b hb'; omega
              · rw [hb', h68]; omega
              · rw [hb', h68]; omega
            by_cases hj : j < (dbl BS ++ BS ++ BS ++ BS ++ BS ++ [sgn ++ hb] ++ [sgn ++ hb]).length
            · exact key _ (by rw [List.getD_eq_getElem?_getD, List.getElem?_eq_getElem hj]; exact List.getElem_mem hj)
            · rw [List.getD_eq_getElem?_getD, List.getElem?_eq_none (by omega)]; simp
          have hAn : (dbl BS ++ BS ++ BS ++ BS ++ BS ++ [sgn ++ hb] ++ [sgn ++ hb]).length ≤ 134217728 := by
            have := HLM.out
            simp only [List.length_append, List.length_singleton]
            omega
          have AP : Hid (Calls Try.prog 12 #[.slice p5a p5n p5c] q5 fun e w' => e = .returned (.bool true) ∧ Fr (fun k => ¬ ((W.heap.size ≤ k ∧ ¬ D k) ∧ k < m7)) q5 w') := apart _ W.heap.size _ _ q5 X7.out.ka.al X7.out.ka.bel.size (fun g x => x.1.1) hAn hAll
          clear hAll hAn
          refine AP.out.mono ?_
          rintro e r1 ⟨rfl, f1⟩
          have hbx1 : r1.heap[w.heap.size]? = some (.cells (bc hb) 25 (0, 0)) := (f1.block _ (Array.getElem?_eq_some_iff.1 X7.out.ky.bo).1 (fun x => by have := x.1.1; have := HBX.out.2.2; omega)).trans X7.out.ky.bo
          have kb1 : OW W.heap.size r1 (.slice ka 68 kc) (sgn ++ hb) := ownsRow_one X7.out.ky.kb (fun k hk => f1.block k (X7.out.ky.kb.blk k hk).2 (fun x => x.1.2 (HDD.out.2.2 k hk)))
          have bb1 : OW W.heap.size r1 (.slice ba nb bcap) l := ownsRow_one X7.out.ky.bb (fun k hk => f1.block k (X7.out.ky.bb.blk k hk).2 (fun x => x.1.2 (HDD.out.2.1 k hk)))
          have be1 : Below W.heap.size W r1 := bel_fr X7.out.ka.bel f1 (fun k hk x => by have := x.1.1; omega) (Nat.le_refl _)
          have R1 : Hid (OW W.heap.size r1 (.slice ka 68 kc) (sgn ++ hb) ∧ OW W.heap.size r1 (.slice ba nb bcap) l ∧ Below W.heap.size W r1) := ⟨kb1, bb1, be1⟩
          have GC : Hid (Calls Try.prog 11 #[.agg (bc hb)] r1 fun e w' => ∃ v, e = .returned v ∧ BK (fun g => r1.heap.size ≤ g) w' v (sgn ++ hb) ∧ Below r1.heap.size r1 w') := greetK hb h48 r1
          clear AP f1 kb1 bb1 be1 X7
          go_wp2_with (first | (refine load_hello_if rfl _ rfl w.heap.size rfl (bc hb) hbx1 hi48 ?_))
          refine GC.out.mono ?_
          rintro e r2 ⟨gv2, rfl, g5, d5⟩
          obtain ⟨zg, zn, rfl⟩ : ∃ g n, gv2 = .slice (some ⟨g, 0, none⟩) n n := by obtain ⟨g, _, e, _⟩ := g5; exact ⟨g, _, e⟩
          have SK2 : Hid (Calls Try.prog 6 #[.slice (some ⟨zg, 0, none⟩) zn zn, .slice ka 68 kc] r2 fun e w' => e = .returned (.bool true) ∧ ∃ n, w' = r2.drewN n) := same _ _ (sgn ++ hb) r2 (by omega) g5.rb (R1.out.1.grow d5).rb
          have R2 : Hid (OW W.heap.size r2 (.slice ba nb bcap) l ∧ Below W.heap.size W r2) := ⟨R1.out.2.1.grow d5, R1.out.2.2.trans (d5.mono R1.out.2.2.size)⟩
          clear GC g5 d5 R1 hbx1
          go_wp2_with fail
          refine SK2.out.mono ?_
          rintro e r3 ⟨rfl, n3, rfl⟩
          have R3 : Hid (Below W.heap.size W (r2.drewN n3)) := belowN R2.out.2 _
          have SL : Hid (Calls Try.prog 13 #[.slice ba nb bcap] (r2.drewN n3) fun e w' => e = .returned (.bool true) ∧ Below (r2.drewN n3).heap.size (r2.drewN n3) w') := stale _ l (r2.drewN n3) (R2.out.1.grow (belowDrew _ _)).rb (by have := HFL.out; omega)
          clear SK2 R2
          go_wp2_with fail
          refine SL.out.mono ?_
          rintro e r4 ⟨rfl, d6⟩
          have R4 : Hid (Below w.heap.size w r4) := HBX.out.2.1.trans ((R3.out.trans (d6.mono R3.out.size)).mono (Nat.le_of_lt HBX.out.2.2))
          clear SL d6 R3
          go_wp2
          go_ret
          exact ⟨rfl, R4.out⟩
end Go.Proofs.Ytmfeelkjbpjhdaa
