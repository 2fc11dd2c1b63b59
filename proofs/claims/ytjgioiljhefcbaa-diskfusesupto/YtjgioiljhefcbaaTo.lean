import Derived.Test.YtjgioiljhefcbaaPf
namespace Go.Proofs.Ytjgioiljhefcbaa
open Go.RowKit
/-- four disks, each in blocks of its own, and the bools -/
structure T4 (w wr : World) (s3 s4 s5 s6 s7 : Nat) (a b c d : Nat) (kv : Value) (A B C D : Dk) (kl : List Bool) : Prop where
  f : Below w.heap.size w wr
  a : DK (fun k => s3 ≤ k ∧ k < s4) wr a A
  b : DK (fun k => s4 ≤ k ∧ k < s5) wr b B
  c : DK (fun k => s5 ≤ k ∧ k < s6) wr c C
  d : DK (fun k => s6 ≤ k ∧ k < s7) wr d D
  k : OBo s7 wr kv kl
  o : w.heap.size ≤ s3 ∧ s3 ≤ s4 ∧ s4 ≤ s5 ∧ s5 ≤ s6 ∧ s6 ≤ s7
section
variable {w wr w2 : World} {s3 s4 s5 s6 s7 : Nat} {a b c d : Nat} {kv : Value} {A B C D A' B' C' D' : Dk} {kl : List Bool}
theorem T4.own (h : T4 w wr s3 s4 s5 s6 s7 a b c d kv A B C D kl) : ∀ g, kv.ownBlock = some g → s7 ≤ g := fun g hg => by
  rcases h.k.2 with ⟨e, _⟩ | ⟨g', _, _, e, h1, _⟩
  · rw [e] at hg; simp [Value.ownBlock] at hg
  · rw [e] at hg; simp [Value.ownBlock] at hg; omega
theorem T4.on (h : T4 w wr s3 s4 s5 s6 s7 a b c d kv A B C D kl) (hb : Below wr.heap.size wr w2) : T4 w w2 s3 s4 s5 s6 s7 a b c d kv A B C D kl :=
  ⟨h.f.trans (hb.mono h.f.size), h.a.below hb, h.b.below hb, h.c.below hb, h.d.below hb, h.k.on hb, h.o⟩
theorem T4.setA (h : T4 w wr s3 s4 s5 s6 s7 a b c d kv A B C D kl) (hd : DK (fun k => s3 ≤ k ∧ k < s4) w2 a A') (hf : Fr (fun k => ¬ (s3 ≤ k ∧ k < s4)) wr w2) : T4 w w2 s3 s4 s5 s6 s7 a b c d kv A' B C D kl := by
  have ho := h.o
  have hz := h.f.size
  exact ⟨⟨hf.os.trans h.f.os, hf.tape.trans h.f.tape, hf.output.trans h.f.output, Nat.le_trans hz hf.size, fun k hk => (hf.block k (by omega) (by omega)).trans (h.f.block k hk)⟩, hd, h.b.fr (hf.mono (fun k _ h => by omega)), h.c.fr (hf.mono (fun k _ h => by omega)), h.d.fr (hf.mono (fun k _ h => by omega)), ownsRow_fr h.k hf (fun g hg => by have := h.own g hg; omega), ho⟩
theorem T4.setB (h : T4 w wr s3 s4 s5 s6 s7 a b c d kv A B C D kl) (hd : DK (fun k => s4 ≤ k ∧ k < s5) w2 b B') (hf : Fr (fun k => ¬ (s4 ≤ k ∧ k < s5)) wr w2) : T4 w w2 s3 s4 s5 s6 s7 a b c d kv A B' C D kl := by
  have ho := h.o
  have hz := h.f.size
  exact ⟨⟨hf.os.trans h.f.os, hf.tape.trans h.f.tape, hf.output.trans h.f.output, Nat.le_trans hz hf.size, fun k hk => (hf.block k (by omega) (by omega)).trans (h.f.block k hk)⟩, h.a.fr (hf.mono (fun k _ h => by omega)), hd, h.c.fr (hf.mono (fun k _ h => by omega)), h.d.fr (hf.mono (fun k _ h => by omega)), ownsRow_fr h.k hf (fun g hg => by have := h.own g hg; omega), ho⟩
theorem T4.setC (h : T4 w wr s3 s4 s5 s6 s7 a b c d kv A B C D kl) (hd : DK (fun k => s5 ≤ k ∧ k < s6) w2 c C') (hf : Fr (fun k => ¬ (s5 ≤ k ∧ k < s6)) wr w2) : T4 w w2 s3 s4 s5 s6 s7 a b c d kv A B C' D kl := by
  have ho := h.o
  have hz := h.f.size
  exact ⟨⟨hf.os.trans h.f.os, hf.tape.trans h.f.tape, hf.output.trans h.f.output, Nat.le_trans hz hf.size, fun k hk => (hf.block k (by omega) (by omega)).trans (h.f.block k hk)⟩, h.a.fr (hf.mono (fun k _ h => by omega)), h.b.fr (hf.mono (fun k _ h => by omega)), hd, h.d.fr (hf.mono (fun k _ h => by omega)), ownsRow_fr h.k hf (fun g hg => by have := h.own g hg; omega), ho⟩
theorem T4.setD (h : T4 w wr s3 s4 s5 s6 s7 a b c d kv A B C D kl) (hd : DK (fun k => s6 ≤ k ∧ k < s7) w2 d D') (hf : Fr (fun k => ¬ (s6 ≤ k ∧ k < s7)) wr w2) : T4 w w2 s3 s4 s5 s6 s7 a b c d kv A B C D' kl := by
  have ho := h.o
  have hz := h.f.size
  exact ⟨⟨hf.os.trans h.f.os, hf.tape.trans h.f.tape, hf.output.trans h.f.output, Nat.le_trans hz hf.size, fun k hk => (hf.block k (by omega) (by omega)).trans (h.f.block k hk)⟩, h.a.fr (hf.mono (fun k _ h => by omega)), h.b.fr (hf.mono (fun k _ h => by omega)), h.c.fr (hf.mono (fun k _ h => by omega)), hd, ownsRow_fr h.k hf (fun g hg => by have := h.own g hg; omega), ho⟩
theorem T4.setK {g cc n : Nat} (h : T4 w wr s3 s4 s5 s6 s7 a b c d (.slice (some ⟨g, 0, none⟩) n cc) A B C D kl) {kl' : List Bool} (hk : OBo s7 w2 (.slice (some ⟨g, 0, none⟩) n cc) kl') (hf : Fr (fun k => k ≠ g) wr w2) : T4 w w2 s3 s4 s5 s6 s7 a b c d (.slice (some ⟨g, 0, none⟩) n cc) A B C D kl' := by
  have ho := h.o
  have hz := h.f.size
  have hg := h.own g rfl
  exact ⟨⟨hf.os.trans h.f.os, hf.tape.trans h.f.tape, hf.output.trans h.f.output, Nat.le_trans hz hf.size, fun k hk => (hf.block k (by omega) (by omega)).trans (h.f.block k hk)⟩, h.a.fr (hf.mono (fun k _ h => by omega)), h.b.fr (hf.mono (fun k _ h => by omega)), h.c.fr (hf.mono (fun k _ h => by omega)), h.d.fr (hf.mono (fun k _ h => by omega)), hk, ho⟩
end
theorem dk0_len (l : List UInt8) (us : List Wv) : (dk0 l us).ws.length = (ins l us).length := by show ((ins l us).map mkW).length = _; rw [List.length_map]
set_option maxHeartbeats 8000000 in
set_option maxRecDepth 100000 in
theorem tornLaw (iv v kv : Value) (l : List UInt8) (us : List Wv) (keep : List Bool) (torn : Int) (w : World) (hi : RB w iv l) (hl : l.length ≤ 140737488351232) (hr : RWv w v us) (hul : us.length ≤ 1048576) (hk : RBo w kv keep) (hkl : keep.length ≤ 1048576) :
    Calls Try.prog 6 #[iv, v, kv, .int .i64 torn] w fun e w' => e = .returned (.bool true) ∧ Below w.heap.size w w' := by
  have HAW := Lib.hid (awake w)
  have HI : Hid (RB w iv l) := hi
  have HR : Hid (RWv w v us) := hr
  have HLL : Hid (l.length ≤ 140737488351232 ∧ us.length ≤ 1048576) := ⟨hl, hul⟩
  obtain ⟨ia, ic, rfl, _, _⟩ := hi
  obtain ⟨wa, wc, rfl, _, _⟩ := hr.1
  have HK : Hid (RBo w kv keep) := hk
  obtain ⟨ka, kc, rfl, _, _⟩ := hk
  clear hr
  go_enter Try.func6, Try.ntmps6
  go_wp2_with fail
  refine HAW.out.mono ?_
  rintro e w1 ⟨rfl, b1⟩
  have P1 : Hid (Below w.heap.size w w1 ∧ RB w1 (.slice ia l.length ic) l ∧ RWv w1 (.slice wa us.length wc) us) := ⟨b1, HI.out.keep b1, HR.out.keep b1⟩
  clear b1 HAW HI HR
  go_wp2_with fail
  refine (whole _ l w1 P1.out.2.1 HLL.out.1).mono ?_
  rintro e w2 ⟨ov, rfl, ho, b2⟩
  obtain ⟨oa, oc, rfl⟩ := ho.form
  have P2 : Hid (Below w.heap.size w w2 ∧ RB w2 (.slice ia l.length ic) l ∧ RWv w2 (.slice wa us.length wc) us ∧ OW w.heap.size w2 (.slice oa (wh l).length oc) (wh l)) := ⟨P1.out.1.trans (b2.mono P1.out.1.size), P1.out.2.1.keep b2, P1.out.2.2.keep b2, ho.mono P1.out.1.size⟩
  clear ho b2 P1
  have hwl : (wh l).length ≤ 32768 := (wh_gd l).2.2
  go_wp2_with fail
  refine (inside _ us ((wh l).length / 64) w2 P2.out.2.2.1 (by omega) (by have := HLL.out.2; omega)).mono ?_
  rintro e w3 ⟨lv', rfl, hx, b3⟩
  obtain ⟨la, lc, hlv⟩ := ownsRow_form hx
  have P3 : Hid (PX w w3 (.slice ia l.length ic) (.slice wa us.length wc) (.slice oa (wh l).length oc) (.slice la (ins l us).length lc) l us) := ⟨P2.out.1.trans (b3.mono P2.out.1.size), P2.out.2.1.keep b3, P2.out.2.2.1.keep b3, P2.out.2.2.2.grow b3, by rw [← show lv' = .slice la (ins l us).length lc from hlv]; exact ownsRow_base hx P2.out.1.size⟩
  have hlv' : lv' = .slice la (ins l us).length lc := hlv
  subst hlv'
  clear hx b3 P2 hlv
  have HNL : Hid ((ins l us).length ≤ 1048576) := Nat.le_trans (ins_len l us) HLL.out.2
  by_cases hout : torn < 0 ∨ ((ins l us).length : Int) ≤ torn
  · have HB : Hid (Below w.heap.size w w3) := P3.out.b
    clear P3
    rcases hout with h1 | h1
    · have hq : decide (torn < 0) = true := decide_eq_true h1
      go_wp2_with fail
      go_ret
      exact ⟨rfl, HB.out⟩
    · have hq : decide (torn < 0) = false := decide_eq_false (by omega)
      have hq2 : decide (((ins l us).length : Int) ≤ torn) = true := decide_eq_true h1
      go_wp2_with fail
      go_ret
      exact ⟨rfl, HB.out⟩
  obtain ⟨tn, rfl⟩ : ∃ tn : Nat, torn = tn := ⟨torn.toNat, by omega⟩
  have htn : tn < (ins l us).length := by omega
  have hq : decide ((tn : Int) < 0) = false := decide_eq_false (by omega)
  have hq2 : ((ins l us).length ≤ tn) = False := eq_false (by omega)
  clear hout
  go_wp2_with fail
  refine (P3.out.made HLL.out.2).mono ?_
  rintro e w4 ⟨pa, rfl, hda, b4⟩
  have M4 : Hid (DK (fun k => w3.heap.size ≤ k ∧ k < w4.heap.size) w4 pa (dk0 l us) ∧ Below w3.heap.size w3 w4) := ⟨hda.sub (fun k hk h => ⟨h, hk⟩), b4⟩
  have P4 := Lib.hid (P3.out.on b4)
  clear hda b4
  go_wp2_with fail
  refine (P4.out.made HLL.out.2).mono ?_
  rintro e w5 ⟨pb, rfl, hda, b5⟩
  have M5 : Hid (DK (fun k => w3.heap.size ≤ k ∧ k < w4.heap.size) w5 pa (dk0 l us) ∧ DK (fun k => w4.heap.size ≤ k ∧ k < w5.heap.size) w5 pb (dk0 l us) ∧ w3.heap.size ≤ w4.heap.size ∧ w4.heap.size ≤ w5.heap.size) := ⟨M4.out.1.below b5, hda.sub (fun k hk h => ⟨h, hk⟩), M4.out.2.size, b5.size⟩
  have P5 := Lib.hid (P4.out.on b5)
  clear hda b5 M4 P4
  go_wp2_with fail
  refine (P5.out.made HLL.out.2).mono ?_
  rintro e w6 ⟨pc, rfl, hda, b6⟩
  have M6 : Hid (DK (fun k => w3.heap.size ≤ k ∧ k < w4.heap.size) w6 pa (dk0 l us) ∧ DK (fun k => w4.heap.size ≤ k ∧ k < w5.heap.size) w6 pb (dk0 l us) ∧ DK (fun k => w5.heap.size ≤ k ∧ k < w6.heap.size) w6 pc (dk0 l us) ∧ w3.heap.size ≤ w4.heap.size ∧ w4.heap.size ≤ w5.heap.size ∧ w5.heap.size ≤ w6.heap.size) := ⟨M5.out.1.below b6, M5.out.2.1.below b6, hda.sub (fun k hk h => ⟨h, hk⟩), M5.out.2.2.1, M5.out.2.2.2, b6.size⟩
  have P6 := Lib.hid (P5.out.on b6)
  clear hda b6 M5 P5
  go_wp2_with fail
  refine (P6.out.made HLL.out.2).mono ?_
  rintro e w7 ⟨pd, rfl, hda, b7⟩
  have M7 : Hid (DK (fun k => w3.heap.size ≤ k ∧ k < w4.heap.size) w7 pa (dk0 l us) ∧ DK (fun k => w4.heap.size ≤ k ∧ k < w5.heap.size) w7 pb (dk0 l us) ∧ DK (fun k => w5.heap.size ≤ k ∧ k < w6.heap.size) w7 pc (dk0 l us) ∧ DK (fun k => w6.heap.size ≤ k ∧ k < w7.heap.size) w7 pd (dk0 l us) ∧ w3.heap.size ≤ w4.heap.size ∧ w4.heap.size ≤ w5.heap.size ∧ w5.heap.size ≤ w6.heap.size ∧ w6.heap.size ≤ w7.heap.size) := ⟨M6.out.1.below b7, M6.out.2.1.below b7, M6.out.2.2.1.below b7, hda.sub (fun k hk h => ⟨h, hk⟩), M6.out.2.2.2.1, M6.out.2.2.2.2.1, M6.out.2.2.2.2.2, b7.size⟩
  have B7 : Hid (Below w.heap.size w w7 ∧ w.heap.size ≤ w3.heap.size) := ⟨(P6.out.on b7).b, P3.out.b.size⟩
  clear hda b7 M6 P6 P3
  go_wp2_with fail
  refine (kept _ keep (ins l us).length w7 (HK.out.keep B7.out.1) (by omega) (by have := HNL.out; omega)).mono ?_
  rintro e w8 ⟨kw, rfl, hko, b8⟩
  obtain ⟨gk, ck, hkw⟩ : ∃ g c, kw = .slice (some ⟨g, 0, none⟩) (ins l us).length c := by
    rcases hko.2 with ⟨_, h0⟩ | ⟨g, c, _, h1, _⟩
    · rw [kp_len] at h0; omega
    · rw [kp_len] at h1; exact ⟨g, c, h1⟩
  subst hkw
  have N8 : Hid (T4 w w8 w3.heap.size w4.heap.size w5.heap.size w6.heap.size w7.heap.size pa pb pc pd (.slice (some ⟨gk, 0, none⟩) (ins l us).length ck) (dk0 l us) (dk0 l us) (dk0 l us) (dk0 l us) (kp keep (ins l us).length)) := by
    obtain ⟨m1, m2, m3, m4, m5, m6, m7, m8⟩ := M7.out
    exact ⟨B7.out.1.trans (b8.mono B7.out.1.size), m1.below b8, m2.below b8, m3.below b8, m4.below b8, hko, B7.out.2, m5, m6, m7, m8⟩
  clear hko b8 M7 B7 HK
  have HGD : Hid (Gd (dk0 l us) ∧ (dk0 l us).ws.length = (ins l us).length ∧ (kp keep (ins l us).length).length = (ins l us).length) := ⟨N8.out.a.gd, dk0_len l us, kp_len _ _⟩
  generalize dk0 l us = D0 at *
  generalize kp keep (ins l us).length = kl at *
  generalize (ins l us).length = n at *
  have NC := Lib.hid (crash N8.out.a _ kl N8.out.k.rb (by rw [HGD.out.2.1, HGD.out.2.2]) (fun g hg h => by have := N8.out.own g hg; have := N8.out.o; omega) (by have := HGD.out.2.1; have := HNL.out; omega) (tn : Int) 0 (by omega) (by rw [HGD.out.2.1]; omega) (fun _ => by omega))
  go_wp2_with fail
  refine NC.out.mono ?_
  rintro e w9 ⟨rfl, hd, hf⟩
  have N9 := Lib.hid (N8.out.setA hd hf)
  clear hd hf NC N8
  have NC := Lib.hid (crash N9.out.b _ kl N9.out.k.rb (by rw [HGD.out.2.1, HGD.out.2.2]) (fun g hg h => by have := N9.out.own g hg; have := N9.out.o; omega) (by have := HGD.out.2.1; have := HNL.out; omega) (tn : Int) 64 (by omega) (by rw [HGD.out.2.1]; omega) (fun _ => by omega))
  go_wp2_with fail
  refine NC.out.mono ?_
  rintro e w10 ⟨rfl, hd, hf⟩
  have N10 := Lib.hid (N9.out.setB hd hf)
  clear hd hf NC N9
  obtain ⟨kc1, kf1, ks1, kr1⟩ := N10.out.k.set tn (by rw [HGD.out.2.2]; exact htn) false
  have N11 := Lib.hid (N10.out.setK ks1 kr1)
  clear ks1 kr1 N10
  generalize kl.getD tn false = kb at *
  have NC := Lib.hid (crash N11.out.c _ (kl.set tn false) N11.out.k.rb (by rw [List.length_set, HGD.out.2.1, HGD.out.2.2]) (fun g hg h => by have := N11.out.own g hg; have := N11.out.o; omega) (by have := HGD.out.2.1; have := HNL.out; omega) (-1) 0 (by omega) (by omega) (fun h => absurd rfl h))
  go_wp2_with fail
  generalize World.setCell w10 ⟨gk, tn, none⟩ (.bool false) = w11 at *
  clear kc1 kf1
  refine NC.out.mono ?_
  rintro e w12 ⟨rfl, hd, hf⟩
  have N12 := Lib.hid (N11.out.setC hd hf)
  clear hd hf NC N11
  obtain ⟨kc1, kf1, ks1, kr1⟩ := N12.out.k.set tn (by rw [List.length_set, HGD.out.2.2]; exact htn) true
  rw [List.set_set] at ks1
  have N13 := Lib.hid (N12.out.setK ks1 kr1)
  clear ks1 kr1 N12
  generalize (kl.set tn false).getD tn false = kb2 at *
  have NC := Lib.hid (crash N13.out.d _ (kl.set tn true) N13.out.k.rb (by rw [List.length_set, HGD.out.2.1, HGD.out.2.2]) (fun g hg h => by have := N13.out.own g hg; have := N13.out.o; omega) (by have := HGD.out.2.1; have := HNL.out; omega) (-1) 0 (by omega) (by omega) (fun h => absurd rfl h))
  go_wp2_with fail
  generalize World.setCell w12 ⟨gk, tn, none⟩ (.bool true) = w13 at *
  clear kc1 kf1
  refine NC.out.mono ?_
  rintro e w14 ⟨rfl, hd, hf⟩
  have N14 := Lib.hid (N13.out.setD hd hf)
  clear hd hf NC N13
  have HT : Hid (crD kl tn 0 D0.last D0.ws = crD (kl.set tn false) (-1) 0 D0.last D0.ws ∧ crD kl tn 64 D0.last D0.ws = crD (kl.set tn true) (-1) 0 D0.last D0.ws) := ⟨torn0 HGD.out.1 kl tn (by rw [HGD.out.2.2]; exact htn), torn64 HGD.out.1 kl tn (by rw [HGD.out.2.2]; exact htn)⟩
  have HCL : Hid (∀ k t c, (crD k t c D0.last D0.ws).length ≤ 140737488351232) := fun k t c => by rw [crD_len]; have := HGD.out.1.max; omega
  go_wp2_with fail
  refine (image N14.out.a).mono ?_
  rintro e w15 ⟨v15, rfl, ho, hb⟩
  have ho' : OW w14.heap.size w15 v15 (img (crD kl (tn : Int) (if (tn : Int) = -1 then 0 else (0 : Int).toNat) D0.last D0.ws) []) := ho
  rw [img_nil, if_neg (show ¬ (tn : Int) = -1 by omega), Int.toNat_zero, HT.out.1] at ho'
  have N15 := Lib.hid (N14.out.on hb)
  have R15 : Hid (RB w15 v15 (crD (kl.set tn false) (-1) 0 D0.last D0.ws)) := ho'.rb
  obtain ⟨a15, c15, e15⟩ := ho'.form
  subst e15
  clear ho ho' hb N14
  go_wp2_with fail
  refine (image N15.out.c).mono ?_
  rintro e w16 ⟨v16, rfl, ho, hb⟩
  have ho' : OW w15.heap.size w16 v16 (img (crD (kl.set tn false) (-1) (if (-1 : Int) = -1 then 0 else (0 : Int).toNat) D0.last D0.ws) []) := ho
  rw [img_nil, if_pos rfl] at ho'
  have N16 := Lib.hid (N15.out.on hb)
  have R16 : Hid (RB w16 v16 (crD (kl.set tn false) (-1) 0 D0.last D0.ws) ∧ RB w16 (.slice a15 (crD (kl.set tn false) (-1) 0 D0.last D0.ws).length c15) (crD (kl.set tn false) (-1) 0 D0.last D0.ws)) := ⟨ho'.rb, R15.out.keep hb⟩
  obtain ⟨a16, c16, e16⟩ := ho'.form
  subst e16
  clear ho ho' hb N15 R15
  go_wp2_with fail
  refine (same _ _ _ w16 (HCL.out _ _ _) R16.out.2 R16.out.1).mono ?_
  rintro e w17 ⟨rfl, nq, rfl⟩
  have N17 := Lib.hid (N16.out.on (belowDrew w16 nq))
  clear N16 R16
  generalize w16.drewN nq = w17 at *
  go_wp2_with fail
  refine (image N17.out.b).mono ?_
  rintro e w18 ⟨v18, rfl, ho, hb⟩
  have ho' : OW w17.heap.size w18 v18 (img (crD kl (tn : Int) (if (tn : Int) = -1 then 0 else (64 : Int).toNat) D0.last D0.ws) []) := ho
  rw [img_nil, if_neg (show ¬ (tn : Int) = -1 by omega), show (64 : Int).toNat = 64 from rfl, HT.out.2] at ho'
  have N18 := Lib.hid (N17.out.on hb)
  have R18 : Hid (RB w18 v18 (crD (kl.set tn true) (-1) 0 D0.last D0.ws)) := ho'.rb
  obtain ⟨a18, c18, e18⟩ := ho'.form
  subst e18
  clear ho ho' hb N17
  go_wp2_with fail
  refine (image N18.out.d).mono ?_
  rintro e w19 ⟨v19, rfl, ho, hb⟩
  have ho' : OW w18.heap.size w19 v19 (img (crD (kl.set tn true) (-1) (if (-1 : Int) = -1 then 0 else (0 : Int).toNat) D0.last D0.ws) []) := ho
  rw [img_nil, if_pos rfl] at ho'
  have N19 := Lib.hid (N18.out.on hb)
  have R19 : Hid (RB w19 v19 (crD (kl.set tn true) (-1) 0 D0.last D0.ws) ∧ RB w19 (.slice a18 (crD (kl.set tn true) (-1) 0 D0.last D0.ws).length c18) (crD (kl.set tn true) (-1) 0 D0.last D0.ws)) := ⟨ho'.rb, R18.out.keep hb⟩
  obtain ⟨a19, c19, e19⟩ := ho'.form
  subst e19
  clear ho ho' hb N18 R18
  go_wp2_with fail
  refine (same _ _ _ w19 (HCL.out _ _ _) R19.out.2 R19.out.1).mono ?_
  rintro e w20 ⟨rfl, nq2, rfl⟩
  have N20 : Hid (Below w.heap.size w (w19.drewN nq2)) := (N19.out.on (belowDrew w19 nq2)).f
  clear N19 R19
  generalize w19.drewN nq2 = w20 at *
  go_wp2_with fail
  go_ret
  exact ⟨rfl, N20.out⟩
end Go.Proofs.Ytjgioiljhefcbaa
