import Derived.Test.YtjgioiljhefcbaaCp
import Derived.Deep.RegionHeld3
namespace Go.Proofs.Ytjgioiljhefcbaa
open Go.RowKit
theorem slice_sec (g o n c k : Nat) (h : 64 * k + 64 ≤ c) (w : World) : (Instr.sliceAt 22 (.slice (some ⟨g, o, none⟩) n c) (some (.int .i64 (64 * (k : Int)))) (some (.int .i64 (64 * (k : Int) + 64))) none).run Try.prog w = .ok (.slice (some ⟨g, o + 64 * k, none⟩) 64 (c - 64 * k)) w := by
  have hu := Try.underlying22
  have h1 : (0 : Int) ≤ 64 * (k : Int) := by omega
  have h2 : 64 * (k : Int) ≤ 64 * (k : Int) + 64 := by omega
  have h3 : 64 * (k : Int) + 64 ≤ (c : Int) := by omega
  have h4 : (64 * (k : Int)).toNat = 64 * k := by omega
  have h5 : (64 * (k : Int) + 64).toNat = 64 * k + 64 := by omega
  simp [Instr.sliceAt, run_underlying hu, go_sem, h1, h2, h3, h4, h5]
  omega
theorem RB.sec {w : World} {g o n c : Nat} {l : List UInt8} (h : RB w (.slice (some ⟨g, o, none⟩) n c) l) (k : Nat) (hk : 64 * k + 64 ≤ l.length) : RB w (.slice (some ⟨g, o + 64 * k, none⟩) 64 (c - 64 * k)) (sec l k) := by
  have hl := sec_len l k hk
  have hc := h.cells
  obtain ⟨a', c', e, hle, h⟩ := h
  simp only [Value.slice.injEq] at e
  obtain ⟨ea, _, rfl⟩ := e
  refine ⟨_, c - 64 * k, by rw [hl], by omega, .inr ⟨g, o + 64 * k, rfl, ?_, fun i hi => ?_⟩⟩
  · exact World.block_lt_of_cell? _ _ (hc 0 (by omega))
  · rw [hl] at hi
    rw [sec_byt _ _ _ hi, Nat.add_assoc]
    exact hc _ (by omega)
/-- what is held while the sectors are looked at -/
def CH (w wr : World) (ov lv nv : Value) (old im : List UInt8) (X : List Wv) : Prop := Below w.heap.size w wr ∧ RB wr ov old ∧ RWv wr lv X ∧ RB wr nv im
theorem CH.on {w wr w2 : World} {ov lv nv : Value} {old im : List UInt8} {X : List Wv} (h : CH w wr ov lv nv old im X) (hb : Below wr.heap.size wr w2) : CH w w2 ov lv nv old im X := ⟨h.1.trans (hb.mono h.1.size), h.2.1.keep hb, h.2.2.1.keep hb, h.2.2.2.keep hb⟩
set_option maxHeartbeats 8000000 in
set_option maxRecDepth 100000 in
theorem choiceLaw (iv v kv : Value) (l : List UInt8) (us : List Wv) (keep : List Bool) (torn cut : Int) (w : World) (hi : RB w iv l) (hl : l.length ≤ 140737488351232) (hr : RWv w v us) (hul : us.length ≤ 1048576) (hk : RBo w kv keep) (hkl : keep.length ≤ 1048576) :
    Calls Try.prog 8 #[iv, v, kv, .int .i64 torn, .int .i64 cut] w fun e w' => e = .returned (.bool true) ∧ Below w.heap.size w w' := by
  have HAW := Lib.hid (awake w)
  have HI : Hid (RB w iv l) := hi
  have HR : Hid (RWv w v us) := hr
  have HLL : Hid (l.length ≤ 140737488351232 ∧ us.length ≤ 1048576) := ⟨hl, hul⟩
  obtain ⟨ia, ic, rfl, _, _⟩ := hi
  obtain ⟨wa, wc, rfl, _, _⟩ := hr.1
  have HK : Hid (RBo w kv keep) := hk
  obtain ⟨ka, kc, rfl, _, _⟩ := hk
  have HR0 : Hid (RWv w (.slice wa us.length wc) us) := hr
  clear hr
  go_enter Try.func8, Try.ntmps8
  go_wp2_with fail
  refine HAW.out.mono ?_
  rintro e w1 ⟨rfl, b1⟩
  have P1 : Hid (Below w.heap.size w w1 ∧ RB w1 (.slice ia l.length ic) l ∧ RWv w1 (.slice wa us.length wc) us) := ⟨b1, HI.out.keep b1, HR.out.keep b1⟩
  clear b1 HAW HI HR
  go_wp2_with fail
  refine (whole _ l w1 P1.out.2.1 HLL.out.1).mono ?_
  rintro e w2 ⟨ov, rfl, ho, b2⟩
  obtain ⟨oa, oc, rfl⟩ := ho.form
  have P2 : Hid (Below w.heap.size w w2 ∧ RB w2 (.slice ia l.length ic) l ∧ RWv w2 (.slice wa us.length wc) us ∧ OW w.heap.size w2 (.slice oa (wh l).length oc) (wh l)) := ⟨P1.out.1.trans (b2.mono P1.out.1.size), P1.out.2.1.keep b2, P1.out.2.2.keep b2, ho.mono P1.out.1.size⟩
  clear ho b2 P1
  have hwl : (wh l).length ≤ 32768 := (wh_gd l).2.2
  go_wp2_with fail
  refine (inside _ us ((wh l).length / 64) w2 P2.out.2.2.1 (by omega) (by have := HLL.out.2; omega)).mono ?_
  rintro e w3 ⟨lv', rfl, hx, b3⟩
  obtain ⟨la, lc, hlv⟩ := ownsRow_form hx
  have P3 : Hid (PX w w3 (.slice ia l.length ic) (.slice wa us.length wc) (.slice oa (wh l).length oc) (.slice la (ins l us).length lc) l us) := ⟨P2.out.1.trans (b3.mono P2.out.1.size), P2.out.2.1.keep b3, P2.out.2.2.1.keep b3, P2.out.2.2.2.grow b3, by rw [← show lv' = .slice la (ins l us).length lc from hlv]; exact ownsRow_base hx P2.out.1.size⟩
  have hlv' : lv' = .slice la (ins l us).length lc := hlv
  subst hlv'
  clear hx b3 P2 hlv
  have HNL : Hid ((ins l us).length ≤ 1048576) := Nat.le_trans (ins_len l us) HLL.out.2
  go_wp2_with fail
  refine (P3.out.made HLL.out.2).mono ?_
  rintro e w4 ⟨pa, rfl, hda, b4⟩
  have M4 : Hid (DK (fun k => w3.heap.size ≤ k ∧ k < w4.heap.size) w4 pa (dk0 l us) ∧ w3.heap.size ≤ w4.heap.size) := ⟨hda.sub (fun k hk h => ⟨h, hk⟩), b4.size⟩
  have P4 := Lib.hid (P3.out.on b4)
  have HS3 : Hid (w.heap.size ≤ w3.heap.size ∧ (∀ g, (Value.slice oa (wh l).length oc).ownBlock = some g → g < w3.heap.size) ∧ (∀ g, (Value.slice la (ins l us).length lc).ownBlock = some g → g < w3.heap.size)) := ⟨P3.out.b.size, fun g hg => (ownsRow_lt P3.out.o g hg).1, fun g hg => (ownsRow_lt P3.out.x g hg).1⟩
  clear hda b4 P3
  have HWM : Hid ((wh l).length % 64 = 0) := (wh_gd l).1
  have HD0 : Hid ((dk0 l us).ws.length = (ins l us).length) := dk0_len l us
  generalize hns : (ins l us).length = n at *
  have HNS : Hid ((ins l us).length = n) := hns
  clear hns
  generalize hnl : (wh l).length = nl at *
  have HWL : Hid ((wh l).length = nl) := hnl
  clear hnl
  have hn30 : n ≤ 1048576 := by have := HNL.out; omega
  go_wp2_with fail
  refine (kept _ keep n w4 (HK.out.keep P4.out.b) (by omega) (by omega)).mono ?_
  rintro e w5 ⟨kw, rfl, hko, b5⟩
  have hkg : ∀ g, kw.ownBlock = some g → w4.heap.size ≤ g := fun g hg => by
    rcases hko.2 with ⟨e, _⟩ | ⟨g', _, _, e, h1, _⟩
    · rw [e] at hg; simp [Value.ownBlock] at hg
    · rw [e] at hg; simp [Value.ownBlock] at hg; omega
  have M5 := Lib.hid (M4.out.1.below b5)
  have P5 := Lib.hid (P4.out.on b5)
  have HKW : Hid (RBo w5 kw (kp keep n)) := hko.rb
  have HKG : Hid (∀ g, kw.ownBlock = some g → w4.heap.size ≤ g) := hkg
  obtain ⟨ak, ck, ek⟩ := ownsRow_form hko
  rw [kp_len] at ek
  subst ek
  clear hko b5 hkg P4 HK
  by_cases hbad : torn < -1 ∨ (n : Int) ≤ torn ∨ torn ≠ -1 ∧ (cut < 0 ∨ 64 < cut)
  · have NC := Lib.hid (crash_arg M5.out _ (kp keep n) HKW.out (by rw [kp_len, HD0.out]) torn cut (by rw [HD0.out]; exact hbad))
    go_wp2_with fail
    refine NC.out.mono ?_
    rintro e w6 ⟨rfl, rfl⟩
    clear NC HKW HKG
    by_cases h1 : torn < -1
    · have hq1 : decide (torn < -1) = true := decide_eq_true h1
      go_wp2_with fail
      refine (pending M5.out (by rw [HD0.out]; omega)).mono ?_
      rintro e w7 ⟨v7, rfl, ho, hb⟩
      obtain ⟨a7, c7, e7⟩ := ownsRow_form ho
      rw [HD0.out] at e7
      subst e7
      have M7 : Hid (DK (fun k => w3.heap.size ≤ k ∧ k < w4.heap.size) w7 pa (dk0 l us) ∧ Below w.heap.size w w7 ∧ RB w7 (.slice oa nl oc) (wh l)) := ⟨M5.out.below hb, (P5.out.on hb).b, (P5.out.on hb).o.rb⟩
      clear ho hb M5 P5
      go_wp2_with fail
      refine (durable M7.out.1).mono ?_
      rintro e w8 ⟨v8, rfl, ho, hb⟩
      have ho' : OW w7.heap.size w8 v8 (wh l) := ho
      have M8 : Hid (Below w.heap.size w w8 ∧ RB w8 (.slice oa nl oc) (wh l) ∧ RB w8 v8 (wh l)) := ⟨M7.out.2.1.trans (hb.mono M7.out.2.1.size), M7.out.2.2.keep hb, ho'.rb⟩
      obtain ⟨a8, c8, e8⟩ := ho'.form
      rw [HWL.out] at e8
      subst e8
      clear ho ho' hb M7
      go_wp2_with fail
      refine (same _ _ (wh l) w8 (by rw [HWL.out]; omega) M8.out.2.2 M8.out.2.1).mono ?_
      rintro e w9 ⟨rfl, nq, rfl⟩
      have M9 : Hid (Below w.heap.size w (w8.drewN nq)) := belowN M8.out.1 nq
      clear M8
      generalize w8.drewN nq = w9 at *
      go_wp2_with fail
      go_ret
      exact ⟨rfl, M9.out⟩
    · have hq1 : decide (torn < -1) = false := decide_eq_false h1
      by_cases h2 : (n : Int) ≤ torn
      · have hq2 : decide ((n : Int) ≤ torn) = true := decide_eq_true h2
        go_wp2_with fail
        refine (pending M5.out (by rw [HD0.out]; omega)).mono ?_
        rintro e w7 ⟨v7, rfl, ho, hb⟩
        obtain ⟨a7, c7, e7⟩ := ownsRow_form ho
        rw [HD0.out] at e7
        subst e7
        have M7 : Hid (DK (fun k => w3.heap.size ≤ k ∧ k < w4.heap.size) w7 pa (dk0 l us) ∧ Below w.heap.size w w7 ∧ RB w7 (.slice oa nl oc) (wh l)) := ⟨M5.out.below hb, (P5.out.on hb).b, (P5.out.on hb).o.rb⟩
        clear ho hb M5 P5
        go_wp2_with fail
        refine (durable M7.out.1).mono ?_
        rintro e w8 ⟨v8, rfl, ho, hb⟩
        have ho' : OW w7.heap.size w8 v8 (wh l) := ho
        have M8 : Hid (Below w.heap.size w w8 ∧ RB w8 (.slice oa nl oc) (wh l) ∧ RB w8 v8 (wh l)) := ⟨M7.out.2.1.trans (hb.mono M7.out.2.1.size), M7.out.2.2.keep hb, ho'.rb⟩
        obtain ⟨a8, c8, e8⟩ := ho'.form
        rw [HWL.out] at e8
        subst e8
        clear ho ho' hb M7
        go_wp2_with fail
        refine (same _ _ (wh l) w8 (by rw [HWL.out]; omega) M8.out.2.2 M8.out.2.1).mono ?_
        rintro e w9 ⟨rfl, nq, rfl⟩
        have M9 : Hid (Below w.heap.size w (w8.drewN nq)) := belowN M8.out.1 nq
        clear M8
        generalize w8.drewN nq = w9 at *
        go_wp2_with fail
        go_ret
        exact ⟨rfl, M9.out⟩
      · obtain ⟨h3, h4⟩ : torn ≠ -1 ∧ (cut < 0 ∨ 64 < cut) := by
          rcases hbad with h | h | h
          · exact absurd h h1
          · exact absurd h h2
          · exact h
        obtain ⟨tn, rfl⟩ : ∃ tn : Nat, torn = tn := ⟨torn.toNat, by omega⟩
        have hq2 : (n ≤ tn) = False := eq_false (by omega)
        clear hq1
        by_cases h5 : cut < 0
        · have hq3 : decide (cut < 0) = true := decide_eq_true h5
          go_wp2_with fail
          refine (pending M5.out (by rw [HD0.out]; omega)).mono ?_
          rintro e w7 ⟨v7, rfl, ho, hb⟩
          obtain ⟨a7, c7, e7⟩ := ownsRow_form ho
          rw [HD0.out] at e7
          subst e7
          have M7 : Hid (DK (fun k => w3.heap.size ≤ k ∧ k < w4.heap.size) w7 pa (dk0 l us) ∧ Below w.heap.size w w7 ∧ RB w7 (.slice oa nl oc) (wh l)) := ⟨M5.out.below hb, (P5.out.on hb).b, (P5.out.on hb).o.rb⟩
          clear ho hb M5 P5
          go_wp2_with fail
          refine (durable M7.out.1).mono ?_
          rintro e w8 ⟨v8, rfl, ho, hb⟩
          have ho' : OW w7.heap.size w8 v8 (wh l) := ho
          have M8 : Hid (Below w.heap.size w w8 ∧ RB w8 (.slice oa nl oc) (wh l) ∧ RB w8 v8 (wh l)) := ⟨M7.out.2.1.trans (hb.mono M7.out.2.1.size), M7.out.2.2.keep hb, ho'.rb⟩
          obtain ⟨a8, c8, e8⟩ := ho'.form
          rw [HWL.out] at e8
          subst e8
          clear ho ho' hb M7
          go_wp2_with fail
          refine (same _ _ (wh l) w8 (by rw [HWL.out]; omega) M8.out.2.2 M8.out.2.1).mono ?_
          rintro e w9 ⟨rfl, nq, rfl⟩
          have M9 : Hid (Below w.heap.size w (w8.drewN nq)) := belowN M8.out.1 nq
          clear M8
          generalize w8.drewN nq = w9 at *
          go_wp2_with fail
          go_ret
          exact ⟨rfl, M9.out⟩
        · have hq3 : decide (cut < 0) = false := decide_eq_false h5
          have hq4 : decide (64 < cut) = true := decide_eq_true (by omega)
          go_wp2_with fail
          refine (pending M5.out (by rw [HD0.out]; omega)).mono ?_
          rintro e w7 ⟨v7, rfl, ho, hb⟩
          obtain ⟨a7, c7, e7⟩ := ownsRow_form ho
          rw [HD0.out] at e7
          subst e7
          have M7 : Hid (DK (fun k => w3.heap.size ≤ k ∧ k < w4.heap.size) w7 pa (dk0 l us) ∧ Below w.heap.size w w7 ∧ RB w7 (.slice oa nl oc) (wh l)) := ⟨M5.out.below hb, (P5.out.on hb).b, (P5.out.on hb).o.rb⟩
          clear ho hb M5 P5
          go_wp2_with fail
          refine (durable M7.out.1).mono ?_
          rintro e w8 ⟨v8, rfl, ho, hb⟩
          have ho' : OW w7.heap.size w8 v8 (wh l) := ho
          have M8 : Hid (Below w.heap.size w w8 ∧ RB w8 (.slice oa nl oc) (wh l) ∧ RB w8 v8 (wh l)) := ⟨M7.out.2.1.trans (hb.mono M7.out.2.1.size), M7.out.2.2.keep hb, ho'.rb⟩
          obtain ⟨a8, c8, e8⟩ := ho'.form
          rw [HWL.out] at e8
          subst e8
          clear ho ho' hb M7
          go_wp2_with fail
          refine (same _ _ (wh l) w8 (by rw [HWL.out]; omega) M8.out.2.2 M8.out.2.1).mono ?_
          rintro e w9 ⟨rfl, nq, rfl⟩
          have M9 : Hid (Below w.heap.size w (w8.drewN nq)) := belowN M8.out.1 nq
          clear M8
          generalize w8.drewN nq = w9 at *
          go_wp2_with fail
          go_ret
          exact ⟨rfl, M9.out⟩
  · have hb1 : ¬ torn < -1 := fun h => hbad (.inl h)
    have hb2 : ¬ (n : Int) ≤ torn := fun h => hbad (.inr (.inl h))
    have HB3 : Hid (torn ≠ -1 → 0 ≤ cut ∧ cut ≤ 64) := fun h => by
      have h1 : ¬ (cut < 0 ∨ 64 < cut) := fun h2 => hbad (.inr (.inr ⟨h, h2⟩))
      omega
    clear hbad
    have NC := Lib.hid (crash M5.out _ (kp keep n) HKW.out (by rw [kp_len, HD0.out]) (fun g hg h => by have := HKG.out g hg; omega) (by rw [HD0.out]; omega) torn cut (by omega) (by rw [HD0.out]; omega) HB3.out)
    go_wp2_with fail
    refine NC.out.mono ?_
    rintro e w6 ⟨rfl, hd, hf⟩
    have HIM0 : Hid ((crD (kp keep n) torn (if torn = -1 then 0 else cut.toNat) (wh l) ((ins l us).map mkW)).length = nl ∧ ∀ (s : Nat) (t : Int), 64 * s + 64 ≤ nl → (t = -1 ∨ t = torn) → (∀ (tn : Nat) (u : Wv), torn = tn → (ins l us)[tn]? = some u → u.at_ = s → t = torn) → Good (sec (crD (kp keep n) torn (if torn = -1 then 0 else cut.toNat) (wh l) ((ins l us).map mkW)) s) (sec (wh l) s) (ins l us) s t cut) := ⟨by rw [crD_len]; exact HWL.out, fun s t h1 h2 h3 => choice HB3.out (by rw [HWL.out]; exact h1) h2 h3⟩
    have hd2 : DK (fun k => w3.heap.size ≤ k ∧ k < w4.heap.size) w6 pa ⟨crD (kp keep n) torn (if torn = -1 then 0 else cut.toNat) (wh l) ((ins l us).map mkW), [], none⟩ := hd
    have M60 : Below w.heap.size w w6 ∧ RB w6 (.slice oa nl oc) (wh l) ∧ RWv w6 (.slice la n lc) (ins l us) := by
      obtain ⟨h3, h4, h5⟩ := HS3.out
      have hz := P5.out.b.size
      have hb : Below w.heap.size w w6 := ⟨hf.os.trans P5.out.b.os, hf.tape.trans P5.out.b.tape, hf.output.trans P5.out.b.output, Nat.le_trans hz hf.size, fun k hk => (hf.block k (by omega) (by omega)).trans (P5.out.b.block k hk)⟩
      have hx : OWv w.heap.size w6 (.slice la n lc) (ins l us) := ownsRow_fr P5.out.x hf (fun g hg h => by have := h5 g hg; omega)
      exact ⟨hb, P5.out.o.rb.fr hf (fun g hg h => by have := h4 g hg; omega), hx.rw (fun u hu => ⟨(HR0.out.2 u (List.mem_filter.1 hu).1).1.keep hb, (HR0.out.2 u (List.mem_filter.1 hu).1).2⟩)⟩
    clear hd hf NC M5 P5 HKW HKG M4
    generalize crD (kp keep n) torn (if torn = -1 then 0 else cut.toNat) (wh l) ((ins l us).map mkW) = im at *
    have HIM := HIM0
    have M6 : Hid (DK (fun k => w3.heap.size ≤ k ∧ k < w4.heap.size) w6 pa ⟨im, [], none⟩ ∧ Below w.heap.size w w6 ∧ RB w6 (.slice oa nl oc) (wh l) ∧ RWv w6 (.slice la n lc) (ins l us)) := ⟨hd2, M60⟩
    clear HIM0 hd2 M60
    have hq1 : decide (torn < -1) = false := decide_eq_false (by omega)
    have hq2 : decide ((n : Int) ≤ torn) = false := decide_eq_false (by omega)
    by_cases hneg : torn = -1
    · have hq3 : decide (0 ≤ torn) = false := decide_eq_false (by omega)
      go_wp2_with fail
      refine (image M6.out.1).mono ?_
      rintro e w7 ⟨v7, rfl, ho, hb⟩
      have ho' : OW w6.heap.size w7 v7 (img im []) := ho
      rw [img_nil] at ho'
      have M7 : Hid (DK (fun k => w3.heap.size ≤ k ∧ k < w4.heap.size) w7 pa ⟨im, [], none⟩ ∧ Below w.heap.size w w7 ∧ RB w7 (.slice oa nl oc) (wh l) ∧ RWv w7 (.slice la n lc) (ins l us) ∧ RB w7 v7 im) := ⟨M6.out.1.below hb, M6.out.2.1.trans (hb.mono M6.out.2.1.size), M6.out.2.2.1.keep hb, M6.out.2.2.2.keep hb, ho'.rb⟩
      obtain ⟨a7, c7, e7⟩ := ho'.form
      rw [HIM.out.1] at e7
      subst e7
      clear ho ho' hb M6
      go_wp2_with fail
      refine (pending M7.out.1 (by show ([] : List Wt).length ≤ _; simp)).mono ?_
      rintro e w8 ⟨v8, rfl, ho, hb⟩
      obtain ⟨a8, c8, e8⟩ := ownsRow_form ho
      have e8' : v8 = .slice a8 0 c8 := e8
      subst e8'
      have M8 : Hid (DK (fun k => w3.heap.size ≤ k ∧ k < w4.heap.size) w8 pa ⟨im, [], none⟩ ∧ Below w.heap.size w w8 ∧ RB w8 (.slice oa nl oc) (wh l) ∧ RWv w8 (.slice la n lc) (ins l us) ∧ RB w8 (.slice a7 nl c7) im) := ⟨M7.out.1.below hb, M7.out.2.1.trans (hb.mono M7.out.2.1.size), M7.out.2.2.1.keep hb, M7.out.2.2.2.1.keep hb, M7.out.2.2.2.2.keep hb⟩
      clear ho hb M7 e8
      go_wp2_with fail
      refine (durable M8.out.1).mono ?_
      rintro e w9 ⟨v9, rfl, ho, hb⟩
      have ho' : OW w8.heap.size w9 v9 im := ho
      have M9 : Hid (Below w.heap.size w w9 ∧ RB w9 (.slice oa nl oc) (wh l) ∧ RWv w9 (.slice la n lc) (ins l us) ∧ RB w9 (.slice a7 nl c7) im ∧ RB w9 v9 im) := ⟨M8.out.2.1.trans (hb.mono M8.out.2.1.size), M8.out.2.2.1.keep hb, M8.out.2.2.2.1.keep hb, M8.out.2.2.2.2.keep hb, ho'.rb⟩
      obtain ⟨a9, c9, e9⟩ := ho'.form
      rw [HIM.out.1] at e9
      subst e9
      clear ho ho' hb M8
      go_wp2_with fail
      refine (same _ _ im w9 (by rw [HIM.out.1]; omega) M9.out.2.2.2.2 M9.out.2.2.2.1).mono ?_
      rintro e w10 ⟨rfl, nq, rfl⟩
      have MA : Hid (CH w (w9.drewN nq) (.slice oa nl oc) (.slice la n lc) (.slice a7 nl c7) (wh l) im (ins l us)) := ⟨belowN M9.out.1 nq, M9.out.2.1.keep (belowDrew _ _), M9.out.2.2.1.keep (belowDrew _ _), M9.out.2.2.2.1.keep (belowDrew _ _)⟩
      clear M9
      generalize w9.drewN nq = w10 at *
      go_wp2_with fail
      go_loopw [17] (fun i wr => ∃ k : Nat, k ≤ nl / 64 ∧ i = .int .i64 k ∧ Hid (CH w wr (.slice oa nl oc) (.slice la n lc) (.slice a7 nl c7) (wh l) im (ins l us))) (fun i _ => nl / 64 - (intOf i).toNat)
      case atStart => exact ⟨0, Nat.zero_le _, rfl, MA⟩
      case round =>
        clear MA
        obtain ⟨k, hk, rfl, H⟩ := hrel
        by_cases hlt : k < nl / 64
        · have hk64 : 64 * k + 64 ≤ nl := by omega
          have hw1 : IntKind.i64.wrap (64 * (k : Int)) = 64 * (k : Int) := by simp [IntKind.wrap, IntKind.signed, IntKind.bits]; omega
          have hw2 : IntKind.i64.wrap (64 * (k : Int) + 64) = 64 * (k : Int) + 64 := by simp [IntKind.wrap, IntKind.signed, IntKind.bits]; omega
          obtain ⟨g7, o7, rfl, hc7⟩ : ∃ g o, a7 = some ⟨g, o, none⟩ ∧ nl ≤ c7 := by
            obtain ⟨a', c', e, hle, h⟩ := H.out.2.2.2
            simp only [Value.slice.injEq] at e
            rw [HIM.out.1] at hle
            rcases h with h0 | ⟨g', o', e2, _, _⟩
            · have := HIM.out.1; rw [h0] at this; simp at this; omega
            · exact ⟨g', o', by rw [e.1, e2], by omega⟩
          obtain ⟨go, oo, rfl, hoc⟩ : ∃ g o, oa = some ⟨g, o, none⟩ ∧ nl ≤ oc := by
            obtain ⟨a', c', e, hle, h⟩ := H.out.2.1
            simp only [Value.slice.injEq] at e
            rw [HWL.out] at hle
            rcases h with h0 | ⟨g', o', e2, _, _⟩
            · have := HWL.out; rw [h0] at this; simp at this; omega
            · exact ⟨g', o', by rw [e.1, e2], by omega⟩
          have hsl1 := fun u : World => slice_sec g7 o7 nl c7 k (by omega) u
          have hsl2 := fun u : World => slice_sec go oo nl oc k (by omega) u
          have HQ : Hid (RB wr.drew (.slice (some ⟨g7, o7 + 64 * k, none⟩) 64 (c7 - 64 * k)) (sec im k) ∧ (sec im k).length = 64 ∧ RB wr.drew (.slice (some ⟨go, oo + 64 * k, none⟩) 64 (oc - 64 * k)) (sec (wh l) k) ∧ (sec (wh l) k).length = 64 ∧ RWv wr.drew (.slice la n lc) (ins l us)) :=
            ⟨(H.out.2.2.2.keep (belowDrew wr 1)).sec k (by rw [HIM.out.1]; exact hk64), sec_len _ _ (by rw [HIM.out.1]; exact hk64), (H.out.2.1.keep (belowDrew wr 1)).sec k (by rw [HWL.out]; exact hk64), sec_len _ _ (by rw [HWL.out]; exact hk64), H.out.2.2.1.keep (belowDrew wr 1)⟩
          have HTT : Hid True := trivial
          go_wp2_with fail
          have HGG : Hid (Good (sec im k) (sec (wh l) k) (ins l us) k (-1) cut) := HIM.out.2 k (-1) hk64 (.inl rfl) (fun tn u h => by omega)
          refine wp_region_held_drew (S := fun _ => True) (by kernel_rfl) (trivial) (fun hHeld => ?_)
          refine wpAnyH_take (i := 0) (v := .slice (some ⟨g7, o7, none⟩) nl c7) rfl (by kernel_rfl) (by kernel_rfl) (by kernel_rfl) (fun _ _ _ h => h) (Or.inl ⟨by rfl, fun w hw => by go_simp⟩) hHeld ?_
          simp only [Act.put, List.getElem_toArray, List.getElem_cons_zero, List.setIfInBounds_toArray, List.set_cons_zero, List.set_cons_succ]
          refine wpAnyH_take (i := 1) (v := .int .i64 k) rfl (by kernel_rfl) (by kernel_rfl) (by kernel_rfl) (fun _ _ _ h => h) (Or.inl ⟨by rfl, fun w hw => by go_simp⟩) hHeld ?_
          simp only [Act.put, List.getElem_toArray, List.getElem_cons_zero, List.getElem_cons_succ, List.setIfInBounds_toArray, List.set_cons_zero, List.set_cons_succ]
          refine wpAnyH_take (i := 2) (v := .int .i64 (64 * (k : Int))) rfl (by kernel_rfl) (by kernel_rfl) (by kernel_rfl) (fun _ _ _ h => h) (Or.inl ⟨by rfl, fun w hw => by go_simp⟩) hHeld ?_
          simp only [Act.put, List.getElem_toArray, List.getElem_cons_zero, List.getElem_cons_succ, List.setIfInBounds_toArray, List.set_cons_zero, List.set_cons_succ]
          refine wpAnyH_take (i := 3) (v := .int .i64 k) rfl (by kernel_rfl) (by kernel_rfl) (by kernel_rfl) (fun _ _ _ h => h) (Or.inl ⟨by rfl, fun w hw => by go_simp⟩) hHeld ?_
          simp only [Act.put, List.getElem_toArray, List.getElem_cons_zero, List.getElem_cons_succ, List.setIfInBounds_toArray, List.set_cons_zero, List.set_cons_succ]
          refine wpAnyH_take (i := 4) (v := .int .i64 (64 * (k : Int))) rfl (by kernel_rfl) (by kernel_rfl) (by kernel_rfl) (fun _ _ _ h => h) (Or.inl ⟨by rfl, fun w hw => by go_simp⟩) hHeld ?_
          simp only [Act.put, List.getElem_toArray, List.getElem_cons_zero, List.getElem_cons_succ, List.setIfInBounds_toArray, List.set_cons_zero, List.set_cons_succ]
          refine wpAnyH_take (i := 5) (v := .int .i64 (64 * (k : Int) + 64)) rfl (by kernel_rfl) (by kernel_rfl) (by kernel_rfl) (fun _ _ _ h => h) (Or.inl ⟨by rfl, fun w hw => by go_simp⟩) hHeld ?_
          simp only [Act.put, List.getElem_toArray, List.getElem_cons_zero, List.getElem_cons_succ, List.setIfInBounds_toArray, List.set_cons_zero, List.set_cons_succ]
          refine wpAnyH_take (i := 6) (v := .slice (some ⟨g7, o7 + 64 * k, none⟩) 64 (c7 - 64 * k)) rfl (by kernel_rfl) (by kernel_rfl) (by kernel_rfl) (fun _ _ _ h => h) (Or.inl ⟨by rfl, fun w hw => by go_simp⟩) hHeld ?_
          simp only [Act.put, List.getElem_toArray, List.getElem_cons_zero, List.getElem_cons_succ, List.setIfInBounds_toArray, List.set_cons_zero, List.set_cons_succ]
          refine wpAnyH_take (i := 7) (v := .slice (some ⟨go, oo, none⟩) nl oc) rfl (by kernel_rfl) (by kernel_rfl) (by kernel_rfl) (fun _ _ _ h => h) (Or.inl ⟨by rfl, fun w hw => by go_simp⟩) hHeld ?_
          simp only [Act.put, List.getElem_toArray, List.getElem_cons_zero, List.getElem_cons_succ, List.setIfInBounds_toArray, List.set_cons_zero, List.set_cons_succ]
          refine wpAnyH_take (i := 8) (v := .int .i64 k) rfl (by kernel_rfl) (by kernel_rfl) (by kernel_rfl) (fun _ _ _ h => h) (Or.inl ⟨by rfl, fun w hw => by go_simp⟩) hHeld ?_
          simp only [Act.put, List.getElem_toArray, List.getElem_cons_zero, List.getElem_cons_succ, List.setIfInBounds_toArray, List.set_cons_zero, List.set_cons_succ]
          refine wpAnyH_take (i := 9) (v := .int .i64 (64 * (k : Int))) rfl (by kernel_rfl) (by kernel_rfl) (by kernel_rfl) (fun _ _ _ h => h) (Or.inl ⟨by rfl, fun w hw => by go_simp⟩) hHeld ?_
          simp only [Act.put, List.getElem_toArray, List.getElem_cons_zero, List.getElem_cons_succ, List.setIfInBounds_toArray, List.set_cons_zero, List.set_cons_succ]
          refine wpAnyH_take (i := 10) (v := .int .i64 k) rfl (by kernel_rfl) (by kernel_rfl) (by kernel_rfl) (fun _ _ _ h => h) (Or.inl ⟨by rfl, fun w hw => by go_simp⟩) hHeld ?_
          simp only [Act.put, List.getElem_toArray, List.getElem_cons_zero, List.getElem_cons_succ, List.setIfInBounds_toArray, List.set_cons_zero, List.set_cons_succ]
          refine wpAnyH_take (i := 11) (v := .int .i64 (64 * (k : Int))) rfl (by kernel_rfl) (by kernel_rfl) (by kernel_rfl) (fun _ _ _ h => h) (Or.inl ⟨by rfl, fun w hw => by go_simp⟩) hHeld ?_
          simp only [Act.put, List.getElem_toArray, List.getElem_cons_zero, List.getElem_cons_succ, List.setIfInBounds_toArray, List.set_cons_zero, List.set_cons_succ]
          refine wpAnyH_take (i := 12) (v := .int .i64 (64 * (k : Int) + 64)) rfl (by kernel_rfl) (by kernel_rfl) (by kernel_rfl) (fun _ _ _ h => h) (Or.inl ⟨by rfl, fun w hw => by go_simp⟩) hHeld ?_
          simp only [Act.put, List.getElem_toArray, List.getElem_cons_zero, List.getElem_cons_succ, List.setIfInBounds_toArray, List.set_cons_zero, List.set_cons_succ]
          refine wpAnyH_take (i := 13) (v := .slice (some ⟨go, oo + 64 * k, none⟩) 64 (oc - 64 * k)) rfl (by kernel_rfl) (by kernel_rfl) (by kernel_rfl) (fun _ _ _ h => h) (Or.inl ⟨by rfl, fun w hw => by go_simp⟩) hHeld ?_
          simp only [Act.put, List.getElem_toArray, List.getElem_cons_zero, List.getElem_cons_succ, List.setIfInBounds_toArray, List.set_cons_zero, List.set_cons_succ]
          refine wpAnyH_take (i := 14) (v := .slice la n lc) rfl (by kernel_rfl) (by kernel_rfl) (by kernel_rfl) (fun _ _ _ h => h) (Or.inl ⟨by rfl, fun w hw => by go_simp⟩) hHeld ?_
          simp only [Act.put, List.getElem_toArray, List.getElem_cons_zero, List.getElem_cons_succ, List.setIfInBounds_toArray, List.set_cons_zero, List.set_cons_succ]
          refine wpAnyH_take (i := 15) (v := .int .i64 k) rfl (by kernel_rfl) (by kernel_rfl) (by kernel_rfl) (fun _ _ _ h => h) (Or.inl ⟨by rfl, fun w hw => by go_simp⟩) hHeld ?_
          simp only [Act.put, List.getElem_toArray, List.getElem_cons_zero, List.getElem_cons_succ, List.setIfInBounds_toArray, List.set_cons_zero, List.set_cons_succ]
          refine wpAnyH_take (i := 16) (v := .int .i64 (-1)) rfl (by kernel_rfl) (by kernel_rfl) (by kernel_rfl) (fun _ _ _ h => h) (Or.inl ⟨by rfl, fun w hw => by go_simp⟩) hHeld ?_
          simp only [Act.put, List.getElem_toArray, List.getElem_cons_zero, List.getElem_cons_succ, List.setIfInBounds_toArray, List.set_cons_zero, List.set_cons_succ]
          refine wpAnyH_take (i := 17) (v := .int .i64 cut) rfl (by kernel_rfl) (by kernel_rfl) (by kernel_rfl) (fun _ _ _ h => h) (Or.inl ⟨by rfl, fun w hw => by go_simp⟩) hHeld ?_
          simp only [Act.put, List.getElem_toArray, List.getElem_cons_zero, List.getElem_cons_succ, List.setIfInBounds_toArray, List.set_cons_zero, List.set_cons_succ]
          refine wpAnyH_ready (rs := [18]) (by kernel_rfl) (by simp) ?_
          refine AllReadyH.cons (o := _) rfl (fun K hK => ?_) AllReadyH.nil
          go_simp
          refine (among _ _ _ (sec im k) (sec (wh l) k) (ins l us) k (-1) cut wr.drew HQ.out.1 HQ.out.2.1 HQ.out.2.2.1 HQ.out.2.2.2.1 HQ.out.2.2.2.2 (by rw [HNS.out]; exact hn30) (.inl rfl) HGG.out).mono ?_
          rintro e w11 ⟨rfl, hb⟩
          have HN := Lib.hid (H.out.on ((belowDrew wr 1).trans hb))
          clear hb HGG HTT HQ H
          go_wp2_with fail
          refine hK.out _ _ trivial (fun hHeld => ?_)
          clear hK K
          refine wpAnyH_ready (rs := [19]) (by kernel_rfl) (by simp) ?_
          refine AllReadyH.cons (o := _) rfl (fun K hK => ?_) AllReadyH.nil
          go_simp
          refine hK.out _ _ hHeld (fun hHeld => ?_)
          clear hK K
          refine wpAnyH_done (by kernel_rfl) ?_ _
          clear hHeld
          go_wp2_with fail
          go_roundw
          case rel => exact ⟨k + 1, by omega, by go_num, HN⟩
          case measure => (simp [intOf]; omega)
        · have HE : Hid (Below w.heap.size w wr) := H.out.1
          clear H
          go_wp2_with fail
          go_ret
          exact ⟨rfl, HE.out⟩
    · have hq3 : decide (0 ≤ torn) = true := decide_eq_true (by omega)
      have hq4 : decide (cut < 0) = false := decide_eq_false (by have := HB3.out (by omega); omega)
      have hq5 : decide (64 < cut) = false := decide_eq_false (by have := HB3.out (by omega); omega)
      go_wp2_with fail
      refine (image M6.out.1).mono ?_
      rintro e w7 ⟨v7, rfl, ho, hb⟩
      have ho' : OW w6.heap.size w7 v7 (img im []) := ho
      rw [img_nil] at ho'
      have M7 : Hid (DK (fun k => w3.heap.size ≤ k ∧ k < w4.heap.size) w7 pa ⟨im, [], none⟩ ∧ Below w.heap.size w w7 ∧ RB w7 (.slice oa nl oc) (wh l) ∧ RWv w7 (.slice la n lc) (ins l us) ∧ RB w7 v7 im) := ⟨M6.out.1.below hb, M6.out.2.1.trans (hb.mono M6.out.2.1.size), M6.out.2.2.1.keep hb, M6.out.2.2.2.keep hb, ho'.rb⟩
      obtain ⟨a7, c7, e7⟩ := ho'.form
      rw [HIM.out.1] at e7
      subst e7
      clear ho ho' hb M6
      go_wp2_with fail
      refine (pending M7.out.1 (by show ([] : List Wt).length ≤ _; simp)).mono ?_
      rintro e w8 ⟨v8, rfl, ho, hb⟩
      obtain ⟨a8, c8, e8⟩ := ownsRow_form ho
      have e8' : v8 = .slice a8 0 c8 := e8
      subst e8'
      have M8 : Hid (DK (fun k => w3.heap.size ≤ k ∧ k < w4.heap.size) w8 pa ⟨im, [], none⟩ ∧ Below w.heap.size w w8 ∧ RB w8 (.slice oa nl oc) (wh l) ∧ RWv w8 (.slice la n lc) (ins l us) ∧ RB w8 (.slice a7 nl c7) im) := ⟨M7.out.1.below hb, M7.out.2.1.trans (hb.mono M7.out.2.1.size), M7.out.2.2.1.keep hb, M7.out.2.2.2.1.keep hb, M7.out.2.2.2.2.keep hb⟩
      clear ho hb M7 e8
      go_wp2_with fail
      refine (durable M8.out.1).mono ?_
      rintro e w9 ⟨v9, rfl, ho, hb⟩
      have ho' : OW w8.heap.size w9 v9 im := ho
      have M9 : Hid (Below w.heap.size w w9 ∧ RB w9 (.slice oa nl oc) (wh l) ∧ RWv w9 (.slice la n lc) (ins l us) ∧ RB w9 (.slice a7 nl c7) im ∧ RB w9 v9 im) := ⟨M8.out.2.1.trans (hb.mono M8.out.2.1.size), M8.out.2.2.1.keep hb, M8.out.2.2.2.1.keep hb, M8.out.2.2.2.2.keep hb, ho'.rb⟩
      obtain ⟨a9, c9, e9⟩ := ho'.form
      rw [HIM.out.1] at e9
      subst e9
      clear ho ho' hb M8
      go_wp2_with fail
      refine (same _ _ im w9 (by rw [HIM.out.1]; omega) M9.out.2.2.2.2 M9.out.2.2.2.1).mono ?_
      rintro e w10 ⟨rfl, nq, rfl⟩
      have MA : Hid (CH w (w9.drewN nq) (.slice oa nl oc) (.slice la n lc) (.slice a7 nl c7) (wh l) im (ins l us)) := ⟨belowN M9.out.1 nq, M9.out.2.1.keep (belowDrew _ _), M9.out.2.2.1.keep (belowDrew _ _), M9.out.2.2.2.1.keep (belowDrew _ _)⟩
      clear M9
      generalize w9.drewN nq = w10 at *
      go_wp2_with fail
      go_loopw [17] (fun i wr => ∃ k : Nat, k ≤ nl / 64 ∧ i = .int .i64 k ∧ Hid (CH w wr (.slice oa nl oc) (.slice la n lc) (.slice a7 nl c7) (wh l) im (ins l us))) (fun i _ => nl / 64 - (intOf i).toNat)
      case atStart => exact ⟨0, Nat.zero_le _, rfl, MA⟩
      case round =>
        clear MA
        obtain ⟨k, hk, rfl, H⟩ := hrel
        by_cases hlt : k < nl / 64
        · have hk64 : 64 * k + 64 ≤ nl := by omega
          have hw1 : IntKind.i64.wrap (64 * (k : Int)) = 64 * (k : Int) := by simp [IntKind.wrap, IntKind.signed, IntKind.bits]; omega
          have hw2 : IntKind.i64.wrap (64 * (k : Int) + 64) = 64 * (k : Int) + 64 := by simp [IntKind.wrap, IntKind.signed, IntKind.bits]; omega
          obtain ⟨g7, o7, rfl, hc7⟩ : ∃ g o, a7 = some ⟨g, o, none⟩ ∧ nl ≤ c7 := by
            obtain ⟨a', c', e, hle, h⟩ := H.out.2.2.2
            simp only [Value.slice.injEq] at e
            rw [HIM.out.1] at hle
            rcases h with h0 | ⟨g', o', e2, _, _⟩
            · have := HIM.out.1; rw [h0] at this; simp at this; omega
            · exact ⟨g', o', by rw [e.1, e2], by omega⟩
          obtain ⟨go, oo, rfl, hoc⟩ : ∃ g o, oa = some ⟨g, o, none⟩ ∧ nl ≤ oc := by
            obtain ⟨a', c', e, hle, h⟩ := H.out.2.1
            simp only [Value.slice.injEq] at e
            rw [HWL.out] at hle
            rcases h with h0 | ⟨g', o', e2, _, _⟩
            · have := HWL.out; rw [h0] at this; simp at this; omega
            · exact ⟨g', o', by rw [e.1, e2], by omega⟩
          have hsl1 := fun u : World => slice_sec g7 o7 nl c7 k (by omega) u
          have hsl2 := fun u : World => slice_sec go oo nl oc k (by omega) u
          have HQ : Hid (RB wr.drew (.slice (some ⟨g7, o7 + 64 * k, none⟩) 64 (c7 - 64 * k)) (sec im k) ∧ (sec im k).length = 64 ∧ RB wr.drew (.slice (some ⟨go, oo + 64 * k, none⟩) 64 (oc - 64 * k)) (sec (wh l) k) ∧ (sec (wh l) k).length = 64 ∧ RWv wr.drew (.slice la n lc) (ins l us)) :=
            ⟨(H.out.2.2.2.keep (belowDrew wr 1)).sec k (by rw [HIM.out.1]; exact hk64), sec_len _ _ (by rw [HIM.out.1]; exact hk64), (H.out.2.1.keep (belowDrew wr 1)).sec k (by rw [HWL.out]; exact hk64), sec_len _ _ (by rw [HWL.out]; exact hk64), H.out.2.2.1.keep (belowDrew wr 1)⟩
          obtain ⟨tn, rfl⟩ : ∃ tn : Nat, torn = tn := ⟨torn.toNat, by omega⟩
          obtain ⟨u, hu⟩ : ∃ u, (ins l us)[tn]? = some u := ⟨(ins l us)[tn]'(by rw [HNS.out]; omega), List.getElem?_eq_getElem _⟩
          obtain ⟨gl, ol, hla, hcl⟩ : ∃ g o, la = some ⟨g, o, none⟩ ∧ wr.cell? ⟨g, o + tn * 2, none⟩ = some (.int .i64 u.at_) := by
            obtain ⟨⟨a', c', e, _, h⟩, _⟩ := H.out.2.2.1
            simp only [Value.slice.injEq] at e
            rcases h with h0 | ⟨g, o, e2, _, h⟩
            · rw [h0] at hu; simp at hu
            · exact ⟨g, o, by rw [e.1, e2], (h tn u hu).1⟩
          subst hla
          have HUA : Hid (∀ (t2 : Nat) (u2 : Wv), ((tn : Nat) : Int) = t2 → (ins l us)[t2]? = some u2 → u2.at_ = k → u.at_ = k) := fun t2 u2 h1 h2 h3 => by
            have e : t2 = tn := by omega
            subst e
            rw [hu] at h2
            cases h2
            exact h3
          clear hq1 hq2 hq3 hb1 hneg
          have htn : tn < n := by omega
          clear hb2
          clear hu
          obtain ⟨ua, ud, ul⟩ := u
          dsimp only at *
          by_cases hua : ua = (k : Int)
          · have HTT : Hid ((tn : Int) = -1 ∨ ∃ t' : Nat, (tn : Int) = t' ∧ t' < (ins l us).length ∧ 0 ≤ cut ∧ cut ≤ 64) := .inr ⟨tn, rfl, by rw [HNS.out]; omega, HB3.out (by omega)⟩
            subst hua
            go_wp2_with fail
            have HGG : Hid (Good (sec im k) (sec (wh l) k) (ins l us) k (tn : Int) cut) := HIM.out.2 k tn hk64 (.inr rfl) (fun _ _ _ _ _ => rfl)
            refine wp_region_held_drew (S := fun _ => True) (by kernel_rfl) (trivial) (fun hHeld => ?_)
            refine wpAnyH_take (i := 0) (v := .slice (some ⟨g7, o7, none⟩) nl c7) rfl (by kernel_rfl) (by kernel_rfl) (by kernel_rfl) (fun _ _ _ h => h) (Or.inl ⟨by rfl, fun w hw => by go_simp⟩) hHeld ?_
            simp only [Act.put, List.getElem_toArray, List.getElem_cons_zero, List.setIfInBounds_toArray, List.set_cons_zero, List.set_cons_succ]
            refine wpAnyH_take (i := 1) (v := .int .i64 k) rfl (by kernel_rfl) (by kernel_rfl) (by kernel_rfl) (fun _ _ _ h => h) (Or.inl ⟨by rfl, fun w hw => by go_simp⟩) hHeld ?_
            simp only [Act.put, List.getElem_toArray, List.getElem_cons_zero, List.getElem_cons_succ, List.setIfInBounds_toArray, List.set_cons_zero, List.set_cons_succ]
            refine wpAnyH_take (i := 2) (v := .int .i64 (64 * (k : Int))) rfl (by kernel_rfl) (by kernel_rfl) (by kernel_rfl) (fun _ _ _ h => h) (Or.inl ⟨by rfl, fun w hw => by go_simp⟩) hHeld ?_
            simp only [Act.put, List.getElem_toArray, List.getElem_cons_zero, List.getElem_cons_succ, List.setIfInBounds_toArray, List.set_cons_zero, List.set_cons_succ]
            refine wpAnyH_take (i := 3) (v := .int .i64 k) rfl (by kernel_rfl) (by kernel_rfl) (by kernel_rfl) (fun _ _ _ h => h) (Or.inl ⟨by rfl, fun w hw => by go_simp⟩) hHeld ?_
            simp only [Act.put, List.getElem_toArray, List.getElem_cons_zero, List.getElem_cons_succ, List.setIfInBounds_toArray, List.set_cons_zero, List.set_cons_succ]
            refine wpAnyH_take (i := 4) (v := .int .i64 (64 * (k : Int))) rfl (by kernel_rfl) (by kernel_rfl) (by kernel_rfl) (fun _ _ _ h => h) (Or.inl ⟨by rfl, fun w hw => by go_simp⟩) hHeld ?_
            simp only [Act.put, List.getElem_toArray, List.getElem_cons_zero, List.getElem_cons_succ, List.setIfInBounds_toArray, List.set_cons_zero, List.set_cons_succ]
            refine wpAnyH_take (i := 5) (v := .int .i64 (64 * (k : Int) + 64)) rfl (by kernel_rfl) (by kernel_rfl) (by kernel_rfl) (fun _ _ _ h => h) (Or.inl ⟨by rfl, fun w hw => by go_simp⟩) hHeld ?_
            simp only [Act.put, List.getElem_toArray, List.getElem_cons_zero, List.getElem_cons_succ, List.setIfInBounds_toArray, List.set_cons_zero, List.set_cons_succ]
            refine wpAnyH_take (i := 6) (v := .slice (some ⟨g7, o7 + 64 * k, none⟩) 64 (c7 - 64 * k)) rfl (by kernel_rfl) (by kernel_rfl) (by kernel_rfl) (fun _ _ _ h => h) (Or.inl ⟨by rfl, fun w hw => by go_simp⟩) hHeld ?_
            simp only [Act.put, List.getElem_toArray, List.getElem_cons_zero, List.getElem_cons_succ, List.setIfInBounds_toArray, List.set_cons_zero, List.set_cons_succ]
            refine wpAnyH_take (i := 7) (v := .slice (some ⟨go, oo, none⟩) nl oc) rfl (by kernel_rfl) (by kernel_rfl) (by kernel_rfl) (fun _ _ _ h => h) (Or.inl ⟨by rfl, fun w hw => by go_simp⟩) hHeld ?_
            simp only [Act.put, List.getElem_toArray, List.getElem_cons_zero, List.getElem_cons_succ, List.setIfInBounds_toArray, List.set_cons_zero, List.set_cons_succ]
            refine wpAnyH_take (i := 8) (v := .int .i64 k) rfl (by kernel_rfl) (by kernel_rfl) (by kernel_rfl) (fun _ _ _ h => h) (Or.inl ⟨by rfl, fun w hw => by go_simp⟩) hHeld ?_
            simp only [Act.put, List.getElem_toArray, List.getElem_cons_zero, List.getElem_cons_succ, List.setIfInBounds_toArray, List.set_cons_zero, List.set_cons_succ]
            refine wpAnyH_take (i := 9) (v := .int .i64 (64 * (k : Int))) rfl (by kernel_rfl) (by kernel_rfl) (by kernel_rfl) (fun _ _ _ h => h) (Or.inl ⟨by rfl, fun w hw => by go_simp⟩) hHeld ?_
            simp only [Act.put, List.getElem_toArray, List.getElem_cons_zero, List.getElem_cons_succ, List.setIfInBounds_toArray, List.set_cons_zero, List.set_cons_succ]
            refine wpAnyH_take (i := 10) (v := .int .i64 k) rfl (by kernel_rfl) (by kernel_rfl) (by kernel_rfl) (fun _ _ _ h => h) (Or.inl ⟨by rfl, fun w hw => by go_simp⟩) hHeld ?_
            simp only [Act.put, List.getElem_toArray, List.getElem_cons_zero, List.getElem_cons_succ, List.setIfInBounds_toArray, List.set_cons_zero, List.set_cons_succ]
            refine wpAnyH_take (i := 11) (v := .int .i64 (64 * (k : Int))) rfl (by kernel_rfl) (by kernel_rfl) (by kernel_rfl) (fun _ _ _ h => h) (Or.inl ⟨by rfl, fun w hw => by go_simp⟩) hHeld ?_
            simp only [Act.put, List.getElem_toArray, List.getElem_cons_zero, List.getElem_cons_succ, List.setIfInBounds_toArray, List.set_cons_zero, List.set_cons_succ]
            refine wpAnyH_take (i := 12) (v := .int .i64 (64 * (k : Int) + 64)) rfl (by kernel_rfl) (by kernel_rfl) (by kernel_rfl) (fun _ _ _ h => h) (Or.inl ⟨by rfl, fun w hw => by go_simp⟩) hHeld ?_
            simp only [Act.put, List.getElem_toArray, List.getElem_cons_zero, List.getElem_cons_succ, List.setIfInBounds_toArray, List.set_cons_zero, List.set_cons_succ]
            refine wpAnyH_take (i := 13) (v := .slice (some ⟨go, oo + 64 * k, none⟩) 64 (oc - 64 * k)) rfl (by kernel_rfl) (by kernel_rfl) (by kernel_rfl) (fun _ _ _ h => h) (Or.inl ⟨by rfl, fun w hw => by go_simp⟩) hHeld ?_
            simp only [Act.put, List.getElem_toArray, List.getElem_cons_zero, List.getElem_cons_succ, List.setIfInBounds_toArray, List.set_cons_zero, List.set_cons_succ]
            refine wpAnyH_take (i := 14) (v := .slice (some ⟨gl, ol, none⟩) n lc) rfl (by kernel_rfl) (by kernel_rfl) (by kernel_rfl) (fun _ _ _ h => h) (Or.inl ⟨by rfl, fun w hw => by go_simp⟩) hHeld ?_
            simp only [Act.put, List.getElem_toArray, List.getElem_cons_zero, List.getElem_cons_succ, List.setIfInBounds_toArray, List.set_cons_zero, List.set_cons_succ]
            refine wpAnyH_take (i := 15) (v := .int .i64 k) rfl (by kernel_rfl) (by kernel_rfl) (by kernel_rfl) (fun _ _ _ h => h) (Or.inl ⟨by rfl, fun w hw => by go_simp⟩) hHeld ?_
            simp only [Act.put, List.getElem_toArray, List.getElem_cons_zero, List.getElem_cons_succ, List.setIfInBounds_toArray, List.set_cons_zero, List.set_cons_succ]
            refine wpAnyH_take (i := 16) (v := .int .i64 tn) rfl (by kernel_rfl) (by kernel_rfl) (by kernel_rfl) (fun _ _ _ h => h) (Or.inl ⟨by rfl, fun w hw => by go_simp⟩) hHeld ?_
            simp only [Act.put, List.getElem_toArray, List.getElem_cons_zero, List.getElem_cons_succ, List.setIfInBounds_toArray, List.set_cons_zero, List.set_cons_succ]
            refine wpAnyH_take (i := 17) (v := .int .i64 cut) rfl (by kernel_rfl) (by kernel_rfl) (by kernel_rfl) (fun _ _ _ h => h) (Or.inl ⟨by rfl, fun w hw => by go_simp⟩) hHeld ?_
            simp only [Act.put, List.getElem_toArray, List.getElem_cons_zero, List.getElem_cons_succ, List.setIfInBounds_toArray, List.set_cons_zero, List.set_cons_succ]
            refine wpAnyH_ready (rs := [18]) (by kernel_rfl) (by simp) ?_
            refine AllReadyH.cons (o := _) rfl (fun K hK => ?_) AllReadyH.nil
            go_simp
            refine (among _ _ _ (sec im k) (sec (wh l) k) (ins l us) k (tn : Int) cut wr.drew HQ.out.1 HQ.out.2.1 HQ.out.2.2.1 HQ.out.2.2.2.1 HQ.out.2.2.2.2 (by rw [HNS.out]; exact hn30) HTT.out HGG.out).mono ?_
            rintro e w11 ⟨rfl, hb⟩
            have HN := Lib.hid (H.out.on ((belowDrew wr 1).trans hb))
            clear hb HGG HTT HQ H
            go_wp2_with fail
            refine hK.out _ _ trivial (fun hHeld => ?_)
            clear hK K
            refine wpAnyH_ready (rs := [19]) (by kernel_rfl) (by simp) ?_
            refine AllReadyH.cons (o := _) rfl (fun K hK => ?_) AllReadyH.nil
            go_simp
            refine hK.out _ _ hHeld (fun hHeld => ?_)
            clear hK K
            refine wpAnyH_done (by kernel_rfl) ?_ _
            clear hHeld
            go_wp2_with fail
            go_roundw
            case rel => exact ⟨k + 1, by omega, by go_num, HN⟩
            case measure => (simp [intOf]; omega)
          · have HTT : Hid True := trivial
            have hqa : (ua == (k : Int)) = false := by simp [hua]
            go_wp2_with fail
            have HGG : Hid (Good (sec im k) (sec (wh l) k) (ins l us) k (-1) cut) := HIM.out.2 k (-1) hk64 (.inl rfl) (fun t2 u2 h1 h2 h3 => absurd (HUA.out t2 u2 h1 h2 h3) hua)
            refine wp_region_held_drew (S := fun _ => True) (by kernel_rfl) (trivial) (fun hHeld => ?_)
            refine wpAnyH_take (i := 0) (v := .slice (some ⟨g7, o7, none⟩) nl c7) rfl (by kernel_rfl) (by kernel_rfl) (by kernel_rfl) (fun _ _ _ h => h) (Or.inl ⟨by rfl, fun w hw => by go_simp⟩) hHeld ?_
            simp only [Act.put, List.getElem_toArray, List.getElem_cons_zero, List.setIfInBounds_toArray, List.set_cons_zero, List.set_cons_succ]
            refine wpAnyH_take (i := 1) (v := .int .i64 k) rfl (by kernel_rfl) (by kernel_rfl) (by kernel_rfl) (fun _ _ _ h => h) (Or.inl ⟨by rfl, fun w hw => by go_simp⟩) hHeld ?_
            simp only [Act.put, List.getElem_toArray, List.getElem_cons_zero, List.getElem_cons_succ, List.setIfInBounds_toArray, List.set_cons_zero, List.set_cons_succ]
            refine wpAnyH_take (i := 2) (v := .int .i64 (64 * (k : Int))) rfl (by kernel_rfl) (by kernel_rfl) (by kernel_rfl) (fun _ _ _ h => h) (Or.inl ⟨by rfl, fun w hw => by go_simp⟩) hHeld ?_
            simp only [Act.put, List.getElem_toArray, List.getElem_cons_zero, List.getElem_cons_succ, List.setIfInBounds_toArray, List.set_cons_zero, List.set_cons_succ]
            refine wpAnyH_take (i := 3) (v := .int .i64 k) rfl (by kernel_rfl) (by kernel_rfl) (by kernel_rfl) (fun _ _ _ h => h) (Or.inl ⟨by rfl, fun w hw => by go_simp⟩) hHeld ?_
            simp only [Act.put, List.getElem_toArray, List.getElem_cons_zero, List.getElem_cons_succ, List.setIfInBounds_toArray, List.set_cons_zero, List.set_cons_succ]
            refine wpAnyH_take (i := 4) (v := .int .i64 (64 * (k : Int))) rfl (by kernel_rfl) (by kernel_rfl) (by kernel_rfl) (fun _ _ _ h => h) (Or.inl ⟨by rfl, fun w hw => by go_simp⟩) hHeld ?_
            simp only [Act.put, List.getElem_toArray, List.getElem_cons_zero, List.getElem_cons_succ, List.setIfInBounds_toArray, List.set_cons_zero, List.set_cons_succ]
            refine wpAnyH_take (i := 5) (v := .int .i64 (64 * (k : Int) + 64)) rfl (by kernel_rfl) (by kernel_rfl) (by kernel_rfl) (fun _ _ _ h => h) (Or.inl ⟨by rfl, fun w hw => by go_simp⟩) hHeld ?_
            simp only [Act.put, List.getElem_toArray, List.getElem_cons_zero, List.getElem_cons_succ, List.setIfInBounds_toArray, List.set_cons_zero, List.set_cons_succ]
            refine wpAnyH_take (i := 6) (v := .slice (some ⟨g7, o7 + 64 * k, none⟩) 64 (c7 - 64 * k)) rfl (by kernel_rfl) (by kernel_rfl) (by kernel_rfl) (fun _ _ _ h => h) (Or.inl ⟨by rfl, fun w hw => by go_simp⟩) hHeld ?_
            simp only [Act.put, List.getElem_toArray, List.getElem_cons_zero, List.getElem_cons_succ, List.setIfInBounds_toArray, List.set_cons_zero, List.set_cons_succ]
            refine wpAnyH_take (i := 7) (v := .slice (some ⟨go, oo, none⟩) nl oc) rfl (by kernel_rfl) (by kernel_rfl) (by kernel_rfl) (fun _ _ _ h => h) (Or.inl ⟨by rfl, fun w hw => by go_simp⟩) hHeld ?_
            simp only [Act.put, List.getElem_toArray, List.getElem_cons_zero, List.getElem_cons_succ, List.setIfInBounds_toArray, List.set_cons_zero, List.set_cons_succ]
            refine wpAnyH_take (i := 8) (v := .int .i64 k) rfl (by kernel_rfl) (by kernel_rfl) (by kernel_rfl) (fun _ _ _ h => h) (Or.inl ⟨by rfl, fun w hw => by go_simp⟩) hHeld ?_
            simp only [Act.put, List.getElem_toArray, List.getElem_cons_zero, List.getElem_cons_succ, List.setIfInBounds_toArray, List.set_cons_zero, List.set_cons_succ]
            refine wpAnyH_take (i := 9) (v := .int .i64 (64 * (k : Int))) rfl (by kernel_rfl) (by kernel_rfl) (by kernel_rfl) (fun _ _ _ h => h) (Or.inl ⟨by rfl, fun w hw => by go_simp⟩) hHeld ?_
            simp only [Act.put, List.getElem_toArray, List.getElem_cons_zero, List.getElem_cons_succ, List.setIfInBounds_toArray, List.set_cons_zero, List.set_cons_succ]
            refine wpAnyH_take (i := 10) (v := .int .i64 k) rfl (by kernel_rfl) (by kernel_rfl) (by kernel_rfl) (fun _ _ _ h => h) (Or.inl ⟨by rfl, fun w hw => by go_simp⟩) hHeld ?_
            simp only [Act.put, List.getElem_toArray, List.getElem_cons_zero, List.getElem_cons_succ, List.setIfInBounds_toArray, List.set_cons_zero, List.set_cons_succ]
            refine wpAnyH_take (i := 11) (v := .int .i64 (64 * (k : Int))) rfl (by kernel_rfl) (by kernel_rfl) (by kernel_rfl) (fun _ _ _ h => h) (Or.inl ⟨by rfl, fun w hw => by go_simp⟩) hHeld ?_
            simp only [Act.put, List.getElem_toArray, List.getElem_cons_zero, List.getElem_cons_succ, List.setIfInBounds_toArray, List.set_cons_zero, List.set_cons_succ]
            refine wpAnyH_take (i := 12) (v := .int .i64 (64 * (k : Int) + 64)) rfl (by kernel_rfl) (by kernel_rfl) (by kernel_rfl) (fun _ _ _ h => h) (Or.inl ⟨by rfl, fun w hw => by go_simp⟩) hHeld ?_
            simp only [Act.put, List.getElem_toArray, List.getElem_cons_zero, List.getElem_cons_succ, List.setIfInBounds_toArray, List.set_cons_zero, List.set_cons_succ]
            refine wpAnyH_take (i := 13) (v := .slice (some ⟨go, oo + 64 * k, none⟩) 64 (oc - 64 * k)) rfl (by kernel_rfl) (by kernel_rfl) (by kernel_rfl) (fun _ _ _ h => h) (Or.inl ⟨by rfl, fun w hw => by go_simp⟩) hHeld ?_
            simp only [Act.put, List.getElem_toArray, List.getElem_cons_zero, List.getElem_cons_succ, List.setIfInBounds_toArray, List.set_cons_zero, List.set_cons_succ]
            refine wpAnyH_take (i := 14) (v := .slice (some ⟨gl, ol, none⟩) n lc) rfl (by kernel_rfl) (by kernel_rfl) (by kernel_rfl) (fun _ _ _ h => h) (Or.inl ⟨by rfl, fun w hw => by go_simp⟩) hHeld ?_
            simp only [Act.put, List.getElem_toArray, List.getElem_cons_zero, List.getElem_cons_succ, List.setIfInBounds_toArray, List.set_cons_zero, List.set_cons_succ]
            refine wpAnyH_take (i := 15) (v := .int .i64 k) rfl (by kernel_rfl) (by kernel_rfl) (by kernel_rfl) (fun _ _ _ h => h) (Or.inl ⟨by rfl, fun w hw => by go_simp⟩) hHeld ?_
            simp only [Act.put, List.getElem_toArray, List.getElem_cons_zero, List.getElem_cons_succ, List.setIfInBounds_toArray, List.set_cons_zero, List.set_cons_succ]
            refine wpAnyH_take (i := 16) (v := .int .i64 (-1)) rfl (by kernel_rfl) (by kernel_rfl) (by kernel_rfl) (fun _ _ _ h => h) (Or.inl ⟨by rfl, fun w hw => by go_simp⟩) hHeld ?_
            simp only [Act.put, List.getElem_toArray, List.getElem_cons_zero, List.getElem_cons_succ, List.setIfInBounds_toArray, List.set_cons_zero, List.set_cons_succ]
            refine wpAnyH_take (i := 17) (v := .int .i64 cut) rfl (by kernel_rfl) (by kernel_rfl) (by kernel_rfl) (fun _ _ _ h => h) (Or.inl ⟨by rfl, fun w hw => by go_simp⟩) hHeld ?_
            simp only [Act.put, List.getElem_toArray, List.getElem_cons_zero, List.getElem_cons_succ, List.setIfInBounds_toArray, List.set_cons_zero, List.set_cons_succ]
            refine wpAnyH_ready (rs := [18]) (by kernel_rfl) (by simp) ?_
            refine AllReadyH.cons (o := _) rfl (fun K hK => ?_) AllReadyH.nil
            go_simp
            refine (among _ _ _ (sec im k) (sec (wh l) k) (ins l us) k (-1) cut wr.drew HQ.out.1 HQ.out.2.1 HQ.out.2.2.1 HQ.out.2.2.2.1 HQ.out.2.2.2.2 (by rw [HNS.out]; exact hn30) (.inl rfl) HGG.out).mono ?_
            rintro e w11 ⟨rfl, hb⟩
            have HN := Lib.hid (H.out.on ((belowDrew wr 1).trans hb))
            clear hb HGG HTT HQ H
            go_wp2_with fail
            refine hK.out _ _ trivial (fun hHeld => ?_)
            clear hK K
            refine wpAnyH_ready (rs := [19]) (by kernel_rfl) (by simp) ?_
            refine AllReadyH.cons (o := _) rfl (fun K hK => ?_) AllReadyH.nil
            go_simp
            refine hK.out _ _ hHeld (fun hHeld => ?_)
            clear hK K
            refine wpAnyH_done (by kernel_rfl) ?_ _
            clear hHeld
            go_wp2_with fail
            go_roundw
            case rel => exact ⟨k + 1, by omega, by go_num, HN⟩
            case measure => (simp [intOf]; omega)
        · have HE : Hid (Below w.heap.size w wr) := H.out.1
          clear H
          go_wp2_with fail
          go_ret
          exact ⟨rfl, HE.out⟩
end Go.Proofs.Ytjgioiljhefcbaa
