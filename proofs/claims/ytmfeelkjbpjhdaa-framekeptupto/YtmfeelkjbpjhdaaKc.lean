import Derived.Test.YtmfeelkjbpjhdaaKb
namespace Go.Proofs.Ytmfeelkjbpjhdaa
open Go.RowKit
def SplE (l : List UInt8) (w : World) (e : Ending) (w' : World) : Prop := ∃ bv bs er, e = .returned (.tuple #[bv, .int .i64 (sz bs : Nat), .int .i64 er]) ∧ (∃ r, Rd false l [] bs false r er) ∧ OB w.heap.size (fun g => w.heap.size ≤ g) w' bv bs ∧ Below w.heap.size w w'
set_option maxHeartbeats 4000000 in
set_option maxRecDepth 100000 in
theorem stale (v : Value) (l : List UInt8) (w : World) (hr : RB w v l) (hl : l.length ≤ 16777216) :
    Calls Try.prog 13 #[v] w fun e w' => e = .returned (.bool true) ∧ Below w.heap.size w w' := by
  have HR : Hid (RB w v l) := hr
  obtain ⟨a, c, rfl, _, _⟩ := hr
  have C1 := copied HR.out (by omega)
  go_enter Try.func13, Try.ntmps13
  go_wp2_with fail
  refine C1.mono ?_
  rintro e w1 ⟨gv, rfl, o1, b1⟩
  clear C1
  obtain ⟨ga, gc, rfl⟩ := o1.form
  have S1 : Hid (Calls Try.prog 8 #[.slice ga l.length gc] w1 (SplE l w1)) := splitP _ l hl w1 o1.rb
  have H1 : Hid (OW w.heap.size w1 (.slice ga l.length gc) l ∧ Below w.heap.size w w1) := ⟨o1, b1⟩
  clear o1 b1
  go_wp2_with fail
  refine S1.out.mono ?_
  rintro e w2 ⟨bv1, bs1, er1, rfl, R1, ob1, b2⟩
  clear S1
  obtain ⟨ba1, bc1, rfl⟩ := ob1.form
  have H2 : Hid ((∃ r, Rd false l [] bs1 false r er1) ∧ OB w1.heap.size (fun g => w1.heap.size ≤ g) w2 (.slice ba1 bs1.length bc1) bs1 ∧ Below w1.heap.size w1 w2) := ⟨R1, ob1, b2⟩
  have HL : Hid (OW w.heap.size w2 (.slice ga l.length gc) l) := H1.out.1.grow b2
  clear R1 ob1 b2
  go_wp2
  go_loopw [7] (fun t wr => ∃ i : Nat, i ≤ l.length ∧ t = .int .i64 i ∧ Hid (Fr (fun k => (Value.slice ga l.length gc).ownBlock ≠ some k) w2 wr ∧ ∃ m : List UInt8, m.length = l.length ∧ OW w.heap.size wr (.slice ga l.length gc) m)) (fun t _ => l.length - (intOf t).toNat)
  case atStart => exact ⟨0, Nat.zero_le _, rfl, Fr.refl _ _, l, rfl, HL.out⟩
  case round =>
    clear HL
    obtain ⟨i, hi, rfl, H⟩ := hrel
    by_cases hlt : i < l.length
    · obtain ⟨g, x, hae, hF⟩ : ∃ g x, ga = some ⟨g, 0, none⟩ ∧ ((0 : Int) ≤ x ∧ x < 256 ∧ wr.cell? ⟨g, i, none⟩ = some (.int .u8 x) ∧ wr.frozen? ⟨g, i, none⟩ = false ∧ ∀ z : Int, 0 ≤ z → z < 256 → Hid (Fr (fun k => (Value.slice ga l.length gc).ownBlock ≠ some k) w2 (wr.setCell ⟨g, i, none⟩ (.int .u8 z)) ∧ ∃ m : List UInt8, m.length = l.length ∧ OW w.heap.size (wr.setCell ⟨g, i, none⟩ (.int .u8 z)) (.slice ga l.length gc) m)) := by
        obtain ⟨f, m, hm, ho⟩ := H.out
        have ho' := ho
        rcases ho.2 with ⟨e, _⟩ | ⟨g, cap, cur, e, _⟩
        · rw [Value.slice.injEq] at e; omega
        rw [Value.slice.injEq] at e
        obtain ⟨rfl, _, rfl⟩ := e
        obtain ⟨q1, q2⟩ := ho'.at i (by omega)
        refine ⟨g, _, rfl, by omega, by have := (byt m i).toNat_lt; omega, q1, q2, fun z h0 h1 => ⟨f.setCell g i _ (fun x => x rfl), m.set i (UInt8.ofNat z.toNat), by rw [List.length_set]; exact hm, ?_⟩⟩
        have ez : z = (((UInt8.ofNat z.toNat).toNat : Nat) : Int) := by rw [UInt8.toNat_ofNat', Nat.mod_eq_of_lt (by omega)]; omega
        have := ho'.put i (UInt8.ofNat z.toNat)
        rw [← ez] at this
        exact this
      subst hae
      obtain ⟨hx0, hx1, hc0, hf0, hz⟩ := hF
      have HZ : Hid (∀ z : Int, 0 ≤ z → z < 256 → Hid (Fr (fun k => (Value.slice (some ⟨g, 0, none⟩) l.length gc).ownBlock ≠ some k) w2 (wr.setCell ⟨g, i, none⟩ (.int .u8 z)) ∧ ∃ m : List UInt8, m.length = l.length ∧ OW w.heap.size (wr.setCell ⟨g, i, none⟩ (.int .u8 z)) (.slice (some ⟨g, 0, none⟩) l.length gc) m)) := hz
      clear hz
      by_cases h4 : i % 4 = 3
      · have h4i : ((i : Int) % 4) = 3 := by omega
        clear H
        go_wp2
        exact ⟨⟨i + 1, by omega, by go_num, HZ.out _ (by omega) (by omega)⟩, by simp [intOf]; omega⟩
      · have h4i : ¬ ((i : Int) % 4) = 3 := by omega
        clear HZ hc0 hf0
        go_wp2
        exact ⟨⟨i + 1, by omega, by go_num, H⟩, by simp [intOf]; omega⟩
    · obtain ⟨hf, m, hm, ho⟩ := H.out
      have hgb : ∀ k, (Value.slice ga l.length gc).ownBlock = some k → w.heap.size ≤ k ∧ k < w1.heap.size := fun k hk => H1.out.1.blk k hk
      have B2 : Below w.heap.size w w2 := H1.out.2.trans (H2.out.2.2.mono H1.out.2.size)
      have BW : Below w.heap.size w wr := ⟨hf.os.trans B2.os, hf.tape.trans B2.tape, hf.output.trans B2.output, Nat.le_trans B2.size hf.size, fun k hk => (hf.block k (Nat.lt_of_lt_of_le hk B2.size) (fun e => by have := (hgb k e).1; omega)).trans (B2.block k hk)⟩
      have OB1 : RBS wr (.slice ba1 bs1.length bc1) bs1 := (H2.out.2.1.keep (T := fun _ => True) (fun k h1 h2 => hf.block k h2 (fun e => by have := (hgb k e).2; omega)) (fun _ x => x) (fun _ _ _ => trivial)).rbs
      have HA : Hid (RBS wr (.slice ba1 bs1.length bc1) bs1 ∧ Below w.heap.size w wr ∧ RB wr (.slice ga l.length gc) m ∧ m.length ≤ 16777216) := ⟨OB1, BW, ho.rb, by omega⟩
      have C3 : Hid (Calls Try.prog 4 #[.slice ga l.length gc] wr fun e w' => ∃ v, e = .returned v ∧ OW wr.heap.size w' v m ∧ Below wr.heap.size wr w') := copied ho.rb (by omega)
      clear H hf hm ho hgb B2 BW OB1
      go_wp2_with fail
      refine C3.out.mono ?_
      rintro e w3 ⟨ov, rfl, o3, b3⟩
      obtain ⟨oa, oc, rfl⟩ := o3.form
      have HB : Hid (RBS w3 (.slice ba1 bs1.length bc1) bs1 ∧ Below w.heap.size w w3 ∧ RB w3 (.slice oa m.length oc) m) := ⟨HA.out.1.keep b3, HA.out.2.1.trans (b3.mono HA.out.2.1.size), o3.rb⟩
      have S4 : Hid (Calls Try.prog 8 #[.slice ga l.length gc] w3 (SplE m w3)) := splitP _ m HA.out.2.2.2 w3 (HA.out.2.2.1.keep b3)
      have HM : Hid (m.length ≤ 16777216) := HA.out.2.2.2
      clear C3 HA o3 b3
      go_wp2_with fail
      refine S4.out.mono ?_
      rintro e w4 ⟨bv2, bs2, er2, rfl, R2, ob2, b4⟩
      obtain ⟨ba2, bc2, rfl⟩ := ob2.form
      have HC : Hid (RBS w4 (.slice ba1 bs1.length bc1) bs1 ∧ Below w.heap.size w w4 ∧ RB w4 (.slice oa m.length oc) m ∧ RBS w4 (.slice ba2 bs2.length bc2) bs2) := ⟨HB.out.1.keep b4, HB.out.2.1.trans (b4.mono HB.out.2.1.size), HB.out.2.2.keep b4, ob2.rbs⟩
      have HR2 : Hid (∃ r, Rd false m [] bs2 false r er2) := R2
      have C5 : Hid (Calls Try.prog 4 #[.slice a l.length c] w4 fun e w' => ∃ v, e = .returned v ∧ OW w4.heap.size w' v l ∧ Below w4.heap.size w4 w') := copied (HR.out.keep HC.out.2.1) (by omega)
      clear S4 HB R2 ob2 b4
      go_wp2_with fail
      refine C5.out.mono ?_
      rintro e w5 ⟨xv, rfl, o5, b5⟩
      obtain ⟨xa, xc, rfl⟩ := o5.form
      have HD : Hid (RBS w5 (.slice ba1 bs1.length bc1) bs1 ∧ Below w.heap.size w w5 ∧ RB w5 (.slice oa m.length oc) m ∧ RBS w5 (.slice ba2 bs2.length bc2) bs2) := ⟨HC.out.1.keep b5, HC.out.2.1.trans (b5.mono HC.out.2.1.size), HC.out.2.2.1.keep b5, HC.out.2.2.2.keep b5⟩
      have S6 : Hid (Calls Try.prog 8 #[.slice xa l.length xc] w5 (SplE l w5)) := splitP _ l hl w5 o5.rb
      clear C5 HC o5 b5
      go_wp2_with fail
      refine S6.out.mono ?_
      rintro e w6 ⟨bv3, bs3, er3, rfl, ⟨r3, R3⟩, ob3, b6⟩
      obtain ⟨r1, R1⟩ := H2.out.1
      obtain ⟨_, rfl, _, _, rfl⟩ := R1.det R3
      obtain ⟨ba3, bc3, rfl⟩ := ob3.form
      have HF : Hid (RBS w6 (.slice ba1 bs3.length bc1) bs3 ∧ Below w.heap.size w w6 ∧ RBS w6 (.slice ba2 bs2.length bc2) bs2 ∧ RBS w6 (.slice ba3 bs3.length bc3) bs3) := ⟨HD.out.1.keep b6, HD.out.2.1.trans (b6.mono HD.out.2.1.size), HD.out.2.2.2.keep b6, ob3.rbs⟩
      have S7 : Hid (Calls Try.prog 8 #[.slice oa m.length oc] w6 (SplE m w6)) := splitP _ m HM.out w6 (HD.out.2.2.1.keep b6)
      have HR1 : Hid (Rd false l [] bs3 false r1 er3) := R1
      clear S6 HD R3 R1 ob3 b6
      go_wp2_with fail
      refine S7.out.mono ?_
      rintro e w7 ⟨bv4, bs4, er4, rfl, ⟨r4, R4⟩, ob4, b7⟩
      obtain ⟨r2, R2⟩ := HR2.out
      obtain ⟨_, rfl, _, _, rfl⟩ := R2.det R4
      obtain ⟨ba4, bc4, rfl⟩ := ob4.form
      have key : ∀ {l : List UInt8} {bs : List (List UInt8)} {r : List UInt8} {er : Int}, Rd false l [] bs false r er → l.length ≤ 16777216 → bs.length ≤ 140737488351232 ∧ ∀ b ∈ bs, b.length ≤ 140737488351232 := fun {l bs r er} R hl => by
        obtain ⟨_, _, h3, _, _, h6⟩ := R.frames rfl
        have : ∀ bs : List (List UInt8), bs.length ≤ sz bs := fun bs => by
          induction bs with
          | nil => simp
          | cons b bs ih => rw [sz_cons, List.length_cons]; omega
        have := this bs
        exact ⟨by omega, fun b hb => by have := h6 b hb; omega⟩
      have k1 := key HR1.out hl
      have k2 := key R2 HM.out
      have SA : Hid (Calls Try.prog 15 #[.slice ba1 bs3.length bc1, .slice ba3 bs3.length bc3] w7 fun e w' => e = .returned (.bool true) ∧ ∃ m, w' = w7.drewN m) := sameBodies _ _ bs3 w7 k1.1 k1.2 (HF.out.1.keep b7) (HF.out.2.2.2.keep b7)
      have SB : Hid (∀ n, Calls Try.prog 15 #[.slice ba2 bs4.length bc2, .slice ba4 bs4.length bc4] (w7.drewN n) fun e w' => e = .returned (.bool true) ∧ ∃ m, w' = w7.drewN m) := fun n => by
        refine (sameBodies _ _ bs4 (w7.drewN n) k2.1 k2.2 ((HF.out.2.2.1.keep b7).keep (belowDrew _ _)) (ob4.rbs.keep (belowDrew _ _))).mono ?_
        rintro e w' ⟨rfl, m, rfl⟩
        exact ⟨rfl, n + m, drewN2 _ _ _⟩
      have HE : Hid (Below w.heap.size w w7) := HF.out.2.1.trans (b7.mono HF.out.2.1.size)
      clear key k1 k2 HF S7 R2 R4 ob4 b7 H2
      generalize sz bs3 = z3 at *
      generalize sz bs4 = z4 at *
      go_wp2_with fail
      refine SA.out.mono ?_
      rintro e w8 ⟨rfl, n8, rfl⟩
      go_wp2_with fail
      refine (SB.out _).mono ?_
      rintro e w9 ⟨rfl, n9, rfl⟩
      go_wp2
      go_ret
      exact ⟨rfl, belowN HE.out _⟩
end Go.Proofs.Ytmfeelkjbpjhdaa
