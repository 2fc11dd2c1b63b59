import Derived.Test.YtmfeelkjbpjhdaaPush
namespace Go.Proofs.Ytmfeelkjbpjhdaa
open Go.RowKit
theorem rd_part {s : Nat} {held l : List UInt8} (h2 : s ≤ 32768) (h4 : ¬ s ≤ held.length + l.length) : Rd (1 == 2) (tx 1 s held ++ l) [] [] (1 == 2) (tx 1 s held ++ l) 0 := by
  have hl : (be4 s).length = 4 := rfl
  have e2 : tx 1 s held ++ l = be4 s ++ (held ++ l) := by simp [tx]
  have en : nm (be4 s ++ (held ++ l)) = s := nm_be4 s _ (by omega)
  rw [e2]
  exact Rd.part _ (by rw [List.length_append]; omega) (by rw [en]; exact h2) (by rw [en, List.length_append, List.length_append]; omega)
theorem rd_few {s : Nat} {held l : List UInt8} (h1 : sok held 0 = true) (h2 : sok l held.length = true) (h4 : ¬ 68 ≤ held.length + l.length) : Rd (2 == 2) (tx 2 s held ++ l) [] [] (2 == 2) (tx 2 s held ++ l) 0 := by
  have e1 : tx 2 s held ++ l = held ++ l := by simp [tx]
  rw [e1]
  exact Rd.few _ (by rw [sok_split, h1, h2]; rfl) (by rw [List.length_append]; omega)
theorem rd_bad {s : Nat} {held l : List UInt8} (h2 : sok l held.length = false) : Rd (2 == 2) (tx 2 s held ++ l) [] [] (2 == 2) (tx 2 s held ++ l) 100 := by
  have e1 : tx 2 s held ++ l = held ++ l := by simp [tx]
  rw [e1]
  exact Rd.bad _ (by rw [sok_split, h2, Bool.and_false])
set_option maxHeartbeats 4000000 in
set_option maxRecDepth 100000 in
theorem push (w : World) (R p0 s0 : Nat) (hv0 bv0 : Value) (held0 l0 : List UInt8) (hk : RK w R p0 s0 hv0 0) (hst : St p0 s0 held0) (how : OW (R + 1) w hv0 held0) (hnil : held0 = [] → hv0 = .slice none 0 0)
    (hb : RN (fun g => hv0.ownBlock ≠ some g) w bv0 l0) (hl0 : l0.length ≤ 16777216) :
    Calls Try.prog 14 #[.pointer (some ⟨R, 0, none⟩), bv0] w (PushE w R (p0 == 2) (tx p0 s0 held0 ++ l0) hv0) := by
  have P0 : PI w R (p0 == 2) (tx p0 s0 held0 ++ l0) hv0 p0 s0 held0 l0 [] [] hv0 bv0 (.slice none 0 0) (.slice none 0 0) w := by
    refine ⟨?_, hk, .inl rfl, how, hnil, RN.of_rb how.rb, ?_, OM.nil _ _, OB.nil _ _ _, Fr.refl _ _, fun _ _ _ _ _ h => by simpa using h, by simp; split <;> omega, hk.lt⟩
    · rcases hst with h | h | ⟨h1, h2, h3⟩
      · exact .inl h
      · exact .inr (.inl h)
      · exact .inr (.inr ⟨h1, h2, by omega⟩)
    · obtain ⟨a, c, e, h1, h2⟩ := hb
      refine ⟨a, c, e, h1, ?_⟩
      rcases h2 with h2 | ⟨g, o, h3, h4, h5, h6⟩
      · exact .inl h2
      · exact .inr ⟨g, o, h3, ⟨h5, h4⟩, h5, h6⟩
  have c3 := hk.c3
  generalize (p0 == 2) = H0 at *
  generalize tx p0 s0 held0 ++ l0 = T0 at *
  have hbf : ∃ a c, bv0 = .slice a l0.length c := by obtain ⟨a, c, e, _⟩ := hb; exact ⟨a, c, e⟩
  have HP : Hid (PI w R H0 T0 hv0 p0 s0 held0 l0 [] [] hv0 bv0 (.slice none 0 0) (.slice none 0 0) w) := P0
  clear P0 hk hst how hnil hb
  obtain ⟨ba0, bc0, rfl⟩ := hbf
  go_enter Try.func14, Try.ntmps14
  go_wp2
  go_step3
  go_wp2
  go_step3
  go_wp2_with fail
  go_loopg [1, 7, 8] (2 * l0.length + 1) (fun gk bv mv bsv wr => ∃ p s held l met bs hv ba bcap, bv = .slice ba l.length bcap ∧ Hid (PI w R H0 T0 hv0 p s held l met bs hv (.slice ba l.length bcap) mv bsv wr) ∧ 2 * l.length + (if p = 1 then 1 else 0) ≤ gk)
  case atStart => exact ⟨p0, s0, held0, l0, [], [], hv0, ba0, bc0, rfl, HP, by split <;> omega⟩
  case round =>
    clear HP c3
    obtain ⟨p, s, held, l, met, bs, hv, ba, bcap, rfl, H, hgk⟩ := hrel
    obtain ⟨ha, hc, hvf, hhle⟩ : ∃ ha hc, hv = .slice ha held.length hc ∧ held.length ≤ hc := by obtain ⟨a, c, e, h, _⟩ := H.out.rh; exact ⟨a, c, e, h⟩
    have hble : l.length ≤ bcap := H.out.rb.rb.le
    subst hvf
    have c0 := H.out.rk.c0
    have c2 := H.out.rk.c2
    have hln := H.out.ln
    have hll : l.length ≤ 33554432 := by omega
    rcases H.out.sm with ⟨hp, hsm1, hsm2⟩ | ⟨hp, hsm1⟩ | ⟨hp, hsm1, hsm2⟩
    · -- in the handshake
      subst hp
      by_cases hsg : sok l held.length = true
      · have SG : Hid (Calls Try.prog 16 #[.slice ba l.length bcap, .int .i64 held.length] wr fun e w' => e = .returned (.bool true) ∧ ∃ n, w' = wr.drewN n) := by
          have := signed (.slice ba l.length bcap) l held.length (by omega) (by omega) wr H.out.rb.rb
          rwa [hsg] at this
        go_wp2_with fail
        refine SG.out.mono ?_
        rintro e w1 ⟨rfl, nq, rfl⟩
        have H1 : Hid (PI w R H0 T0 hv0 2 s held l met bs (.slice ha held.length hc) (.slice ba l.length bcap) _ _ (wr.drewN nq)) := H.out.drew nq
        clear c0 c2 H SG
        generalize wr.drewN nq = wq at *
        have c0 := H1.out.rk.c0
        have c2 := H1.out.rk.c2
        by_cases hf : 68 ≤ held.length + l.length
        · skip
          go_wp2_with fail
          refine (fills_yes wq R 2 s 0 ha held.length hc l.length bcap ba H1.out.rk (by omega) (by omega) (by omega) (by omega) (by simp; omega)).mono ?_
          rintro e w1 ⟨rfl, rfl⟩
          have hz68 := zero68
          go_wp2_with fail
          obtain ⟨m1, m2, m3, m4, m5, m6⟩ := H1.out.at1 (.cells (bc (zr 68)) 55)
          have MV := move _ _ R 2 s wq.heap.size 0 (.slice ha held.length hc) (.slice ba l.length bcap) held l (zr 68) 55 m1 (heapNew _ _) m4 m5 m2 m3 (by rw [zr_len]; omega) (by rw [zr_len]; omega) (by rw [zr_len]; omega) (by omega)
          rw [zr_len] at MV
          refine MV.mono ?_
          rintro e w2 ⟨bv', rfl, n1, n2, n3, n4, n5⟩
          have M2 : Hid (PM w R hv0 2 s (l.drop (68 - held.length)) met bs bv' _ _ w2) := H1.out.moved m6 n1 n3 n4
          have hG : w.heap.size ≤ wq.heap.size := H1.out.fr.size
          have hT : ((held ++ l).take 68).length = 68 := by rw [List.length_take, List.length_append]; omega
          have HL' : Hid ((l.drop (68 - held.length)).length = l.length - (68 - held.length)) := List.length_drop
          have HRD : Hid (∀ met' bs' h' r' e', Rd (2 == 2) (tx 2 s held ++ l) met' bs' h' r' e' → Rd H0 T0 (met ++ met') (bs ++ bs') h' r' e') := H1.out.rd
          clear MV m1 m2 m3 m4 m5 n3 n4 n5 c0 c2
          have RDX : Hid (∀ met' bs' h' r' e', Rd (0 == 2) (tx 0 s [] ++ l.drop (68 - held.length)) met' bs' h' r' e' → Rd H0 T0 ((met ++ [hel (held ++ l)]) ++ met') (bs ++ bs') h' r' e') := fun met' bs' h' r' e' h => by
            rw [List.append_assoc]
            exact HRD.out _ _ _ _ _ (rd_hello hsm1 hsm2 hsg hf h)
          have HLE := hello (.slice (some ⟨wq.heap.size, 0, none⟩) 68 68) ((held ++ l).take 68) (by omega) (by omega) w2 (rb_block n2 68 hT)
          rw [hel_take] at HLE
          have h48 : (hel (held ++ l)).length = 48 := hel_len _ (by rw [List.length_append]; exact hf)
          have HLE' : Hid (Calls Try.prog 20 #[.slice (some ⟨wq.heap.size, 0, none⟩) 68 68] w2 fun e w' => e = .returned (.agg (bc (hel (held ++ l)))) ∧ Below w2.heap.size w2 w') := HLE
          clear HLE HRD n2 n1
          generalize hel (held ++ l) = hx at *
          generalize hll' : l.drop (68 - held.length) = l' at *
          obtain ⟨ba', bcap', hbv, _⟩ : ∃ a c, bv' = .slice a l'.length c ∧ True := by obtain ⟨a, c, e, _⟩ := M2.out.rb; exact ⟨a, c, e, trivial⟩
          subst hbv
          go_wp2_with fail
          refine HLE'.out.mono ?_
          rintro e w3 ⟨rfl, b3⟩
          have M3 : Hid (PM w R hv0 2 s l' met bs (.slice ba' l'.length bcap') _ _ w3) := M2.out.below b3
          have M4 : Hid (PM w R hv0 2 s l' met bs (.slice ba' l'.length bcap') _ _ (w3.alloc (.cells (bc hx) 25))) := M3.out.below ((Below.refl _ _).alloc (Nat.le_refl _) _)
          clear b3 HLE' M2
          go_wp2_with (first | (refine build_hello rfl _ rfl hx rfl h48 ?_) | (at_builtin; refine append_hello rfl _ _ rfl rfl M4.out.om w3.heap.size hx rfl (heapNew _ _) h48 (by have := M4.out.fr.size; exact this) (by omega) ?_; intro v' w5 k1 k2; have M5 : Hid (PM w R hv0 2 s l' (met ++ [hx]) bs (.slice ba' l'.length bcap') v' _ w5) := M4.out.met k1 k2; have q0 := M5.out.rk.c0; have q0f := M5.out.rk.fr 0; have M6 : Hid (PM w R hv0 0 s l' (met ++ [hx]) bs (.slice ba' l'.length bcap') v' _ (w5.setCell ⟨R, 0, none⟩ (.int .i64 0))) := M5.out.set.1 0; clear k1 k2))
          go_roundg (2 * l'.length)
          case measure => (have := HL'.out; omega)
          case rel => exact ⟨0, s, [], l', met ++ [hx], bs, .slice none 0 0, ba', bcap', rfl, M6.out.next (.inr (.inl ⟨rfl, by simp⟩)) RDX.out (by have := HL'.out; simp; omega), by simp⟩
        · skip
          have W1 : Hid (∀ v' w1, OW (R + 1) w1 v' (held ++ l) → (held ++ l = [] → v' = .slice none 0 0) → wq.grownBy w1 (Value.slice ha held.length hc).ownBlock → (v'.ownBlock = (Value.slice ha held.length hc).ownBlock ∨ v'.ownBlock = some wq.heap.size) → RK w1 R 2 s (.slice ha held.length hc) 0 ∧ PO w R H0 T0 hv0 _ _ 0 met bs (2 == 2) (tx 2 s held ++ l) 2 s (held ++ l) v' (w1.setCell ⟨R, 2, none⟩ v')) := fun v' w1 h1 h2 h3 h4 => H1.out.waits (rd_few hsm2 hsg hf) (.inl ⟨rfl, by rw [List.length_append]; omega, by rw [sok_split, hsm2, hsg]; rfl⟩) h1 h2 h3 h4
          go_wp2_with fail
          refine (fills_no wq R 2 s 0 ha held.length hc l.length bcap ba H1.out.rk (by omega) (by omega) (by omega) (by omega) (by simp; omega)).mono ?_
          rintro e w1 ⟨rfl, rfl⟩
          go_wp2_with (at_builtin; refine append_held rfl _ _ rfl rfl H1.out.ow H1.out.nil rfl H1.out.rb.rb (by have := H1.out.rk.lt; omega) (by omega) ?_; intro v' w1 k1 k2 k3 k4; obtain ⟨va, vn, vc, rfl⟩ := k1.form3; obtain ⟨KR, PO1⟩ := W1.out _ w1 k1 k2 k3 k4; have q2 := KR.c2; have q2f := KR.fr 2; have q3 := PO1.rk.c3; have PO1' : Hid (PO w R H0 T0 hv0 _ _ 0 met bs (2 == 2) (tx 2 s held ++ l) 2 s (held ++ l) (.slice va vn vc) (w1.setCell ⟨R, 2, none⟩ (.slice va vn vc))) := PO1; clear k1 k2 k3 k4 KR PO1)
          generalize w1.setCell ⟨R, 2, none⟩ (.slice va vn vc) = wE at *
          go_quiet (fail)
          go_wp2
          rw [Exit.noGoto_ret]
          go_ret3
          exact pushE_mk PO1'.out _
      · have hsg' : sok l held.length = false := by simpa using hsg
        have SG : Hid (Calls Try.prog 16 #[.slice ba l.length bcap, .int .i64 held.length] wr fun e w' => e = .returned (.bool false) ∧ ∃ n, w' = wr.drewN n) := by
          have := signed (.slice ba l.length bcap) l held.length (by omega) (by omega) wr H.out.rb.rb
          rwa [hsg'] at this
        go_wp2_with fail
        refine SG.out.mono ?_
        rintro e w1 ⟨rfl, nq, rfl⟩
        have H1 : Hid (PI w R H0 T0 hv0 2 s held l met bs (.slice ha held.length hc) (.slice ba l.length bcap) _ _ (wr.drewN nq)) := H.out.drew nq
        clear c0 c2 H SG
        generalize wr.drewN nq = wq at *
        go_wp2_with fail
        refine (breakOff wq R 2 s _ 0 100 H1.out.rk).mono ?_
        rintro e wE ⟨rfl, hkE, hfE⟩
        have PO1' : Hid (PO w R H0 T0 hv0 _ _ 100 met bs (2 == 2) (tx 2 s held ++ l) 0 0 [] (.slice none 0 0) wE) := H1.out.broken 100 (.inl rfl) (rd_bad hsg') hkE hfE
        have q3 := hkE.c3
        clear hkE hfE
        go_wp2
        go_quiet (fail)
        go_wp2
        rw [Exit.noGoto_ret]
        go_ret3
        exact pushE_mk PO1'.out _
    · -- in the number
      subst hp
      by_cases hf : 4 ≤ held.length + l.length
      · skip
        go_wp2_with fail
        refine (fills_yes wr R 0 s 0 ha held.length hc l.length bcap ba H.out.rk (by omega) (by omega) (by omega) (by omega) (by simp; omega)).mono ?_
        rintro e w1 ⟨rfl, rfl⟩
        go_wp2_with fail
        rw [z4]
        obtain ⟨m1, m2, m3, m4, m5, m6⟩ := H.out.at1 (.cells (bc (zr 4)) 58)
        have MV := move _ _ R 0 s wr.heap.size 0 (.slice ha held.length hc) (.slice ba l.length bcap) held l (zr 4) 58 m1 (heapNew _ _) m4 m5 m2 m3 (by rw [zr_len]; omega) (by rw [zr_len]; omega) (by rw [zr_len]; omega) (by omega)
        rw [zr_len] at MV
        refine MV.mono ?_
        rintro e w2 ⟨bv', rfl, n1, n2, n3, n4, n5⟩
        have M2 : Hid (PM w R hv0 0 s (l.drop (4 - held.length)) met bs bv' _ _ w2) := H.out.moved m6 n1 n3 n4
        have hG : w.heap.size ≤ wr.heap.size := H.out.fr.size
        have hT : ((held ++ l).take 4).length = 4 := by rw [List.length_take, List.length_append]; omega
        have HL' : Hid ((l.drop (4 - held.length)).length = l.length - (4 - held.length)) := List.length_drop
        have HRD : Hid (∀ met' bs' h' r' e', Rd (0 == 2) (tx 0 s held ++ l) met' bs' h' r' e' → Rd H0 T0 (met ++ met') (bs ++ bs') h' r' e') := H.out.rd
        have n4b := n4
        clear MV m1 m2 m3 m4 m5 n3 n4 n5 c0 c2
        have htx := tx_num (s := s) hsm1 hf
        have hnl := nm_lt (held ++ l)
        have NUM : Hid (∀ u, Calls Try.prog 21 #[.agg (bc ((held ++ l).take 4))] u fun e w' => e = .returned (.int .u32 (nm (held ++ l) : Int)) ∧ Below u.heap.size u w') := fun u => by
          have := number _ hT u
          rwa [nm_take] at this
        have hi4 := info_four hT
        have RDX : Hid (32768 < nm (held ++ l) → Rd (0 == 2) (tx 0 s held ++ l) [] [] (0 == 2) (tx 0 s held ++ l) 102) := fun hb => Rd.big _ (by simp [tx]; omega) (by simpa [tx] using hb)
        have RDY : Hid (∀ met' bs' h' r' e', Rd (1 == 2) (tx 1 (nm (held ++ l)) [] ++ l.drop (4 - held.length)) met' bs' h' r' e' → Rd H0 T0 (met ++ met') (bs ++ bs') h' r' e') := fun met' bs' h' r' e' h => HRD.out _ _ _ _ _ (by rw [htx] at h; exact h)
        have FR2 : Hid (Fr (fun k => k ≠ R) wr w2) := ⟨(n4b.os).trans m6.os, (n4b.tape).trans m6.tape, (n4b.output).trans m6.output, Nat.le_trans m6.size n4b.size, fun k h1 h2 => (n4b.block k (Nat.lt_of_lt_of_le h1 m6.size) ⟨h2, by omega⟩).trans (m6.block k h1)⟩
        clear HRD htx n1 n4b m6
        generalize hT4 : (held ++ l).take 4 = T4 at *
        generalize nm (held ++ l) = nn at *
        generalize hll' : l.drop (4 - held.length) = l' at *
        obtain ⟨ba', bcap', hbv, _⟩ : ∃ a c, bv' = .slice a l'.length c ∧ True := by obtain ⟨a, c, e, _⟩ := M2.out.rb; exact ⟨a, c, e, trivial⟩
        subst hbv
        clear hT4 hll'
        go_wp2_with (first | (refine wpList_load_row rfl 58 _ rfl wr.heap.size rfl 58 (bc T4) (0, 0) _ n2 Try.underlying58 rfl hi4 ?_))
        refine (NUM.out _).mono ?_
        rintro e w3 ⟨rfl, b3⟩
        have M3 : Hid (PM w R hv0 0 s l' met bs (.slice ba' l'.length bcap') _ _ w3) := M2.out.below b3
        by_cases hbig : 32768 < nn
        · have FR3 : Hid (Fr (fun k => k ≠ R) wr w3) := FR2.out.trans (Fr.of_below b3) (fun _ _ x => x)
          clear b3 M2 n2
          go_wp2_with fail
          refine (breakOff w3 R 0 s _ 0 102 M3.out.rk).mono ?_
          rintro e wE ⟨rfl, hkE, hfE⟩
          have PO1' : Hid (PO w R H0 T0 hv0 _ _ 102 met bs (0 == 2) (tx 0 s held ++ l) 0 0 [] (.slice none 0 0) wE) := H.out.broken 102 (.inr rfl) (RDX.out hbig) hkE (FR3.out.trans hfE (fun _ _ x => x))
          have q3 := hkE.c3
          clear hkE hfE
          go_wp2
          go_quiet (fail)
          go_wp2
          rw [Exit.noGoto_ret]
          go_ret3
          exact pushE_mk PO1'.out _
        · have q0 := M3.out.rk.c0
          have q0f := M3.out.rk.fr 0
          have q1 := M3.out.rk.c1
          have q1f := M3.out.rk.fr 1
          have M6 : Hid (PM w R hv0 1 nn l' met bs (.slice ba' l'.length bcap') _ _ ((w3.setCell ⟨R, 0, none⟩ (.int .i64 1)).setCell ⟨R, 1, none⟩ (.int .i64 nn))) := (M3.out.set.1 1).set.2 nn
          clear b3 M2 n2
          go_wp2
          go_roundg (2 * l'.length + 1)
          case measure => (have := HL'.out; omega)
          case rel => exact ⟨1, nn, [], l', met, bs, .slice none 0 0, ba', bcap', rfl, M6.out.next (.inr (.inr ⟨rfl, by omega, by simp⟩)) RDY.out (by have := HL'.out; simp; omega), by simp⟩
      · skip
        have W1 : Hid (∀ v' w1, OW (R + 1) w1 v' (held ++ l) → (held ++ l = [] → v' = .slice none 0 0) → wr.grownBy w1 (Value.slice ha held.length hc).ownBlock → (v'.ownBlock = (Value.slice ha held.length hc).ownBlock ∨ v'.ownBlock = some wr.heap.size) → RK w1 R 0 s (.slice ha held.length hc) 0 ∧ PO w R H0 T0 hv0 _ _ 0 met bs (0 == 2) (tx 0 s held ++ l) 0 s (held ++ l) v' (w1.setCell ⟨R, 2, none⟩ v')) := fun v' w1 h1 h2 h3 h4 => H.out.waits (Rd.num _ (by simp [tx]; omega)) (.inr (.inl ⟨rfl, by rw [List.length_append]; omega⟩)) h1 h2 h3 h4
        go_wp2_with fail
        refine (fills_no wr R 0 s 0 ha held.length hc l.length bcap ba H.out.rk (by omega) (by omega) (by omega) (by omega) (by simp; omega)).mono ?_
        rintro e w1 ⟨rfl, rfl⟩
        go_wp2_with (at_builtin; refine append_held rfl _ _ rfl rfl H.out.ow H.out.nil rfl H.out.rb.rb (by have := H.out.rk.lt; omega) (by omega) ?_; intro v' w1 k1 k2 k3 k4; obtain ⟨va, vn, vc, rfl⟩ := k1.form3; obtain ⟨KR, PO1⟩ := W1.out _ w1 k1 k2 k3 k4; have q2 := KR.c2; have q2f := KR.fr 2; have q3 := PO1.rk.c3; have PO1' : Hid (PO w R H0 T0 hv0 _ _ 0 met bs (0 == 2) (tx 0 s held ++ l) 0 s (held ++ l) (.slice va vn vc) (w1.setCell ⟨R, 2, none⟩ (.slice va vn vc))) := PO1; clear k1 k2 k3 k4 KR PO1)
        generalize w1.setCell ⟨R, 2, none⟩ (.slice va vn vc) = wE at *
        go_quiet (fail)
        go_wp2
        rw [Exit.noGoto_ret]
        go_ret3
        exact pushE_mk PO1'.out _
    · -- in the body
      subst hp
      have c1 := H.out.rk.c1
      rw [if_pos rfl] at hgk hln
      by_cases hf : s ≤ held.length + l.length
      · skip
        go_wp2_with fail
        refine (fills_yes wr R 1 s 0 ha held.length hc l.length bcap ba H.out.rk (by omega) (by omega) (by omega) (by omega) (by simp; omega)).mono ?_
        rintro e w1 ⟨rfl, rfl⟩
        have hmk := make_bytes s (by omega)
        go_wp2_with fail
        skip
        obtain ⟨m1, m2, m3, m4, m5, m6⟩ := H.out.at1 (.cells (bc (zr s)) 5)
        have MV := move _ _ R 1 s wr.heap.size 0 (.slice ha held.length hc) (.slice ba l.length bcap) held l (zr s) 5 m1 (heapNew _ _) m4 m5 m2 m3 (by rw [zr_len]; omega) (by rw [zr_len]; omega) (by rw [zr_len]; omega) (by omega)
        rw [zr_len] at MV
        refine MV.mono ?_
        rintro e w2 ⟨bv', rfl, n1, n2, n3, n4, n5⟩
        have M2 : Hid (PM w R hv0 1 s (l.drop (s - held.length)) met bs bv' _ _ w2) := H.out.moved m6 n1 n3 n4
        have OF2 : Hid (OB w.heap.size (fun g => w.heap.size ≤ g ∧ g < wr.heap.size) w2 _ bs) := H.out.movedF m6 n4
        have hG : w.heap.size ≤ wr.heap.size := H.out.fr.size
        have hT : ((held ++ l).take s).length = s := by rw [List.length_take, List.length_append]; omega
        have HL' : Hid ((l.drop (s - held.length)).length = l.length - (s - held.length)) := List.length_drop
        have HRD : Hid (∀ met' bs' h' r' e', Rd (1 == 2) (tx 1 s held ++ l) met' bs' h' r' e' → Rd H0 T0 (met ++ met') (bs ++ bs') h' r' e') := H.out.rd
        clear MV m1 m2 m3 m4 m5 n3 n4 n5 c0 c2
        have RDX : Hid (∀ met' bs' h' r' e', Rd (0 == 2) (tx 0 s [] ++ l.drop (s - held.length)) met' bs' h' r' e' → Rd H0 T0 (met ++ met') ((bs ++ [(held ++ l).take s]) ++ bs') h' r' e') := fun met' bs' h' r' e' h => by
          rw [List.append_assoc]
          exact HRD.out _ _ _ _ _ (rd_body hsm2 hsm1 hf h)
        clear HRD n1 hmk c1
        generalize hTs : (held ++ l).take s = Ts at *
        generalize hll' : l.drop (s - held.length) = l' at *
        obtain ⟨ba', bcap', hbv, _⟩ : ∃ a c, bv' = .slice a l'.length c ∧ True := by obtain ⟨a, c, e, _⟩ := M2.out.rb; exact ⟨a, c, e, trivial⟩
        subst hbv
        clear hTs hll'
        have M4 : Hid (PM w R hv0 1 s l' met bs (.slice ba' l'.length bcap') _ _ (w2.alloc (.cells #[.slice (some ⟨wr.heap.size, 0, none⟩) s s] 28))) := M2.out.below ((Below.refl _ _).alloc (Nat.le_refl _) _)
        have BKK : Hid (BK (fun g => w.heap.size ≤ g) (w2.alloc (.cells #[.slice (some ⟨wr.heap.size, 0, none⟩) s s] 28)) (.slice (some ⟨wr.heap.size, 0, none⟩) s s) Ts) := ⟨wr.heap.size, hG, by rw [hT], (heapOld _ _ _ (Array.getElem?_eq_some_iff.1 n2).1).trans n2⟩
        have OF4 : Hid (OB w.heap.size (fun g => w.heap.size ≤ g ∧ g < wr.heap.size) (w2.alloc (.cells #[.slice (some ⟨wr.heap.size, 0, none⟩) s s] 28)) _ bs) := OF2.out.keep (fun k _ hl => heapOld _ _ _ hl) (fun _ x => x.1) (fun _ x _ => x)
        clear n2 M2 OF2
        go_wp2_with (at_builtin; refine append_body rfl _ _ rfl rfl OF4.out (fun _ x => x.1) w2.heap.size _ (fun g n m x e => by have h7 := x.2; simp at e <;> omega) Ts rfl (by go_simp) BKK.out (by have := M4.out.fr.size; exact this) (by omega) ?_; intro v' w5 k1 k2; have M5 : Hid (PM w R hv0 1 s l' met (bs ++ [Ts]) (.slice ba' l'.length bcap') _ v' w5) := M4.out.bod k1 k2; have q0 := M5.out.rk.c0; have q0f := M5.out.rk.fr 0; have M6 : Hid (PM w R hv0 0 s l' met (bs ++ [Ts]) (.slice ba' l'.length bcap') _ v' (w5.setCell ⟨R, 0, none⟩ (.int .i64 0))) := M5.out.set.1 0; clear k1 k2)
        go_roundg (2 * l'.length)
        case measure => (have := HL'.out; omega)
        case rel => exact ⟨0, s, [], l', met, bs ++ [Ts], .slice none 0 0, ba', bcap', rfl, M6.out.next (.inr (.inl ⟨rfl, by simp⟩)) RDX.out (by have := HL'.out; simp; omega), by simp⟩
      · skip
        have W1 : Hid (∀ v' w1, OW (R + 1) w1 v' (held ++ l) → (held ++ l = [] → v' = .slice none 0 0) → wr.grownBy w1 (Value.slice ha held.length hc).ownBlock → (v'.ownBlock = (Value.slice ha held.length hc).ownBlock ∨ v'.ownBlock = some wr.heap.size) → RK w1 R 1 s (.slice ha held.length hc) 0 ∧ PO w R H0 T0 hv0 _ _ 0 met bs (1 == 2) (tx 1 s held ++ l) 1 s (held ++ l) v' (w1.setCell ⟨R, 2, none⟩ v')) := fun v' w1 h1 h2 h3 h4 => H.out.waits (rd_part hsm1 hf) (.inr (.inr ⟨rfl, hsm1, by rw [List.length_append]; omega⟩)) h1 h2 h3 h4
        go_wp2_with fail
        refine (fills_no wr R 1 s 0 ha held.length hc l.length bcap ba H.out.rk (by omega) (by omega) (by omega) (by omega) (by simp; omega)).mono ?_
        rintro e w1 ⟨rfl, rfl⟩
        go_wp2_with (at_builtin; refine append_held rfl _ _ rfl rfl H.out.ow H.out.nil rfl H.out.rb.rb (by have := H.out.rk.lt; omega) (by omega) ?_; intro v' w1 k1 k2 k3 k4; obtain ⟨va, vn, vc, rfl⟩ := k1.form3; obtain ⟨KR, PO1⟩ := W1.out _ w1 k1 k2 k3 k4; have q2 := KR.c2; have q2f := KR.fr 2; have q3 := PO1.rk.c3; have PO1' : Hid (PO w R H0 T0 hv0 _ _ 0 met bs (1 == 2) (tx 1 s held ++ l) 1 s (held ++ l) (.slice va vn vc) (w1.setCell ⟨R, 2, none⟩ (.slice va vn vc))) := PO1; clear k1 k2 k3 k4 KR PO1)
        generalize w1.setCell ⟨R, 2, none⟩ (.slice va vn vc) = wE at *
        go_quiet (fail)
        go_wp2
        rw [Exit.noGoto_ret]
        go_ret3
        exact pushE_mk PO1'.out _
end Go.Proofs.Ytmfeelkjbpjhdaa
