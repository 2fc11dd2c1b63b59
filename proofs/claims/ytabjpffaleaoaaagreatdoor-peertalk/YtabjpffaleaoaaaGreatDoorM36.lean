import Derived.Test.YtabjpffaleaoaaaGreatDoorM34
import Derived.Test.YtabjpffaleaoaaaGreatDoorM35
namespace Go.Proofs.YtabjpffaleaoaaaGreatDoor
open Go.RowKit
/-- what the loop over the rounds keeps -/
structure LT (w : World) (L : List Int) (b v : Int) (ga Ra : Nat) (Pa : Pv) (Ha : List UInt8) (pa sa : Nat) (gb Rb : Nat) (Pb : Pv) (Hb : List UInt8) (pb sb : Nat) (wr : World) : Prop where
  fa : FP wr ga Ra Pa L Ha pa sa [] (.slice none 0 0)
  fb : FP wr gb Rb Pb L Hb pb sb [] (.slice none 0 0)
  pa2 : (pa == 2) = false
  ta : Fm.tx pa sa [] = []
  pb2 : (pb == 2) = false
  tb : Fm.tx pb sb [] = []
  fla : (Pa.wc, Pa.wi, Pa.wb) = (Pb.ic, Pb.ii, Pb.ib)
  flb : (Pb.wc, Pb.wi, Pb.wb) = (Pa.ic, Pa.ii, Pa.ib)
  ba : Pa.b = b
  bb : Pb.b = b
  bl : Below w.heap.size w wr
  sc : wr.heap[w.heap.size]? = some (.cells #[.int .i64 b, .int .i64 v] 23)
theorem LT.below {w : World} {L : List Int} {b v : Int} {ga Ra : Nat} {Pa : Pv} {Ha : List UInt8} {pa sa gb Rb : Nat} {Pb : Pv} {Hb : List UInt8} {pb sb : Nat} {wr w' : World} (h : LT w L b v ga Ra Pa Ha pa sa gb Rb Pb Hb pb sb wr) (hb : Below wr.heap.size wr w') : LT w L b v ga Ra Pa Ha pa sa gb Rb Pb Hb pb sb w' :=
  ⟨h.fa.below hb, h.fb.below hb, h.pa2, h.ta, h.pb2, h.tb, h.fla, h.flb, h.ba, h.bb, h.bl.trans (hb.mono h.bl.size), (hb.block _ (Array.getElem?_eq_some_iff.1 h.sc).1).trans h.sc⟩
set_option maxHeartbeats 8000000 in
set_option maxRecDepth 100000 in
theorem talkLaw (w : World) (hkt : KT w) (hmt : Bs.MT w) (b v : Int) (hb0 : List UInt8) (h320 : hb0.length = 32) (lv : Value) (L : List Int) (hl : L.length * 8 ≤ 140737488351232) (hr : Bs.RZ w lv L) (me : List UInt8) (hme : me.length = 20) (rv : Value) (rs : List (Value × List Mg)) (hrr : RRm w rv rs) (hrl : rs.length ≤ 1048576) (hrw : ∀ r ∈ rs, mgW r.2 ≤ 1048576) (cv : Value) (zs : List Int) (hz : Bs.RZ w cv zs) (hzl : zs.length ≤ 1048576) (hzb : ∀ z ∈ zs, -9223372036854775808 ≤ z ∧ z ≤ 9223372036854775807) :
    Calls Tryz.prog 7 #[Bs.sc b v, .agg (bc hb0), lv, .agg (bc me), rv, cv] w fun e w' => e = .returned (.bool true) ∧ Below w.heap.size w w' := by
  have HA : Hid (∀ u, Below w.heap.size w u → Calls Tryz.prog 9 #[] u fun e w' => e = .returned (.bool true) ∧ Below u.heap.size u w') := fun u hu => awakeT u (hkt.below hu hkt.pos) (hmt.keep hu)
  have HC0 := Lib.hid (And.intro hkt (And.intro hmt (And.intro hr (And.intro hrr (And.intro hrw (And.intro hz hzb))))))
  obtain ⟨ra, rc, rfl, _⟩ := hrr
  obtain ⟨la, lc, rfl, _⟩ := hr
  obtain ⟨ca, cc, rfl, _⟩ := hz
  obtain ⟨u0, hu0⟩ : ∃ x, x = ((w.alloc (Obj.cells #[Value.int IntKind.i64 b, Value.int IntKind.i64 v] 23)).alloc (Obj.cells (bc hb0) 25)).alloc (Obj.cells (bc me) 28) := ⟨_, rfl⟩
  have B0 : Hid (Below w.heap.size w u0) := by
    rw [hu0]
    exact (((Below.refl _ _).alloc (Nat.le_refl _) _).alloc (by simp) _).alloc (by simp; omega) _
  have HS0 : Hid (u0.heap[w.heap.size]? = some (.cells #[.int .i64 b, .int .i64 v] 23) ∧ u0.heap[w.heap.size + 1]? = some (.cells (bc hb0) 25) ∧ u0.heap[w.heap.size + 1 + 1]? = some (.cells (bc me) 28) ∧ u0.heap.size = w.heap.size + 3) := by
    rw [hu0]
    exact three w _ _ _
  clear hkt hmt hrw hzb
  go_enter Tryz.func7, Tryz.ntmps7
  go_wp2_with fail
  rw [← hu0]
  clear hu0
  go_loopw [13] (fun t wr => ∃ i : Nat, i ≤ rs.length ∧ t = .int .i64 i ∧ Hid (Below u0.heap.size u0 wr)) (fun t _ => rs.length - (intOf t).toNat)
  case atStart => exact ⟨0, Nat.zero_le _, rfl, Below.refl _ _⟩
  case round =>
    obtain ⟨i, hi, rfl, HBr⟩ := hrel
    have bwr : Below w.heap.size w wr := B0.out.trans (HBr.out.mono B0.out.size)
    by_cases hlt : i < rs.length
    · obtain ⟨r, hrx⟩ : ∃ r, rs[i]? = some r := ⟨_, List.getElem?_eq_getElem hlt⟩
      obtain ⟨rg, ro, rfl, hcr, hRM⟩ : ∃ rg ro, ra = some ⟨rg, ro, none⟩ ∧ wr.cell? ⟨rg, ro + i, none⟩ = some r.1 ∧ RMS wr r.1 r.2 := by
        obtain ⟨a, c, e, h, hm⟩ := HC0.out.2.2.2.1.keep bwr
        simp only [Value.slice.injEq] at e
        obtain ⟨rfl, _, rfl⟩ := e
        rcases h with h | ⟨g, o, rfl, _, h⟩
        · rw [h] at hlt; simp at hlt
        · exact ⟨g, o, rfl, h i r hrx, hm r (List.mem_of_getElem? hrx)⟩
      have HFm := Lib.hid (farMsgsT wr r.1 r.2 hRM (HC0.out.2.2.2.2.1 r (List.mem_of_getElem? hrx)))
      obtain ⟨ma, mc, hmv, _⟩ := hRM
      rw [hmv] at hcr HFm
      have hkn : (i : Int) < (rs.length : Int) := by omega
      have hk0 : (0 : Int) ≤ (i : Int) := by omega
      clear hrx hmv bwr
      go_wp2_with (first | (go_at_call 26; refine HFm.out.mono ?_; rintro e w3 ⟨rfl, b3⟩))
      exact ⟨⟨i + 1, by omega, by go_num, HBr.out.trans (b3.mono HBr.out.size)⟩, by simp [intOf]; omega⟩
    · obtain rfl : i = rs.length := by omega
      have B1 := Lib.hid bwr
      have HSr : Hid (wr.heap[w.heap.size]? = some (.cells #[.int .i64 b, .int .i64 v] 23) ∧ wr.heap[w.heap.size + 1]? = some (.cells (bc hb0) 25) ∧ wr.heap[w.heap.size + 1 + 1]? = some (.cells (bc me) 28) ∧ w.heap.size + 3 ≤ wr.heap.size) := by
        have h0 := HS0.out.2.2.2
        have h1 := HBr.out.size
        exact ⟨(HBr.out.block _ (by omega)).trans HS0.out.1, (HBr.out.block _ (by omega)).trans HS0.out.2.1, (HBr.out.block _ (by omega)).trans HS0.out.2.2.1, by omega⟩
      clear bwr hlt hi HBr HS0 B0
      go_wp2_with fail
      refine (HA.out wr B1.out).mono ?_
      rintro e w1 ⟨rfl, b1⟩
      have B1' : Hid (Below w.heap.size w w1) := B1.out.trans (b1.mono B1.out.size)
      have HS1 : Hid (w1.heap[w.heap.size]? = some (.cells #[.int .i64 b, .int .i64 v] 23) ∧ w1.heap[w.heap.size + 1]? = some (.cells (bc hb0) 25) ∧ w1.heap[w.heap.size + 1 + 1]? = some (.cells (bc me) 28) ∧ w.heap.size + 3 ≤ w1.heap.size) := by
        have h0 := HSr.out.2.2.2
        have h1 := b1.size
        exact ⟨(b1.block _ (by omega)).trans HSr.out.1, (b1.block _ (by omega)).trans HSr.out.2.1, (b1.block _ (by omega)).trans HSr.out.2.2.1, by omega⟩
      have HN := Lib.hid (newP b v hb0 h320 (.slice la L.length lc) L w1 hl (HC0.out.2.2.1.keep B1'.out) (HC0.out.1.below B1'.out HC0.out.1.pos) (HC0.out.2.1.keep B1'.out))
      have hsc := HS1.out.1
      have hsh := HS1.out.2.1
      have c0 : w1.cell? ⟨w.heap.size, 0, none⟩ = some (.int .i64 b) := by unfold World.cell?; simp only [hsc]; rfl
      have c1 : w1.cell? ⟨w.heap.size, 1, none⟩ = some (.int .i64 v) := by unfold World.cell?; simp only [hsc]; rfl
      clear b1 hsc HA HSr
      go_wp2_with (first | (with_reducible (show wpList _ _ _ (⟨_, Op.load 25 _, _, _, _, _⟩ :: _) _ _); refine load_hash_if rfl _ rfl (w.heap.size + 1) rfl hb0 hsh h320 ?_))
      refine HN.out.mono ?_
      rintro e w2 ⟨p, rfl, hpp, b2, hnew⟩
      have B2 : Hid (Below w.heap.size w w2) := B1'.out.trans (b2.mono B1'.out.size)
      have HS2 : Hid (w2.heap[w.heap.size]? = some (.cells #[.int .i64 b, .int .i64 v] 23) ∧ w2.heap[w.heap.size + 1]? = some (.cells (bc hb0) 25) ∧ w2.heap[w.heap.size + 1 + 1]? = some (.cells (bc me) 28) ∧ w.heap.size + 3 ≤ w1.heap.size) := by
        have h0 := HS1.out.2.2.2
        exact ⟨(b2.block _ (by omega)).trans HS1.out.1, (b2.block _ (by omega)).trans HS1.out.2.1, (b2.block _ (by omega)).trans HS1.out.2.2.1, h0⟩
      have HN2 := Lib.hid (newP b v hb0 h320 (.slice la L.length lc) L w2 hl (HC0.out.2.2.1.keep B2.out) (HC0.out.1.below B2.out HC0.out.1.pos) (HC0.out.2.1.keep B2.out))
      have HNw := Lib.hid (And.intro hpp (And.intro hnew b2))
      have hsc2 := HS2.out.1
      have hsh2 := HS2.out.2.1
      have d0 : w2.cell? ⟨w.heap.size, 0, none⟩ = some (.int .i64 b) := by unfold World.cell?; simp only [hsc2]; rfl
      have d1 : w2.cell? ⟨w.heap.size, 1, none⟩ = some (.int .i64 v) := by unfold World.cell?; simp only [hsc2]; rfl
      clear hsc2 hpp hnew b2 c0 c1 hsh HN HS1
      go_wp2_with (first | (with_reducible (show wpList _ _ _ (⟨_, Op.load 25 _, _, _, _, _⟩ :: _) _ _); refine load_hash_if rfl _ rfl (w.heap.size + 1) rfl hb0 hsh2 h320 ?_))
      refine HN2.out.mono ?_
      rintro e w3 ⟨p2, rfl, hpp2, b3, hnew2⟩
      have B3 : Hid (Below w.heap.size w w3) := B2.out.trans (b3.mono B2.out.size)
      by_cases hE : nwE b v L = 0
      · obtain ⟨ga, Ra, Pa, rfl, hg, hf, hi, hpb, hs0, hwc, hwi, hwb, hic, hii, hib⟩ := HNw.out.2.1 hE
        obtain ⟨gb, Rb, Pb, rfl, hg', hf', hi', hpb', hs0', hwc', hwi', hwb', hic', hii', hib'⟩ := hnew2 hE
        rw [hE]
        have fa3 := hf.below b3
        have HS3 : Hid (w3.heap[w.heap.size]? = some (.cells #[.int .i64 b, .int .i64 v] 23) ∧ w3.heap[w.heap.size + 1 + 1]? = some (.cells (bc me) 28)) := by
          have h1 := hf.pk.lt
          have h2 := HS2.out.2.2.2
          exact ⟨(b3.block _ (by omega)).trans HS2.out.1, (b3.block _ (by omega)).trans HS2.out.2.2.1⟩
        have HG : Hid (w.heap.size + 3 ≤ ga ∧ ga < Ra ∧ Ra < w2.heap.size ∧ w2.heap.size ≤ gb ∧ gb < Rb ∧ Rb < w3.heap.size) := ⟨by have := HS2.out.2.2.2; omega, hf.gR, hf.rk.lt, hg', hf'.gR, hf'.rk.lt⟩
        have HPA : Hid (Pa.b = b ∧ (Pa.wc, Pa.wi, Pa.wb) = (true, false, false) ∧ (Pa.ic, Pa.ii, Pa.ib) = (true, false, false) ∧ Pa.info = hb0.take 20) := ⟨hpb, by rw [hwc, hwi, hwb], by rw [hic, hii, hib], hi⟩
        have HPB : Hid (Pb.b = b ∧ (Pb.wc, Pb.wi, Pb.wb) = (true, false, false) ∧ (Pb.ic, Pb.ii, Pb.ib) = (true, false, false) ∧ Pb.info = hb0.take 20) := ⟨hpb', by rw [hwc', hwi', hwb'], by rw [hic', hii', hib'], hi'⟩
        have HFA := Lib.hid (And.intro fa3 hf')
        have hbpos : 0 < Pa.b := by have := fa3.b0; omega
        have HGr := Lib.hid (greetP w3 ga Pa fa3.pk hbpos me hme)
        obtain ⟨TA, hTA⟩ : ∃ x, x = Fm.sgn ++ (fl8 ++ Pa.info ++ me) := ⟨_, rfl⟩
        rw [← hTA] at HGr
        have HTA := Lib.hid hTA
        clear hTA
        have hs9 := HS3.out.2
        have hi20 : (Tryz.prog.info? 28).map (·.size) = some (bc me).size := by rw [bc_size, hme]; exact info20
        clear hf hg hpb hi hs0 hwc hwi hwb hic hii hib hf' hg' hpb' hi' hs0' hwc' hwi' hwb' hic' hii' hib' hnew2 hpp2 HNw hE d0 d1 hsh2 HN2 b3 fa3 HS2
        go_wp2_with (first | (go_at_call 11; refine (numLT _ _).mono ?_; rintro e w9 ⟨rfl, rfl⟩) | (with_reducible (show wpList _ _ _ (⟨_, Op.load 28 _, _, _, _, _⟩ :: _) _ _); refine wpList_load_row rfl 28 _ rfl (w.heap.size + 1 + 1) rfl 28 (bc me) (0, 0) _ hs9 Tryz.underlying28 rfl hi20 ?_) | (go_at_call 27; refine HGr.out.mono ?_; rintro e w4 ⟨v4, rfl, o4, b4⟩; obtain ⟨a4, c4, hv4⟩ := o4.form; subst hv4))
        have B4 : Hid (Below w.heap.size w w4) := B3.out.trans (b4.mono B3.out.size)
        have fb4 := HFA.out.2.below b4
        have HFd := Lib.hid (fedHello w4 gb Rb Pb L _ fb4 w.heap.size (by have := HG.out; have := B2.out.size; omega) me hme (.slice a4 TA.length c4) (by
          have h1 := o4.mono (show Rb + 1 ≤ w3.heap.size by have := HG.out; omega)
          rw [HTA.out, HPA.out.2.2.2, ← HPB.out.2.2.2] at h1
          rw [HTA.out, HPA.out.2.2.2, ← HPB.out.2.2.2]
          exact h1) (.slice ca zs.length cc) zs (RZo.of HC0.out.2.2.2.2.2.1 B4.out) hzl HC0.out.2.2.2.2.2.2)
        have HFA4 := Lib.hid (And.intro (HFA.out.1.below b4) fb4)
        have HSM4 : Hid (w4.heap[w.heap.size]? = some (.cells #[.int .i64 b, .int .i64 v] 23) ∧ w4.heap[w.heap.size + 1 + 1]? = some (.cells (bc me) 28) ∧ w3.heap.size ≤ w4.heap.size) := by
          have h1 := HG.out
          exact ⟨(b4.block _ (by omega)).trans HS3.out.1, (b4.block _ (by omega)).trans HS3.out.2, b4.size⟩
        clear o4 b4 fb4 HGr HTA HFA HS3 hs9
        refine HFd.out.mono ?_
        rintro e w5 ⟨e1, ec1, rfl, he1, he1', hat1, fr5, Pb5, pb5, sb5, fb5, hp5, ht5, hi5, hb5, hw5, hc5⟩
        have fa5 : FP w5 ga Ra Pa L (List.replicate ((L.length + 7) / 8) 0) 2 0 [] (.slice none 0 0) := by
          have h1 := HG.out
          have h2 := HFA4.out.2.g1
          have h3 := HFA4.out.1.g1
          exact HFA4.out.1.frame fr5 ⟨by omega, by omega⟩ ⟨by omega, by omega⟩ ⟨by omega, by omega⟩ ⟨by omega, by omega⟩ HFA4.out.2.rows.1 HFA4.out.2.rows.2
        have B5 : Hid (Below w.heap.size w w5) := by
          have h1 := HG.out
          have h2 := B2.out.size
          exact below_fr B4.out fr5 B4.out.size (fun k hk => ⟨by omega, by omega⟩)
        have HS5 : Hid (w5.heap[w.heap.size]? = some (.cells #[.int .i64 b, .int .i64 v] 23) ∧ w5.heap[w.heap.size + 1 + 1]? = some (.cells (bc me) 28) ∧ w3.heap.size ≤ w5.heap.size ∧ w3.heap.size ≤ e1) := by
          have h1 := HG.out
          have h2 := HSM4.out.2.2
          exact ⟨(fr5.block _ (by omega) ⟨by omega, by omega⟩).trans HSM4.out.1, (fr5.block _ (by omega) ⟨by omega, by omega⟩).trans HSM4.out.2.1, Nat.le_trans h2 fr5.size, by omega⟩
        have hbpos5 : 0 < Pb5.b := by rw [hb5, HPB.out.1]; have := HFA4.out.2.b0; rw [HPB.out.1] at this; omega
        have hme3 : ((3 : UInt8) :: zr 19).length = 20 := by decide
        have HGr := Lib.hid (greetP w5 gb Pb5 fb5.pk hbpos5 ((3 : UInt8) :: zr 19) hme3)
        obtain ⟨TB, hTB⟩ : ∃ x, x = Fm.sgn ++ (fl8 ++ Pb5.info ++ ((3 : UInt8) :: zr 19)) := ⟨_, rfl⟩
        rw [← hTB] at HGr
        have HTB := Lib.hid hTB
        have HF5 := Lib.hid (And.intro fa5 (And.intro fb5 (And.intro hp5 (And.intro ht5 (And.intro (hi5.trans HPB.out.2.2.2) (And.intro (hb5.trans HPB.out.1) (And.intro (hw5.trans HPB.out.2.1) (hc5.trans HPB.out.2.2.1))))))))
        have HE1 := Lib.hid (And.intro he1' (And.intro hat1 he1))
        clear hTB fa5 fb5 hp5 ht5 hi5 hb5 hw5 hc5 hat1 fr5 he1 he1' HFd HFA4 HSM4 hbpos5
        go_wp2_with (first | (go_at_call 27; refine HGr.out.mono ?_; rintro e w6 ⟨v6, rfl, o6, b6⟩; obtain ⟨a6, c6, hv6⟩ := o6.form; subst hv6))
        have B6 : Hid (Below w.heap.size w w6) := B5.out.trans (b6.mono B5.out.size)
        have fa6 := HF5.out.1.below b6
        have HFd := Lib.hid (fedHello w6 ga Ra Pa L _ fa6 w.heap.size (by have := HG.out; omega) ((3 : UInt8) :: zr 19) hme3 (.slice a6 TB.length c6) (by
          have h1 := o6.mono (show Ra + 1 ≤ w5.heap.size by have := HG.out; have := HS5.out.2.2.1; omega)
          rw [HTB.out, HF5.out.2.2.2.2.1, ← HPA.out.2.2.2] at h1
          rw [HTB.out, HF5.out.2.2.2.2.1, ← HPA.out.2.2.2]
          exact h1) (.slice ca zs.length cc) zs (RZo.of HC0.out.2.2.2.2.2.1 B6.out) hzl HC0.out.2.2.2.2.2.2)
        have HB6 := Lib.hid b6
        clear o6 b6 HGr HTB
        refine HFd.out.mono ?_
        rintro e w7 ⟨e2, ec2, rfl, he2, he2', hat2, fr7, Pa7, pa7, sa7, fa7, hp7, ht7, hi7, hb7, hw7, hc7⟩
        have hgs := HG.out
        have hz5 := HS5.out.2.2.1
        have hz6 := HB6.out.size
        have fb7 : FP w7 gb Rb Pb5 L (List.replicate ((L.length + 7) / 8) 0) pb5 sb5 [] (.slice none 0 0) := by
          have h2 := HF5.out.2.1.g1
          have h3 := fa6.g1
          exact (HF5.out.2.1.below HB6.out).frame fr7 ⟨by omega, by omega⟩ ⟨by omega, by omega⟩ ⟨by omega, by omega⟩ ⟨by omega, by omega⟩ fa6.rows.1 fa6.rows.2
        have hl1 := HE1.out.1
        have h57 : ∀ k, k < w5.heap.size → k ≠ ga → k ≠ Ra → w7.heap[k]? = w5.heap[k]? := fun k hk h1 h2 => (fr7.block k (by omega) ⟨h1, h2⟩).trans (HB6.out.block k hk)
        have B7 : Below w.heap.size w w7 := below_fr B6.out fr7 B6.out.size (fun k hk => ⟨by omega, by omega⟩)
        have HT7' : Hid (LT w L b v ga Ra Pa7 (List.replicate ((L.length + 7) / 8) 0) pa7 sa7 gb Rb Pb5 (List.replicate ((L.length + 7) / 8) 0) pb5 sb5 w7) :=
          ⟨fa7, fb7, hp7, ht7, HF5.out.2.2.1, HF5.out.2.2.2.1, hw7.trans (HPA.out.2.1.trans HF5.out.2.2.2.2.2.2.2.symm), HF5.out.2.2.2.2.2.2.1.trans (HPA.out.2.2.1.symm.trans hc7.symm), hb7.trans HPA.out.1, HF5.out.2.2.2.2.2.1, B7, (h57 _ (by omega) (by omega) (by omega)).trans HS5.out.1⟩
        have HV7 : Hid (w7.cell? ⟨e1, 0, none⟩ = some (.bool true) ∧ w7.rangeAt e1 1 (Lib.byteCells me) ∧ w7.rangeAt (w.heap.size + 1 + 1) 0 (Lib.byteCells me) ∧ w7.cell? ⟨e2, 1, none⟩ = some (.int .u8 3)) := by
          have hr1 : w7.rangeAt e1 0 (Ev.ls (hev (fl8 ++ Pb.info ++ me))) := fun j u hu => (World.cell?_of_block (w := w5) (h57 e1 hl1 (by have := HS5.out.2.2.2; omega) (by have := HS5.out.2.2.2; omega))).trans (HE1.out.2.1 j u hu)
          have hpe : (hev (fl8 ++ Pb.info ++ me)).peer = me := (hinf_greet (by rw [HPB.out.2.2.2, List.length_take]; omega)).2
          have hpe2 : (hev (fl8 ++ Pa.info ++ ((3 : UInt8) :: zr 19))).peer = (3 : UInt8) :: zr 19 := (hinf_greet fa6.pk.1).2
          refine ⟨hr1 0 _ rfl, ?_, ?_, ?_⟩
          · have := pr_of hr1
            rw [hpe] at this
            exact this
          · intro j u hu
            rw [Nat.zero_add]
            have hb := (h57 _ (by omega) (by omega) (by omega)).trans HS5.out.2.1
            simp only [World.cell?, hb, bc]
            simpa using hu
          · have := pr_of hat2
            rw [hpe2] at this
            exact this 0 _ rfl
        have hi20l : (Tryz.prog.info? 28).map (·.size) = some (Lib.byteCells me).length := by rw [bcl_len, hme]; exact info20
        clear fa6 fb7 fa7 hp7 ht7 hi7 hb7 hw7 hc7 hat2 fr7 he2 he2' h57 B7 HFd HF5 HS5 HE1 HB6 hgs hz5 hz6 hl1 B6 B5 B4 B3 B2
        go_upto_region 15 with fail
        refine wp_region_held_drew (S := fun u => u.cell? ⟨e1, 0, none⟩ = some (.bool true) ∧ u.rangeAt e1 1 (Lib.byteCells me) ∧ u.rangeAt (w.heap.size + 1 + 1) 0 (Lib.byteCells me) ∧ u.cell? ⟨e2, 1, none⟩ = some (.int .u8 3)) (by kernel_rfl) (HV7.out) (fun hHeld => ?_)
        refine wpAnyH_take (i := 0) (v := .int .i64 0) rfl (by kernel_rfl) (by kernel_rfl) (by kernel_rfl) (fun _ _ _ h => h) (Or.inl ⟨by rfl, fun w hw => by go_simp⟩) hHeld ?_
        simp only [Act.put, List.getElem_toArray, List.getElem_cons_zero, List.setIfInBounds_toArray, List.set_cons_zero, List.set_cons_succ]
        refine wpAnyH_ready (rs := [1]) (by kernel_rfl) (by simp) ?_
        refine AllReadyH.cons (o := _) rfl (fun K hK => ?_) AllReadyH.nil
        go_simp
        refine (numLT _ _).mono ?_
        rintro e w9 ⟨rfl, rfl⟩
        go_wp2_with fail
        refine hK.out _ _ (HV7.out) (fun hHeld => ?_)
        clear hK K
        refine wpAnyH_take (i := 2) (v := .bool false) rfl (by kernel_rfl) (by kernel_rfl) (by kernel_rfl) (fun _ _ _ h => h) (Or.inl ⟨by rfl, fun w hw => by go_simp⟩) hHeld ?_
        simp only [Act.put, List.getElem_toArray, List.getElem_cons_zero, List.getElem_cons_succ, List.setIfInBounds_toArray, List.set_cons_zero, List.set_cons_succ]
        refine wpAnyH_take (i := 3) (v := .bool false) rfl (by kernel_rfl) (by kernel_rfl) (by kernel_rfl) (fun _ _ _ h => h) (Or.inl ⟨by rfl, fun w hw => by go_simp⟩) hHeld ?_
        simp only [Act.put, List.getElem_toArray, List.getElem_cons_zero, List.getElem_cons_succ, List.setIfInBounds_toArray, List.set_cons_zero, List.set_cons_succ]
        refine wpAnyH_take (i := 4) (v := .int .i64 0) rfl (by kernel_rfl) (by kernel_rfl) (by kernel_rfl) (fun _ _ _ h => h) (Or.inl ⟨by rfl, fun w hw => by go_simp⟩) hHeld ?_
        simp only [Act.put, List.getElem_toArray, List.getElem_cons_zero, List.getElem_cons_succ, List.setIfInBounds_toArray, List.set_cons_zero, List.set_cons_succ]
        refine wpAnyH_ready (rs := [5]) (by kernel_rfl) (by simp) ?_
        refine AllReadyH.cons (o := _) rfl (fun K hK => ?_) AllReadyH.nil
        go_simp
        refine (numLT _ _).mono ?_
        rintro e w9 ⟨rfl, rfl⟩
        go_wp2_with fail
        refine hK.out _ _ (HV7.out) (fun hHeld => ?_)
        clear hK K
        refine wpAnyH_take (i := 6) (v := .bool false) rfl (by kernel_rfl) (by kernel_rfl) (by kernel_rfl) (fun _ _ _ h => h) (Or.inl ⟨by rfl, fun w hw => by go_simp⟩) hHeld ?_
        simp only [Act.put, List.getElem_toArray, List.getElem_cons_zero, List.getElem_cons_succ, List.setIfInBounds_toArray, List.set_cons_zero, List.set_cons_succ]
        refine wpAnyH_take (i := 7) (v := .bool false) rfl (by kernel_rfl) (by kernel_rfl) (by kernel_rfl) (fun _ _ _ h => h) (Or.inl ⟨by rfl, fun w hw => by go_simp⟩) hHeld ?_
        simp only [Act.put, List.getElem_toArray, List.getElem_cons_zero, List.getElem_cons_succ, List.setIfInBounds_toArray, List.set_cons_zero, List.set_cons_succ]
        refine wpAnyH_take (i := 8) (v := .bool false) rfl (by kernel_rfl) (by kernel_rfl) (by kernel_rfl) (fun _ _ _ h => h) (Or.inl ⟨by rfl, fun w hw => by go_simp⟩) hHeld ?_
        simp only [Act.put, List.getElem_toArray, List.getElem_cons_zero, List.getElem_cons_succ, List.setIfInBounds_toArray, List.set_cons_zero, List.set_cons_succ]
        refine wpAnyH_take (i := 9) (v := .slice (some ⟨e1, 0, none⟩) 1 ec1) rfl (by kernel_rfl) (by kernel_rfl) (by kernel_rfl) (fun _ _ _ h => h) (Or.inl ⟨by rfl, fun w hw => by go_simp⟩) hHeld ?_
        simp only [Act.put, List.getElem_toArray, List.getElem_cons_zero, List.getElem_cons_succ, List.setIfInBounds_toArray, List.set_cons_zero, List.set_cons_succ]
        refine wpAnyH_take (i := 10) (v := .int .i64 1) rfl (by kernel_rfl) (by kernel_rfl) (by kernel_rfl) (fun _ _ _ h => h) (Or.inl ⟨by rfl, fun w hw => by go_simp⟩) hHeld ?_
        simp only [Act.put, List.getElem_toArray, List.getElem_cons_zero, List.getElem_cons_succ, List.setIfInBounds_toArray, List.set_cons_zero, List.set_cons_succ]
        refine wpAnyH_take (i := 11) (v := .bool false) rfl (by kernel_rfl) (by kernel_rfl) (by kernel_rfl) (fun _ _ _ h => h) (Or.inl ⟨by rfl, fun w hw => by go_simp⟩) hHeld ?_
        simp only [Act.put, List.getElem_toArray, List.getElem_cons_zero, List.getElem_cons_succ, List.setIfInBounds_toArray, List.set_cons_zero, List.set_cons_succ]
        refine wpAnyH_take (i := 12) (v := .bool false) rfl (by kernel_rfl) (by kernel_rfl) (by kernel_rfl) (fun _ _ _ h => h) (Or.inl ⟨by rfl, fun w hw => by go_simp⟩) hHeld ?_
        simp only [Act.put, List.getElem_toArray, List.getElem_cons_zero, List.getElem_cons_succ, List.setIfInBounds_toArray, List.set_cons_zero, List.set_cons_succ]
        refine wpAnyH_take (i := 13) (v := .bool false) rfl (by kernel_rfl) (by kernel_rfl) (by kernel_rfl) (fun _ _ _ h => h) (Or.inl ⟨by rfl, fun w hw => by go_simp⟩) hHeld ?_
        simp only [Act.put, List.getElem_toArray, List.getElem_cons_zero, List.getElem_cons_succ, List.setIfInBounds_toArray, List.set_cons_zero, List.set_cons_succ]
        refine wpAnyH_take (i := 14) (v := .slice (some ⟨e2, 0, none⟩) 1 ec2) rfl (by kernel_rfl) (by kernel_rfl) (by kernel_rfl) (fun _ _ _ h => h) (Or.inl ⟨by rfl, fun w hw => by go_simp⟩) hHeld ?_
        simp only [Act.put, List.getElem_toArray, List.getElem_cons_zero, List.getElem_cons_succ, List.setIfInBounds_toArray, List.set_cons_zero, List.set_cons_succ]
        refine wpAnyH_take (i := 15) (v := .int .i64 1) rfl (by kernel_rfl) (by kernel_rfl) (by kernel_rfl) (fun _ _ _ h => h) (Or.inl ⟨by rfl, fun w hw => by go_simp⟩) hHeld ?_
        simp only [Act.put, List.getElem_toArray, List.getElem_cons_zero, List.getElem_cons_succ, List.setIfInBounds_toArray, List.set_cons_zero, List.set_cons_succ]
        refine wpAnyH_take (i := 16) (v := .bool false) rfl (by kernel_rfl) (by kernel_rfl) (by kernel_rfl) (fun _ _ _ h => h) (Or.inl ⟨by rfl, fun w hw => by go_simp⟩) hHeld ?_
        simp only [Act.put, List.getElem_toArray, List.getElem_cons_zero, List.getElem_cons_succ, List.setIfInBounds_toArray, List.set_cons_zero, List.set_cons_succ]
        refine wpAnyH_take (i := 17) (v := .bool false) rfl (by kernel_rfl) (by kernel_rfl) (by kernel_rfl) (fun _ _ _ h => h) (Or.inl ⟨by rfl, fun w hw => by go_simp⟩) hHeld ?_
        simp only [Act.put, List.getElem_toArray, List.getElem_cons_zero, List.getElem_cons_succ, List.setIfInBounds_toArray, List.set_cons_zero, List.set_cons_succ]
        refine wpAnyH_take (i := 18) (v := .bool false) rfl (by kernel_rfl) (by kernel_rfl) (by kernel_rfl) (fun _ _ _ h => h) (Or.inl ⟨by rfl, fun w hw => by go_simp⟩) hHeld ?_
        simp only [Act.put, List.getElem_toArray, List.getElem_cons_zero, List.getElem_cons_succ, List.setIfInBounds_toArray, List.set_cons_zero, List.set_cons_succ]
        refine wpAnyH_take (i := 19) (v := .slice (some ⟨e1, 0, none⟩) 1 ec1) rfl (by kernel_rfl) (by kernel_rfl) (by kernel_rfl) (fun _ _ _ h => h) (Or.inl ⟨by rfl, fun w hw => by go_simp⟩) hHeld ?_
        simp only [Act.put, List.getElem_toArray, List.getElem_cons_zero, List.getElem_cons_succ, List.setIfInBounds_toArray, List.set_cons_zero, List.set_cons_succ]
        refine wpAnyH_take (i := 20) (v := .pointer (some ⟨e1, 0, none⟩)) rfl (by kernel_rfl) (by kernel_rfl) (by kernel_rfl) (fun _ _ _ h => h) (Or.inl ⟨by rfl, fun w hw => by go_simp⟩) hHeld ?_
        simp only [Act.put, List.getElem_toArray, List.getElem_cons_zero, List.getElem_cons_succ, List.setIfInBounds_toArray, List.set_cons_zero, List.set_cons_succ]
        refine wpAnyH_take (i := 21) (v := .pointer (some ⟨e1, 0, none⟩)) rfl (by kernel_rfl) (by kernel_rfl) (by kernel_rfl) (fun _ _ _ h => h) (Or.inl ⟨by rfl, fun w hw => by go_simp⟩) hHeld ?_
        simp only [Act.put, List.getElem_toArray, List.getElem_cons_zero, List.getElem_cons_succ, List.setIfInBounds_toArray, List.set_cons_zero, List.set_cons_succ]
        refine wpAnyH_take (i := 22) (v := .bool true) rfl (by kernel_rfl) (by kernel_rfl) (by kernel_rfl) (fun _ _ _ h => h) (Or.inl ⟨by rfl, fun w hw => by have hq := hw.1; go_simp⟩) hHeld ?_
        simp only [Act.put, List.getElem_toArray, List.getElem_cons_zero, List.getElem_cons_succ, List.setIfInBounds_toArray, List.set_cons_zero, List.set_cons_succ]
        refine wpAnyH_take (i := 23) (v := .bool false) rfl (by kernel_rfl) (by kernel_rfl) (by kernel_rfl) (fun _ _ _ h => h) (Or.inl ⟨by rfl, fun w hw => by go_simp⟩) hHeld ?_
        simp only [Act.put, List.getElem_toArray, List.getElem_cons_zero, List.getElem_cons_succ, List.setIfInBounds_toArray, List.set_cons_zero, List.set_cons_succ]
        refine wpAnyH_take (i := 24) (v := .bool false) rfl (by kernel_rfl) (by kernel_rfl) (by kernel_rfl) (fun _ _ _ h => h) (Or.inl ⟨by rfl, fun w hw => by go_simp⟩) hHeld ?_
        simp only [Act.put, List.getElem_toArray, List.getElem_cons_zero, List.getElem_cons_succ, List.setIfInBounds_toArray, List.set_cons_zero, List.set_cons_succ]
        refine wpAnyH_take (i := 25) (v := .bool false) rfl (by kernel_rfl) (by kernel_rfl) (by kernel_rfl) (fun _ _ _ h => h) (Or.inl ⟨by rfl, fun w hw => by go_simp⟩) hHeld ?_
        simp only [Act.put, List.getElem_toArray, List.getElem_cons_zero, List.getElem_cons_succ, List.setIfInBounds_toArray, List.set_cons_zero, List.set_cons_succ]
        refine wpAnyH_take (i := 26) (v := .slice (some ⟨e1, 0, none⟩) 1 ec1) rfl (by kernel_rfl) (by kernel_rfl) (by kernel_rfl) (fun _ _ _ h => h) (Or.inl ⟨by rfl, fun w hw => by go_simp⟩) hHeld ?_
        simp only [Act.put, List.getElem_toArray, List.getElem_cons_zero, List.getElem_cons_succ, List.setIfInBounds_toArray, List.set_cons_zero, List.set_cons_succ]
        refine wpAnyH_take (i := 27) (v := .pointer (some ⟨e1, 0, none⟩)) rfl (by kernel_rfl) (by kernel_rfl) (by kernel_rfl) (fun _ _ _ h => h) (Or.inl ⟨by rfl, fun w hw => by go_simp⟩) hHeld ?_
        simp only [Act.put, List.getElem_toArray, List.getElem_cons_zero, List.getElem_cons_succ, List.setIfInBounds_toArray, List.set_cons_zero, List.set_cons_succ]
        refine wpAnyH_take (i := 28) (v := .pointer (some ⟨e1, 1, none⟩)) rfl (by kernel_rfl) (by kernel_rfl) (by kernel_rfl) (fun _ _ _ h => h) (Or.inl ⟨by rfl, fun w hw => by go_simp⟩) hHeld ?_
        simp only [Act.put, List.getElem_toArray, List.getElem_cons_zero, List.getElem_cons_succ, List.setIfInBounds_toArray, List.set_cons_zero, List.set_cons_succ]
        refine wpAnyH_take (i := 29) (v := .agg (bc me)) rfl (by kernel_rfl) (by kernel_rfl) (by kernel_rfl) (fun _ _ _ h => h) (yieldsIf_load_mid (by rfl) _ _ rfl _ _ rfl _ _ (fun u hw => hw.2.1) Tryz.underlying28 rfl hi20l) hHeld ?_
        simp only [Act.put, List.getElem_toArray, List.getElem_cons_zero, List.getElem_cons_succ, List.setIfInBounds_toArray, List.set_cons_zero, List.set_cons_succ]
        refine wpAnyH_take (i := 30) (v := .agg (bc me)) rfl (by kernel_rfl) (by kernel_rfl) (by kernel_rfl) (fun _ _ _ h => h) (yieldsIf_load_mid (by rfl) _ _ rfl _ _ rfl _ _ (fun u hw => hw.2.2.1) Tryz.underlying28 rfl hi20l) hHeld ?_
        simp only [Act.put, List.getElem_toArray, List.getElem_cons_zero, List.getElem_cons_succ, List.setIfInBounds_toArray, List.set_cons_zero, List.set_cons_succ]
        refine wpAnyH_take (i := 31) (v := .bool false) rfl (by kernel_rfl) (by kernel_rfl) (by kernel_rfl) (fun _ _ _ h => h) (Or.inl ⟨by rfl, fun w hw => by have hq := equal_20 w 9998 me me hme hme; rw [decide_eq_true rfl] at hq; go_simp⟩) hHeld ?_
        simp only [Act.put, List.getElem_toArray, List.getElem_cons_zero, List.getElem_cons_succ, List.setIfInBounds_toArray, List.set_cons_zero, List.set_cons_succ]
        refine wpAnyH_take (i := 32) (v := .bool false) rfl (by kernel_rfl) (by kernel_rfl) (by kernel_rfl) (fun _ _ _ h => h) (Or.inl ⟨by rfl, fun w hw => by go_simp⟩) hHeld ?_
        simp only [Act.put, List.getElem_toArray, List.getElem_cons_zero, List.getElem_cons_succ, List.setIfInBounds_toArray, List.set_cons_zero, List.set_cons_succ]
        refine wpAnyH_take (i := 33) (v := .bool false) rfl (by kernel_rfl) (by kernel_rfl) (by kernel_rfl) (fun _ _ _ h => h) (Or.inl ⟨by rfl, fun w hw => by go_simp⟩) hHeld ?_
        simp only [Act.put, List.getElem_toArray, List.getElem_cons_zero, List.getElem_cons_succ, List.setIfInBounds_toArray, List.set_cons_zero, List.set_cons_succ]
        refine wpAnyH_take (i := 34) (v := .slice (some ⟨e2, 0, none⟩) 1 ec2) rfl (by kernel_rfl) (by kernel_rfl) (by kernel_rfl) (fun _ _ _ h => h) (Or.inl ⟨by rfl, fun w hw => by go_simp⟩) hHeld ?_
        simp only [Act.put, List.getElem_toArray, List.getElem_cons_zero, List.getElem_cons_succ, List.setIfInBounds_toArray, List.set_cons_zero, List.set_cons_succ]
        refine wpAnyH_take (i := 35) (v := .pointer (some ⟨e2, 0, none⟩)) rfl (by kernel_rfl) (by kernel_rfl) (by kernel_rfl) (fun _ _ _ h => h) (Or.inl ⟨by rfl, fun w hw => by go_simp⟩) hHeld ?_
        simp only [Act.put, List.getElem_toArray, List.getElem_cons_zero, List.getElem_cons_succ, List.setIfInBounds_toArray, List.set_cons_zero, List.set_cons_succ]
        refine wpAnyH_take (i := 36) (v := .pointer (some ⟨e2, 1, none⟩)) rfl (by kernel_rfl) (by kernel_rfl) (by kernel_rfl) (fun _ _ _ h => h) (Or.inl ⟨by rfl, fun w hw => by go_simp⟩) hHeld ?_
        simp only [Act.put, List.getElem_toArray, List.getElem_cons_zero, List.getElem_cons_succ, List.setIfInBounds_toArray, List.set_cons_zero, List.set_cons_succ]
        refine wpAnyH_take (i := 37) (v := .pointer (some ⟨e2, 1, none⟩)) rfl (by kernel_rfl) (by kernel_rfl) (by kernel_rfl) (fun _ _ _ h => h) (Or.inl ⟨by rfl, fun w hw => by go_simp⟩) hHeld ?_
        simp only [Act.put, List.getElem_toArray, List.getElem_cons_zero, List.getElem_cons_succ, List.setIfInBounds_toArray, List.set_cons_zero, List.set_cons_succ]
        refine wpAnyH_take (i := 38) (v := .int .u8 3) rfl (by kernel_rfl) (by kernel_rfl) (by kernel_rfl) (fun _ _ _ h => h) (Or.inl ⟨by rfl, fun w hw => by have hq := hw.2.2.2; go_simp⟩) hHeld ?_
        simp only [Act.put, List.getElem_toArray, List.getElem_cons_zero, List.getElem_cons_succ, List.setIfInBounds_toArray, List.set_cons_zero, List.set_cons_succ]
        refine wpAnyH_take (i := 39) (v := .bool false) rfl (by kernel_rfl) (by kernel_rfl) (by kernel_rfl) (fun _ _ _ h => h) (Or.inl ⟨by rfl, fun w hw => by go_simp⟩) hHeld ?_
        simp only [Act.put, List.getElem_toArray, List.getElem_cons_zero, List.getElem_cons_succ, List.setIfInBounds_toArray, List.set_cons_zero, List.set_cons_succ]
        refine wpAnyH_take (i := 40) (v := .bool false) rfl (by kernel_rfl) (by kernel_rfl) (by kernel_rfl) (fun _ _ _ h => h) (Or.inl ⟨by rfl, fun w hw => by go_simp⟩) hHeld ?_
        simp only [Act.put, List.getElem_toArray, List.getElem_cons_zero, List.getElem_cons_succ, List.setIfInBounds_toArray, List.set_cons_zero, List.set_cons_succ]
        refine wpAnyH_done (by kernel_rfl) ?_ _
        clear hHeld
        have HT7 : Hid (LT w L b v ga Ra Pa7 (List.replicate ((L.length + 7) / 8) 0) pa7 sa7 gb Rb Pb5 (List.replicate ((L.length + 7) / 8) 0) pb5 sb5 (w7.drewN 1)) := HT7'.out.below (belowDrew w7 1)
        clear HV7 HT7'
        go_wp2_with fail
        go_loopw [14, 23] (fun s14 s23 wr => ∃ (i : Nat) (Pa : Pv) (Ha : List UInt8) (pa sa : Nat) (Pb : Pv) (Hb : List UInt8) (pb sb : Nat), i ≤ rs.length ∧ s14 = .bool true ∧ s23 = .int .i64 i ∧ Hid (LT w L b v ga Ra Pa Ha pa sa gb Rb Pb Hb pb sb wr)) (fun _ s23 _ => rs.length - (intOf s23).toNat)
        case atStart => exact ⟨0, Pa7, _, pa7, sa7, Pb5, _, pb5, sb5, Nat.zero_le _, rfl, rfl, HT7⟩
        case round =>
          clear HT7
          obtain ⟨i, Pa, Ha, pa, sa, Pb, Hb, pb, sb, hi, rfl, rfl, HT⟩ := hrel
          by_cases hlt : i < rs.length
          · obtain ⟨r, hrx⟩ : ∃ r, rs[i]? = some r := ⟨_, List.getElem?_eq_getElem hlt⟩
            have hrm0 := HC0.out.2.2.2.1
            obtain ⟨rg, ro, rfl, hrgw, hcr⟩ : ∃ rg ro, ra = some ⟨rg, ro, none⟩ ∧ rg < w.heap.size ∧ w.cell? ⟨rg, ro + i, none⟩ = some r.1 := by
              obtain ⟨a, c, e, h, hm⟩ := hrm0
              simp only [Value.slice.injEq] at e
              obtain ⟨rfl, _, rfl⟩ := e
              rcases h with h | ⟨g, o, rfl, hg, h⟩
              · rw [h] at hlt; simp at hlt
              · exact ⟨g, o, rfl, hg, h i r hrx⟩
            have hRM : RMS w r.1 r.2 := by
              obtain ⟨a, c, e, h, hm⟩ := hrm0
              exact hm r (List.mem_of_getElem? hrx)
            have hRW := HC0.out.2.2.2.2.1 r (List.mem_of_getElem? hrx)
            obtain ⟨ma, mc, hmv, _⟩ := id hRM
            rw [hmv] at hcr hRM
            have hsc := HT.out.sc
            have HV : Hid (wr.cell? ⟨rg, ro + i, none⟩ = some (.slice ma r.2.length mc) ∧ wr.cell? ⟨w.heap.size, 0, none⟩ = some (.int .i64 b) ∧ wr.cell? ⟨w.heap.size, 1, none⟩ = some (.int .i64 v)) := ⟨(World.cell?_of_block (w := w) (HT.out.bl.block rg hrgw)).trans hcr, by unfold World.cell?; simp only [hsc]; rfl, by unfold World.cell?; simp only [hsc]; rfl⟩
            have HRM : Hid (RMS w (.slice ma r.2.length mc) r.2 ∧ mgW r.2 ≤ 1048576) := ⟨hRM, hRW⟩
            have HRG : Hid (rg < w.heap.size) := hrgw
            have hkn : (i : Int) < (rs.length : Int) := by omega
            have hk0 : (0 : Int) ≤ (i : Int) := by omega
            clear hrx hrm0 hRM hRW hmv hsc hcr hrgw
            by_cases hev : i % 2 = 0
            · have hrm : (i : Int).tmod 2 = 0 := by rw [Int.tmod_eq_emod_of_nonneg hk0]; omega
              have HTk := Lib.hid (talkT w (wr.drewN 1) (belowN HT.out.bl 1) L b v ga Ra Pa Ha pa sa (HT.out.fa.below (belowDrew wr 1)) gb Rb Pb Hb pb sb (HT.out.fb.below (belowDrew wr 1)) HT.out.pb2 HT.out.tb (by have := HG.out; exact ⟨by omega, by omega, by omega, by omega, by omega, by omega⟩) HT.out.fla HT.out.ba HT.out.bb (.slice ma r.2.length mc) r.2 HRM.out.1 HRM.out.2 (.slice la L.length lc) HC0.out.2.2.1 (.slice ca zs.length cc) zs HC0.out.2.2.2.2.2.1 hzl HC0.out.2.2.2.2.2.2)
              have HKP : Hid (∀ w9, (∃ Pn Pm Hm pm sm, FP w9 ga Ra Pn L Ha pa sa [] (.slice none 0 0) ∧ FP w9 gb Rb Pm L Hm pm sm [] (.slice none 0 0) ∧ (pm == 2) = false ∧ Fm.tx pm sm [] = [] ∧ (Pn.wc, Pn.wi, Pn.wb) = (Pm.ic, Pm.ii, Pm.ib) ∧ (Pn.ic, Pn.ii, Pn.ib) = (Pa.ic, Pa.ii, Pa.ib) ∧ (Pm.wc, Pm.wi, Pm.wb) = (Pb.wc, Pb.wi, Pb.wb) ∧ Pn.b = b ∧ Pm.b = b ∧ Fm.Fr (fun k => k ≠ ga ∧ k ≠ gb ∧ k ≠ Rb) (wr.drewN 1) w9) → w9.cell? ⟨rg, ro + i, none⟩ = some (.slice ma r.2.length mc) ∧ w9.cell? ⟨w.heap.size, 0, none⟩ = some (.int .i64 b) ∧ w9.cell? ⟨w.heap.size, 1, none⟩ = some (.int .i64 v)) := fun w9 ⟨Pn, Pm, Hm, pm, sm, _, _, _, _, _, _, _, _, _, f9⟩ => by
                have h1 := HG.out
                have l1 := World.block_lt_of_cell? wr _ HV.out.1
                have l2 := World.block_lt_of_cell? wr _ HV.out.2.1
                have hrgw := HRG.out
                exact ⟨(World.cell?_of_block (w := wr.drewN 1) (f9.block rg l1 ⟨by omega, by omega, by omega⟩)).trans HV.out.1, (World.cell?_of_block (w := wr.drewN 1) (f9.block w.heap.size l2 ⟨by omega, by omega, by omega⟩)).trans HV.out.2.1, (World.cell?_of_block (w := wr.drewN 1) (f9.block w.heap.size l2 ⟨by omega, by omega, by omega⟩)).trans HV.out.2.2⟩
              go_upto_region 21 with fail
              refine wp_region_held_drew (S := fun u => u.cell? ⟨rg, ro + i, none⟩ = some (.slice ma r.2.length mc) ∧ u.cell? ⟨w.heap.size, 0, none⟩ = some (.int .i64 b) ∧ u.cell? ⟨w.heap.size, 1, none⟩ = some (.int .i64 v)) (by kernel_rfl) (HV.out) (fun hHeld => ?_)
              refine wpAnyH_take (i := 0) (v := .pointer (some ⟨ga, 0, none⟩)) rfl (by kernel_rfl) (by kernel_rfl) (by kernel_rfl) (fun _ _ _ h => h) (Or.inl ⟨by rfl, fun w hw => by go_simp⟩) hHeld ?_
              simp only [Act.put, List.getElem_toArray, List.getElem_cons_zero, List.setIfInBounds_toArray, List.set_cons_zero, List.set_cons_succ]
              refine wpAnyH_take (i := 1) (v := .pointer (some ⟨gb, 0, none⟩)) rfl (by kernel_rfl) (by kernel_rfl) (by kernel_rfl) (fun _ _ _ h => h) (Or.inl ⟨by rfl, fun w hw => by go_simp⟩) hHeld ?_
              simp only [Act.put, List.getElem_toArray, List.getElem_cons_zero, List.getElem_cons_succ, List.setIfInBounds_toArray, List.set_cons_zero, List.set_cons_succ]
              refine wpAnyH_take (i := 2) (v := .slice (some ⟨rg, ro, none⟩) rs.length rc) rfl (by kernel_rfl) (by kernel_rfl) (by kernel_rfl) (fun _ _ _ h => h) (Or.inl ⟨by rfl, fun w hw => by go_simp⟩) hHeld ?_
              simp only [Act.put, List.getElem_toArray, List.getElem_cons_zero, List.getElem_cons_succ, List.setIfInBounds_toArray, List.set_cons_zero, List.set_cons_succ]
              refine wpAnyH_take (i := 3) (v := .int .i64 (i : Int)) rfl (by kernel_rfl) (by kernel_rfl) (by kernel_rfl) (fun _ _ _ h => h) (Or.inl ⟨by rfl, fun w hw => by go_simp⟩) hHeld ?_
              simp only [Act.put, List.getElem_toArray, List.getElem_cons_zero, List.getElem_cons_succ, List.setIfInBounds_toArray, List.set_cons_zero, List.set_cons_succ]
              refine wpAnyH_take (i := 4) (v := .pointer (some ⟨rg, ro + i, none⟩)) rfl (by kernel_rfl) (by kernel_rfl) (by kernel_rfl) (fun _ _ _ h => h) (Or.inl ⟨by rfl, fun w hw => by have hq := hkn; have hq2 := hk0; go_simp⟩) hHeld ?_
              simp only [Act.put, List.getElem_toArray, List.getElem_cons_zero, List.getElem_cons_succ, List.setIfInBounds_toArray, List.set_cons_zero, List.set_cons_succ]
              refine wpAnyH_take (i := 5) (v := .slice ma r.2.length mc) rfl (by kernel_rfl) (by kernel_rfl) (by kernel_rfl) (fun _ _ _ h => h) (Or.inl ⟨by rfl, fun w hw => by have hq := hw.1; go_simp⟩) hHeld ?_
              simp only [Act.put, List.getElem_toArray, List.getElem_cons_zero, List.getElem_cons_succ, List.setIfInBounds_toArray, List.set_cons_zero, List.set_cons_succ]
              refine wpAnyH_take (i := 6) (v := .agg #[.int .i64 b, .int .i64 v]) rfl (by kernel_rfl) (by kernel_rfl) (by kernel_rfl) (fun _ _ _ h => h) (Or.inl ⟨by rfl, fun w hw => by have hq0 := hw.2.1; have hq1 := hw.2.2; go_simp⟩) hHeld ?_
              simp only [Act.put, List.getElem_toArray, List.getElem_cons_zero, List.getElem_cons_succ, List.setIfInBounds_toArray, List.set_cons_zero, List.set_cons_succ]
              refine wpAnyH_take (i := 7) (v := .slice la L.length lc) rfl (by kernel_rfl) (by kernel_rfl) (by kernel_rfl) (fun _ _ _ h => h) (Or.inl ⟨by rfl, fun w hw => by go_simp⟩) hHeld ?_
              simp only [Act.put, List.getElem_toArray, List.getElem_cons_zero, List.getElem_cons_succ, List.setIfInBounds_toArray, List.set_cons_zero, List.set_cons_succ]
              refine wpAnyH_take (i := 8) (v := .slice ca zs.length cc) rfl (by kernel_rfl) (by kernel_rfl) (by kernel_rfl) (fun _ _ _ h => h) (Or.inl ⟨by rfl, fun w hw => by go_simp⟩) hHeld ?_
              simp only [Act.put, List.getElem_toArray, List.getElem_cons_zero, List.getElem_cons_succ, List.setIfInBounds_toArray, List.set_cons_zero, List.set_cons_succ]
              refine wpAnyH_ready (rs := [9]) (by kernel_rfl) (by simp) ?_
              refine AllReadyH.cons (o := _) rfl (fun K hK => ?_) AllReadyH.nil
              go_simp
              refine (HTk.out).mono ?_
              rintro e w9 ⟨rfl, hend⟩
              have HEn := Lib.hid hend
              have HV9 := Lib.hid (HKP.out w9 hend)
              clear hend
              go_wp2_with fail
              refine hK.out _ _ (HV9.out) (fun hHeld => ?_)
              clear hK K
              refine wpAnyH_take (i := 10) (v := .bool true) rfl (by kernel_rfl) (by kernel_rfl) (by kernel_rfl) (fun _ _ _ h => h) (Or.inl ⟨by rfl, fun w hw => by go_simp⟩) hHeld ?_
              simp only [Act.put, List.getElem_toArray, List.getElem_cons_zero, List.getElem_cons_succ, List.setIfInBounds_toArray, List.set_cons_zero, List.set_cons_succ]
              refine wpAnyH_done (by kernel_rfl) ?_ _
              clear hHeld
              obtain ⟨Pn, Pm, Hm, pm, sm, q1, q2, q3, q4, q5, q6, q7, q8, q9, f9⟩ := HEn.out
              have B9 : Below w.heap.size w w9 := by have h1 := HG.out; exact below_fr (belowN HT.out.bl 1) f9 HT.out.bl.size (fun k hk => ⟨by omega, by omega, by omega⟩)
              have S9 : w9.heap[w.heap.size]? = some (.cells #[.int .i64 b, .int .i64 v] 23) := by have h1 := HG.out; exact (f9.block w.heap.size (Array.getElem?_eq_some_iff.1 HT.out.sc).1 ⟨by omega, by omega, by omega⟩).trans HT.out.sc
              have HT9 : Hid (LT w L b v ga Ra Pn Ha pa sa gb Rb Pm Hm pm sm w9) := ⟨q1, q2, HT.out.pa2, HT.out.ta, q3, q4, q5, q7.trans (HT.out.flb.trans q6.symm), q8, q9, B9, S9⟩
              have hfa := HT9.out.fla
              have hfb := HT9.out.flb
              simp only [Prod.mk.injEq] at hfa hfb
              have HSa := Lib.hid (stateT w9 ga Pn HT9.out.fa.pk (by have := HT9.out.fa.b0; omega) Ha HT9.out.fa.ho.rb HT9.out.fa.hl)
              rw [HT9.out.fa.why] at HSa
              have HSb : Hid (∀ u, Below w9.heap.size w9 u → Calls Tryz.prog 14 #[.pointer (some ⟨gb, 0, none⟩)] u fun e w' => ∃ hv, e = .returned (.agg #[.bool Pm.sh, .bool false, .int .i64 0, .bool Pn.ic, .bool Pn.ii, .bool Pn.wc, .bool Pn.wi, hv]) ∧ OW u.heap.size w' hv Hm ∧ Below u.heap.size u w') := fun u hu => by
                have h := stateT u gb Pm (HT9.out.fb.below hu).pk (by have := HT9.out.fb.b0; omega) Hm (HT9.out.fb.below hu).ho.rb HT9.out.fb.hl
                rw [HT9.out.fb.why, hfb.1, hfb.2.1, ← hfa.1, ← hfa.2.1] at h
                exact h
              clear q1 q2 q3 q4 q5 q6 q7 q8 q9 f9 B9 S9 HTk HKP HT HV HEn HV9 hfa hfb
              go_wp2_with fail
              refine HSa.out.mono ?_
              rintro e w10 ⟨v10, rfl, o10, b10⟩
              obtain ⟨a10, c10, rfl⟩ := o10.form
              obtain ⟨u10, hu10⟩ : ∃ x, x = w10.alloc (.cells #[.bool Pn.sh, .bool false, .int .i64 0, .bool Pn.wc, .bool Pn.wi, .bool Pn.ic, .bool Pn.ii, .slice a10 Ha.length c10] 43) := ⟨_, rfl⟩
              have bu10 : Below w9.heap.size w9 u10 := by rw [hu10]; exact b10.trans (((Below.refl _ _).alloc (Nat.le_refl _) _).mono b10.size)
              have sv10 : SV u10 w10.heap.size #[.bool Pn.sh, .bool false, .int .i64 0, .bool Pn.wc, .bool Pn.wi, .bool Pn.ic, .bool Pn.ii, .slice a10 Ha.length c10] := by rw [hu10]; exact heapNew _ _
              have H10 := Lib.hid (And.intro bu10 sv10)
              clear o10 b10 bu10 sv10 HSa
              go_upto_region 24 with fail
              rw [← hu10]
              clear hu10
              go_wp2_with fail
              refine (HSb.out u10 H10.out.1).mono ?_
              rintro e w11 ⟨v11, rfl, o11, b11⟩
              obtain ⟨a11, c11, rfl⟩ := o11.form
              obtain ⟨u11, hu11⟩ : ∃ x, x = w11.alloc (.cells #[.bool Pm.sh, .bool false, .int .i64 0, .bool Pn.ic, .bool Pn.ii, .bool Pn.wc, .bool Pn.wi, .slice a11 Hm.length c11] 43) := ⟨_, rfl⟩
              have bu11 : Below u10.heap.size u10 u11 := by rw [hu11]; exact b11.trans (((Below.refl _ _).alloc (Nat.le_refl _) _).mono b11.size)
              have sA := H10.out.2.keep bu11
              have sB : SV u11 w11.heap.size #[.bool Pm.sh, .bool false, .int .i64 0, .bool Pn.ic, .bool Pn.ii, .bool Pn.wc, .bool Pn.wi, .slice a11 Hm.length c11] := by rw [hu11]; exact heapNew _ _
              have x1 : u11.cell? ⟨w10.heap.size, 1, none⟩ = some (.bool false) := sA.cell 1
              have x3 : u11.cell? ⟨w10.heap.size, 3, none⟩ = some (.bool Pn.wc) := sA.cell 3
              have x4 : u11.cell? ⟨w10.heap.size, 4, none⟩ = some (.bool Pn.wi) := sA.cell 4
              have x5 : u11.cell? ⟨w10.heap.size, 5, none⟩ = some (.bool Pn.ic) := sA.cell 5
              have x6 : u11.cell? ⟨w10.heap.size, 6, none⟩ = some (.bool Pn.ii) := sA.cell 6
              have y1 : u11.cell? ⟨w11.heap.size, 1, none⟩ = some (.bool false) := sB.cell 1
              have y3 : u11.cell? ⟨w11.heap.size, 3, none⟩ = some (.bool Pn.ic) := sB.cell 3
              have y4 : u11.cell? ⟨w11.heap.size, 4, none⟩ = some (.bool Pn.ii) := sB.cell 4
              have y5 : u11.cell? ⟨w11.heap.size, 5, none⟩ = some (.bool Pn.wc) := sB.cell 5
              have y6 : u11.cell? ⟨w11.heap.size, 6, none⟩ = some (.bool Pn.wi) := sB.cell 6
              have HT11 : Hid (LT w L b v ga Ra Pn Ha pa sa gb Rb Pm Hm pm sm u11) := HT9.out.below (H10.out.1.trans (bu11.mono H10.out.1.size))
              clear o11 b11 bu11 sA sB HSb H10 HT9
              go_upto_region 25 with fail
              rw [← hu11]
              clear hu11
              go_wp2_with fail
              go_roundw
              case rel => exact ⟨i + 1, Pn, Ha, pa, sa, Pm, Hm, pm, sm, by omega, rfl, by go_num, HT11⟩
              case measure => (simp [intOf] <;> omega)
            · have hrm : (i : Int).tmod 2 = 1 := by rw [Int.tmod_eq_emod_of_nonneg hk0]; omega
              have HTk := Lib.hid (talkT w (wr.drewN 1) (belowN HT.out.bl 1) L b v gb Rb Pb Hb pb sb (HT.out.fb.below (belowDrew wr 1)) ga Ra Pa Ha pa sa (HT.out.fa.below (belowDrew wr 1)) HT.out.pa2 HT.out.ta (by have := HG.out; exact ⟨by omega, by omega, by omega, by omega, by omega, by omega⟩) HT.out.flb HT.out.bb HT.out.ba (.slice ma r.2.length mc) r.2 HRM.out.1 HRM.out.2 (.slice la L.length lc) HC0.out.2.2.1 (.slice ca zs.length cc) zs HC0.out.2.2.2.2.2.1 hzl HC0.out.2.2.2.2.2.2)
              have HKP : Hid (∀ w9, (∃ Pn Pm Hm pm sm, FP w9 gb Rb Pn L Hb pb sb [] (.slice none 0 0) ∧ FP w9 ga Ra Pm L Hm pm sm [] (.slice none 0 0) ∧ (pm == 2) = false ∧ Fm.tx pm sm [] = [] ∧ (Pn.wc, Pn.wi, Pn.wb) = (Pm.ic, Pm.ii, Pm.ib) ∧ (Pn.ic, Pn.ii, Pn.ib) = (Pb.ic, Pb.ii, Pb.ib) ∧ (Pm.wc, Pm.wi, Pm.wb) = (Pa.wc, Pa.wi, Pa.wb) ∧ Pn.b = b ∧ Pm.b = b ∧ Fm.Fr (fun k => k ≠ gb ∧ k ≠ ga ∧ k ≠ Ra) (wr.drewN 1) w9) → w9.cell? ⟨rg, ro + i, none⟩ = some (.slice ma r.2.length mc) ∧ w9.cell? ⟨w.heap.size, 0, none⟩ = some (.int .i64 b) ∧ w9.cell? ⟨w.heap.size, 1, none⟩ = some (.int .i64 v)) := fun w9 ⟨Pn, Pm, Hm, pm, sm, _, _, _, _, _, _, _, _, _, f9⟩ => by
                have h1 := HG.out
                have l1 := World.block_lt_of_cell? wr _ HV.out.1
                have l2 := World.block_lt_of_cell? wr _ HV.out.2.1
                have hrgw := HRG.out
                exact ⟨(World.cell?_of_block (w := wr.drewN 1) (f9.block rg l1 ⟨by omega, by omega, by omega⟩)).trans HV.out.1, (World.cell?_of_block (w := wr.drewN 1) (f9.block w.heap.size l2 ⟨by omega, by omega, by omega⟩)).trans HV.out.2.1, (World.cell?_of_block (w := wr.drewN 1) (f9.block w.heap.size l2 ⟨by omega, by omega, by omega⟩)).trans HV.out.2.2⟩
              go_upto_region 22 with fail
              refine wp_region_held_drew (S := fun u => u.cell? ⟨rg, ro + i, none⟩ = some (.slice ma r.2.length mc) ∧ u.cell? ⟨w.heap.size, 0, none⟩ = some (.int .i64 b) ∧ u.cell? ⟨w.heap.size, 1, none⟩ = some (.int .i64 v)) (by kernel_rfl) (HV.out) (fun hHeld => ?_)
              refine wpAnyH_take (i := 0) (v := .pointer (some ⟨gb, 0, none⟩)) rfl (by kernel_rfl) (by kernel_rfl) (by kernel_rfl) (fun _ _ _ h => h) (Or.inl ⟨by rfl, fun w hw => by go_simp⟩) hHeld ?_
              simp only [Act.put, List.getElem_toArray, List.getElem_cons_zero, List.setIfInBounds_toArray, List.set_cons_zero, List.set_cons_succ]
              refine wpAnyH_take (i := 1) (v := .pointer (some ⟨ga, 0, none⟩)) rfl (by kernel_rfl) (by kernel_rfl) (by kernel_rfl) (fun _ _ _ h => h) (Or.inl ⟨by rfl, fun w hw => by go_simp⟩) hHeld ?_
              simp only [Act.put, List.getElem_toArray, List.getElem_cons_zero, List.getElem_cons_succ, List.setIfInBounds_toArray, List.set_cons_zero, List.set_cons_succ]
              refine wpAnyH_take (i := 2) (v := .slice (some ⟨rg, ro, none⟩) rs.length rc) rfl (by kernel_rfl) (by kernel_rfl) (by kernel_rfl) (fun _ _ _ h => h) (Or.inl ⟨by rfl, fun w hw => by go_simp⟩) hHeld ?_
              simp only [Act.put, List.getElem_toArray, List.getElem_cons_zero, List.getElem_cons_succ, List.setIfInBounds_toArray, List.set_cons_zero, List.set_cons_succ]
              refine wpAnyH_take (i := 3) (v := .int .i64 (i : Int)) rfl (by kernel_rfl) (by kernel_rfl) (by kernel_rfl) (fun _ _ _ h => h) (Or.inl ⟨by rfl, fun w hw => by go_simp⟩) hHeld ?_
              simp only [Act.put, List.getElem_toArray, List.getElem_cons_zero, List.getElem_cons_succ, List.setIfInBounds_toArray, List.set_cons_zero, List.set_cons_succ]
              refine wpAnyH_take (i := 4) (v := .pointer (some ⟨rg, ro + i, none⟩)) rfl (by kernel_rfl) (by kernel_rfl) (by kernel_rfl) (fun _ _ _ h => h) (Or.inl ⟨by rfl, fun w hw => by have hq := hkn; have hq2 := hk0; go_simp⟩) hHeld ?_
              simp only [Act.put, List.getElem_toArray, List.getElem_cons_zero, List.getElem_cons_succ, List.setIfInBounds_toArray, List.set_cons_zero, List.set_cons_succ]
              refine wpAnyH_take (i := 5) (v := .slice ma r.2.length mc) rfl (by kernel_rfl) (by kernel_rfl) (by kernel_rfl) (fun _ _ _ h => h) (Or.inl ⟨by rfl, fun w hw => by have hq := hw.1; go_simp⟩) hHeld ?_
              simp only [Act.put, List.getElem_toArray, List.getElem_cons_zero, List.getElem_cons_succ, List.setIfInBounds_toArray, List.set_cons_zero, List.set_cons_succ]
              refine wpAnyH_take (i := 6) (v := .agg #[.int .i64 b, .int .i64 v]) rfl (by kernel_rfl) (by kernel_rfl) (by kernel_rfl) (fun _ _ _ h => h) (Or.inl ⟨by rfl, fun w hw => by have hq0 := hw.2.1; have hq1 := hw.2.2; go_simp⟩) hHeld ?_
              simp only [Act.put, List.getElem_toArray, List.getElem_cons_zero, List.getElem_cons_succ, List.setIfInBounds_toArray, List.set_cons_zero, List.set_cons_succ]
              refine wpAnyH_take (i := 7) (v := .slice la L.length lc) rfl (by kernel_rfl) (by kernel_rfl) (by kernel_rfl) (fun _ _ _ h => h) (Or.inl ⟨by rfl, fun w hw => by go_simp⟩) hHeld ?_
              simp only [Act.put, List.getElem_toArray, List.getElem_cons_zero, List.getElem_cons_succ, List.setIfInBounds_toArray, List.set_cons_zero, List.set_cons_succ]
              refine wpAnyH_take (i := 8) (v := .slice ca zs.length cc) rfl (by kernel_rfl) (by kernel_rfl) (by kernel_rfl) (fun _ _ _ h => h) (Or.inl ⟨by rfl, fun w hw => by go_simp⟩) hHeld ?_
              simp only [Act.put, List.getElem_toArray, List.getElem_cons_zero, List.getElem_cons_succ, List.setIfInBounds_toArray, List.set_cons_zero, List.set_cons_succ]
              refine wpAnyH_ready (rs := [9]) (by kernel_rfl) (by simp) ?_
              refine AllReadyH.cons (o := _) rfl (fun K hK => ?_) AllReadyH.nil
              go_simp
              refine (HTk.out).mono ?_
              rintro e w9 ⟨rfl, hend⟩
              have HEn := Lib.hid hend
              have HV9 := Lib.hid (HKP.out w9 hend)
              clear hend
              go_wp2_with fail
              refine hK.out _ _ (HV9.out) (fun hHeld => ?_)
              clear hK K
              refine wpAnyH_take (i := 10) (v := .bool true) rfl (by kernel_rfl) (by kernel_rfl) (by kernel_rfl) (fun _ _ _ h => h) (Or.inl ⟨by rfl, fun w hw => by go_simp⟩) hHeld ?_
              simp only [Act.put, List.getElem_toArray, List.getElem_cons_zero, List.getElem_cons_succ, List.setIfInBounds_toArray, List.set_cons_zero, List.set_cons_succ]
              refine wpAnyH_done (by kernel_rfl) ?_ _
              clear hHeld
              obtain ⟨Pn, Pm, Hm, pm, sm, q1, q2, q3, q4, q5, q6, q7, q8, q9, f9⟩ := HEn.out
              have B9 : Below w.heap.size w w9 := by have h1 := HG.out; exact below_fr (belowN HT.out.bl 1) f9 HT.out.bl.size (fun k hk => ⟨by omega, by omega, by omega⟩)
              have S9 : w9.heap[w.heap.size]? = some (.cells #[.int .i64 b, .int .i64 v] 23) := by have h1 := HG.out; exact (f9.block w.heap.size (Array.getElem?_eq_some_iff.1 HT.out.sc).1 ⟨by omega, by omega, by omega⟩).trans HT.out.sc
              have HT9 : Hid (LT w L b v ga Ra Pm Hm pm sm gb Rb Pn Hb pb sb w9) := ⟨q2, q1, q3, q4, HT.out.pb2, HT.out.tb, q7.trans (HT.out.fla.trans q6.symm), q5, q9, q8, B9, S9⟩
              have hfa := HT9.out.fla
              have hfb := HT9.out.flb
              simp only [Prod.mk.injEq] at hfa hfb
              have HSa := Lib.hid (stateT w9 ga Pm HT9.out.fa.pk (by have := HT9.out.fa.b0; omega) Hm HT9.out.fa.ho.rb HT9.out.fa.hl)
              rw [HT9.out.fa.why] at HSa
              have HSb : Hid (∀ u, Below w9.heap.size w9 u → Calls Tryz.prog 14 #[.pointer (some ⟨gb, 0, none⟩)] u fun e w' => ∃ hv, e = .returned (.agg #[.bool Pn.sh, .bool false, .int .i64 0, .bool Pm.ic, .bool Pm.ii, .bool Pm.wc, .bool Pm.wi, hv]) ∧ OW u.heap.size w' hv Hb ∧ Below u.heap.size u w') := fun u hu => by
                have h := stateT u gb Pn (HT9.out.fb.below hu).pk (by have := HT9.out.fb.b0; omega) Hb (HT9.out.fb.below hu).ho.rb HT9.out.fb.hl
                rw [HT9.out.fb.why, hfb.1, hfb.2.1, ← hfa.1, ← hfa.2.1] at h
                exact h
              clear q1 q2 q3 q4 q5 q6 q7 q8 q9 f9 B9 S9 HTk HKP HT HV HEn HV9 hfa hfb
              go_wp2_with fail
              refine HSa.out.mono ?_
              rintro e w10 ⟨v10, rfl, o10, b10⟩
              obtain ⟨a10, c10, rfl⟩ := o10.form
              obtain ⟨u10, hu10⟩ : ∃ x, x = w10.alloc (.cells #[.bool Pm.sh, .bool false, .int .i64 0, .bool Pm.wc, .bool Pm.wi, .bool Pm.ic, .bool Pm.ii, .slice a10 Hm.length c10] 43) := ⟨_, rfl⟩
              have bu10 : Below w9.heap.size w9 u10 := by rw [hu10]; exact b10.trans (((Below.refl _ _).alloc (Nat.le_refl _) _).mono b10.size)
              have sv10 : SV u10 w10.heap.size #[.bool Pm.sh, .bool false, .int .i64 0, .bool Pm.wc, .bool Pm.wi, .bool Pm.ic, .bool Pm.ii, .slice a10 Hm.length c10] := by rw [hu10]; exact heapNew _ _
              have H10 := Lib.hid (And.intro bu10 sv10)
              clear o10 b10 bu10 sv10 HSa
              go_upto_region 24 with fail
              rw [← hu10]
              clear hu10
              go_wp2_with fail
              refine (HSb.out u10 H10.out.1).mono ?_
              rintro e w11 ⟨v11, rfl, o11, b11⟩
              obtain ⟨a11, c11, rfl⟩ := o11.form
              obtain ⟨u11, hu11⟩ : ∃ x, x = w11.alloc (.cells #[.bool Pn.sh, .bool false, .int .i64 0, .bool Pm.ic, .bool Pm.ii, .bool Pm.wc, .bool Pm.wi, .slice a11 Hb.length c11] 43) := ⟨_, rfl⟩
              have bu11 : Below u10.heap.size u10 u11 := by rw [hu11]; exact b11.trans (((Below.refl _ _).alloc (Nat.le_refl _) _).mono b11.size)
              have sA := H10.out.2.keep bu11
              have sB : SV u11 w11.heap.size #[.bool Pn.sh, .bool false, .int .i64 0, .bool Pm.ic, .bool Pm.ii, .bool Pm.wc, .bool Pm.wi, .slice a11 Hb.length c11] := by rw [hu11]; exact heapNew _ _
              have x1 : u11.cell? ⟨w10.heap.size, 1, none⟩ = some (.bool false) := sA.cell 1
              have x3 : u11.cell? ⟨w10.heap.size, 3, none⟩ = some (.bool Pm.wc) := sA.cell 3
              have x4 : u11.cell? ⟨w10.heap.size, 4, none⟩ = some (.bool Pm.wi) := sA.cell 4
              have x5 : u11.cell? ⟨w10.heap.size, 5, none⟩ = some (.bool Pm.ic) := sA.cell 5
              have x6 : u11.cell? ⟨w10.heap.size, 6, none⟩ = some (.bool Pm.ii) := sA.cell 6
              have y1 : u11.cell? ⟨w11.heap.size, 1, none⟩ = some (.bool false) := sB.cell 1
              have y3 : u11.cell? ⟨w11.heap.size, 3, none⟩ = some (.bool Pm.ic) := sB.cell 3
              have y4 : u11.cell? ⟨w11.heap.size, 4, none⟩ = some (.bool Pm.ii) := sB.cell 4
              have y5 : u11.cell? ⟨w11.heap.size, 5, none⟩ = some (.bool Pm.wc) := sB.cell 5
              have y6 : u11.cell? ⟨w11.heap.size, 6, none⟩ = some (.bool Pm.wi) := sB.cell 6
              have HT11 : Hid (LT w L b v ga Ra Pm Hm pm sm gb Rb Pn Hb pb sb u11) := HT9.out.below (H10.out.1.trans (bu11.mono H10.out.1.size))
              clear o11 b11 bu11 sA sB HSb H10 HT9
              go_upto_region 25 with fail
              rw [← hu11]
              clear hu11
              go_wp2_with fail
              go_roundw
              case rel => exact ⟨i + 1, Pm, Hm, pm, sm, Pn, Hb, pb, sb, by omega, rfl, by go_num, HT11⟩
              case measure => (simp [intOf] <;> omega)
          · obtain rfl : i = rs.length := by omega
            go_wp2
            go_ret
            exact ⟨rfl, HT.out.bl⟩
      · have hp := HNw.out.1.2 hE
        have hp2 := hpp2.2 hE
        subst hp hp2
        have q1 : (nwE b v L != 0) = true := by simp [hE]
        have HB3 := B3
        clear hpp2 hnew2 hE HNw HC0 HS2 d0 d1 hsh2 HN2
        go_wp2_with (first | (go_at_call 11; refine (numLT _ _).mono ?_; rintro e w9 ⟨rfl, rfl⟩))
        go_wp2
        go_ret
        exact ⟨rfl, HB3.out⟩
end Go.Proofs.YtabjpffaleaoaaaGreatDoor
