import Derived.Test.YtkagcefboahgkaaOq
namespace Go.Proofs.Ytkagcefboahgkaa
open Go.RowKit
set_option maxHeartbeats 8000000 in
set_option maxRecDepth 100000 in
theorem ownLaw (iv v : Value) (l : List UInt8) (us : List Wv) (at_ : Int) (w : World) (hi : RB w iv l) (hl : l.length ≤ 1048576) (hr : RWv w v us) (hul : us.length ≤ 1048576) :
    Calls Try.prog 3 #[iv, v, .int .i64 at_] w fun e w' => e = .returned (.bool true) ∧ Below w.heap.size w w' := by
  obtain ⟨ia, ic, rfl, -⟩ := id hi
  obtain ⟨⟨va, vc, rfl, -⟩, -⟩ := id hr
  have H0 : Hid (RB w (.slice ia l.length ic) l ∧ RWv w (.slice va us.length vc) us ∧ l.length ≤ 1048576 ∧ us.length ≤ 1048576) := ⟨hi, hr, hl, hul⟩
  clear hi hr hl hul
  generalize hil : l.length = il at *
  generalize hul : us.length = ul at *
  have HLL : Hid (l.length = il ∧ us.length = ul) := ⟨hil, hul⟩
  clear hil hul
  have hwg := wh_gd l
  obtain ⟨L, hL⟩ : ∃ L, wh l = L := ⟨_, rfl⟩
  have HWL : Hid (wh l = L) := hL
  rw [hL] at hwg
  obtain ⟨n, hn⟩ : ∃ n, L.length = n := ⟨_, rfl⟩
  rw [hn] at hwg
  have HN : Hid (L.length = n ∧ n % 64 = 0) := ⟨hn, hwg.1⟩
  have hn1 := hwg.2
  clear hn hL hwg
  go_enter Try.func3, Try.ntmps3
  go_wp2_with fail
  refine (awake w).mono ?_
  rintro e w1 ⟨rfl, b1⟩
  have B1 : Hid (Below w.heap.size w w1) := b1
  clear b1
  go_wp2_with fail
  refine (nilSame w1 at_ ia il ic).mono ?_
  rintro e w2 ⟨rfl, b2⟩
  have B2 : Hid (Below w.heap.size w w2) := B1.out.trans (b2.mono B1.out.size)
  clear b2 B1
  go_wp2_with fail
  refine (whole _ l w2 (H0.out.1.keep B2.out) (by have := H0.out.2.2.1; have := HLL.out.1; omega)).mono ?_
  rintro e w3 ⟨v3, rfl, o3, b3⟩
  rw [HWL.out] at o3
  obtain ⟨a3, c3, hv3⟩ := o3.form
  rw [HN.out.1] at hv3
  subst hv3
  have bA : Below w3.heap.size w3 (w3.alloc (.cells #[.int .u8 201, .int .u8 202, .int .u8 203] 5)) := (Below.refl _ _).alloc (Nat.le_refl _) _
  have HA : Hid (OW w2.heap.size (w3.alloc (.cells #[.int .u8 201, .int .u8 202, .int .u8 203] 5)) (.slice a3 n c3) L ∧ RB (w3.alloc (.cells #[.int .u8 201, .int .u8 202, .int .u8 203] 5)) (.slice (some ⟨w3.heap.size, 0, none⟩) 3 3) [201, 202, 203] ∧ w2.heap.size ≤ (w3.alloc (.cells #[.int .u8 201, .int .u8 202, .int .u8 203] 5)).heap.size ∧ Below w2.heap.size w2 (w3.alloc (.cells #[.int .u8 201, .int .u8 202, .int .u8 203] 5))) := ⟨o3.grow bA, ⟨_, _, rfl, Nat.le_refl _, .inr ⟨_, 0, rfl, by simp, fun i hi => by
      rw [Nat.zero_add, cellH (heapNew w3 _)]
      match i, hi with
      | 0, _ => rfl
      | 1, _ => rfl
      | 2, _ => rfl⟩⟩, Nat.le_trans b3.size bA.size, b3.trans (bA.mono b3.size)⟩
  have hlim : L.length + ([201, 202, 203] : List UInt8).length ≤ 140737488351232 := by have := HN.out.1; simp; omega
  clear o3 b3 bA
  go_wp2_with (first | (at_builtin; refine append_bytes rfl _ _ rfl rfl HA.out.1 rfl HA.out.2.1 HA.out.2.2.1 hlim ?_; intro v4 w4 o4 b4; obtain ⟨G, cap, hG, oin, hcap, q0, q1, q2, rfl⟩ := room_of o4 HN.out.1.symm))
  have H4 : Hid (OW w2.heap.size w4 (.slice (some ⟨G, 0, none⟩) n cap) L ∧ w2.heap.size ≤ G ∧ G < w4.heap.size ∧ Below w.heap.size w w4 ∧ Below w2.heap.size w2 w4) := ⟨oin, hG, (oin.blk G rfl).2, B2.out.trans ((HA.out.2.2.2.trans b4).mono B2.out.size), HA.out.2.2.2.trans b4⟩
  clear HA oin b4 o4 hlim
  refine (load_ok _ L w4 H4.out.1.rb (by rw [HN.out.1]; exact HN.out.2) (by rw [HN.out.1]; exact hn1.1) (by rw [HN.out.1]; omega)).mono ?_
  rintro e w5 ⟨p, rfl, hp, dk5, b5⟩
  have H5 : Hid (DK (fun k => w4.heap.size ≤ k ∧ k < w5.heap.size) w5 p ⟨L, [], none⟩ ∧ OW w2.heap.size w5 (.slice (some ⟨G, 0, none⟩) n cap) L ∧ Below w.heap.size w w5 ∧ w4.heap.size ≤ w5.heap.size) := ⟨dk5.sub (fun k hk hs => ⟨hs, hk⟩), H4.out.1.grow b5, H4.out.2.2.2.1.trans (b5.mono H4.out.2.2.2.1.size), b5.size⟩
  have q0' : w5.cell? ⟨G, n, none⟩ = some (.int .u8 201) := (World.cell?_of_block (w := w4) (b5.block G H4.out.2.2.1)).trans q0
  have q1' : w5.cell? ⟨G, n + 1, none⟩ = some (.int .u8 202) := (World.cell?_of_block (w := w4) (b5.block G H4.out.2.2.1)).trans q1
  have q2' : w5.cell? ⟨G, n + 2, none⟩ = some (.int .u8 203) := (World.cell?_of_block (w := w4) (b5.block G H4.out.2.2.1)).trans q2
  have HQ : Hid (∀ w', Below w5.heap.size w5 w' → w'.cell? ⟨G, n, none⟩ = some (.int .u8 201) ∧ w'.cell? ⟨G, n + 1, none⟩ = some (.int .u8 202) ∧ w'.cell? ⟨G, n + 2, none⟩ = some (.int .u8 203)) := fun w' hb => by
    have hGl : G < w5.heap.size := Nat.lt_of_lt_of_le H4.out.2.2.1 H5.out.2.2.2
    exact ⟨(World.cell?_of_block (w := w5) (hb.block G hGl)).trans q0', (World.cell?_of_block (w := w5) (hb.block G hGl)).trans q1', (World.cell?_of_block (w := w5) (hb.block G hGl)).trans q2'⟩
  clear dk5 b5 q0 q1 q2 q0' q1' q2' hG hp
  go_wp2_with fail
  refine (whole _ l w5 (H0.out.1.keep H5.out.2.2.1) (by have := H0.out.2.2.1; have := HLL.out.1; omega)).mono ?_
  rintro e w6 ⟨v6, rfl, o6, b6⟩
  rw [HWL.out] at o6
  have H6 : Hid (RB w6 v6 L ∧ Below w5.heap.size w5 w6) := ⟨o6.rb, b6⟩
  clear o6 b6
  go_wp2_with fail
  refine (same _ _ L w6 (by have := HN.out.1; omega) ((H5.out.2.1.grow H6.out.2).rb) H6.out.1).mono ?_
  rintro e w7 ⟨rfl, n7, hw7⟩
  have H7 : Hid (Below w5.heap.size w5 w7) := by rw [hw7]; exact H6.out.2.trans ((belowDrew _ _).mono H6.out.2.size)
  clear hw7 H6
  obtain ⟨q0, q1, q2⟩ := HQ.out w7 H7.out
  clear HQ
  go_wp2
  have HB7 : Hid (Below w.heap.size w w7 ∧ DK (fun k => w4.heap.size ≤ k ∧ k < w5.heap.size) w7 p ⟨L, [], none⟩ ∧ OW w2.heap.size w7 (.slice (some ⟨G, 0, none⟩) n cap) L) := ⟨H5.out.2.2.1.trans (H7.out.mono H5.out.2.2.1.size), H5.out.1.below H7.out, H5.out.2.1.grow H7.out⟩
  clear q0 q1 q2
  go_loopw [13] (fun t wr => ∃ k : Nat, k ≤ n ∧ t = .int .i64 k ∧ Hid (Sp w7 w2.heap.size G n cap wr)) (fun t _ => n - (intOf t).toNat)
  case atStart => exact ⟨0, by omega, rfl, Sp.start HB7.out.2.2 HN.out.1⟩
  case round =>
    obtain ⟨k, hk, rfl, HK⟩ := hrel
    by_cases hlt : k < n
    · as_aux_lemma =>
      obtain ⟨x, hx0, hx1, hcx, hfx, hsx⟩ := HK.out.at k hlt
      have HSX : Hid (∀ z : Int, 0 ≤ z → z < 256 → Sp w7 w2.heap.size G n cap (wr.setCell ⟨G, k, none⟩ (.int .u8 z))) := hsx
      clear hsx HK
      go_wp2
      refine ⟨⟨k + 1, by omega, by go_num, HSX.out _ (by omega) (by omega)⟩, by simp [intOf]; omega⟩
    · as_aux_lemma =>
      obtain ⟨m, hm, om⟩ := HK.out.ow
      have H8 : Hid (DK (fun k => w4.heap.size ≤ k ∧ k < w5.heap.size) wr p ⟨L, [], none⟩ ∧ OW w2.heap.size wr (.slice (some ⟨G, 0, none⟩) n cap) m ∧ m.length = n ∧ Below w.heap.size w wr ∧ w5.heap.size ≤ wr.heap.size) := by
        have hws : w.heap.size ≤ w2.heap.size := B2.out.size
        refine ⟨HB7.out.2.1.fr (HK.out.fr.mono (fun k hk hs => by have := H4.out.2.2.1; omega)), om, hm, ?_, Nat.le_trans H7.out.size HK.out.fr.size⟩
        exact ⟨HK.out.fr.os.trans HB7.out.1.os, HK.out.fr.tape.trans HB7.out.1.tape, HK.out.fr.output.trans HB7.out.1.output, Nat.le_trans HB7.out.1.size HK.out.fr.size, fun k hk => (HK.out.fr.block k (Nat.lt_of_lt_of_le hk HB7.out.1.size) (by have := H4.out.2.1; omega)).trans (HB7.out.1.block k hk)⟩
      clear om hm HK HB7
      generalize wr = w8 at *
      go_wp2_with fail
      refine (load_ok _ m w8 H8.out.2.1.rb (by rw [H8.out.2.2.1]; exact HN.out.2) (by rw [H8.out.2.2.1]; exact hn1.1) (by rw [H8.out.2.2.1]; omega)).mono ?_
      rintro e w9 ⟨p2, rfl, hp2, dk9, b9⟩
      have H9 : Hid (DK (fun k => w8.heap.size ≤ k) w9 p2 ⟨m, [], none⟩ ∧ Below w8.heap.size w8 w9) := ⟨dk9, b9⟩
      clear dk9 b9 hp2
      go_wp2_with fail
      refine (image H9.out.1).mono ?_
      rintro e w10 ⟨v10, rfl, o10, b10⟩
      rw [img_nil] at o10
      have H10 : Hid (RB w10 v10 m ∧ Below w8.heap.size w8 w10) := ⟨o10.rb, H9.out.2.trans (b10.mono H9.out.2.size)⟩
      clear o10 b10 H9
      go_wp2_with fail
      refine (same _ _ m w10 (by have := H8.out.2.2.1; omega) H10.out.1 ((H8.out.2.1.grow H10.out.2).rb)).mono ?_
      rintro e w11 ⟨rfl, n11, hw11⟩
      have H11 : Hid (Below w8.heap.size w8 w11) := by rw [hw11]; exact H10.out.2.trans ((belowDrew _ _).mono H10.out.2.size)
      clear hw11 H10
      go_wp2_with fail
      refine (image (H8.out.1.below H11.out)).mono ?_
      rintro e w12 ⟨v12, rfl, o12, b12⟩
      rw [img_nil] at o12
      have H12 : Hid (RB w12 v12 L ∧ Below w8.heap.size w8 w12) := ⟨o12.rb, H11.out.trans (b12.mono H11.out.size)⟩
      clear o12 b12 H11
      go_wp2_with fail
      refine (whole _ l w12 (H0.out.1.keep (H8.out.2.2.2.1.trans (H12.out.2.mono H8.out.2.2.2.1.size))) (by have := H0.out.2.2.1; have := HLL.out.1; omega)).mono ?_
      rintro e w13 ⟨v13, rfl, o13, b13⟩
      rw [HWL.out] at o13
      have H13 : Hid (RB w13 v12 L ∧ RB w13 v13 L ∧ Below w8.heap.size w8 w13) := ⟨H12.out.1.keep b13, o13.rb, H12.out.2.trans (b13.mono H12.out.2.size)⟩
      clear o13 b13 H12
      go_wp2_with fail
      refine (same _ _ L w13 (by have := HN.out.1; omega) H13.out.1 H13.out.2.1).mono ?_
      rintro e w14 ⟨rfl, n14, hw14⟩
      have H14 : Hid (Below w8.heap.size w8 w14 ∧ DK (fun k => w4.heap.size ≤ k ∧ k < w5.heap.size) w14 p ⟨L, [], none⟩ ∧ Below w.heap.size w w14 ∧ w5.heap.size ≤ w14.heap.size) := by
        have hb : Below w8.heap.size w8 w14 := by rw [hw14]; exact H13.out.2.2.trans ((belowDrew _ _).mono H13.out.2.2.size)
        exact ⟨hb, H8.out.1.below hb, H8.out.2.2.2.1.trans (hb.mono H8.out.2.2.2.1.size), Nat.le_trans H8.out.2.2.2.2 hb.size⟩
      clear hw14 H13
      obtain ⟨ns, hns⟩ : ∃ ns, n / 64 = ns := ⟨_, rfl⟩
      have htd : Int.tdiv (n : Int) 64 = (ns : Int) := by rw [← hns]; simp [Int.tdiv_eq_ediv]
      have HNS : Hid (n = 64 * ns ∧ ns ≤ 512) := by have := HN.out.2; exact ⟨by omega, by omega⟩
      clear hns
      have hnsb := HNS.out.2
      go_wp2_with fail
      refine (inside _ us ns w14 (H0.out.2.1.keep H14.out.2.2.1) (by omega) (by have := H0.out.2.2.2; have := HLL.out.2; omega)).mono ?_
      rintro e w15 ⟨v15, rfl, o15, b15⟩
      obtain ⟨ls, hls⟩ : ∃ ls, us.filter (isIn ns) = ls := ⟨_, rfl⟩
      rw [hls] at o15
      have HLS : Hid (ls.length ≤ 1048576 ∧ ∀ u ∈ ls, (∃ s : Nat, u.at_ = (s : Int) ∧ 64 * s + 64 ≤ n) ∧ RB w u.dv u.dl ∧ u.dl.length ≤ 140737488351232) := by
        refine ⟨?_, fun u hu => ?_⟩
        · have h1 : ls.length ≤ us.length := by rw [← hls]; exact List.length_filter_le _ _
          have := H0.out.2.2.2; have := HLL.out.2; omega
        · rw [← hls] at hu
          obtain ⟨h1, h2⟩ := List.mem_filter.1 hu
          simp only [isIn, Bool.and_eq_true, decide_eq_true_eq] at h2
          have hnn := HNS.out.1
          exact ⟨⟨u.at_.toNat, by omega, by omega⟩, H0.out.2.1.2 u h1⟩
      clear hls
      obtain ⟨la, lc, hv15⟩ := ownsRow_form o15
      subst hv15
      have hllb := HLS.out.1
      have HWL0 : Hid (WL w w4 w5 w14 w15 p L (.slice la ls.length lc) ls 0 w15) := by
        refine ⟨(H14.out.2.1.below b15).sub (fun k hk hs => .inl hs), o15, H14.out.2.2.1.trans (b15.mono H14.out.2.2.1.size), Nat.le_refl _, fun g hg => ?_, H14.out.2.2.2, H4.out.2.2.2.1.size, Nat.le_trans H14.out.2.2.1.size b15.size⟩
        exact World.ownsRow.lt o15 g hg
      clear o15 b15
      generalize hll : ls.length = ll at *
      have HLN : Hid (ls.length = ll) := hll
      clear hll
      have hi5 := info_parts info5
      obtain ⟨i5, hi5, hz0, hz1, hz2⟩ := hi5
      have HF5 : Hid (Try.prog.info? 5 = some i5 ∧ i5.zero = some (.int .u8 0) ∧ i5.size = 1 ∧ i5.bytes = 1) := ⟨hi5, hz0, hz1, hz2⟩
      clear hi5 hz0 hz1 hz2
      go_wp2
      go_loopw [17] (fun t wr => ∃ i : Nat, i ≤ ll ∧ t = .int .i64 i ∧ Hid (WL w w4 w5 w14 w15 p L (.slice la ll lc) ls i wr)) (fun t _ => ll - (intOf t).toNat)
      case atStart => exact ⟨0, by omega, rfl, HWL0⟩
      case round =>
        obtain ⟨i, hi, rfl, HI⟩ := hrel
        by_cases hil : i < ll
        · as_aux_lemma =>
          have hil2 : i < ls.length := by rw [HLN.out]; exact hil
          have hx : ls[i]? = some ls[i] := List.getElem?_eq_getElem hil2
          generalize ls[i] = u at hx
          have HXU : Hid (ls[i]? = some u) := hx
          obtain ⟨⟨s, hs1, hs2⟩, hub, hul⟩ := HLS.out.2 u (List.mem_of_getElem? hx)
          rcases HI.out.ol.2 with ⟨_, h0⟩ | ⟨gl, lcap, lcur, hlv, _⟩
          · have := HLN.out; omega
          have hla : la = some ⟨gl, 0, none⟩ := by simp only [Value.slice.injEq] at hlv; exact hlv.1
          subst hla
          obtain ⟨hc0, hc1⟩ := HI.out.ol.at i u hx
          obtain ⟨uat, udv, udl⟩ := u
          simp only at hs1 hub hul hc0 hc1
          subst hs1
          obtain ⟨da, dc, hdv, -⟩ := id hub
          subst hdv
          have HU : Hid (RB wr (.slice da udl.length dc) udl ∧ udl.length ≤ 140737488351232 ∧ 64 * s + 64 ≤ n ∧ RB w (.slice da udl.length dc) udl) := ⟨hub.keep HI.out.bl, hul, hs2, hub⟩
          clear hub hul hx hlv hil2
          generalize hdn : udl.length = dn at *
          have HDN : Hid (udl.length = dn) := hdn
          clear hdn
          have hsb : s ≤ 512 := by have := HU.out.2.2.1; omega
          go_wp2_with fail
          refine (full _ udl wr HU.out.1 (by rw [HDN.out]; exact HU.out.2.1)).mono ?_
          rintro e w16 ⟨g16, rfl, hg16, r16, b16⟩
          have bA : Below w16.heap.size w16 (w16.alloc (.cells #[.int .u8 204, .int .u8 205] 5)) := (Below.refl _ _).alloc (Nat.le_refl _) _
          have H16 : Hid (RB (w16.alloc (.cells #[.int .u8 204, .int .u8 205] 5)) (.slice (some ⟨g16, 0, none⟩) 64 64) (fl udl) ∧ Below wr.heap.size wr (w16.alloc (.cells #[.int .u8 204, .int .u8 205] 5))) := ⟨r16.keep bA, b16.trans (bA.mono b16.size)⟩
          have k0 : (w16.alloc (.cells #[.int .u8 204, .int .u8 205] 5)).cell? ⟨w16.heap.size, 0, none⟩ = some (.int .u8 204) := by rw [cellH (heapNew w16 _)]; rfl
          have k1 : (w16.alloc (.cells #[.int .u8 204, .int .u8 205] 5)).cell? ⟨w16.heap.size, 1, none⟩ = some (.int .u8 205) := by rw [cellH (heapNew w16 _)]; rfl
          have HC01 : Hid (∀ w', Below wr.heap.size wr w' → w'.cell? ⟨gl, i * 2, none⟩ = some (.int .i64 s) ∧ w'.cell? ⟨gl, i * 2 + 1, none⟩ = some (.slice da dn dc)) := fun w' hb => by
            have hgl : gl < wr.heap.size := by have := (HI.out.lo gl rfl).2; have := HI.out.sz; omega
            exact ⟨(World.cell?_of_block (w := wr) (hb.block gl hgl)).trans hc0, (World.cell?_of_block (w := wr) (hb.block gl hgl)).trans hc1⟩
          clear bA r16 b16 hg16 hc0 hc1
          go_wp2_with (first | (at_builtin; refine append_full i5 HF5.out rfl _ _ rfl g16 (fl udl) (fl_len _) rfl H16.out.1 w16.heap.size rfl k0 k1 ?_; intro v17 w17 o17 b17; obtain ⟨Gw, capw, hGw, ow17, hcapw, j0, j1, rfl⟩ := wide_of (fl_len _) o17; obtain ⟨hc0, hc1⟩ := HC01.out w17 (H16.out.2.trans (b17.mono H16.out.2.size))))
          have bw17 : Below wr.heap.size wr w17 := H16.out.2.trans (b17.mono H16.out.2.size)
          have H17 : Hid (Below wr.heap.size wr w17 ∧ OW wr.heap.size w17 (.slice (some ⟨Gw, 0, none⟩) 64 capw) (fl udl) ∧ wr.heap.size ≤ Gw ∧ Gw < w17.heap.size ∧ DK (fun k => ((w4.heap.size ≤ k ∧ k < w5.heap.size) ∨ w15.heap.size ≤ k) ∧ k < wr.heap.size) w17 p ⟨L, (ls.take i).map mkW, none⟩) := by
            have h1 := H16.out.2.size
            exact ⟨bw17, ow17.mono h1, by omega, (ow17.blk Gw rfl).2, (HI.out.dk.sub (T := fun k => ((w4.heap.size ≤ k ∧ k < w5.heap.size) ∨ w15.heap.size ≤ k) ∧ k < wr.heap.size) (fun k hk hs => ⟨hs, hk⟩)).below bw17⟩
          clear bw17 b17 o17 ow17 hGw H16 k0 k1
          have HWR : Hid (Calls Try.prog 13 #[.pointer (some ⟨p, 0, none⟩), .int .i64 s, .slice (some ⟨Gw, 0, none⟩) 64 capw] w17 fun e w' => e = .returned (.int .i64 0) ∧ DK (fun k => (((w4.heap.size ≤ k ∧ k < w5.heap.size) ∨ w15.heap.size ≤ k) ∧ k < wr.heap.size) ∨ w17.heap.size ≤ k) w' p ⟨L, (ls.take i).map mkW ++ [mkW ⟨(s : Int), .slice da dn dc, udl⟩], none⟩ ∧ Fr (fun k => ¬ (((w4.heap.size ≤ k ∧ k < w5.heap.size) ∨ w15.heap.size ≤ k) ∧ k < wr.heap.size)) w17 w') :=
            write H17.out.2.2.2.2 s (by show 64 * s + 64 ≤ L.length; rw [HN.out.1]; exact HU.out.2.2.1) _ (fl udl) H17.out.2.1.rb (fl_len _) (by show ((ls.take i).map mkW).length < _; rw [List.length_map, List.length_take]; omega)
          refine HWR.out.mono ?_
          rintro e w18 ⟨rfl, dk18, f18⟩
          have hG18 : w18.heap[Gw]? = w17.heap[Gw]? := f18.block Gw H17.out.2.2.2.1 (fun x => by have := H17.out.2.2.1; omega)
          have hgl1 := HI.out.lo gl rfl
          have hgl2 : gl < wr.heap.size := by have := HI.out.sz; omega
          have hL18 : w18.heap[gl]? = w17.heap[gl]? := f18.block gl (Nat.lt_of_lt_of_le hgl2 H17.out.1.size) (fun x => by have := HI.out.s5; omega)
          have e0 : w18.cell? ⟨gl, i * 2, none⟩ = some (.int .i64 s) := (World.cell?_of_block (w := w17) hL18).trans hc0
          have e1 : w18.cell? ⟨gl, i * 2 + 1, none⟩ = some (.slice da dn dc) := (World.cell?_of_block (w := w17) hL18).trans hc1
          have hb18 : Below w.heap.size w w18 := Below.of_fr (HI.out.bl.trans (H17.out.1.mono HI.out.bl.size)) f18 (fun k hk x => by have := HI.out.s4; have := HI.out.sf; omega) (Nat.le_refl _)
          have H18 : Hid (DK (fun k => (((w4.heap.size ≤ k ∧ k < w5.heap.size) ∨ w15.heap.size ≤ k) ∧ k < wr.heap.size) ∨ w17.heap.size ≤ k) w18 p ⟨L, (ls.take i).map mkW ++ [mkW ⟨(s : Int), .slice da dn dc, udl⟩], none⟩ ∧ Fr (fun k => ¬ (((w4.heap.size ≤ k ∧ k < w5.heap.size) ∨ w15.heap.size ≤ k) ∧ k < wr.heap.size)) w17 w18 ∧ RB w18 (.slice da dn dc) udl ∧ OW wr.heap.size w18 (.slice (some ⟨Gw, 0, none⟩) 64 capw) (fl udl) ∧ w18.cell? ⟨Gw, 64, none⟩ = some (.int .u8 204) ∧ w18.cell? ⟨Gw, 65, none⟩ = some (.int .u8 205) ∧ Gw < w18.heap.size) := by
            refine ⟨dk18, f18, HU.out.2.2.2.keep hb18, ?_, (World.cell?_of_block (w := w17) hG18).trans j0, (World.cell?_of_block (w := w17) hG18).trans j1, Nat.lt_of_lt_of_le H17.out.2.2.2.1 f18.size⟩
            have hGg : ∀ g, (Value.slice (some ⟨Gw, 0, none⟩) 64 capw).ownBlock = some g → Gw = g := fun g hg => by simpa [Value.ownBlock] using hg
            exact ownsRow_fr H17.out.2.1 f18 (fun g hg x => by have := hGg g hg; have := H17.out.2.2.1; omega)
          clear dk18 f18 hG18 hgl1 hgl2 hL18 hb18 HWR j0 j1 hc0 hc1
          go_wp2_with fail
          refine (full _ udl w18 H18.out.2.2.1 (by rw [HDN.out]; exact HU.out.2.1)).mono ?_
          rintro e w19 ⟨g19, rfl, hg19, r19, b19⟩
          have H19 : Hid (RB w19 (.slice (some ⟨g19, 0, none⟩) 64 64) (fl udl) ∧ Below w18.heap.size w18 w19) := ⟨r19, b19⟩
          clear r19 b19 hg19
          go_wp2_with fail
          refine (same _ _ (fl udl) w19 (by rw [fl_len]; omega) ((H18.out.2.2.2.1.grow H19.out.2).rb) H19.out.1).mono ?_
          rintro e w20 ⟨rfl, n20, hw20⟩
          have H20 : Hid (Below w18.heap.size w18 w20 ∧ Sp w20 wr.heap.size Gw 64 capw w20) := by
            have hb : Below w18.heap.size w18 w20 := by rw [hw20]; exact H19.out.2.trans ((belowDrew _ _).mono H19.out.2.size)
            exact ⟨hb, Sp.start (H18.out.2.2.2.1.grow hb) (fl_len _)⟩
          have j0 : w20.cell? ⟨Gw, 64, none⟩ = some (.int .u8 204) := (World.cell?_of_block (w := w18) (H20.out.1.block Gw H18.out.2.2.2.2.2.2)).trans H18.out.2.2.2.2.1
          have j1 : w20.cell? ⟨Gw, 65, none⟩ = some (.int .u8 205) := (World.cell?_of_block (w := w18) (H20.out.1.block Gw H18.out.2.2.2.2.2.2)).trans H18.out.2.2.2.2.2.1
          clear hw20 H19 e0 e1
          go_wp2
          generalize wr = wo at *
          clear j0 j1
          go_loopw [21] (fun t wr => ∃ k : Nat, k ≤ 64 ∧ t = .int .i64 k ∧ Hid (Sp w20 wo.heap.size Gw 64 capw wr)) (fun t _ => 64 - (intOf t).toNat)
          case atStart => exact ⟨0, by omega, rfl, H20.out.2⟩
          case round =>
            obtain ⟨k, hk, rfl, HK⟩ := hrel
            by_cases hlt : k < 64
            · as_aux_lemma =>
              obtain ⟨x, hx0, hx1, hcx, hfx, hsx⟩ := HK.out.at k hlt
              have HSX : Hid (∀ z : Int, 0 ≤ z → z < 256 → Sp w20 wo.heap.size Gw 64 capw (wr.setCell ⟨Gw, k, none⟩ (.int .u8 z))) := hsx
              clear hsx HK
              go_wp2
              refine ⟨⟨k + 1, by omega, by go_num, HSX.out _ (by omega) (by omega)⟩, by simp [intOf]; omega⟩
            · as_aux_lemma =>
              have HZ : Hid (WL w w4 w5 w14 w15 p L (.slice (some ⟨gl, 0, none⟩) ll lc) ls (i + 1) wr) := HI.out.next HXU.out H17.out.1 H18.out.1 H18.out.2.1 H20.out.1 ⟨H17.out.2.2.1, H17.out.2.2.2.1⟩ HK.out
              clear HK
              go_wp2
              refine ⟨⟨i + 1, by omega, by go_num, HZ⟩, by simp [intOf]; omega⟩
        · as_aux_lemma =>
          have HE : Hid (WL w w4 w5 w14 w15 p L (.slice la ll lc) ls ll wr) := by
            obtain rfl : i = ll := by omega
            exact HI
          clear HI
          generalize wr = w21 at *
          go_wp2_with fail
          refine (whole _ l w21 (H0.out.1.keep HE.out.bl) (by have := H0.out.2.2.1; have := HLL.out.1; omega)).mono ?_
          rintro e w22 ⟨v22, rfl, o22, b22⟩
          rw [HWL.out] at o22
          have H22 : Hid (RB w22 v22 L ∧ Below w21.heap.size w21 w22 ∧ Below w.heap.size w w22) := ⟨o22.rb, b22, HE.out.bl.trans (b22.mono HE.out.bl.size)⟩
          clear o22 b22
          have HRW : Hid (RWv w22 (.slice la ll lc) ls) := OWv.rw (ownsRow_fr (S := fun _ => True) HE.out.ol (Fr.of_below H22.out.2.1) (fun _ _ => trivial)) (fun u hu => ⟨(HLS.out.2 u hu).2.1.keep H22.out.2.2, (HLS.out.2 u hu).2.2⟩)
          go_wp2_with fail
          refine (made _ _ L ls w22 H22.out.1 (by rw [HN.out.1]; exact HN.out.2) (by rw [HN.out.1]; exact hn1.1) (by rw [HN.out.1]; omega) HRW.out (by rw [HLN.out]; exact HLS.out.1) (fun u hu => by
            obtain ⟨s, h1, h2⟩ := (HLS.out.2 u hu).1
            rw [h1, HN.out.1]
            exact ⟨by omega, by omega⟩)).mono ?_
          rintro e w23 ⟨pcd, rfl, dk23, b23⟩
          obtain ⟨D, hD⟩ : ∃ D : Dk, (⟨L, ls.map mkW, none⟩ : Dk) = D := ⟨_, rfl⟩
          have H23 : Hid (DK (fun k => k < w23.heap.size) w23 p D ∧ DK (fun k => k < w23.heap.size) w23 pcd D ∧ Below w.heap.size w w23 ∧ D.last = L ∧ D.ws.length = ll ∧ D.ws = ls.map mkW) := by
            have e1 : ls.take ll = ls := List.take_of_length_le (by rw [HLN.out]; exact Nat.le_refl _)
            have d21 := HE.out.dk
            rw [e1] at d21
            rw [hD] at d21 dk23
            exact ⟨((d21.below H22.out.2.1).below b23).sub (fun k hk _ => hk), dk23.sub (fun k hk _ => hk), H22.out.2.2.trans (b23.mono H22.out.2.2.size), by rw [← hD], by rw [← hD]; show (ls.map mkW).length = _; rw [List.length_map]; exact HLN.out, by rw [← hD]⟩
          clear hD dk23 b23 HRW H22 HE
          go_wp2_with fail
          clear H0 HLL HWL B2 H4 H5 H7 H8 H14 HLS HWL0 HF5 HLN
          have HLI : Hid ((img D.last D.ws).length = n ∧ D.last.length = n) := by
            have h1 : D.last.length = n := by rw [H23.out.2.2.2.1]; exact HN.out.1
            exact ⟨by rw [img_len, h1], h1⟩
          have HB23 : Hid (Below w23.heap.size w23 w23) := Below.refl _ _
          refine (image (D := D) (H23.out.1.low HB23.out)).mono ?_
          rintro e w24 ⟨xV, rfl, ox, blx⟩
          obtain ⟨xg, xc, hvx⟩ := ox.nonempty (by first | (rw [HLI.out.1]; omega) | (rw [HLI.out.2]; omega))
          first | rw [HLI.out.1] at hvx | rw [HLI.out.2] at hvx
          subst hvx
          have HPx : Hid (PR w24 5 w23.heap.size w24.heap.size 0 0 (.slice (some ⟨xg, 0, none⟩) n xc) (.slice (some ⟨xg, 0, none⟩) n xc) n (Lib.byteCells (img D.last D.ws)) []) := by
            have := PR.start ox
            first | rw [HLI.out.1] at this | rw [HLI.out.2] at this
            exact this
          have HB24 : Hid (Below w23.heap.size w23 w24) := HB23.out.trans (blx.mono HB23.out.size)
          have hs24 : Hid (w23.heap.size ≤ w24.heap.size) := blx.size
          clear ox blx
          go_wp2_with fail
          refine (durable (D := D) (H23.out.1.low HB24.out)).mono ?_
          rintro e w25 ⟨yV, rfl, oy, bly⟩
          obtain ⟨yg, yc, hvy⟩ := oy.nonempty (by first | (rw [HLI.out.1]; omega) | (rw [HLI.out.2]; omega))
          first | rw [HLI.out.1] at hvy | rw [HLI.out.2] at hvy
          subst hvy
          have HPy : Hid (PR w25 5 w24.heap.size w25.heap.size 0 0 (.slice (some ⟨yg, 0, none⟩) n yc) (.slice (some ⟨yg, 0, none⟩) n yc) n (Lib.byteCells (D.last)) []) := by
            have := PR.start oy
            first | rw [HLI.out.1] at this | rw [HLI.out.2] at this
            exact this
          have HB25 : Hid (Below w23.heap.size w23 w25) := HB24.out.trans (bly.mono HB24.out.size)
          replace HPx : Hid (PR w25 5 _ _ _ _ _ _ _ _ _) := HPx.out.fr (T := fun _ => True) (Fr.of_below bly) (fun _ _ => trivial)
          have hs25 : Hid (w24.heap.size ≤ w25.heap.size) := bly.size
          clear oy bly
          go_wp2_with fail
          refine (image (D := D) (H23.out.1.low HB25.out)).mono ?_
          rintro e w26 ⟨zV, rfl, oz, blz⟩
          obtain ⟨zg, zc, hvz⟩ := oz.nonempty (by first | (rw [HLI.out.1]; omega) | (rw [HLI.out.2]; omega))
          first | rw [HLI.out.1] at hvz | rw [HLI.out.2] at hvz
          subst hvz
          have HPz : Hid (PR w26 5 w25.heap.size w26.heap.size 0 0 (.slice (some ⟨zg, 0, none⟩) n zc) (.slice (some ⟨zg, 0, none⟩) n zc) n (Lib.byteCells (img D.last D.ws)) []) := by
            have := PR.start oz
            first | rw [HLI.out.1] at this | rw [HLI.out.2] at this
            exact this
          have HB26 : Hid (Below w23.heap.size w23 w26) := HB25.out.trans (blz.mono HB25.out.size)
          replace HPx : Hid (PR w26 5 _ _ _ _ _ _ _ _ _) := HPx.out.fr (T := fun _ => True) (Fr.of_below blz) (fun _ _ => trivial)
          replace HPy : Hid (PR w26 5 _ _ _ _ _ _ _ _ _) := HPy.out.fr (T := fun _ => True) (Fr.of_below blz) (fun _ _ => trivial)
          have hs26 : Hid (w25.heap.size ≤ w26.heap.size) := blz.size
          clear oz blz
          go_wp2_with fail
          refine (durable (D := D) (H23.out.1.low HB26.out)).mono ?_
          rintro e w27 ⟨vV, rfl, ov, blv⟩
          obtain ⟨vg, vc, hvv⟩ := ov.nonempty (by first | (rw [HLI.out.1]; omega) | (rw [HLI.out.2]; omega))
          first | rw [HLI.out.1] at hvv | rw [HLI.out.2] at hvv
          subst hvv
          have HPv : Hid (PR w27 5 w26.heap.size w27.heap.size 0 0 (.slice (some ⟨vg, 0, none⟩) n vc) (.slice (some ⟨vg, 0, none⟩) n vc) n (Lib.byteCells (D.last)) []) := by
            have := PR.start ov
            first | rw [HLI.out.1] at this | rw [HLI.out.2] at this
            exact this
          have HB27 : Hid (Below w23.heap.size w23 w27) := HB26.out.trans (blv.mono HB26.out.size)
          replace HPx : Hid (PR w27 5 _ _ _ _ _ _ _ _ _) := HPx.out.fr (T := fun _ => True) (Fr.of_below blv) (fun _ _ => trivial)
          replace HPy : Hid (PR w27 5 _ _ _ _ _ _ _ _ _) := HPy.out.fr (T := fun _ => True) (Fr.of_below blv) (fun _ _ => trivial)
          replace HPz : Hid (PR w27 5 _ _ _ _ _ _ _ _ _) := HPz.out.fr (T := fun _ => True) (Fr.of_below blv) (fun _ _ => trivial)
          have hs27 : Hid (w26.heap.size ≤ w27.heap.size) := blv.size
          clear ov blv
          go_wp2_with fail
          refine (pending (D := D) (H23.out.1.low HB27.out) (by rw [H23.out.2.2.2.2.1]; omega)).mono ?_
          rintro e w28 ⟨pV, rfl, op, blp⟩
          rw [H23.out.2.2.2.2.1] at op
          obtain ⟨pa, pc, hvp⟩ := ownsRow_form op
          subst hvp
          have HPp : Hid (PR w28 3 w27.heap.size w28.heap.size 0 0 (.slice pa ll pc) (.slice pa ll pc) ll (D.ws.map fun x => Value.int .i64 x.at_) []) := PR.start op
          have HB28 : Hid (Below w23.heap.size w23 w28) := HB27.out.trans (blp.mono HB27.out.size)
          replace HPx : Hid (PR w28 _ _ _ _ _ _ _ _ _ _) := HPx.out.fr (T := fun _ => True) (Fr.of_below blp) (fun _ _ => trivial)
          replace HPy : Hid (PR w28 _ _ _ _ _ _ _ _ _ _) := HPy.out.fr (T := fun _ => True) (Fr.of_below blp) (fun _ _ => trivial)
          replace HPz : Hid (PR w28 _ _ _ _ _ _ _ _ _ _) := HPz.out.fr (T := fun _ => True) (Fr.of_below blp) (fun _ _ => trivial)
          replace HPv : Hid (PR w28 _ _ _ _ _ _ _ _ _ _) := HPv.out.fr (T := fun _ => True) (Fr.of_below blp) (fun _ _ => trivial)
          have hs28 : Hid (w27.heap.size ≤ w28.heap.size) := blp.size
          clear op blp
          go_wp2_with fail
          refine (pending (D := D) (H23.out.1.low HB28.out) (by rw [H23.out.2.2.2.2.1]; omega)).mono ?_
          rintro e w29 ⟨qV, rfl, oq, blq⟩
          rw [H23.out.2.2.2.2.1] at oq
          obtain ⟨qa, qc, hvq⟩ := ownsRow_form oq
          subst hvq
          have HPq : Hid (PR w29 3 w28.heap.size w29.heap.size 0 0 (.slice qa ll qc) (.slice qa ll qc) ll (D.ws.map fun x => Value.int .i64 x.at_) []) := PR.start oq
          have HB29 : Hid (Below w23.heap.size w23 w29) := HB28.out.trans (blq.mono HB28.out.size)
          replace HPx : Hid (PR w29 _ _ _ _ _ _ _ _ _ _) := HPx.out.fr (T := fun _ => True) (Fr.of_below blq) (fun _ _ => trivial)
          replace HPy : Hid (PR w29 _ _ _ _ _ _ _ _ _ _) := HPy.out.fr (T := fun _ => True) (Fr.of_below blq) (fun _ _ => trivial)
          replace HPz : Hid (PR w29 _ _ _ _ _ _ _ _ _ _) := HPz.out.fr (T := fun _ => True) (Fr.of_below blq) (fun _ _ => trivial)
          replace HPv : Hid (PR w29 _ _ _ _ _ _ _ _ _ _) := HPv.out.fr (T := fun _ => True) (Fr.of_below blq) (fun _ _ => trivial)
          replace HPp : Hid (PR w29 _ _ _ _ _ _ _ _ _ _) := HPp.out.fr (T := fun _ => True) (Fr.of_below blq) (fun _ _ => trivial)
          have hs29 : Hid (w28.heap.size ≤ w29.heap.size) := blq.size
          clear oq blq
          go_wp2_with fail
          have HOx : Hid (Calls Try.prog 17 #[(.slice (some ⟨xg, 0, none⟩) n xc), .int .u8 1] w29 (GrE w29 0 5 (.slice (some ⟨xg, 0, none⟩) n xc) n (Lib.byteCells (img D.last D.ws)) (Lib.byteCells (mks 1 70)))) := by
            have h1 := HPx.out.ow
            have := grown _ (img D.last D.ws) 1 0 w29 h1.1 (Nat.zero_le _) (by rw [h1.2]; omega) (by omega)
            rw [h1.2] at this
            exact this
          refine HOx.out.mono ?_
          rintro e w30 ⟨gxV, rfl, gi⟩
          obtain ⟨pr, f⟩ := HPx.out.grow gi
          obtain ⟨gxg, gxc, hgv, -⟩ := pr.mark (mksl 1)
          subst hgv
          have HQx : Hid (PR w30 5 w23.heap.size w24.heap.size w29.heap.size w30.heap.size (.slice (some ⟨xg, 0, none⟩) n xc) (.slice (some ⟨gxg, 0, none⟩) (n + 70) gxc) n (Lib.byteCells (img D.last D.ws)) (Lib.byteCells (mks 1 70))) := pr
          replace HPy : Hid (PR w30 _ _ _ _ _ _ _ _ _ _) := HPy.out.fr f (fun k hk => by have := hs24.out; have := hs25.out; have := hs26.out; have := hs27.out; have := hs28.out; have := hs29.out; omega)
          replace HPz : Hid (PR w30 _ _ _ _ _ _ _ _ _ _) := HPz.out.fr f (fun k hk => by have := hs24.out; have := hs25.out; have := hs26.out; have := hs27.out; have := hs28.out; have := hs29.out; omega)
          replace HPv : Hid (PR w30 _ _ _ _ _ _ _ _ _ _) := HPv.out.fr f (fun k hk => by have := hs24.out; have := hs25.out; have := hs26.out; have := hs27.out; have := hs28.out; have := hs29.out; omega)
          replace HPp : Hid (PR w30 _ _ _ _ _ _ _ _ _ _) := HPp.out.fr f (fun k hk => by have := hs24.out; have := hs25.out; have := hs26.out; have := hs27.out; have := hs28.out; have := hs29.out; omega)
          replace HPq : Hid (PR w30 _ _ _ _ _ _ _ _ _ _) := HPq.out.fr f (fun k hk => by have := hs24.out; have := hs25.out; have := hs26.out; have := hs27.out; have := hs28.out; have := hs29.out; omega)
          have HB30 : Hid (Below w23.heap.size w23 w30) := Below.of_fr HB29.out f (fun k hk => by have := hs24.out; have := hs25.out; have := hs26.out; have := hs27.out; have := hs28.out; have := hs29.out; omega) (Nat.le_refl _)
          have hs30 : Hid (w29.heap.size ≤ w30.heap.size) := f.size
          clear gi pr f HOx HPx
          go_wp2_with fail
          have HOy : Hid (Calls Try.prog 17 #[(.slice (some ⟨yg, 0, none⟩) n yc), .int .u8 41] w30 (GrE w30 0 5 (.slice (some ⟨yg, 0, none⟩) n yc) n (Lib.byteCells (D.last)) (Lib.byteCells (mks 41 70)))) := by
            have h1 := HPy.out.ow
            have := grown _ (D.last) 41 0 w30 h1.1 (Nat.zero_le _) (by rw [h1.2]; omega) (by omega)
            rw [h1.2] at this
            exact this
          refine HOy.out.mono ?_
          rintro e w31 ⟨gyV, rfl, gi⟩
          obtain ⟨pr, f⟩ := HPy.out.grow gi
          obtain ⟨gyg, gyc, hgv, -⟩ := pr.mark (mksl 41)
          subst hgv
          have HQy : Hid (PR w31 5 w24.heap.size w25.heap.size w30.heap.size w31.heap.size (.slice (some ⟨yg, 0, none⟩) n yc) (.slice (some ⟨gyg, 0, none⟩) (n + 70) gyc) n (Lib.byteCells (D.last)) (Lib.byteCells (mks 41 70))) := pr
          replace HQx : Hid (PR w31 _ _ _ _ _ _ _ _ _ _) := HQx.out.fr f (fun k hk => by have := hs24.out; have := hs25.out; have := hs26.out; have := hs27.out; have := hs28.out; have := hs29.out; have := hs30.out; omega)
          replace HPz : Hid (PR w31 _ _ _ _ _ _ _ _ _ _) := HPz.out.fr f (fun k hk => by have := hs24.out; have := hs25.out; have := hs26.out; have := hs27.out; have := hs28.out; have := hs29.out; have := hs30.out; omega)
          replace HPv : Hid (PR w31 _ _ _ _ _ _ _ _ _ _) := HPv.out.fr f (fun k hk => by have := hs24.out; have := hs25.out; have := hs26.out; have := hs27.out; have := hs28.out; have := hs29.out; have := hs30.out; omega)
          replace HPp : Hid (PR w31 _ _ _ _ _ _ _ _ _ _) := HPp.out.fr f (fun k hk => by have := hs24.out; have := hs25.out; have := hs26.out; have := hs27.out; have := hs28.out; have := hs29.out; have := hs30.out; omega)
          replace HPq : Hid (PR w31 _ _ _ _ _ _ _ _ _ _) := HPq.out.fr f (fun k hk => by have := hs24.out; have := hs25.out; have := hs26.out; have := hs27.out; have := hs28.out; have := hs29.out; have := hs30.out; omega)
          have HB31 : Hid (Below w23.heap.size w23 w31) := Below.of_fr HB30.out f (fun k hk => by have := hs24.out; have := hs25.out; have := hs26.out; have := hs27.out; have := hs28.out; have := hs29.out; have := hs30.out; omega) (Nat.le_refl _)
          have hs31 : Hid (w30.heap.size ≤ w31.heap.size) := f.size
          clear gi pr f HOy HPy
          go_wp2_with fail
          have HOz : Hid (Calls Try.prog 17 #[(.slice (some ⟨zg, 0, none⟩) n zc), .int .u8 81] w31 (GrE w31 0 5 (.slice (some ⟨zg, 0, none⟩) n zc) n (Lib.byteCells (img D.last D.ws)) (Lib.byteCells (mks 81 70)))) := by
            have h1 := HPz.out.ow
            have := grown _ (img D.last D.ws) 81 0 w31 h1.1 (Nat.zero_le _) (by rw [h1.2]; omega) (by omega)
            rw [h1.2] at this
            exact this
          refine HOz.out.mono ?_
          rintro e w32 ⟨gzV, rfl, gi⟩
          obtain ⟨pr, f⟩ := HPz.out.grow gi
          obtain ⟨gzg, gzc, hgv, -⟩ := pr.mark (mksl 81)
          subst hgv
          have HQz : Hid (PR w32 5 w25.heap.size w26.heap.size w31.heap.size w32.heap.size (.slice (some ⟨zg, 0, none⟩) n zc) (.slice (some ⟨gzg, 0, none⟩) (n + 70) gzc) n (Lib.byteCells (img D.last D.ws)) (Lib.byteCells (mks 81 70))) := pr
          replace HQx : Hid (PR w32 _ _ _ _ _ _ _ _ _ _) := HQx.out.fr f (fun k hk => by have := hs24.out; have := hs25.out; have := hs26.out; have := hs27.out; have := hs28.out; have := hs29.out; have := hs30.out; have := hs31.out; omega)
          replace HQy : Hid (PR w32 _ _ _ _ _ _ _ _ _ _) := HQy.out.fr f (fun k hk => by have := hs24.out; have := hs25.out; have := hs26.out; have := hs27.out; have := hs28.out; have := hs29.out; have := hs30.out; have := hs31.out; omega)
          replace HPv : Hid (PR w32 _ _ _ _ _ _ _ _ _ _) := HPv.out.fr f (fun k hk => by have := hs24.out; have := hs25.out; have := hs26.out; have := hs27.out; have := hs28.out; have := hs29.out; have := hs30.out; have := hs31.out; omega)
          replace HPp : Hid (PR w32 _ _ _ _ _ _ _ _ _ _) := HPp.out.fr f (fun k hk => by have := hs24.out; have := hs25.out; have := hs26.out; have := hs27.out; have := hs28.out; have := hs29.out; have := hs30.out; have := hs31.out; omega)
          replace HPq : Hid (PR w32 _ _ _ _ _ _ _ _ _ _) := HPq.out.fr f (fun k hk => by have := hs24.out; have := hs25.out; have := hs26.out; have := hs27.out; have := hs28.out; have := hs29.out; have := hs30.out; have := hs31.out; omega)
          have HB32 : Hid (Below w23.heap.size w23 w32) := Below.of_fr HB31.out f (fun k hk => by have := hs24.out; have := hs25.out; have := hs26.out; have := hs27.out; have := hs28.out; have := hs29.out; have := hs30.out; have := hs31.out; omega) (Nat.le_refl _)
          have hs32 : Hid (w31.heap.size ≤ w32.heap.size) := f.size
          clear gi pr f HOz HPz
          go_wp2_with fail
          have HOv : Hid (Calls Try.prog 17 #[(.slice (some ⟨vg, 0, none⟩) n vc), .int .u8 121] w32 (GrE w32 0 5 (.slice (some ⟨vg, 0, none⟩) n vc) n (Lib.byteCells (D.last)) (Lib.byteCells (mks 121 70)))) := by
            have h1 := HPv.out.ow
            have := grown _ (D.last) 121 0 w32 h1.1 (Nat.zero_le _) (by rw [h1.2]; omega) (by omega)
            rw [h1.2] at this
            exact this
          refine HOv.out.mono ?_
          rintro e w33 ⟨gvV, rfl, gi⟩
          obtain ⟨pr, f⟩ := HPv.out.grow gi
          obtain ⟨gvg, gvc, hgv, -⟩ := pr.mark (mksl 121)
          subst hgv
          have HQv : Hid (PR w33 5 w26.heap.size w27.heap.size w32.heap.size w33.heap.size (.slice (some ⟨vg, 0, none⟩) n vc) (.slice (some ⟨gvg, 0, none⟩) (n + 70) gvc) n (Lib.byteCells (D.last)) (Lib.byteCells (mks 121 70))) := pr
          replace HQx : Hid (PR w33 _ _ _ _ _ _ _ _ _ _) := HQx.out.fr f (fun k hk => by have := hs24.out; have := hs25.out; have := hs26.out; have := hs27.out; have := hs28.out; have := hs29.out; have := hs30.out; have := hs31.out; have := hs32.out; omega)
          replace HQy : Hid (PR w33 _ _ _ _ _ _ _ _ _ _) := HQy.out.fr f (fun k hk => by have := hs24.out; have := hs25.out; have := hs26.out; have := hs27.out; have := hs28.out; have := hs29.out; have := hs30.out; have := hs31.out; have := hs32.out; omega)
          replace HQz : Hid (PR w33 _ _ _ _ _ _ _ _ _ _) := HQz.out.fr f (fun k hk => by have := hs24.out; have := hs25.out; have := hs26.out; have := hs27.out; have := hs28.out; have := hs29.out; have := hs30.out; have := hs31.out; have := hs32.out; omega)
          replace HPp : Hid (PR w33 _ _ _ _ _ _ _ _ _ _) := HPp.out.fr f (fun k hk => by have := hs24.out; have := hs25.out; have := hs26.out; have := hs27.out; have := hs28.out; have := hs29.out; have := hs30.out; have := hs31.out; have := hs32.out; omega)
          replace HPq : Hid (PR w33 _ _ _ _ _ _ _ _ _ _) := HPq.out.fr f (fun k hk => by have := hs24.out; have := hs25.out; have := hs26.out; have := hs27.out; have := hs28.out; have := hs29.out; have := hs30.out; have := hs31.out; have := hs32.out; omega)
          have HB33 : Hid (Below w23.heap.size w23 w33) := Below.of_fr HB32.out f (fun k hk => by have := hs24.out; have := hs25.out; have := hs26.out; have := hs27.out; have := hs28.out; have := hs29.out; have := hs30.out; have := hs31.out; have := hs32.out; omega) (Nat.le_refl _)
          have hs33 : Hid (w32.heap.size ≤ w33.heap.size) := f.size
          clear gi pr f HOv HPv
          go_wp2_with fail
          have HOp : Hid (Calls Try.prog 18 #[(.slice pa ll pc), .int .i64 (-100)] w33 (GrE w33 0 3 (.slice pa ll pc) ll (D.ws.map fun x => Value.int .i64 x.at_) (mkI (-100) 70))) := longer _ ll _ (-100) 0 w33 HPp.out.old (Nat.zero_le _) hllb (by omega)
          refine HOp.out.mono ?_
          rintro e w34 ⟨gpV, rfl, gi⟩
          obtain ⟨pr, f⟩ := HPp.out.grow gi
          obtain ⟨gpg, gpc, hgv, -⟩ := pr.mark (mkI_len (-100) 70)
          subst hgv
          have HQp : Hid (PR w34 3 w27.heap.size w28.heap.size w33.heap.size w34.heap.size (.slice pa ll pc) (.slice (some ⟨gpg, 0, none⟩) (ll + 70) gpc) ll (D.ws.map fun x => Value.int .i64 x.at_) (mkI (-100) 70)) := pr
          replace HQx : Hid (PR w34 _ _ _ _ _ _ _ _ _ _) := HQx.out.fr f (fun k hk => by have := hs24.out; have := hs25.out; have := hs26.out; have := hs27.out; have := hs28.out; have := hs29.out; have := hs30.out; have := hs31.out; have := hs32.out; have := hs33.out; omega)
          replace HQy : Hid (PR w34 _ _ _ _ _ _ _ _ _ _) := HQy.out.fr f (fun k hk => by have := hs24.out; have := hs25.out; have := hs26.out; have := hs27.out; have := hs28.out; have := hs29.out; have := hs30.out; have := hs31.out; have := hs32.out; have := hs33.out; omega)
          replace HQz : Hid (PR w34 _ _ _ _ _ _ _ _ _ _) := HQz.out.fr f (fun k hk => by have := hs24.out; have := hs25.out; have := hs26.out; have := hs27.out; have := hs28.out; have := hs29.out; have := hs30.out; have := hs31.out; have := hs32.out; have := hs33.out; omega)
          replace HQv : Hid (PR w34 _ _ _ _ _ _ _ _ _ _) := HQv.out.fr f (fun k hk => by have := hs24.out; have := hs25.out; have := hs26.out; have := hs27.out; have := hs28.out; have := hs29.out; have := hs30.out; have := hs31.out; have := hs32.out; have := hs33.out; omega)
          replace HPq : Hid (PR w34 _ _ _ _ _ _ _ _ _ _) := HPq.out.fr f (fun k hk => by have := hs24.out; have := hs25.out; have := hs26.out; have := hs27.out; have := hs28.out; have := hs29.out; have := hs30.out; have := hs31.out; have := hs32.out; have := hs33.out; omega)
          have HB34 : Hid (Below w23.heap.size w23 w34) := Below.of_fr HB33.out f (fun k hk => by have := hs24.out; have := hs25.out; have := hs26.out; have := hs27.out; have := hs28.out; have := hs29.out; have := hs30.out; have := hs31.out; have := hs32.out; have := hs33.out; omega) (Nat.le_refl _)
          have hs34 : Hid (w33.heap.size ≤ w34.heap.size) := f.size
          clear gi pr f HOp HPp
          go_wp2_with fail
          have HOq : Hid (Calls Try.prog 18 #[(.slice qa ll qc), .int .i64 (-200)] w34 (GrE w34 0 3 (.slice qa ll qc) ll (D.ws.map fun x => Value.int .i64 x.at_) (mkI (-200) 70))) := longer _ ll _ (-200) 0 w34 HPq.out.old (Nat.zero_le _) hllb (by omega)
          refine HOq.out.mono ?_
          rintro e w35 ⟨gqV, rfl, gi⟩
          obtain ⟨pr, f⟩ := HPq.out.grow gi
          obtain ⟨gqg, gqc, hgv, -⟩ := pr.mark (mkI_len (-200) 70)
          subst hgv
          have HQq : Hid (PR w35 3 w28.heap.size w29.heap.size w34.heap.size w35.heap.size (.slice qa ll qc) (.slice (some ⟨gqg, 0, none⟩) (ll + 70) gqc) ll (D.ws.map fun x => Value.int .i64 x.at_) (mkI (-200) 70)) := pr
          replace HQx : Hid (PR w35 _ _ _ _ _ _ _ _ _ _) := HQx.out.fr f (fun k hk => by have := hs24.out; have := hs25.out; have := hs26.out; have := hs27.out; have := hs28.out; have := hs29.out; have := hs30.out; have := hs31.out; have := hs32.out; have := hs33.out; have := hs34.out; omega)
          replace HQy : Hid (PR w35 _ _ _ _ _ _ _ _ _ _) := HQy.out.fr f (fun k hk => by have := hs24.out; have := hs25.out; have := hs26.out; have := hs27.out; have := hs28.out; have := hs29.out; have := hs30.out; have := hs31.out; have := hs32.out; have := hs33.out; have := hs34.out; omega)
          replace HQz : Hid (PR w35 _ _ _ _ _ _ _ _ _ _) := HQz.out.fr f (fun k hk => by have := hs24.out; have := hs25.out; have := hs26.out; have := hs27.out; have := hs28.out; have := hs29.out; have := hs30.out; have := hs31.out; have := hs32.out; have := hs33.out; have := hs34.out; omega)
          replace HQv : Hid (PR w35 _ _ _ _ _ _ _ _ _ _) := HQv.out.fr f (fun k hk => by have := hs24.out; have := hs25.out; have := hs26.out; have := hs27.out; have := hs28.out; have := hs29.out; have := hs30.out; have := hs31.out; have := hs32.out; have := hs33.out; have := hs34.out; omega)
          replace HQp : Hid (PR w35 _ _ _ _ _ _ _ _ _ _) := HQp.out.fr f (fun k hk => by have := hs24.out; have := hs25.out; have := hs26.out; have := hs27.out; have := hs28.out; have := hs29.out; have := hs30.out; have := hs31.out; have := hs32.out; have := hs33.out; have := hs34.out; omega)
          have HB35 : Hid (Below w23.heap.size w23 w35) := Below.of_fr HB34.out f (fun k hk => by have := hs24.out; have := hs25.out; have := hs26.out; have := hs27.out; have := hs28.out; have := hs29.out; have := hs30.out; have := hs31.out; have := hs32.out; have := hs33.out; have := hs34.out; omega) (Nat.le_refl _)
          have hs35 : Hid (w34.heap.size ≤ w35.heap.size) := f.size
          clear gi pr f HOq HPq
          go_wp2_with fail
          have HM : Hid (∀ wr, (∃ nq, wr = w35.drewN nq) → ∀ i : Nat, i < 70 → wr.cell? ⟨gxg, n + i, none⟩ = some (.int .u8 (1 + (i : Int))) ∧ wr.cell? ⟨gyg, n + i, none⟩ = some (.int .u8 (41 + (i : Int))) ∧ wr.cell? ⟨gzg, n + i, none⟩ = some (.int .u8 (81 + (i : Int))) ∧ wr.cell? ⟨gvg, n + i, none⟩ = some (.int .u8 (121 + (i : Int))) ∧ wr.cell? ⟨gpg, ll + i, none⟩ = some (.int .i64 (-100 - (i : Int))) ∧ wr.cell? ⟨gqg, ll + i, none⟩ = some (.int .i64 (-200 - (i : Int)))) := fun wr hw i hi => by
            obtain ⟨nq, rfl⟩ := hw
            obtain ⟨_, _, e1, m1⟩ := HQx.out.mark (mksl 1)
            obtain ⟨_, _, e2, m2⟩ := HQy.out.mark (mksl 41)
            obtain ⟨_, _, e3, m3⟩ := HQz.out.mark (mksl 81)
            obtain ⟨_, _, e4, m4⟩ := HQv.out.mark (mksl 121)
            obtain ⟨_, _, e5, m5⟩ := HQp.out.mark (mkI_len (-100) 70)
            obtain ⟨_, _, e6, m6⟩ := HQq.out.mark (mkI_len (-200) 70)
            cases e1; cases e2; cases e3; cases e4; cases e5; cases e6
            exact ⟨m1 i _ (mks_at 1 i hi (by omega)), m2 i _ (mks_at 41 i hi (by omega)), m3 i _ (mks_at 81 i hi (by omega)), m4 i _ (mks_at 121 i hi (by omega)), m5 i _ (mkI_at (-100) i hi), m6 i _ (mkI_at (-200) i hi)⟩
          go_loopw [35] (fun t wr => ∃ i : Nat, i ≤ 70 ∧ t = .int .i64 i ∧ Hid (∃ nq, wr = w35.drewN nq)) (fun t _ => 70 - (intOf t).toNat)
          case atStart => exact ⟨0, by omega, rfl, 0, rfl⟩
          case round =>
            obtain ⟨i, hi, rfl, HI⟩ := hrel
            by_cases hlt : i < 70
            · as_aux_lemma =>
              obtain ⟨m1, m2, m3, m4, m5, m6⟩ := HM.out wr HI.out i hlt
              obtain ⟨ni, hni⟩ : ∃ ni : Nat, n + i = ni := ⟨_, rfl⟩
              obtain ⟨li, hli⟩ : ∃ li : Nat, ll + i = li := ⟨_, rfl⟩
              rw [hni] at m1 m2 m3 m4
              rw [hli] at m5 m6
              have hs1 : (n : Int) + (i : Int) = (ni : Int) := by omega
              have hs2 : (ll : Int) + (i : Int) = (li : Int) := by omega
              have hb1 : (ni : Int) < (n : Int) + 70 := by omega
              have hb2 : (li : Int) < (ll : Int) + 70 := by omega
              have hb3 : (ni : Int) ≤ 1000000 := by omega
              have hb4 : (li : Int) ≤ 2000000 := by omega
              have hb5 : ni < n + 70 := by omega
              have hb6 : li < ll + 70 := by omega
              clear hni hli HM H23 HLI HN HNS HB35 HQx HQy HQz HQv HQp HQq hs24 hs25 hs26 hs27 hs28 hs29 hs30 hs31 hs32 hs33 hs34 hs35 HB23 HB24 HB25 HB26 HB27 HB28 HB29 HB30 HB31 HB32 HB33 HB34 htd hcap
              go_wp2
              refine ⟨⟨i + 1, by omega, by go_num, HI⟩, by simp [intOf]; omega⟩
            · as_aux_lemma =>
              have H36 : Hid (Below w35.heap.size w35 wr) := by obtain ⟨nq, rfl⟩ := HI.out; exact belowDrew _ _
              clear HI HM
              generalize wr = w36 at *
              replace HQx : Hid (PR w36 _ _ _ _ _ _ _ _ _ _) := HQx.out.fr (T := fun _ => True) (Fr.of_below H36.out) (fun _ _ => trivial)
              replace HQy : Hid (PR w36 _ _ _ _ _ _ _ _ _ _) := HQy.out.fr (T := fun _ => True) (Fr.of_below H36.out) (fun _ _ => trivial)
              replace HQz : Hid (PR w36 _ _ _ _ _ _ _ _ _ _) := HQz.out.fr (T := fun _ => True) (Fr.of_below H36.out) (fun _ _ => trivial)
              replace HQv : Hid (PR w36 _ _ _ _ _ _ _ _ _ _) := HQv.out.fr (T := fun _ => True) (Fr.of_below H36.out) (fun _ _ => trivial)
              replace HQp : Hid (PR w36 _ _ _ _ _ _ _ _ _ _) := HQp.out.fr (T := fun _ => True) (Fr.of_below H36.out) (fun _ _ => trivial)
              replace HQq : Hid (PR w36 _ _ _ _ _ _ _ _ _ _) := HQq.out.fr (T := fun _ => True) (Fr.of_below H36.out) (fun _ _ => trivial)
              have HCH : Hid (w23.heap.size ≤ w24.heap.size ∧ w24.heap.size ≤ w25.heap.size ∧ w25.heap.size ≤ w26.heap.size ∧ w26.heap.size ≤ w27.heap.size ∧ w27.heap.size ≤ w28.heap.size ∧ w28.heap.size ≤ w29.heap.size ∧ w29.heap.size ≤ w36.heap.size) := by
                have h36 := H36.out.size
                have q24 := hs24.out; have q25 := hs25.out; have q26 := hs26.out; have q27 := hs27.out; have q28 := hs28.out; have q29 := hs29.out; have q30 := hs30.out; have q31 := hs31.out; have q32 := hs32.out; have q33 := hs33.out; have q34 := hs34.out; have q35 := hs35.out
                exact ⟨by omega, by omega, by omega, by omega, by omega, by omega, by omega⟩
              have HB36 : Hid (Below w23.heap.size w23 w36) := HB35.out.trans (H36.out.mono HB35.out.size)
              have HX : Hid (OW 0 w36 (.slice (some ⟨xg, 0, none⟩) n xc) (img D.last D.ws) ∧ OW 0 w36 (.slice (some ⟨yg, 0, none⟩) n yc) D.last ∧ w36.ownsRow 0 3 1 (.slice pa ll pc) ll (D.ws.map fun x => Value.int .i64 x.at_) ∧ w36.ownsRow 0 3 1 (.slice qa ll qc) ll (D.ws.map fun x => Value.int .i64 x.at_) ∧ (w23.heap.size ≤ xg ∧ xg < w24.heap.size) ∧ (w24.heap.size ≤ yg ∧ yg < w25.heap.size) ∧ (w25.heap.size ≤ zg ∧ zg < w26.heap.size) ∧ (w26.heap.size ≤ vg ∧ vg < w27.heap.size) ∧ (∀ g, (Value.slice pa ll pc).ownBlock = some g → w27.heap.size ≤ g ∧ g < w28.heap.size) ∧ (∀ g, (Value.slice qa ll qc).ownBlock = some g → w28.heap.size ≤ g ∧ g < w29.heap.size)) := ⟨HQx.out.ow.1, HQy.out.ow.1, HQp.out.old, HQq.out.old, HQx.out.b0 xg rfl, HQy.out.b0 yg rfl, HQz.out.b0 zg rfl, HQv.out.b0 vg rfl, HQp.out.b0, HQq.out.b0⟩
              have HS2 : Hid (S2 w36 zg vg n zc vc w36) := ⟨⟨_, HQz.out.ow.2, HQz.out.ow.1⟩, ⟨_, HQv.out.ow.2, HQv.out.ow.1⟩, Fr.refl _ _, by have := HX.out; have := HCH.out; omega⟩
              clear HQx HQy HQz HQv HQp HQq HB23 HB24 HB25 HB26 HB27 HB28 HB29 HB30 HB31 HB32 HB33 HB34 HB35 H36
              clear hs24 hs25 hs26 hs27 hs28 hs29 hs30 hs31 hs32 hs33 hs34 hs35
              go_wp2
              go_loopw [36] (fun t wr => ∃ k : Nat, k ≤ n ∧ t = .int .i64 k ∧ Hid (S2 w36 zg vg n zc vc wr)) (fun t _ => n - (intOf t).toNat)
              case atStart => exact ⟨0, by omega, rfl, HS2⟩
              case round =>
                obtain ⟨k, hk, rfl, HK⟩ := hrel
                by_cases hlt2 : k < n
                · as_aux_lemma =>
                  obtain ⟨x1, x2, a0, a1, c0, c1, d1, d2, d3, d4, d5⟩ := HK.out.at k hlt2
                  have HD5 : Hid (∀ a b : Int, 0 ≤ a → a < 256 → 0 ≤ b → b < 256 → S2 w36 zg vg n zc vc ((wr.setCell ⟨zg, k, none⟩ (.int .u8 a)).setCell ⟨vg, k, none⟩ (.int .u8 b))) := d5
                  clear d5 HK
                  go_wp2
                  refine ⟨⟨k + 1, by omega, by go_num, HD5.out _ _ (by omega) (by omega) (by omega) (by omega)⟩, by simp [intOf]; omega⟩
                · as_aux_lemma =>
                  have H37 : Hid (Fr (fun k => k ≠ zg ∧ k ≠ vg) w36 wr) := HK.out.fr
                  clear HK HS2
                  generalize wr = w37 at *
                  replace HX : Hid (OW 0 w37 (.slice (some ⟨xg, 0, none⟩) n xc) (img D.last D.ws) ∧ OW 0 w37 (.slice (some ⟨yg, 0, none⟩) n yc) D.last ∧ w37.ownsRow 0 3 1 (.slice pa ll pc) ll (D.ws.map fun x => Value.int .i64 x.at_) ∧ Si w37 (.slice qa ll qc) ll w37 ∧ (w23.heap.size ≤ xg ∧ xg < w24.heap.size) ∧ (w24.heap.size ≤ yg ∧ yg < w25.heap.size) ∧ (∀ g, (Value.slice pa ll pc).ownBlock = some g → w27.heap.size ≤ g ∧ g < w28.heap.size) ∧ (∀ g, (Value.slice qa ll qc).ownBlock = some g → w28.heap.size ≤ g ∧ g < w29.heap.size) ∧ w29.heap.size ≤ w37.heap.size ∧ Below w23.heap.size w23 w37) := by
                    have hx := HX.out
                    have hc := HCH.out
                    have hsz := H37.out.size
                    refine ⟨ownsRow_fr hx.1 H37.out (fun g hg => ?_), ownsRow_fr hx.2.1 H37.out (fun g hg => ?_), ownsRow_fr hx.2.2.1 H37.out (fun g hg => ?_), ⟨⟨_, ownsRow_fr hx.2.2.2.1 H37.out (fun g hg => ?_)⟩, Fr.refl _ _⟩, hx.2.2.2.2.1, hx.2.2.2.2.2.1, hx.2.2.2.2.2.2.2.2.1, hx.2.2.2.2.2.2.2.2.2, by omega, Below.of_fr HB36.out H37.out (fun k hk => by omega) (Nat.le_refl _)⟩
                    · have e : xg = g := by simpa [Value.ownBlock] using hg
                      omega
                    · have e : yg = g := by simpa [Value.ownBlock] using hg
                      omega
                    · have := hx.2.2.2.2.2.2.2.2.1 g hg
                      omega
                    · have := hx.2.2.2.2.2.2.2.2.2 g hg
                      omega
                  clear H37 HB36
                  go_wp2
                  go_loopw [37] (fun t wr => ∃ k : Nat, k ≤ ll ∧ t = .int .i64 k ∧ Hid (Si w37 (.slice qa ll qc) ll wr)) (fun t _ => ll - (intOf t).toNat)
                  case atStart => exact ⟨0, by omega, rfl, HX.out.2.2.2.1⟩
                  case round =>
                    obtain ⟨k, hk, rfl, HK⟩ := hrel
                    by_cases hlt3 : k < ll
                    · as_aux_lemma =>
                      obtain ⟨qg, hqa⟩ : ∃ qg, qa = some ⟨qg, 0, none⟩ := by
                        obtain ⟨xs, ho⟩ := HK.out.ow
                        rcases ho.2 with ⟨_, h0⟩ | ⟨g, cp, cur, e, _⟩
                        · omega
                        · cases e; exact ⟨g, rfl⟩
                      subst hqa
                      obtain ⟨⟨x, d1⟩, d2, d3⟩ := HK.out.at k hlt3
                      have HD3 : Hid (∀ z : Value, Si w37 (.slice (some ⟨qg, 0, none⟩) ll qc) ll (wr.setCell ⟨qg, k, none⟩ z)) := d3
                      clear d3 HK
                      go_wp2
                      refine ⟨⟨k + 1, by omega, by go_num, HD3.out _⟩, by simp [intOf]; omega⟩
                    · as_aux_lemma =>
                      have H38 : Hid (Fr (fun k => (Value.slice qa ll qc).ownBlock ≠ some k) w37 wr) := HK.out.fr
                      clear HK
                      generalize wr = w38 at *
                      have HY : Hid (OW 0 w38 (.slice (some ⟨xg, 0, none⟩) n xc) (img D.last D.ws) ∧ OW 0 w38 (.slice (some ⟨yg, 0, none⟩) n yc) D.last ∧ w38.ownsRow 0 3 1 (.slice pa ll pc) ll (D.ws.map fun x => Value.int .i64 x.at_) ∧ (w23.heap.size ≤ xg ∧ xg < w38.heap.size) ∧ (w23.heap.size ≤ yg ∧ yg < w38.heap.size) ∧ (∀ g, (Value.slice pa ll pc).ownBlock = some g → g < w38.heap.size) ∧ Below w23.heap.size w23 w38) := by
                        have hx := HX.out
                        have hc := HCH.out
                        have hsz := H38.out.size
                        have hq := hx.2.2.2.2.2.2.2.1
                        have ha : ∀ g, (Value.slice (some ⟨xg, 0, none⟩) n xc).ownBlock = some g → xg = g := fun g hg => by simpa [Value.ownBlock] using hg
                        have hb : ∀ g, (Value.slice (some ⟨yg, 0, none⟩) n yc).ownBlock = some g → yg = g := fun g hg => by simpa [Value.ownBlock] using hg
                        refine ⟨ownsRow_fr hx.1 H38.out (fun g hg e => ?_), ownsRow_fr hx.2.1 H38.out (fun g hg e => ?_), ownsRow_fr hx.2.2.1 H38.out (fun g hg e => ?_), by omega, by omega, fun g hg => ?_, Below.of_fr hx.2.2.2.2.2.2.2.2.2 H38.out (fun k hk e => ?_) (Nat.le_refl _)⟩
                        · have := ha g hg; have := hq g e; omega
                        · have := hb g hg; have := hq g e; omega
                        · have := hx.2.2.2.2.2.2.1 g hg; have := hq g e; omega
                        · have := hx.2.2.2.2.2.2.1 g hg; omega
                        · have := hq k e; omega
                      clear HX H38 HCH
                      go_wp2
                      obtain ⟨i22, hi22, hz0, hz1, hz2⟩ := info_parts infoBy
                      have HF22 : Hid (Try.prog.info? 22 = some i22 ∧ i22.zero = some (.slice none 0 0) ∧ i22.size = 1 ∧ i22.bytes = 24) := ⟨hi22, hz0, hz1, hz2⟩
                      clear hi22 hz0 hz1 hz2
                      go_loopw [38, 39, 40] (fun a b t wr => ∃ i : Nat, i ≤ ns ∧ t = .int .i64 i ∧ Hid (∃ Z ur us, RIu w38 D a b i Z ur us wr)) (fun _ _ t _ => ns - (intOf t).toNat)
                      case atStart => exact ⟨0, by omega, rfl, _, _, _, RIu.start w38 D⟩
                      case round =>
                        obtain ⟨i4, hi4, rfl, HI4⟩ := hrel
                        obtain ⟨Z, ur, us4, hri⟩ := HI4.out
                        obtain ⟨ra, rcp, hra⟩ := ownsRow_form hri.rs.2.1
                        obtain ⟨sa, scp, hsa⟩ := ownsRow_form hri.ss.2.1
                        subst hra hsa
                        have HRI : Hid (RIu w38 D (.slice ra i4 rcp) (.slice sa i4 scp) i4 Z ur us4 wr) := hri
                        clear hri HI4
                        by_cases hlt4 : i4 < ns
                        · as_aux_lemma =>
                          have HDR : Hid (DK (fun k => k < w23.heap.size) wr p D ∧ 64 * i4 + 64 ≤ D.last.length ∧ (seen D i4).length = 64) := by
                            have h1 : DK (fun k => k < w23.heap.size) wr p D := H23.out.1.low (HY.out.2.2.2.2.2.2.trans (HRI.out.bl.mono HY.out.2.2.2.2.2.2.size))
                            have h2 : 64 * i4 + 64 ≤ D.last.length := by have := HLI.out.2; have := HNS.out.1; omega
                            exact ⟨h1, h2, seen_len h1 i4 h2⟩
                          go_wp2_with fail
                          refine (read (D := D) HDR.out.1 i4 HDR.out.2.1).mono ?_
                          rintro e wa ⟨rV, rfl, or_, ba⟩
                          obtain ⟨rg, rc, hrv⟩ := or_.nonempty (by rw [HDR.out.2.2]; omega)
                          rw [HDR.out.2.2] at hrv
                          subst hrv
                          have HA4 : Hid (OW wr.heap.size wa (.slice (some ⟨rg, 0, none⟩) 64 rc) (seen D i4) ∧ Below wr.heap.size wr wa) := ⟨or_, ba⟩
                          clear or_ ba
                          go_wp2_with fail
                          refine (read (D := D) (HDR.out.1.fr (Fr.of_below HA4.out.2)) i4 HDR.out.2.1).mono ?_
                          rintro e wb ⟨sV, rfl, os_, bb⟩
                          obtain ⟨sg, sc, hsv⟩ := os_.nonempty (by rw [HDR.out.2.2]; omega)
                          rw [HDR.out.2.2] at hsv
                          subst hsv
                          have bX : Below wb.heap.size wb (wb.alloc (.cells #[.slice (some ⟨rg, 0, none⟩) 64 rc] 22)) := (Below.refl _ _).alloc (Nat.le_refl _) _
                          have HB4 : Hid (OW wa.heap.size wb (.slice (some ⟨sg, 0, none⟩) 64 sc) (seen D i4) ∧ Below wa.heap.size wa wb ∧ Below wb.heap.size wb (wb.alloc (.cells #[.slice (some ⟨rg, 0, none⟩) 64 rc] 22))) := ⟨os_, bb, bX⟩
                          have hcr := cellNew wb (.slice (some ⟨rg, 0, none⟩) 64 rc) 22
                          have HRX : Hid ((wb.alloc (.cells #[.slice (some ⟨rg, 0, none⟩) 64 rc] 22)).ownsRow w38.heap.size 22 1 (.slice ra i4 rcp) i4 ur ∧ (wb.alloc (.cells #[.slice (some ⟨rg, 0, none⟩) 64 rc] 22)).ownsRow w38.heap.size 22 1 (.slice sa i4 scp) i4 us4 ∧ w38.heap.size ≤ (wb.alloc (.cells #[.slice (some ⟨rg, 0, none⟩) 64 rc] 22)).heap.size) := by
                            have bwx : Below wr.heap.size wr (wb.alloc (.cells #[.slice (some ⟨rg, 0, none⟩) 64 rc] 22)) := HA4.out.2.trans ((bb.trans (bX.mono bb.size)).mono HA4.out.2.size)
                            exact ⟨(HRI.out.rs.below bwx).2.1, (HRI.out.ss.below bwx).2.1, Nat.le_trans HRI.out.bl.size bwx.size⟩
                          clear os_ bb bX
                          have hi4b : i4 ≤ 512 := by omega
                          go_wp2_with (first | (at_builtin; refine append_both i22 _ 24 rfl _ _ rfl Try.underlying42 HF22.out.1 HF22.out.2.1 HF22.out.2.2.1 HF22.out.2.2.2 rfl rfl HRX.out.1 wb.heap.size _ rfl hcr rfl HRX.out.2.2 (by unfold maxLen; omega) (by omega) ?_; intro rv' wc q1 q2 q3 q4; have bY : Below wc.heap.size wc (wc.alloc (.cells #[.slice (some ⟨sg, 0, none⟩) 64 sc] 22)) := (Below.refl _ _).alloc (Nat.le_refl _) _; have HSY : Hid ((wc.alloc (.cells #[.slice (some ⟨sg, 0, none⟩) 64 sc] 22)).ownsRow w38.heap.size 22 1 (.slice sa i4 scp) i4 us4 ∧ w38.heap.size ≤ (wc.alloc (.cells #[.slice (some ⟨sg, 0, none⟩) 64 sc] 22)).heap.size) := ⟨ownsRow_fr (S := fun _ => True) (q2 _ _ _ _ HRX.out.2.1 (fun _ => Nat.le_refl _)) (Fr.of_below bY) (fun _ _ => trivial), Nat.le_trans HRX.out.2.2 (Nat.le_trans q3.size bY.size)⟩; have hcs := cellNew wc (.slice (some ⟨sg, 0, none⟩) 64 sc) 22; have HQ4 : Hid (wc.ownsRow w38.heap.size 22 1 rv' (i4 + 1) (ur ++ [.slice (some ⟨rg, 0, none⟩) 64 rc]) ∧ (wb.alloc (.cells #[.slice (some ⟨rg, 0, none⟩) 64 rc] 22)).grownBy wc (Value.slice ra i4 rcp).ownBlock ∧ (rv'.ownBlock = (Value.slice ra i4 rcp).ownBlock ∨ ∀ g, rv'.ownBlock = some g → (wb.alloc (.cells #[.slice (some ⟨rg, 0, none⟩) 64 rc] 22)).heap.size ≤ g) ∧ Below wc.heap.size wc (wc.alloc (.cells #[.slice (some ⟨sg, 0, none⟩) 64 sc] 22))) := ⟨q1, q3, q4, bY⟩; clear q1 q2 q3 q4 bY) | (at_builtin; refine append_both i22 _ 24 rfl _ _ rfl Try.underlying42 HF22.out.1 HF22.out.2.1 HF22.out.2.2.1 HF22.out.2.2.2 rfl rfl HSY.out.1 wc.heap.size _ rfl hcs rfl HSY.out.2 (by unfold maxLen; omega) (by omega) ?_; intro sv' wd p1 p2 p3 p4))
                          have HZ4 : Hid (∃ Z ur us, RIu w38 D rv' sv' (i4 + 1) Z ur us wd) := ⟨_, _, _, HRI.out.step HA4.out.1 HDR.out.2.2 HA4.out.2 HB4.out.1 HDR.out.2.2 HB4.out.2.1 HB4.out.2.2 HQ4.out.1 HQ4.out.2.1 HQ4.out.2.2.1 HQ4.out.2.2.2 p1 p3 p4⟩
                          clear p1 p2 p3 p4
                          refine ⟨⟨i4 + 1, by omega, by go_num, HZ4⟩, by simp [intOf]; omega⟩
                        · as_aux_lemma =>
                          obtain rfl : i4 = ns := by omega
                          have HR0 : Hid (RZ w38 D (.slice ra i4 rcp) (.slice sa i4 scp) i4 Z wr) := HRI.out.rz
                          clear HRI
                          generalize wr = w39 at *
                          go_wp2
                          go_loopw [45] (fun t wr => ∃ j : Nat, j ≤ i4 ∧ t = .int .i64 j ∧ Hid (RZ w38 D (.slice ra i4 rcp) (.slice sa i4 scp) i4 Z wr)) (fun t _ => i4 - (intOf t).toNat)
                          case atStart => exact ⟨0, by omega, rfl, HR0⟩
                          case round =>
                            obtain ⟨j, hj, rfl, HJ⟩ := hrel
                            by_cases hlt5 : j < i4
                            · as_aux_lemma =>
                              generalize wr = wj at *
                              go_wp2
                              go_loopw [46] (fun t wr => ∃ k : Nat, k ≤ 64 ∧ t = .int .i64 k ∧ Hid (RZ w38 D (.slice ra i4 rcp) (.slice sa i4 scp) i4 Z wr)) (fun t _ => 64 - (intOf t).toNat)
                              case atStart => exact ⟨0, by omega, rfl, HJ⟩
                              case round =>
                                obtain ⟨k, hk, rfl, HK⟩ := hrel
                                by_cases hlt6 : k < 64
                                · as_aux_lemma =>
                                  obtain ⟨sg0, sg, scp2, hsa, hne0, hcl, hcp, hat⟩ := HK.out.at j hlt5
                                  subst hsa
                                  obtain ⟨x, hx0, hx1, hcx, hfx, hsx⟩ := hat k hlt6
                                  have HSX : Hid (∀ z : Int, 0 ≤ z → z < 256 → RZ w38 D (.slice ra i4 rcp) (.slice (some ⟨sg0, 0, none⟩) i4 scp) i4 Z (wr.setCell ⟨sg, k, none⟩ (.int .u8 z))) := hsx
                                  clear hat hsx HK
                                  have hcx2 : wr.drew.cell? ⟨sg, k, none⟩ = some (.int .u8 x) := hcx
                                  have hfx2 : wr.drew.frozen? ⟨sg, k, none⟩ = false := hfx
                                  go_wp2
                                  refine wp_region_held_drew (S := fun u => u.cell? ⟨sg0, j, none⟩ = some (.slice (some ⟨sg, 0, none⟩) 64 scp2)) (by kernel_rfl) (hcl) (fun hHeld => ?_)
                                  refine wpAnyH_take (i := 0) (v := .slice (some ⟨sg0, 0, none⟩) i4 scp) rfl (by kernel_rfl) (by kernel_rfl) (by kernel_rfl) (fun _ _ _ h => h) (Or.inl ⟨by rfl, fun w hw => by go_simp⟩) hHeld ?_
                                  simp only [Act.put, List.getElem_toArray, List.getElem_cons_zero, List.setIfInBounds_toArray, List.set_cons_zero, List.set_cons_succ]
                                  refine wpAnyH_take (i := 1) (v := .int .i64 j) rfl (by kernel_rfl) (by kernel_rfl) (by kernel_rfl) (fun _ _ _ h => h) (Or.inl ⟨by rfl, fun w hw => by go_simp⟩) hHeld ?_
                                  simp only [Act.put, List.getElem_toArray, List.getElem_cons_zero, List.getElem_cons_succ, List.setIfInBounds_toArray, List.set_cons_zero, List.set_cons_succ]
                                  refine wpAnyH_take (i := 2) (v := .pointer (some ⟨sg0, j, none⟩)) rfl (by kernel_rfl) (by kernel_rfl) (by kernel_rfl) (fun _ _ _ h => h) (Or.inl ⟨by rfl, fun w hw => by go_simp⟩) hHeld ?_
                                  simp only [Act.put, List.getElem_toArray, List.getElem_cons_zero, List.getElem_cons_succ, List.setIfInBounds_toArray, List.set_cons_zero, List.set_cons_succ]
                                  refine wpAnyH_take (i := 3) (v := .slice (some ⟨sg, 0, none⟩) 64 scp2) rfl (by kernel_rfl) (by kernel_rfl) (by kernel_rfl) (fun _ _ _ h => h) (Or.inl ⟨by rfl, fun w hw => by have hw2 : w.cell? ⟨sg0, j, none⟩ = _ := hw; go_simp⟩) hHeld ?_
                                  simp only [Act.put, List.getElem_toArray, List.getElem_cons_zero, List.getElem_cons_succ, List.setIfInBounds_toArray, List.set_cons_zero, List.set_cons_succ]
                                  refine wpAnyH_take (i := 4) (v := .int .i64 k) rfl (by kernel_rfl) (by kernel_rfl) (by kernel_rfl) (fun _ _ _ h => h) (Or.inl ⟨by rfl, fun w hw => by go_simp⟩) hHeld ?_
                                  simp only [Act.put, List.getElem_toArray, List.getElem_cons_zero, List.getElem_cons_succ, List.setIfInBounds_toArray, List.set_cons_zero, List.set_cons_succ]
                                  refine wpAnyH_take (i := 5) (v := .slice (some ⟨sg0, 0, none⟩) i4 scp) rfl (by kernel_rfl) (by kernel_rfl) (by kernel_rfl) (fun _ _ _ h => h) (Or.inl ⟨by rfl, fun w hw => by go_simp⟩) hHeld ?_
                                  simp only [Act.put, List.getElem_toArray, List.getElem_cons_zero, List.getElem_cons_succ, List.setIfInBounds_toArray, List.set_cons_zero, List.set_cons_succ]
                                  refine wpAnyH_take (i := 6) (v := .int .i64 j) rfl (by kernel_rfl) (by kernel_rfl) (by kernel_rfl) (fun _ _ _ h => h) (Or.inl ⟨by rfl, fun w hw => by go_simp⟩) hHeld ?_
                                  simp only [Act.put, List.getElem_toArray, List.getElem_cons_zero, List.getElem_cons_succ, List.setIfInBounds_toArray, List.set_cons_zero, List.set_cons_succ]
                                  refine wpAnyH_take (i := 7) (v := .pointer (some ⟨sg0, j, none⟩)) rfl (by kernel_rfl) (by kernel_rfl) (by kernel_rfl) (fun _ _ _ h => h) (Or.inl ⟨by rfl, fun w hw => by go_simp⟩) hHeld ?_
                                  simp only [Act.put, List.getElem_toArray, List.getElem_cons_zero, List.getElem_cons_succ, List.setIfInBounds_toArray, List.set_cons_zero, List.set_cons_succ]
                                  refine wpAnyH_take (i := 8) (v := .slice (some ⟨sg, 0, none⟩) 64 scp2) rfl (by kernel_rfl) (by kernel_rfl) (by kernel_rfl) (fun _ _ _ h => h) (Or.inl ⟨by rfl, fun w hw => by have hw2 : w.cell? ⟨sg0, j, none⟩ = _ := hw; go_simp⟩) hHeld ?_
                                  simp only [Act.put, List.getElem_toArray, List.getElem_cons_zero, List.getElem_cons_succ, List.setIfInBounds_toArray, List.set_cons_zero, List.set_cons_succ]
                                  refine wpAnyH_take (i := 9) (v := .int .i64 k) rfl (by kernel_rfl) (by kernel_rfl) (by kernel_rfl) (fun _ _ _ h => h) (Or.inl ⟨by rfl, fun w hw => by go_simp⟩) hHeld ?_
                                  simp only [Act.put, List.getElem_toArray, List.getElem_cons_zero, List.getElem_cons_succ, List.setIfInBounds_toArray, List.set_cons_zero, List.set_cons_succ]
                                  refine wpAnyH_take (i := 10) (v := .pointer (some ⟨sg, k, none⟩)) rfl (by kernel_rfl) (by kernel_rfl) (by kernel_rfl) (fun _ _ _ h => h) (Or.inl ⟨by rfl, fun w hw => by go_simp⟩) hHeld ?_
                                  simp only [Act.put, List.getElem_toArray, List.getElem_cons_zero, List.getElem_cons_succ, List.setIfInBounds_toArray, List.set_cons_zero, List.set_cons_succ]
                                  refine wpAnyH_ready (rs := [11]) (by kernel_rfl) (by simp) ?_
                                  refine AllReadyH.cons (o := _) rfl (fun K hK => ?_) AllReadyH.nil
                                  go_simp
                                  refine hK.out _ _ (by first | exact hHeld | exact (World.cell?_of_block (setCell_other hne0)).trans hHeld) (fun hHeld => ?_)
                                  clear hK K
                                  refine wpAnyH_take (i := 12) (v := .int .u8 ((x + 5) % 256)) rfl (by kernel_rfl) (by kernel_rfl) (by kernel_rfl) (fun _ _ _ h => h) (Or.inl ⟨by rfl, fun w hw => by go_simp; exact u8w _⟩) hHeld ?_
                                  simp only [Act.put, List.getElem_toArray, List.getElem_cons_zero, List.getElem_cons_succ, List.setIfInBounds_toArray, List.set_cons_zero, List.set_cons_succ]
                                  refine wpAnyH_take (i := 13) (v := .pointer (some ⟨sg, k, none⟩)) rfl (by kernel_rfl) (by kernel_rfl) (by kernel_rfl) (fun _ _ _ h => h) (Or.inl ⟨by rfl, fun w hw => by go_simp⟩) hHeld ?_
                                  simp only [Act.put, List.getElem_toArray, List.getElem_cons_zero, List.getElem_cons_succ, List.setIfInBounds_toArray, List.set_cons_zero, List.set_cons_succ]
                                  refine wpAnyH_ready (rs := [14]) (by kernel_rfl) (by simp) ?_
                                  refine AllReadyH.cons (o := _) rfl (fun K hK => ?_) AllReadyH.nil
                                  go_simp
                                  refine hK.out _ _ (by first | exact hHeld | exact (World.cell?_of_block (setCell_other hne0)).trans hHeld) (fun hHeld => ?_)
                                  clear hK K
                                  refine wpAnyH_done (by kernel_rfl) ?_ _
                                  go_wp2
                                  refine ⟨⟨k + 1, by omega, by go_num, (HSX.out _ (by omega) (by omega)).drew0⟩, by simp [intOf]; omega⟩
                                · as_aux_lemma =>
                                  have HJ2 : Hid (RZ w38 D (.slice ra i4 rcp) (.slice sa i4 scp) i4 Z wr) := HK
                                  clear HK
                                  go_wp2
                                  refine ⟨⟨j + 1, by omega, by go_num, HJ2⟩, by simp [intOf]; omega⟩
                            · as_aux_lemma =>
                              have HR1 : Hid (LLs wr w38.heap.size (.slice ra i4 rcp) i4 (fun j g l => ¬ Z g ∧ l = seen D j) ∧ Below w38.heap.size w38 wr) := ⟨HJ.out.rs, HJ.out.bl⟩
                              clear HJ HR0
                              generalize wr = w40 at *
                              go_wp2
                              go_loopw [47] (fun t wr => ∃ j : Nat, j ≤ i4 ∧ t = .int .i64 j ∧ Hid (Below w40.heap.size w40 wr)) (fun t _ => i4 - (intOf t).toNat)
                              case atStart => exact ⟨0, by omega, rfl, Below.refl _ _⟩
                              case round =>
                                obtain ⟨j, hj, rfl, HJ⟩ := hrel
                                by_cases hlt7 : j < i4
                                · as_aux_lemma =>
                                  obtain ⟨rg0, rg, rcp2, lj, hra, hcl, hl64, hoj, hzj, hlj⟩ := HR1.out.1.at j hlt7
                                  subst hra
                                  have HCJ : Hid (DK (fun k => k < w23.heap.size) wr pcd D ∧ 64 * j + 64 ≤ D.last.length ∧ RB wr (.slice (some ⟨rg, 0, none⟩) 64 rcp2) (seen D j) ∧ (seen D j).length = 64) := by
                                    have hb : Below w23.heap.size w23 wr := (HY.out.2.2.2.2.2.2.trans (HR1.out.2.mono HY.out.2.2.2.2.2.2.size)).trans (HJ.out.mono (Nat.le_trans HY.out.2.2.2.2.2.2.size HR1.out.2.size))
                                    have h2 : 64 * j + 64 ≤ D.last.length := by have := HLI.out.2; have := HNS.out.1; omega
                                    rw [hlj] at hoj hl64
                                    exact ⟨H23.out.2.1.low hb, h2, (hoj.grow HJ.out).rb, hl64⟩
                                  have hcl' : wr.cell? ⟨rg0, j, none⟩ = some (.slice (some ⟨rg, 0, none⟩) 64 rcp2) := (World.cell?_of_block (w := w40) (HJ.out.block rg0 (World.block_lt_of_cell? w40 _ hcl))).trans hcl
                                  clear hoj hzj hlj hl64 hcl
                                  go_wp2_with fail
                                  refine (read (D := D) HCJ.out.1 j HCJ.out.2.1).mono ?_
                                  rintro e wt ⟨tV, rfl, ot, bt⟩
                                  have hcl2 : wt.cell? ⟨rg0, j, none⟩ = some (.slice (some ⟨rg, 0, none⟩) 64 rcp2) := (World.cell?_of_block (w := wr) (bt.block rg0 (World.block_lt_of_cell? wr _ hcl'))).trans hcl'
                                  have HTJ : Hid (RB wt tV (seen D j) ∧ RB wt (.slice (some ⟨rg, 0, none⟩) 64 rcp2) (seen D j) ∧ Below w40.heap.size w40 wt) := ⟨ot.rb, HCJ.out.2.2.1.keep bt, HJ.out.trans (bt.mono HJ.out.size)⟩
                                  clear ot bt hcl'
                                  go_wp2_with fail
                                  refine (same _ _ (seen D j) wt (by rw [HCJ.out.2.2.2]; omega) HTJ.out.2.1 HTJ.out.1).mono ?_
                                  rintro e wu ⟨rfl, nu, hwu⟩
                                  have HUJ : Hid (Below w40.heap.size w40 wu) := by rw [hwu]; exact HTJ.out.2.2.trans ((belowDrew _ _).mono HTJ.out.2.2.size)
                                  clear hwu HTJ
                                  go_wp2
                                  refine ⟨⟨j + 1, by omega, by go_num, HUJ⟩, by simp [intOf]; omega⟩
                                · as_aux_lemma =>
                                  have HB41 : Hid (Below w38.heap.size w38 wr) := HR1.out.2.trans (HJ.out.mono HR1.out.2.size)
                                  clear HJ HR1
                                  generalize wr = w41 at *
                                  have HX41 : Hid (RB w41 (.slice (some ⟨xg, 0, none⟩) n xc) (img D.last D.ws) ∧ RB w41 (.slice (some ⟨yg, 0, none⟩) n yc) D.last ∧ RN w41 (.slice pa ll pc) (D.ws.map (·.at_)) ∧ DK (fun k => k < w23.heap.size) w41 p D ∧ DK (fun k => k < w23.heap.size) w41 pcd D ∧ Below w.heap.size w w41 ∧ (D.ws.map (·.at_)).length ≤ 1048576 ∧ D.ws.length ≤ 1048576) := by
                                    have hb : Below w23.heap.size w23 w41 := HY.out.2.2.2.2.2.2.trans (HB41.out.mono HY.out.2.2.2.2.2.2.size)
                                    have hp : w41.ownsRow 0 3 1 (.slice pa ll pc) ll (D.ws.map fun x => Value.int .i64 x.at_) := ownsRow_fr (S := fun _ => True) HY.out.2.2.1 (Fr.of_below HB41.out) (fun _ _ => trivial)
                                    have hl : D.ws.length = ll := H23.out.2.2.2.2.1
                                    refine ⟨(HY.out.1.grow HB41.out).rb, (HY.out.2.1.grow HB41.out).rb, rn_of (by rw [hl]; exact hp), H23.out.1.low hb, H23.out.2.1.low hb, H23.out.2.2.1.trans (hb.mono H23.out.2.2.1.size), by rw [List.length_map, hl]; exact hllb, by rw [hl]; exact hllb⟩
                                  clear HB41 HY
                                  go_wp2_with fail
                                  have HC41 : Hid (Below w41.heap.size w41 w41) := Below.refl _ _
                                  refine (image (D := D) (HX41.out.2.2.2.2.1.below HC41.out)).mono ?_
                                  rintro e w42 ⟨f42, rfl, o42, b42⟩
                                  have HC42 : Hid (Below w41.heap.size w41 w42 ∧ RB w42 f42 (img D.last D.ws)) := ⟨HC41.out.trans (b42.mono HC41.out.size), o42.rb⟩
                                  clear o42 b42
                                  go_wp2_with fail
                                  refine (same _ _ (img D.last D.ws) w42 (by first | (rw [HLI.out.1]; omega) | (rw [HLI.out.2]; omega)) (HX41.out.1.keep HC42.out.1) HC42.out.2).mono ?_
                                  rintro e w43 ⟨rfl, n43, hw43⟩
                                  have HC43 : Hid (Below w41.heap.size w41 w43) := by rw [hw43]; exact HC42.out.1.trans ((belowDrew _ _).mono HC42.out.1.size)
                                  clear hw43 HC42
                                  go_wp2_with fail
                                  refine (durable (D := D) (HX41.out.2.2.2.2.1.below HC43.out)).mono ?_
                                  rintro e w44 ⟨f44, rfl, o44, b44⟩
                                  have HC44 : Hid (Below w41.heap.size w41 w44 ∧ RB w44 f44 (D.last)) := ⟨HC43.out.trans (b44.mono HC43.out.size), o44.rb⟩
                                  clear o44 b44
                                  go_wp2_with fail
                                  refine (same _ _ (D.last) w44 (by first | (rw [HLI.out.1]; omega) | (rw [HLI.out.2]; omega)) (HX41.out.2.1.keep HC44.out.1) HC44.out.2).mono ?_
                                  rintro e w45 ⟨rfl, n45, hw45⟩
                                  have HC45 : Hid (Below w41.heap.size w41 w45) := by rw [hw45]; exact HC44.out.1.trans ((belowDrew _ _).mono HC44.out.1.size)
                                  clear hw45 HC44
                                  go_wp2_with fail
                                  refine (pending (D := D) (HX41.out.2.2.2.2.1.below HC45.out) (by have := HX41.out.2.2.2.2.2.2.2; omega)).mono ?_
                                  rintro e w46 ⟨f46, rfl, o46, b46⟩
                                  have HC46 : Hid (Below w41.heap.size w41 w46 ∧ RN w46 f46 (D.ws.map (·.at_))) := ⟨HC45.out.trans (b46.mono HC45.out.size), rn_of o46⟩
                                  clear o46 b46
                                  go_wp2_with fail
                                  refine (intsame _ _ (D.ws.map (·.at_)) w46 (by have := HX41.out.2.2.2.2.2.2.1; omega) (HX41.out.2.2.1.keep HC46.out.1) HC46.out.2).mono ?_
                                  rintro e w47 ⟨rfl, n47, hw47⟩
                                  have HC47 : Hid (Below w41.heap.size w41 w47) := by rw [hw47]; exact HC46.out.1.trans ((belowDrew _ _).mono HC46.out.1.size)
                                  clear hw47 HC46
                                  go_wp2_with fail
                                  refine (image (D := D) (HX41.out.2.2.2.1.below HC47.out)).mono ?_
                                  rintro e w48 ⟨f48, rfl, o48, b48⟩
                                  have HC48 : Hid (Below w41.heap.size w41 w48 ∧ RB w48 f48 (img D.last D.ws)) := ⟨HC47.out.trans (b48.mono HC47.out.size), o48.rb⟩
                                  clear o48 b48
                                  go_wp2_with fail
                                  refine (same _ _ (img D.last D.ws) w48 (by first | (rw [HLI.out.1]; omega) | (rw [HLI.out.2]; omega)) HC48.out.2 (HX41.out.1.keep HC48.out.1)).mono ?_
                                  rintro e w49 ⟨rfl, n49, hw49⟩
                                  have HC49 : Hid (Below w41.heap.size w41 w49) := by rw [hw49]; exact HC48.out.1.trans ((belowDrew _ _).mono HC48.out.1.size)
                                  clear hw49 HC48
                                  go_wp2_with fail
                                  refine (durable (D := D) (HX41.out.2.2.2.1.below HC49.out)).mono ?_
                                  rintro e w50 ⟨f50, rfl, o50, b50⟩
                                  have HC50 : Hid (Below w41.heap.size w41 w50 ∧ RB w50 f50 (D.last)) := ⟨HC49.out.trans (b50.mono HC49.out.size), o50.rb⟩
                                  clear o50 b50
                                  go_wp2_with fail
                                  refine (same _ _ (D.last) w50 (by first | (rw [HLI.out.1]; omega) | (rw [HLI.out.2]; omega)) HC50.out.2 (HX41.out.2.1.keep HC50.out.1)).mono ?_
                                  rintro e w51 ⟨rfl, n51, hw51⟩
                                  have HC51 : Hid (Below w41.heap.size w41 w51) := by rw [hw51]; exact HC50.out.1.trans ((belowDrew _ _).mono HC50.out.1.size)
                                  clear hw51 HC50
                                  go_wp2_with fail
                                  refine (pending (D := D) (HX41.out.2.2.2.1.below HC51.out) (by have := HX41.out.2.2.2.2.2.2.2; omega)).mono ?_
                                  rintro e w52 ⟨f52, rfl, o52, b52⟩
                                  have HC52 : Hid (Below w41.heap.size w41 w52 ∧ RN w52 f52 (D.ws.map (·.at_))) := ⟨HC51.out.trans (b52.mono HC51.out.size), rn_of o52⟩
                                  clear o52 b52
                                  go_wp2_with fail
                                  refine (intsame _ _ (D.ws.map (·.at_)) w52 (by have := HX41.out.2.2.2.2.2.2.1; omega) HC52.out.2 (HX41.out.2.2.1.keep HC52.out.1)).mono ?_
                                  rintro e w53 ⟨rfl, n53, hw53⟩
                                  have HC53 : Hid (Below w41.heap.size w41 w53) := by rw [hw53]; exact HC52.out.1.trans ((belowDrew _ _).mono HC52.out.1.size)
                                  clear hw53 HC52
                                  go_wp2
                                  go_ret
                                  exact ⟨rfl, HX41.out.2.2.2.2.2.1.trans (HC53.out.mono HX41.out.2.2.2.2.2.1.size)⟩
end Go.Proofs.Ytkagcefboahgkaa
