import Derived.Test.YtglknmelcianjaaCz
import Derived.Deep.RegionHeld3
namespace Go.Proofs.Ytglknmelcianjaa
open Go.RowKit
theorem RB.fr' {S : Nat → Prop} {w w' : World} {v : Value} {l : List UInt8} (h : RB w v l) (hf : Fr S w w') (hs : ∀ g, v.ownBlock = some g → l ≠ [] → S g) : RB w' v l := by
  by_cases hl : l = []
  · obtain ⟨a, c, rfl, hle, _⟩ := h
    exact ⟨a, c, rfl, hle, .inl hl⟩
  · exact h.fr hf (fun g hg => hs g hg hl)
theorem RBo.fr' {S : Nat → Prop} {w w' : World} {v : Value} {l : List Bool} (h : RBo w v l) (hf : Fr S w w') (hs : ∀ g, v.ownBlock = some g → l ≠ [] → S g) : RBo w' v l := by
  by_cases hl : l = []
  · obtain ⟨a, c, rfl, hle, _⟩ := h
    exact ⟨a, c, rfl, hle, .inl hl⟩
  · exact h.fr hf (fun g hg => hs g hg hl)
section
variable {S : Nat → Prop} {w : World} {p lb cap mb : Nat} {ov : Value} {M : DataW Value} {L : Nat → Value} {D : Dk}
theorem slice_arr (b cn : Nat) (h : cn ≤ 64) (w : World) : (Instr.sliceAt 56 (.pointer (some ⟨b, 1, none⟩)) none (some (.int .i64 cn)) none).run Try.prog w = .ok (.slice (some ⟨b, 1, none⟩) cn 64) w := by
  have hu : Try.prog.underlying 56 = some (.array 64 5) := by kernel_rfl
  have h1 : (0 : Int) ≤ (cn : Int) := by omega
  have h2 : (cn : Int) ≤ 64 := by omega
  simp [Instr.sliceAt, run_underlying hu, go_sem, h1, h2]
theorem wx_cell0 {w : World} {b n : Nat} {d : List UInt8} (hg : w.heap[b]? = some (.cells (wx n d) 62 (0, 0))) : w.cell? ⟨b, 0, none⟩ = some (.int .i64 n) := by
  have e : (wx n d)[0]? = some (.int .i64 n) := by
    unfold wx
    rw [Array.getElem?_append_left (by simp)]
    rfl
  simp [World.cell?, hg, e]
/-- what lasts is another list -/
theorem DI.relaid {w2 : World} {l : List UInt8} (hh : DI S w p lb cap mb ov M L D) (hf : Fr (fun k => k ≠ lb) w w2) (ho : OW 0 w2 (.slice (some ⟨lb, 0, none⟩) D.last.length cap) l) (hl : l.length = D.last.length) :
    DP S w2 p lb cap mb D.ws.length ov ov M L (fun s => lv s 0 D.ws) l (D.ws.map (·.at_)) D.fu := by
  have hd := hh.dp
  have hl5 := ownsRow_lt hh.las lb rfl
  have hrow : ∀ {B e size n : Nat} {u : Value} {xs : List Value}, e ≠ 5 → w.ownsRow B e size u n xs → w2.ownsRow B e size u n xs := fun {B e size n u xs} he hu =>
    ownsRow_fr hu hf (fun g hg e' => by
      subst e'
      obtain ⟨_, cs, hc⟩ := ownsRow_lt hu _ hg
      obtain ⟨_, cs', hc'⟩ := hl5
      rw [hc'] at hc
      simp at hc
      exact he hc.2.symm)
  exact { hd with
    blk := by
      rw [hl]
      refine (hf.block p (Array.getElem?_eq_some_iff.1 hh.blk).1 (fun e => ?_)).trans hh.blk
      obtain ⟨_, cs', hc'⟩ := hl5
      rw [← e, hh.blk] at hc'
      simp at hc'
    las := by rw [hl]; exact ho
    map := ownsMap_fr hh.map hf (fun e => by
      obtain ⟨es, c, hc⟩ := hd.mapB
      obtain ⟨_, cs', hc'⟩ := hl5
      rw [e, hc'] at hc
      simp at hc)
    ord := hrow (by decide) hd.ord
    liv := fun s => hrow (by decide) (hh.liv s) }
theorem DK.c34 (h : DK S w p D) : w.cell? ⟨p, 3, none⟩ = some (.bool D.fu.isSome) ∧ w.frozen? ⟨p, 3, none⟩ = false ∧ w.cell? ⟨p, 4, none⟩ = some (.int .i64 (D.fu.getD 0)) ∧ w.frozen? ⟨p, 4, none⟩ = false := by
  obtain ⟨lb, cap, mb, ov, M, L, h⟩ := h
  exact ⟨h.c3, h.frz 3, h.c4, h.frz 4⟩
/-- another fuse -/
theorem DK.refuse (h : DK S w p D) (f : Option Nat) (hf : ∀ k, f = some k → k ≤ 9223372036854775807) : DK S ((w.setCell ⟨p, 3, none⟩ (.bool f.isSome)).setCell ⟨p, 4, none⟩ (.int .i64 (f.getD 0))) p ⟨D.last, D.ws, f⟩ ∧ Fr (fun k => ¬ S k) w ((w.setCell ⟨p, 3, none⟩ (.bool f.isSome)).setCell ⟨p, 4, none⟩ (.int .i64 (f.getD 0))) := by
  obtain ⟨lb, cap, mb, ov, M, L, h⟩ := h
  have b1 : (w.setCell ⟨p, 3, none⟩ (.bool f.isSome)).heap[p]? = some (.cells #[.slice (some ⟨lb, 0, none⟩) D.last.length cap, .map (some mb), ov, .bool f.isSome, .int .i64 (D.fu.getD 0)] 55 (0, 0)) := by
    rw [setCell_eq_setRow w p _ _ _ _ _ h.blk]; exact heapSetRow _ _ _ _ _ h.blk
  have b2 : ((w.setCell ⟨p, 3, none⟩ (.bool f.isSome)).setCell ⟨p, 4, none⟩ (.int .i64 (f.getD 0))).heap[p]? = some (.cells #[.slice (some ⟨lb, 0, none⟩) D.last.length cap, .map (some mb), ov, .bool f.isSome, .int .i64 (f.getD 0)] 55 (0, 0)) := by
    rw [setCell_eq_setRow _ p _ _ _ _ _ b1]; exact heapSetRow _ _ _ _ _ b1
  have hp := h.dp.own (fu' := f) rfl rfl b2 ((setCell_fr _ _ _ _).trans (setCell_fr _ _ _ _) (fun _ _ h => h))
  refine ⟨⟨lb, cap, mb, ov, M, L, hp.blk, hp.las, hp.map, ?_, h.key, h.got, hp.liv, h.nol, hp.dis, hp.sp, hp.sl, hp.sm, hp.so, hp.sv, ⟨h.gd.mul, h.gd.pos, h.gd.max, h.gd.ws, hf⟩⟩, ((Fr.refl _ w).setCell _ _ _ (fun _ hn => hn h.sp)).setCell _ _ _ (fun _ hn => hn h.sp)⟩
  have := hp.ord
  rw [List.length_map, List.map_map] at this
  exact this
set_option maxHeartbeats 4000000 in
set_option maxRecDepth 100000 in
theorem crash_n (h : DI S w p lb cap mb ov M L D) (kv : Value) (keep : List Bool) (hk : RBo w kv keep) (hkl : keep.length = D.ws.length) (hks : ∀ g, kv.ownBlock = some g → keep ≠ [] → ¬ S g) (hn : D.ws.length ≤ 1073741824) (ct : Int) :
    Calls Try.prog 35 #[.pointer (some ⟨p, 0, none⟩), kv, .int .i64 (-1), .int .i64 ct] w fun e w' => e = .returned (.int .i64 0) ∧ DK S w' p ⟨crD keep (-1) 0 D.last D.ws, [], none⟩ ∧ Fr (fun k => ¬ S k) w w' := by
  have hx := h.gd.max
  obtain ⟨hk1, hk2⟩ := h.cps
  have HI := Lib.hid h
  have HK : Hid (RBo w kv keep) := hk
  have c1 := h.c1
  have c2 := h.c2
  have hp0 := h.c0
  have HM : Hid (MK M L D.ws) := h.mks
  have HO : Hid (w.ownsMap Try.prog 3 idR mb D.ws.length M) := h.map
  have hzS := zeroS
  have hz65 : zs.size = 65 := rfl
  have hzW : ∀ u : World, (zeroValue 62).run Try.prog u = .ok (.agg (#[.int .i64 0] ++ bc (zr 64))) u := zeroW
  have hzw65 : (#[Value.int .i64 0] ++ bc (zr 64)).size = 65 := rfl
  have HG : Hid (∀ s d, nw s D.ws = some d → 64 * s + 64 ≤ D.last.length ∧ d.length = 64 ∧ (L s).oneCell' = true) := fun s d hn => by
    have := h.gd.nw hn
    exact ⟨this.1, this.2, h.one s⟩
  have HLB : Hid (lb < w.heap.size) := (ownsRow_lt h.las lb rfl).1
  have HS0 : Hid (∀ w0 : World, w0.ranges Try.prog 3 idR mb w.heap.size D.ws.length M (Maps.has M) (Maps.size M) → w.grownBy w0 none → CL w lb cap mb M keep (-1) 0 D.ws D.last (Maps.has M) (Maps.size M) w0) := fun w0 h1 h2 =>
    ⟨h1, by
      rw [cy_start (fun s hs => by
        obtain ⟨d, hd⟩ := Option.isSome_iff_exists.1 hs
        exact (h.got s d hd).1)]
      exact ownsRow_fr (S := fun _ => True) h.las ⟨h2.os, h2.tape, h2.output, h2.size, fun k hk _ => h2.block k hk (by simp)⟩ (fun _ _ => trivial), ⟨h2.os, h2.tape, h2.output, h2.size, fun k hk _ => h2.block k hk (by simp)⟩⟩
  have HP0 : Hid (∀ wr : World, Fr (fun k => k ≠ lb) w wr → wr.cell? ⟨p, 0, none⟩ = some (.slice (some ⟨lb, 0, none⟩) D.last.length cap) ∧ (∀ s, OL wr (L s) (lv s 0 D.ws)) ∧ RBo wr kv keep) := fun wr hf => by
    obtain ⟨_, c5, hc5⟩ := ownsRow_lt h.las lb rfl
    refine ⟨?_, fun s => ?_, hk.fr' hf (fun g hg hne e => hks g hg hne (by rw [e]; exact h.sl))⟩
    · rw [World.cell?_of_block (w := w) (hf.block p (Array.getElem?_eq_some_iff.1 h.blk).1 (fun e => by rw [← e, h.blk] at hc5; simp at hc5))]
      exact h.c0
    · exact ownsRow_fr (h.liv s) hf (fun g hg e => by
        subst e
        obtain ⟨_, cs, hc⟩ := ownsRow_lt (h.liv s) _ hg
        rw [hc5] at hc
        simp at hc)
  have ht2 : decide (((D.ws.length : Nat) : Int) ≤ -1) = false := decide_eq_false (by omega)
  obtain ⟨oa, oc, rfl⟩ := h.ovf
  obtain ⟨ka, kc, rfl, hkc, _⟩ := hk
  rw [hkl] at HP0 ⊢
  clear h hks
  generalize zs = z at *
  generalize #[Value.int .i64 0] ++ bc (zr 64) = zw at *
  generalize hln : D.last.length = ln at *
  have HLN : Hid (D.last.length = ln) := hln
  generalize hnn : D.ws.length = n at *
  have HN : Hid (D.ws.length = n) := hnn
  have HKL : Hid (keep.length = n) := hkl
  clear hln hnn hkl hkc
  go_enter Try.func35, Try.ntmps35
  go_wp2_with (first | (at_range; refine wpList_range_own _ rfl _ 51 rfl 3 59 K3 underMap idR mb n M rfl HO.out ?_; intro w0 hrg0 hg0 hs0))
  go_frame
  have H0 := Lib.hid (HS0.out w0 hrg0 hg0)
  clear hrg0 hg0 hs0 HS0 HO c1 c2 hp0
  go_loopw [49] (fun _ wr => ∃ left cnt, Hid (CL w lb cap mb M keep (-1) 0 D.ws D.last left cnt wr)) (fun _ wr => wr.rangeLeft mb w.heap.size)
  case atStart => exact ⟨_, _, H0⟩
  case round =>
    clear H0 w0
    obtain ⟨left, cnt, H⟩ := hrel
    have HRG : Hid (wr.ranges Try.prog 3 idR mb w.heap.size n M left cnt) := by have := H.out.rg; rw [HN.out] at this; exact this
    go_wp2_with (first | (at_next; refine next_disk HM.out rfl _ rfl mb w.heap.size n left cnt rfl HRG.out ?_ ?_))
    · intro hl0
      have HE : Hid (OW 0 wr (.slice (some ⟨lb, 0, none⟩) ln cap) (crD keep (-1) 0 D.last D.ws) ∧ Fr (fun k => k ≠ lb) w wr) := ⟨by have := H.out.ow; rw [cy_end (fun s => hl0 (ky s)), HLN.out] at this; exact this, H.out.fr⟩
      clear hl0 H HRG
      have hcl : (crD keep (-1) 0 D.last D.ws).length = D.last.length := crD_len _ _ _ _ _
      have HP := Lib.hid (HI.out.relaid HE.out.2 (by rw [HLN.out]; exact HE.out.1) hcl)
      have HGd : Hid (Gd ⟨crD keep (-1) 0 D.last D.ws, [], D.fu⟩) := ⟨by rw [hcl]; exact HI.out.gd.mul, by rw [hcl]; exact HI.out.gd.pos, by rw [hcl]; exact HI.out.gd.max, fun x hx => by simp at hx, HI.out.gd.fu⟩
      have HFr : Hid (Fr (fun k => ¬ S k) w wr) := HE.out.2.mono (fun k hk hn e => hn (by rw [e]; exact HI.out.sl))
      clear HE hcl
      go_wp2_with fail
      refine (settle HP.out HGd.out).mono ?_
      rintro e w3 ⟨rfl, hd3, hf3⟩
      obtain ⟨e3, e3f, e4, e4f⟩ := hd3.c34
      have HF : Hid (DK S ((w3.setCell ⟨p, 3, none⟩ (.bool false)).setCell ⟨p, 4, none⟩ (.int .i64 0)) p ⟨crD keep (-1) 0 D.last D.ws, [], none⟩ ∧ Fr (fun k => ¬ S k) w ((w3.setCell ⟨p, 3, none⟩ (.bool false)).setCell ⟨p, 4, none⟩ (.int .i64 0))) := by
        have := hd3.refuse none (fun k h => by cases h)
        exact ⟨this.1, (HFr.out.trans hf3 (fun k _ h => h)).trans this.2 (fun k _ h => h)⟩
      clear hd3 hf3 HP HGd HFr
      go_wp2_with fail
      go_ret
      exact ⟨rfl, HF.out.1, HF.out.2⟩
    · intro s d cs0 w3 cnt2 hcs0 hn hls hrg hlt hg3 hsz3 hen
      obtain ⟨q1, q2, q3⟩ := HG.out s d hn
      rw [← HN.out] at hrg
      have HST := Lib.hid (CL.start H.out hls hrg hg3 HLB.out)
      have HLT : Hid (cnt2 < cnt) := hlt
      obtain ⟨la, lc, hLs⟩ := ownsRow_form ((HP0.out _ HST.out.fr).2.1 s)
      have hcs1 : bc d ++ #[L s] = cs0 := by rw [hcs0]; simp
      have hone := sc_one d (L s) q3
      have hsz := sc_size d (L s) q2
      have HT : Hid (∀ w4, w4 = (w3.alloc (.cells z 59)).setRow w3.heap.size cs0 → w4.cell? ⟨w3.heap.size, 64, none⟩ = some (.slice la (lv s 0 D.ws).length lc) ∧ CI w lb cap mb M keep (-1) 0 D.ws D.last (fun z => left z && !z.sameKey (ky s)) cnt2 s (sec D.last s) w4) := fun w4 h4 => by
        subst h4
        refine ⟨?_, HST.out.on (belowSetRow ((Below.refl _ _).alloc (Nat.le_refl _) _) (Nat.le_refl _) _)⟩
        have hbx := heapSetRow _ _ _ cs0 _ (heapNew w3 (.cells z 59))
        rw [← hcs1] at hbx
        simp only [World.cell?, ← hcs1, hbx]
        rw [Array.getElem?_append_right (by rw [bc_size, q2]; exact Nat.le_refl _), bc_size, q2, ← hLs]
        rfl
      have HXS : Hid (∀ x ∈ lv s 0 D.ws, x.1 < n ∧ x.2.length = 64) := fun x hx => by have := HI.out.gd.lv hx; rw [HN.out] at this; exact this
      have HXL : Hid ((lv s 0 D.ws).length ≤ n) := by have := lv_len s D.ws 0; rw [HN.out] at this; exact this
      rw [hcs1] at hone hsz
      clear hn hrg hg3 hsz3 hlt hcs0 hcs1 hls q2 q3 HRG
      generalize hxs : lv s 0 D.ws = xs at *
      have HX0 : Hid (lv s 0 D.ws = xs) := hxs
      clear hxs
      go_wp2_with (first | (refine wpList_store_row rfl 59 _ _ rfl w3.heap.size cs0 rfl rfl 59 z (heapNew w3 _) (by rw [hsz]; exact sizeS) (by rw [hz65, hsz]) hone ?_; generalize hw4 : World.setRow (World.alloc _ _) _ cs0 = w4; obtain ⟨q64, hci4⟩ := HT.out w4 hw4.symm; have HC4 := Lib.hid hci4; clear HT hci4 hw4))
      have hxl : xs.length ≤ 1073741824 := by have := HXL.out; omega
      go_loopw [57] (fun i wr => ∃ j : Nat, j ≤ xs.length ∧ i = .int .i64 j ∧ Hid (CI w lb cap mb M keep (-1) 0 D.ws D.last (fun z => left z && !z.sameKey (ky s)) cnt2 s (crS keep (-1) 0 (xs.take j) (sec D.last s)) wr)) (fun i _ => xs.length - (intOf i).toNat)
      case atStart => exact ⟨0, Nat.zero_le _, rfl, HC4⟩
      case round =>
        clear HC4 q64
        obtain ⟨j, hj, rfl, HC⟩ := hrel
        by_cases hlt : j < xs.length
        · obtain ⟨p0, hliv, hkb⟩ := HP0.out wr HC.out.fr
          have hOL := hliv s
          rw [hLs, HX0.out] at hOL
          obtain ⟨gl, rfl⟩ : ∃ gl, la = some ⟨gl, 0, none⟩ := by
            rcases hOL.2 with ⟨e, h0⟩ | ⟨g', c, cur, e, _⟩
            · omega
            · simp only [Value.slice.injEq] at e
              exact ⟨g', e.1⟩
          have hra := OL.at hOL (fun x hx => (HXS.out x hx).2) j hlt
          obtain ⟨hpx, hdx⟩ := HXS.out xs[j] (List.getElem_mem hlt)
          have HSN : Hid (crS keep (-1) 0 (xs.take (j + 1)) (sec D.last s) = crX keep (-1) 0 (crS keep (-1) 0 (xs.take j) (sec D.last s)) xs[j]) := crS_snoc _ _ _ _ _ _ hlt
          have HCL : Hid ((crS keep (-1) 0 (xs.take j) (sec D.last s)).length = 64) := crS_len (sec_len _ _ (by rw [HLN.out]; exact q1)) (fun x hx => (HXS.out x (List.mem_of_mem_take hx)).2) (by omega)
          generalize xs[j] = x at *
          obtain ⟨px, dx⟩ := x
          dsimp only at hpx hdx hra
          obtain ⟨gk, ok, hka, hkcell⟩ : ∃ gk ok, ka = some ⟨gk, ok, none⟩ ∧ ∀ i, i < n → wr.cell? ⟨gk, ok + i, none⟩ = some (.bool (keep.getD i false)) := by
            obtain ⟨a', c', e, _, hh⟩ := hkb
            rcases hh with h0 | ⟨gk, ok, e2, _, hc⟩
            · have := HKL.out; rw [h0] at this; simp at this; omega
            · simp only [Value.slice.injEq] at e
              exact ⟨gk, ok, by rw [e.1, e2], fun i hi => hc i (by rw [HKL.out]; exact hi)⟩
          subst hka
          have hkx := hkcell px hpx
          have HT6 : Hid (∀ w6, w6 = (wr.alloc (.cells zw 62)).setRow wr.heap.size (wx px dx) → w6.heap[wr.heap.size]? = some (.cells (wx px dx) 62 (0, 0)) ∧ w6.cell? ⟨wr.heap.size, 0, none⟩ = some (.int .i64 px) ∧ Below wr.heap.size wr w6) := fun w6 h6 => by
            subst h6
            have hbx := heapSetRow _ _ _ (wx px dx) _ (heapNew wr (.cells zw 62))
            exact ⟨hbx, wx_cell0 hbx, belowSetRow ((Below.refl _ _).alloc (Nat.le_refl _) _) (Nat.le_refl _) _⟩
          have hsz2 := wx_size px dx hdx
          have hone2 := wx_one px dx
          clear hliv hkb hOL hkcell
          generalize hcw : wx px dx = cw at *
          have HCW : Hid (wx px dx = cw) := hcw
          clear hcw
          have hcwl : cw.toList.length = 65 := by rw [Array.length_toList]; exact hsz2
          have hpt : ((px : Int) == -1) = false := beq_eq_false_iff_ne.2 (by omega)
          have hne : ((px, dx).1 : Int) ≠ -1 := by show (px : Int) ≠ -1; omega
          cases hkp : keep.getD px false
          · rw [hkp] at hkx
            go_wp2_with (first
              | (refine wpList_load_mid rfl 62 _ rfl gl (j * 65) rfl cw.toList _ hra Try.underlying62 rfl (by rw [hcwl]; exact sizeW) ?_; rw [Array.toArray_toList])
              | (refine wpList_store_row rfl 62 _ _ rfl wr.heap.size cw rfl rfl 62 zw (heapNew wr _) (by rw [hsz2]; exact sizeW) (by rw [hzw65, hsz2]) hone2 ?_; generalize hw6 : World.setRow (World.alloc _ _) _ cw = w6; obtain ⟨hbx, hb0, hbel⟩ := HT6.out w6 hw6.symm; have HC6 := Lib.hid (HC.out.on hbel); have HBX := Lib.hid hbx; have hk6 := (hbel.cell (p := ⟨gk, ok + px, none⟩) (World.block_lt_of_cell? wr _ hkx)).trans hkx; clear HT6 hw6 hbel hbx))
            have HCI : Hid (CI w lb cap mb M keep (-1) 0 D.ws D.last (fun z => left z && !z.sameKey (ky s)) cnt2 s (crS keep (-1) 0 (xs.take (j + 1)) (sec D.last s)) w6) := by rw [HSN.out, crX_none keep _ _ _ (px, dx) hne hkp]; exact HC6.out
            clear HC6 HBX HC HSN p0
            go_roundw
            case rel => exact ⟨j + 1, by omega, by go_num, HCI⟩
            case measure => (simp [intOf]; omega)
          · rw [hkp] at hkx
            go_wp2_with (first
              | (refine wpList_load_mid rfl 62 _ rfl gl (j * 65) rfl cw.toList _ hra Try.underlying62 rfl (by rw [hcwl]; exact sizeW) ?_; rw [Array.toArray_toList])
              | (refine wpList_store_row rfl 62 _ _ rfl wr.heap.size cw rfl rfl 62 zw (heapNew wr _) (by rw [hsz2]; exact sizeW) (by rw [hzw65, hsz2]) hone2 ?_; generalize hw6 : World.setRow (World.alloc _ _) _ cw = w6; obtain ⟨hbx, hb0, hbel⟩ := HT6.out w6 hw6.symm; have HC6 := Lib.hid (HC.out.on hbel); have HBX := Lib.hid hbx; have hk6 := (hbel.cell (p := ⟨gk, ok + px, none⟩) (World.block_lt_of_cell? wr _ hkx)).trans hkx; clear HT6 hw6 hbel hbx))
            have HCP : Hid (∃ cs, (∀ ty dc, (Builtin.copy_ #[27, 27] ty #[.slice (some ⟨lb, s * 64, none⟩) 64 dc, .slice (some ⟨wr.heap.size, 1, none⟩) 64 64]).run Try.prog w6.drew = .ok (goInt 64) (w6.drew.setRow lb cs)) ∧ CI w lb cap mb M keep (-1) 0 D.ws D.last (fun z => left z && !z.sameKey (ky s)) cnt2 s (crS keep (-1) 0 (xs.take (j + 1)) (sec D.last s)) (w6.drew.setRow lb cs) ∧ (w6.drew.setRow lb cs).cell? ⟨p, 0, none⟩ = some (.slice (some ⟨lb, 0, none⟩) ln cap)) := by
              obtain ⟨cs, h1, h2⟩ := CI.copy (HC6.out.on (belowDrew w6 1)) (by rw [HLN.out]; exact q1) HLB.out wr.heap.size px 64 dx hdx (by omega) (by rw [HCW.out]; exact HBX.out)
              refine ⟨cs, h1, ?_, (HP0.out _ (h2.fr)).1⟩
              rw [HSN.out, crX_keep keep _ _ _ (px, dx) hne hkp hdx HCL.out, show dx = dx.take 64 from (List.take_of_length_le (by omega)).symm]
              exact h2
            have hp0 := (HP0.out _ HC6.out.fr).1
            clear HC6 HBX HC HSN p0
            refine wp_region_held_drew (S := fun u => u.cell? ⟨p, 0, none⟩ = some (.slice (some ⟨lb, 0, none⟩) ln cap)) (by kernel_rfl) (hp0) (fun hHeld => ?_)
            refine wpAnyH_take (i := 0) (v := .pointer (some ⟨p, 0, none⟩)) rfl (by kernel_rfl) (by kernel_rfl) (by kernel_rfl) (fun _ _ _ h => h) (Or.inl ⟨by rfl, fun w hw => by go_simp⟩) hHeld ?_
            simp only [Act.put, List.getElem_toArray, List.getElem_cons_zero, List.setIfInBounds_toArray, List.set_cons_zero, List.set_cons_succ]
            refine wpAnyH_take (i := 1) (v := .int .i64 s) rfl (by kernel_rfl) (by kernel_rfl) (by kernel_rfl) (fun _ _ _ h => h) (Or.inl ⟨by rfl, fun w hw => by go_simp⟩) hHeld ?_
            simp only [Act.put, List.getElem_toArray, List.getElem_cons_zero, List.getElem_cons_succ, List.setIfInBounds_toArray, List.set_cons_zero, List.set_cons_succ]
            refine wpAnyH_take (i := 3) (v := .pointer (some ⟨wr.heap.size, 1, none⟩)) rfl (by kernel_rfl) (by kernel_rfl) (by kernel_rfl) (fun _ _ _ h => h) (Or.inl ⟨by rfl, fun w hw => by go_simp⟩) hHeld ?_
            simp only [Act.put, List.getElem_toArray, List.getElem_cons_zero, List.getElem_cons_succ, List.setIfInBounds_toArray, List.set_cons_zero, List.set_cons_succ]
            refine wpAnyH_take (i := 4) (v := .slice (some ⟨wr.heap.size, 1, none⟩) 64 64) rfl (by kernel_rfl) (by kernel_rfl) (by kernel_rfl) (fun _ _ _ h => h) (Or.inl ⟨by rfl, fun w hw => by go_simp⟩) hHeld ?_
            simp only [Act.put, List.getElem_toArray, List.getElem_cons_zero, List.getElem_cons_succ, List.setIfInBounds_toArray, List.set_cons_zero, List.set_cons_succ]
            refine wpAnyH_ready (rs := [2]) (by kernel_rfl) (by simp) ?_
            refine AllReadyH.cons (o := _) rfl (fun K hK => ?_) AllReadyH.nil
            go_simp
            refine (lastingC (w := w6.drew) hHeld hk1 hk2 hx s q1).mono ?_
            rintro e w' ⟨rfl, rfl⟩
            go_wp2_with fail
            refine hK.out _ _ hHeld (fun hHeld => ?_)
            clear hK K
            refine wpAnyH_ready (rs := [5]) (by kernel_rfl) (by simp) ?_
            refine AllReadyH.cons (o := _) rfl (fun K hK => ?_) AllReadyH.nil
            obtain ⟨cs, hcp, hci, hp1⟩ := HCP.out
            have HCI := Lib.hid hci
            clear hci HCP
            go_simp
            refine hK.out _ _ hp1 (fun hHeld => ?_)
            clear hK K
            refine wpAnyH_done (by kernel_rfl) ?_ _
            generalize World.setRow w6.drew lb cs = w7 at *
            clear hcp hp1 hHeld
            go_wp2_with fail
            go_roundw
            case rel => exact ⟨j + 1, by omega, by go_num, HCI⟩
            case measure => (simp [intOf]; omega)
        · have hjl : j = xs.length := by omega
          subst hjl
          have HE : Hid (CL w lb cap mb M keep (-1) 0 D.ws D.last (fun z => left z && !z.sameKey (ky s)) cnt2 wr) := CI.stop (by have := HC.out; rw [List.take_length, ← HX0.out] at this; exact this)
          clear HC
          go_wp2_with fail
          go_roundw
          case rel => exact ⟨_, _, HE⟩
          case measure => (rw [HE.out.rg.left_eq, H.out.rg.left_eq]; exact HLT.out)
set_option maxHeartbeats 4000000 in
set_option maxRecDepth 100000 in
theorem crash_t (h : DI S w p lb cap mb ov M L D) (kv : Value) (keep : List Bool) (hk : RBo w kv keep) (hkl : keep.length = D.ws.length) (hks : ∀ g, kv.ownBlock = some g → keep ≠ [] → ¬ S g) (hn : D.ws.length ≤ 1073741824) (tn cn : Nat) (htn : tn < D.ws.length) (hcn : cn ≤ 64) :
    Calls Try.prog 35 #[.pointer (some ⟨p, 0, none⟩), kv, .int .i64 tn, .int .i64 cn] w fun e w' => e = .returned (.int .i64 0) ∧ DK S w' p ⟨crD keep (tn : Int) cn D.last D.ws, [], none⟩ ∧ Fr (fun k => ¬ S k) w w' := by
  have hx := h.gd.max
  obtain ⟨hk1, hk2⟩ := h.cps
  have HI := Lib.hid h
  have HK : Hid (RBo w kv keep) := hk
  have c1 := h.c1
  have c2 := h.c2
  have hp0 := h.c0
  have HM : Hid (MK M L D.ws) := h.mks
  have HO : Hid (w.ownsMap Try.prog 3 idR mb D.ws.length M) := h.map
  have hzS := zeroS
  have hz65 : zs.size = 65 := rfl
  have hzW : ∀ u : World, (zeroValue 62).run Try.prog u = .ok (.agg (#[.int .i64 0] ++ bc (zr 64))) u := zeroW
  have hzw65 : (#[Value.int .i64 0] ++ bc (zr 64)).size = 65 := rfl
  have HG : Hid (∀ s d, nw s D.ws = some d → 64 * s + 64 ≤ D.last.length ∧ d.length = 64 ∧ (L s).oneCell' = true) := fun s d hn => by
    have := h.gd.nw hn
    exact ⟨this.1, this.2, h.one s⟩
  have HLB : Hid (lb < w.heap.size) := (ownsRow_lt h.las lb rfl).1
  have HS0 : Hid (∀ w0 : World, w0.ranges Try.prog 3 idR mb w.heap.size D.ws.length M (Maps.has M) (Maps.size M) → w.grownBy w0 none → CL w lb cap mb M keep (tn : Int) cn D.ws D.last (Maps.has M) (Maps.size M) w0) := fun w0 h1 h2 =>
    ⟨h1, by
      rw [cy_start (fun s hs => by
        obtain ⟨d, hd⟩ := Option.isSome_iff_exists.1 hs
        exact (h.got s d hd).1)]
      exact ownsRow_fr (S := fun _ => True) h.las ⟨h2.os, h2.tape, h2.output, h2.size, fun k hk _ => h2.block k hk (by simp)⟩ (fun _ _ => trivial), ⟨h2.os, h2.tape, h2.output, h2.size, fun k hk _ => h2.block k hk (by simp)⟩⟩
  have HP0 : Hid (∀ wr : World, Fr (fun k => k ≠ lb) w wr → wr.cell? ⟨p, 0, none⟩ = some (.slice (some ⟨lb, 0, none⟩) D.last.length cap) ∧ (∀ s, OL wr (L s) (lv s 0 D.ws)) ∧ RBo wr kv keep) := fun wr hf => by
    obtain ⟨_, c5, hc5⟩ := ownsRow_lt h.las lb rfl
    refine ⟨?_, fun s => ?_, hk.fr' hf (fun g hg hne e => hks g hg hne (by rw [e]; exact h.sl))⟩
    · rw [World.cell?_of_block (w := w) (hf.block p (Array.getElem?_eq_some_iff.1 h.blk).1 (fun e => by rw [← e, h.blk] at hc5; simp at hc5))]
      exact h.c0
    · exact ownsRow_fr (h.liv s) hf (fun g hg e => by
        subst e
        obtain ⟨_, cs, hc⟩ := ownsRow_lt (h.liv s) _ hg
        rw [hc5] at hc
        simp at hc)
  have ht1 : decide ((tn : Int) < -1) = false := decide_eq_false (by omega)
  have ht2 : (D.ws.length ≤ tn) = False := eq_false (by omega)
  have ht3 : ((tn : Int) != -1) = true := bne_iff_ne.2 (by omega)
  have ht4 : decide ((cn : Int) < 0) = false := decide_eq_false (by omega)
  have ht5 : decide ((64 : Int) < (cn : Int)) = false := decide_eq_false (by omega)
  obtain ⟨oa, oc, rfl⟩ := h.ovf
  obtain ⟨ka, kc, rfl, hkc, _⟩ := hk
  rw [hkl] at HP0 ⊢
  clear h hks
  generalize zs = z at *
  generalize #[Value.int .i64 0] ++ bc (zr 64) = zw at *
  generalize hln : D.last.length = ln at *
  have HLN : Hid (D.last.length = ln) := hln
  generalize hnn : D.ws.length = n at *
  have HN : Hid (D.ws.length = n) := hnn
  have HKL : Hid (keep.length = n) := hkl
  clear hln hnn hkl hkc
  go_enter Try.func35, Try.ntmps35
  go_wp2_with (first | (at_range; refine wpList_range_own _ rfl _ 51 rfl 3 59 K3 underMap idR mb n M rfl HO.out ?_; intro w0 hrg0 hg0 hs0))
  go_frame
  have H0 := Lib.hid (HS0.out w0 hrg0 hg0)
  clear hrg0 hg0 hs0 HS0 HO c1 c2 hp0
  go_loopw [49] (fun _ wr => ∃ left cnt, Hid (CL w lb cap mb M keep (tn : Int) cn D.ws D.last left cnt wr)) (fun _ wr => wr.rangeLeft mb w.heap.size)
  case atStart => exact ⟨_, _, H0⟩
  case round =>
    clear H0 w0
    obtain ⟨left, cnt, H⟩ := hrel
    have HRG : Hid (wr.ranges Try.prog 3 idR mb w.heap.size n M left cnt) := by have := H.out.rg; rw [HN.out] at this; exact this
    go_wp2_with (first | (at_next; refine next_disk HM.out rfl _ rfl mb w.heap.size n left cnt rfl HRG.out ?_ ?_))
    · intro hl0
      have HE : Hid (OW 0 wr (.slice (some ⟨lb, 0, none⟩) ln cap) (crD keep (tn : Int) cn D.last D.ws) ∧ Fr (fun k => k ≠ lb) w wr) := ⟨by have := H.out.ow; rw [cy_end (fun s => hl0 (ky s)), HLN.out] at this; exact this, H.out.fr⟩
      clear hl0 H HRG
      have hcl : (crD keep (tn : Int) cn D.last D.ws).length = D.last.length := crD_len _ _ _ _ _
      have HP := Lib.hid (HI.out.relaid HE.out.2 (by rw [HLN.out]; exact HE.out.1) hcl)
      have HGd : Hid (Gd ⟨crD keep (tn : Int) cn D.last D.ws, [], D.fu⟩) := ⟨by rw [hcl]; exact HI.out.gd.mul, by rw [hcl]; exact HI.out.gd.pos, by rw [hcl]; exact HI.out.gd.max, fun x hx => by simp at hx, HI.out.gd.fu⟩
      have HFr : Hid (Fr (fun k => ¬ S k) w wr) := HE.out.2.mono (fun k hk hn e => hn (by rw [e]; exact HI.out.sl))
      clear HE hcl
      go_wp2_with fail
      refine (settle HP.out HGd.out).mono ?_
      rintro e w3 ⟨rfl, hd3, hf3⟩
      obtain ⟨e3, e3f, e4, e4f⟩ := hd3.c34
      have HF : Hid (DK S ((w3.setCell ⟨p, 3, none⟩ (.bool false)).setCell ⟨p, 4, none⟩ (.int .i64 0)) p ⟨crD keep (tn : Int) cn D.last D.ws, [], none⟩ ∧ Fr (fun k => ¬ S k) w ((w3.setCell ⟨p, 3, none⟩ (.bool false)).setCell ⟨p, 4, none⟩ (.int .i64 0))) := by
        have := hd3.refuse none (fun k h => by cases h)
        exact ⟨this.1, (HFr.out.trans hf3 (fun k _ h => h)).trans this.2 (fun k _ h => h)⟩
      clear hd3 hf3 HP HGd HFr
      go_wp2_with fail
      go_ret
      exact ⟨rfl, HF.out.1, HF.out.2⟩
    · intro s d cs0 w3 cnt2 hcs0 hn hls hrg hlt hg3 hsz3 hen
      obtain ⟨q1, q2, q3⟩ := HG.out s d hn
      rw [← HN.out] at hrg
      have HST := Lib.hid (CL.start H.out hls hrg hg3 HLB.out)
      have HLT : Hid (cnt2 < cnt) := hlt
      obtain ⟨la, lc, hLs⟩ := ownsRow_form ((HP0.out _ HST.out.fr).2.1 s)
      have hcs1 : bc d ++ #[L s] = cs0 := by rw [hcs0]; simp
      have hone := sc_one d (L s) q3
      have hsz := sc_size d (L s) q2
      have HT : Hid (∀ w4, w4 = (w3.alloc (.cells z 59)).setRow w3.heap.size cs0 → w4.cell? ⟨w3.heap.size, 64, none⟩ = some (.slice la (lv s 0 D.ws).length lc) ∧ CI w lb cap mb M keep (tn : Int) cn D.ws D.last (fun z => left z && !z.sameKey (ky s)) cnt2 s (sec D.last s) w4) := fun w4 h4 => by
        subst h4
        refine ⟨?_, HST.out.on (belowSetRow ((Below.refl _ _).alloc (Nat.le_refl _) _) (Nat.le_refl _) _)⟩
        have hbx := heapSetRow _ _ _ cs0 _ (heapNew w3 (.cells z 59))
        rw [← hcs1] at hbx
        simp only [World.cell?, ← hcs1, hbx]
        rw [Array.getElem?_append_right (by rw [bc_size, q2]; exact Nat.le_refl _), bc_size, q2, ← hLs]
        rfl
      have HXS : Hid (∀ x ∈ lv s 0 D.ws, x.1 < n ∧ x.2.length = 64) := fun x hx => by have := HI.out.gd.lv hx; rw [HN.out] at this; exact this
      have HXL : Hid ((lv s 0 D.ws).length ≤ n) := by have := lv_len s D.ws 0; rw [HN.out] at this; exact this
      rw [hcs1] at hone hsz
      clear hn hrg hg3 hsz3 hlt hcs0 hcs1 hls q2 q3 HRG
      generalize hxs : lv s 0 D.ws = xs at *
      have HX0 : Hid (lv s 0 D.ws = xs) := hxs
      clear hxs
      go_wp2_with (first | (refine wpList_store_row rfl 59 _ _ rfl w3.heap.size cs0 rfl rfl 59 z (heapNew w3 _) (by rw [hsz]; exact sizeS) (by rw [hz65, hsz]) hone ?_; generalize hw4 : World.setRow (World.alloc _ _) _ cs0 = w4; obtain ⟨q64, hci4⟩ := HT.out w4 hw4.symm; have HC4 := Lib.hid hci4; clear HT hci4 hw4))
      have hxl : xs.length ≤ 1073741824 := by have := HXL.out; omega
      go_loopw [57] (fun i wr => ∃ j : Nat, j ≤ xs.length ∧ i = .int .i64 j ∧ Hid (CI w lb cap mb M keep (tn : Int) cn D.ws D.last (fun z => left z && !z.sameKey (ky s)) cnt2 s (crS keep (tn : Int) cn (xs.take j) (sec D.last s)) wr)) (fun i _ => xs.length - (intOf i).toNat)
      case atStart => exact ⟨0, Nat.zero_le _, rfl, HC4⟩
      case round =>
        clear HC4 q64
        obtain ⟨j, hj, rfl, HC⟩ := hrel
        by_cases hlt : j < xs.length
        · obtain ⟨p0, hliv, hkb⟩ := HP0.out wr HC.out.fr
          have hOL := hliv s
          rw [hLs, HX0.out] at hOL
          obtain ⟨gl, rfl⟩ : ∃ gl, la = some ⟨gl, 0, none⟩ := by
            rcases hOL.2 with ⟨e, h0⟩ | ⟨g', c, cur, e, _⟩
            · omega
            · simp only [Value.slice.injEq] at e
              exact ⟨g', e.1⟩
          have hra := OL.at hOL (fun x hx => (HXS.out x hx).2) j hlt
          obtain ⟨hpx, hdx⟩ := HXS.out xs[j] (List.getElem_mem hlt)
          have HSN : Hid (crS keep (tn : Int) cn (xs.take (j + 1)) (sec D.last s) = crX keep (tn : Int) cn (crS keep (tn : Int) cn (xs.take j) (sec D.last s)) xs[j]) := crS_snoc _ _ _ _ _ _ hlt
          have HCL : Hid ((crS keep (tn : Int) cn (xs.take j) (sec D.last s)).length = 64) := crS_len (sec_len _ _ (by rw [HLN.out]; exact q1)) (fun x hx => (HXS.out x (List.mem_of_mem_take hx)).2) (by omega)
          generalize xs[j] = x at *
          obtain ⟨px, dx⟩ := x
          dsimp only at hpx hdx hra
          obtain ⟨gk, ok, hka, hkcell⟩ : ∃ gk ok, ka = some ⟨gk, ok, none⟩ ∧ ∀ i, i < n → wr.cell? ⟨gk, ok + i, none⟩ = some (.bool (keep.getD i false)) := by
            obtain ⟨a', c', e, _, hh⟩ := hkb
            rcases hh with h0 | ⟨gk, ok, e2, _, hc⟩
            · have := HKL.out; rw [h0] at this; simp at this; omega
            · simp only [Value.slice.injEq] at e
              exact ⟨gk, ok, by rw [e.1, e2], fun i hi => hc i (by rw [HKL.out]; exact hi)⟩
          subst hka
          have hkx := hkcell px hpx
          have HT6 : Hid (∀ w6, w6 = (wr.alloc (.cells zw 62)).setRow wr.heap.size (wx px dx) → w6.heap[wr.heap.size]? = some (.cells (wx px dx) 62 (0, 0)) ∧ w6.cell? ⟨wr.heap.size, 0, none⟩ = some (.int .i64 px) ∧ Below wr.heap.size wr w6) := fun w6 h6 => by
            subst h6
            have hbx := heapSetRow _ _ _ (wx px dx) _ (heapNew wr (.cells zw 62))
            exact ⟨hbx, wx_cell0 hbx, belowSetRow ((Below.refl _ _).alloc (Nat.le_refl _) _) (Nat.le_refl _) _⟩
          have hsz2 := wx_size px dx hdx
          have hone2 := wx_one px dx
          clear hliv hkb hOL hkcell
          generalize hcw : wx px dx = cw at *
          have HCW : Hid (wx px dx = cw) := hcw
          clear hcw
          have hcwl : cw.toList.length = 65 := by rw [Array.length_toList]; exact hsz2
          by_cases ht : px = tn
          · have hpt : ((px : Int) == (tn : Int)) = true := by simp [ht]
            go_wp2_with (first
              | (refine wpList_load_mid rfl 62 _ rfl gl (j * 65) rfl cw.toList _ hra Try.underlying62 rfl (by rw [hcwl]; exact sizeW) ?_; rw [Array.toArray_toList])
              | (refine wpList_store_row rfl 62 _ _ rfl wr.heap.size cw rfl rfl 62 zw (heapNew wr _) (by rw [hsz2]; exact sizeW) (by rw [hzw65, hsz2]) hone2 ?_; generalize hw6 : World.setRow (World.alloc _ _) _ cw = w6; obtain ⟨hbx, hb0, hbel⟩ := HT6.out w6 hw6.symm; have HC6 := Lib.hid (HC.out.on hbel); have HBX := Lib.hid hbx; have hk6 := (hbel.cell (p := ⟨gk, ok + px, none⟩) (World.block_lt_of_cell? wr _ hkx)).trans hkx; clear HT6 hw6 hbel hbx))
            have HCP : Hid (∃ cs, (∀ ty dc, (Builtin.copy_ #[27, 27] ty #[.slice (some ⟨lb, s * 64, none⟩) 64 dc, .slice (some ⟨wr.heap.size, 1, none⟩) cn 64]).run Try.prog w6.drew = .ok (goInt cn) (w6.drew.setRow lb cs)) ∧ CI w lb cap mb M keep (tn : Int) cn D.ws D.last (fun z => left z && !z.sameKey (ky s)) cnt2 s (crS keep (tn : Int) cn (xs.take (j + 1)) (sec D.last s)) (w6.drew.setRow lb cs) ∧ (w6.drew.setRow lb cs).cell? ⟨p, 0, none⟩ = some (.slice (some ⟨lb, 0, none⟩) ln cap)) := by
              obtain ⟨cs, h1, h2⟩ := CI.copy (HC6.out.on (belowDrew w6 1)) (by rw [HLN.out]; exact q1) HLB.out wr.heap.size px cn dx hdx (by omega) (by rw [HCW.out]; exact HBX.out)
              refine ⟨cs, h1, ?_, (HP0.out _ (h2.fr)).1⟩
              rw [HSN.out, crX_torn keep _ _ _ (px, dx) (by show (px : Int) = tn; omega) hdx hcn]
              exact h2
            have hp0 := (HP0.out _ HC6.out.fr).1
            clear HC6 HBX HC HSN p0
            refine wp_region_held_drew (S := fun u => u.cell? ⟨p, 0, none⟩ = some (.slice (some ⟨lb, 0, none⟩) ln cap)) (by kernel_rfl) (hp0) (fun hHeld => ?_)
            refine wpAnyH_take (i := 0) (v := .pointer (some ⟨p, 0, none⟩)) rfl (by kernel_rfl) (by kernel_rfl) (by kernel_rfl) (fun _ _ _ h => h) (Or.inl ⟨by rfl, fun w hw => by go_simp⟩) hHeld ?_
            simp only [Act.put, List.getElem_toArray, List.getElem_cons_zero, List.setIfInBounds_toArray, List.set_cons_zero, List.set_cons_succ]
            refine wpAnyH_take (i := 1) (v := .int .i64 s) rfl (by kernel_rfl) (by kernel_rfl) (by kernel_rfl) (fun _ _ _ h => h) (Or.inl ⟨by rfl, fun w hw => by go_simp⟩) hHeld ?_
            simp only [Act.put, List.getElem_toArray, List.getElem_cons_zero, List.getElem_cons_succ, List.setIfInBounds_toArray, List.set_cons_zero, List.set_cons_succ]
            refine wpAnyH_take (i := 3) (v := .pointer (some ⟨wr.heap.size, 1, none⟩)) rfl (by kernel_rfl) (by kernel_rfl) (by kernel_rfl) (fun _ _ _ h => h) (Or.inl ⟨by rfl, fun w hw => by go_simp⟩) hHeld ?_
            simp only [Act.put, List.getElem_toArray, List.getElem_cons_zero, List.getElem_cons_succ, List.setIfInBounds_toArray, List.set_cons_zero, List.set_cons_succ]
            refine wpAnyH_take (i := 4) (v := .int .i64 cn) rfl (by kernel_rfl) (by kernel_rfl) (by kernel_rfl) (fun _ _ _ h => h) (Or.inl ⟨by rfl, fun w hw => by go_simp⟩) hHeld ?_
            simp only [Act.put, List.getElem_toArray, List.getElem_cons_zero, List.getElem_cons_succ, List.setIfInBounds_toArray, List.set_cons_zero, List.set_cons_succ]
            refine wpAnyH_take (i := 5) (v := .slice (some ⟨wr.heap.size, 1, none⟩) cn 64) rfl (by kernel_rfl) (by kernel_rfl) (by kernel_rfl) (fun _ _ _ h => h) (Or.inl ⟨by rfl, fun w hw => by have hsl := slice_arr wr.heap.size cn hcn w; go_simp⟩) hHeld ?_
            simp only [Act.put, List.getElem_toArray, List.getElem_cons_zero, List.getElem_cons_succ, List.setIfInBounds_toArray, List.set_cons_zero, List.set_cons_succ]
            refine wpAnyH_ready (rs := [2]) (by kernel_rfl) (by simp) ?_
            refine AllReadyH.cons (o := _) rfl (fun K hK => ?_) AllReadyH.nil
            go_simp
            refine (lastingC (w := w6.drew) hHeld hk1 hk2 hx s q1).mono ?_
            rintro e w' ⟨rfl, rfl⟩
            go_wp2_with fail
            refine hK.out _ _ hHeld (fun hHeld => ?_)
            clear hK K
            refine wpAnyH_ready (rs := [6]) (by kernel_rfl) (by simp) ?_
            refine AllReadyH.cons (o := _) rfl (fun K hK => ?_) AllReadyH.nil
            obtain ⟨cs, hcp, hci, hp1⟩ := HCP.out
            have HCI := Lib.hid hci
            clear hci HCP
            go_simp
            refine hK.out _ _ hp1 (fun hHeld => ?_)
            clear hK K
            refine wpAnyH_done (by kernel_rfl) ?_ _
            generalize World.setRow w6.drew lb cs = w7 at *
            clear hcp hp1 hHeld
            go_wp2_with fail
            go_roundw
            case rel => exact ⟨j + 1, by omega, by go_num, HCI⟩
            case measure => (simp [intOf]; omega)
          · have hpt : ((px : Int) == (tn : Int)) = false := beq_eq_false_iff_ne.2 (by omega)
            have hne : ((px, dx).1 : Int) ≠ (tn : Int) := by show (px : Int) ≠ tn; omega
            cases hkp : keep.getD px false
            · rw [hkp] at hkx
              go_wp2_with (first
                | (refine wpList_load_mid rfl 62 _ rfl gl (j * 65) rfl cw.toList _ hra Try.underlying62 rfl (by rw [hcwl]; exact sizeW) ?_; rw [Array.toArray_toList])
                | (refine wpList_store_row rfl 62 _ _ rfl wr.heap.size cw rfl rfl 62 zw (heapNew wr _) (by rw [hsz2]; exact sizeW) (by rw [hzw65, hsz2]) hone2 ?_; generalize hw6 : World.setRow (World.alloc _ _) _ cw = w6; obtain ⟨hbx, hb0, hbel⟩ := HT6.out w6 hw6.symm; have HC6 := Lib.hid (HC.out.on hbel); have HBX := Lib.hid hbx; have hk6 := (hbel.cell (p := ⟨gk, ok + px, none⟩) (World.block_lt_of_cell? wr _ hkx)).trans hkx; clear HT6 hw6 hbel hbx))
              have HCI : Hid (CI w lb cap mb M keep (tn : Int) cn D.ws D.last (fun z => left z && !z.sameKey (ky s)) cnt2 s (crS keep (tn : Int) cn (xs.take (j + 1)) (sec D.last s)) w6) := by rw [HSN.out, crX_none keep _ _ _ (px, dx) hne hkp]; exact HC6.out
              clear HC6 HBX HC HSN p0
              go_roundw
              case rel => exact ⟨j + 1, by omega, by go_num, HCI⟩
              case measure => (simp [intOf]; omega)
            · rw [hkp] at hkx
              go_wp2_with (first
                | (refine wpList_load_mid rfl 62 _ rfl gl (j * 65) rfl cw.toList _ hra Try.underlying62 rfl (by rw [hcwl]; exact sizeW) ?_; rw [Array.toArray_toList])
                | (refine wpList_store_row rfl 62 _ _ rfl wr.heap.size cw rfl rfl 62 zw (heapNew wr _) (by rw [hsz2]; exact sizeW) (by rw [hzw65, hsz2]) hone2 ?_; generalize hw6 : World.setRow (World.alloc _ _) _ cw = w6; obtain ⟨hbx, hb0, hbel⟩ := HT6.out w6 hw6.symm; have HC6 := Lib.hid (HC.out.on hbel); have HBX := Lib.hid hbx; have hk6 := (hbel.cell (p := ⟨gk, ok + px, none⟩) (World.block_lt_of_cell? wr _ hkx)).trans hkx; clear HT6 hw6 hbel hbx))
              have HCP : Hid (∃ cs, (∀ ty dc, (Builtin.copy_ #[27, 27] ty #[.slice (some ⟨lb, s * 64, none⟩) 64 dc, .slice (some ⟨wr.heap.size, 1, none⟩) 64 64]).run Try.prog w6.drew = .ok (goInt 64) (w6.drew.setRow lb cs)) ∧ CI w lb cap mb M keep (tn : Int) cn D.ws D.last (fun z => left z && !z.sameKey (ky s)) cnt2 s (crS keep (tn : Int) cn (xs.take (j + 1)) (sec D.last s)) (w6.drew.setRow lb cs) ∧ (w6.drew.setRow lb cs).cell? ⟨p, 0, none⟩ = some (.slice (some ⟨lb, 0, none⟩) ln cap)) := by
                obtain ⟨cs, h1, h2⟩ := CI.copy (HC6.out.on (belowDrew w6 1)) (by rw [HLN.out]; exact q1) HLB.out wr.heap.size px 64 dx hdx (by omega) (by rw [HCW.out]; exact HBX.out)
                refine ⟨cs, h1, ?_, (HP0.out _ (h2.fr)).1⟩
                rw [HSN.out, crX_keep keep _ _ _ (px, dx) hne hkp hdx HCL.out, show dx = dx.take 64 from (List.take_of_length_le (by omega)).symm]
                exact h2
              have hp0 := (HP0.out _ HC6.out.fr).1
              clear HC6 HBX HC HSN p0
              refine wp_region_held_drew (S := fun u => u.cell? ⟨p, 0, none⟩ = some (.slice (some ⟨lb, 0, none⟩) ln cap)) (by kernel_rfl) (hp0) (fun hHeld => ?_)
              refine wpAnyH_take (i := 0) (v := .pointer (some ⟨p, 0, none⟩)) rfl (by kernel_rfl) (by kernel_rfl) (by kernel_rfl) (fun _ _ _ h => h) (Or.inl ⟨by rfl, fun w hw => by go_simp⟩) hHeld ?_
              simp only [Act.put, List.getElem_toArray, List.getElem_cons_zero, List.setIfInBounds_toArray, List.set_cons_zero, List.set_cons_succ]
              refine wpAnyH_take (i := 1) (v := .int .i64 s) rfl (by kernel_rfl) (by kernel_rfl) (by kernel_rfl) (fun _ _ _ h => h) (Or.inl ⟨by rfl, fun w hw => by go_simp⟩) hHeld ?_
              simp only [Act.put, List.getElem_toArray, List.getElem_cons_zero, List.getElem_cons_succ, List.setIfInBounds_toArray, List.set_cons_zero, List.set_cons_succ]
              refine wpAnyH_take (i := 3) (v := .pointer (some ⟨wr.heap.size, 1, none⟩)) rfl (by kernel_rfl) (by kernel_rfl) (by kernel_rfl) (fun _ _ _ h => h) (Or.inl ⟨by rfl, fun w hw => by go_simp⟩) hHeld ?_
              simp only [Act.put, List.getElem_toArray, List.getElem_cons_zero, List.getElem_cons_succ, List.setIfInBounds_toArray, List.set_cons_zero, List.set_cons_succ]
              refine wpAnyH_take (i := 4) (v := .slice (some ⟨wr.heap.size, 1, none⟩) 64 64) rfl (by kernel_rfl) (by kernel_rfl) (by kernel_rfl) (fun _ _ _ h => h) (Or.inl ⟨by rfl, fun w hw => by go_simp⟩) hHeld ?_
              simp only [Act.put, List.getElem_toArray, List.getElem_cons_zero, List.getElem_cons_succ, List.setIfInBounds_toArray, List.set_cons_zero, List.set_cons_succ]
              refine wpAnyH_ready (rs := [2]) (by kernel_rfl) (by simp) ?_
              refine AllReadyH.cons (o := _) rfl (fun K hK => ?_) AllReadyH.nil
              go_simp
              refine (lastingC (w := w6.drew) hHeld hk1 hk2 hx s q1).mono ?_
              rintro e w' ⟨rfl, rfl⟩
              go_wp2_with fail
              refine hK.out _ _ hHeld (fun hHeld => ?_)
              clear hK K
              refine wpAnyH_ready (rs := [5]) (by kernel_rfl) (by simp) ?_
              refine AllReadyH.cons (o := _) rfl (fun K hK => ?_) AllReadyH.nil
              obtain ⟨cs, hcp, hci, hp1⟩ := HCP.out
              have HCI := Lib.hid hci
              clear hci HCP
              go_simp
              refine hK.out _ _ hp1 (fun hHeld => ?_)
              clear hK K
              refine wpAnyH_done (by kernel_rfl) ?_ _
              generalize World.setRow w6.drew lb cs = w7 at *
              clear hcp hp1 hHeld
              go_wp2_with fail
              go_roundw
              case rel => exact ⟨j + 1, by omega, by go_num, HCI⟩
              case measure => (simp [intOf]; omega)
        · have hjl : j = xs.length := by omega
          subst hjl
          have HE : Hid (CL w lb cap mb M keep (tn : Int) cn D.ws D.last (fun z => left z && !z.sameKey (ky s)) cnt2 wr) := CI.stop (by have := HC.out; rw [List.take_length, ← HX0.out] at this; exact this)
          clear HC
          go_wp2_with fail
          go_roundw
          case rel => exact ⟨_, _, HE⟩
          case measure => (rw [HE.out.rg.left_eq, H.out.rg.left_eq]; exact HLT.out)
/-- Crash -/
theorem crash (h : DK S w p D) (kv : Value) (keep : List Bool) (hk : RBo w kv keep) (hkl : keep.length = D.ws.length) (hks : ∀ g, kv.ownBlock = some g → keep ≠ [] → ¬ S g) (hn : D.ws.length ≤ 1073741824) (torn cut : Int) (h1 : -1 ≤ torn) (h2 : torn < D.ws.length) (h3 : torn ≠ -1 → 0 ≤ cut ∧ cut ≤ 64) :
    Calls Try.prog 35 #[.pointer (some ⟨p, 0, none⟩), kv, .int .i64 torn, .int .i64 cut] w fun e w' => e = .returned (.int .i64 0) ∧ DK S w' p ⟨crD keep torn (if torn = -1 then 0 else cut.toNat) D.last D.ws, [], none⟩ ∧ Fr (fun k => ¬ S k) w w' := by
  obtain ⟨lb, cap, mb, ov, M, L, h⟩ := h
  by_cases ht : torn = -1
  · subst ht
    rw [if_pos rfl]
    exact crash_n h kv keep hk hkl hks hn cut
  · rw [if_neg ht]
    obtain ⟨h4, h5⟩ := h3 ht
    obtain ⟨tn, rfl⟩ : ∃ tn : Nat, torn = tn := ⟨torn.toNat, by omega⟩
    obtain ⟨cn, rfl⟩ : ∃ cn : Nat, cut = cn := ⟨cut.toNat, by omega⟩
    exact crash_t h kv keep hk hkl hks hn tn cn (by omega) (by omega)
set_option maxHeartbeats 1000000 in
theorem crash_arg (h : DK S w p D) (kv : Value) (keep : List Bool) (hk : RBo w kv keep) (hkl : keep.length = D.ws.length) (torn cut : Int) (hb : torn < -1 ∨ D.ws.length ≤ torn ∨ torn ≠ -1 ∧ (cut < 0 ∨ 64 < cut)) :
    Calls Try.prog 35 #[.pointer (some ⟨p, 0, none⟩), kv, .int .i64 torn, .int .i64 cut] w fun e w' => e = .returned (.int .i64 2) ∧ w' = w := by
  obtain ⟨lb, cap, mb, ov, M, L, h⟩ := h
  have c2 := h.c2
  obtain ⟨oa, oc, rfl⟩ := h.ovf
  obtain ⟨ka, kc, rfl, _, _⟩ := hk
  rw [hkl]
  clear h hkl
  generalize D.ws.length = n at *
  by_cases h1 : torn < -1
  · have ht1 : decide (torn < -1) = true := decide_eq_true h1
    go_enter Try.func35, Try.ntmps35
    go_wp2_with fail
    go_ret
    exact ⟨rfl, rfl⟩
  · have ht1 : decide (torn < -1) = false := decide_eq_false h1
    by_cases h2 : (n : Int) ≤ torn
    · have ht2 : decide ((n : Int) ≤ torn) = true := decide_eq_true h2
      go_enter Try.func35, Try.ntmps35
      go_wp2_with fail
      go_ret
      exact ⟨rfl, rfl⟩
    · have ht2 : decide ((n : Int) ≤ torn) = false := decide_eq_false h2
      obtain ⟨h3, h4⟩ : torn ≠ -1 ∧ (cut < 0 ∨ 64 < cut) := by omega
      have ht3 : (torn != -1) = true := bne_iff_ne.2 h3
      by_cases h5 : cut < 0
      · have ht5 : decide (cut < 0) = true := decide_eq_true h5
        go_enter Try.func35, Try.ntmps35
        go_wp2_with fail
        go_ret
        exact ⟨rfl, rfl⟩
      · have ht5 : decide (cut < 0) = false := decide_eq_false h5
        have ht6 : decide ((64 : Int) < cut) = true := decide_eq_true (by omega)
        go_enter Try.func35, Try.ntmps35
        go_wp2_with fail
        go_ret
        exact ⟨rfl, rfl⟩
end
end Go.Proofs.Ytglknmelcianjaa
