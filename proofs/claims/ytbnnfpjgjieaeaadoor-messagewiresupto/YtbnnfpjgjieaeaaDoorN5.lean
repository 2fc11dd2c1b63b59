import Derived.Test.YtbnnfpjgjieaeaaDoorN4
import Derived.Test.YtbnnfpjgjieaeaaDoorEw
namespace Go.Proofs.YtbnnfpjgjieaeaaDoor
open Go.RowKit
theorem MsEq.nil : MsEq [] [] := ⟨rfl, fun i x y hx _ => by simp at hx⟩
theorem MsEq.snoc {ms ns : List Mg} (h : MsEq ms ns) (x y : Mg) (h1 : y.D = x.D) (h2 : y.hb = x.hb) (h3 : y.m = { x.m with d := y.m.d, h := y.m.h }) : MsEq (ms ++ [x]) (ns ++ [y]) := by
  refine ⟨by simp [h.1], fun i a b ha hb => ?_⟩
  by_cases hi : i < ms.length
  · rw [List.getElem?_append_left hi] at ha
    rw [List.getElem?_append_left (by rw [h.1]; exact hi)] at hb
    exact h.2 i a b ha hb
  · rw [List.getElem?_append_right (by omega)] at ha
    rw [List.getElem?_append_right (by rw [h.1]; omega)] at hb
    have hz : i - ms.length = 0 := by
      have := (List.getElem?_eq_some_iff.1 ha).1
      simp at this
      omega
    rw [h.1] at hb
    rw [hz] at ha hb
    simp at ha hb
    subst ha hb
    exact ⟨h1, h2, h3⟩
theorem MsEq.one {w w' : World} {x y : Mg} (hx : MM w x.m x.D x.hb) (hy : MM w' y.m y.D y.hb) (h1 : y.D = x.D) (h2 : y.hb = x.hb) (h3 : y.m = { x.m with d := y.m.d, h := y.m.h }) : valE y.m = valE x.m ∧ y.fr = x.fr := by
  have e1 : sln y.m.d = sln x.m.d := by rw [hx.sd, hy.sd, h1]
  have e2 : sln y.m.h = sln x.m.h := by
    have a := hx.sh
    have b := hy.sh
    rw [h2] at b
    omega
  constructor
  · rw [h3]; exact valE_same _ _ _ e1 e2
  · unfold Mg.fr
    rw [h1, h2, h3]
    rw [encB_same _ _ _ _ _ e1 e2]
theorem MsEq.wires {w w' : World} : ∀ {ms ns : List Mg}, MsEq ms ns → (∀ x ∈ ms, MM w x.m x.D x.hb) → (∀ x ∈ ns, MM w' x.m x.D x.hb) → wirE ns = wirE ms ∧ wirB ns = wirB ms := by
  intro ms
  induction ms with
  | nil =>
    intro ns h _ _
    obtain rfl : ns = [] := List.length_eq_zero_iff.1 h.1
    exact ⟨rfl, rfl⟩
  | cons x l ih =>
    intro ns h hx hy
    match ns, h with
    | [], h => exact absurd h.1 (by simp)
    | y :: k, h =>
      obtain ⟨a1, a2, a3⟩ := h.2 0 x y rfl rfl
      obtain ⟨b1, b2⟩ := MsEq.one (hx x (by simp)) (hy y (by simp)) a1 a2 a3
      obtain ⟨c1, c2⟩ := ih (ns := k) ⟨by have := h.1; simp at this; exact this, fun i a b ha hb => h.2 (i + 1) a b (by simpa using ha) (by simpa using hb)⟩ (fun z hz => hx z (by simp [hz])) (fun z hz => hy z (by simp [hz]))
      constructor
      · unfold wirE; rw [b1, c1]
      · unfold wirB at c2 ⊢; rw [List.map_cons, List.map_cons, List.flatten_cons, List.flatten_cons, b2, c2]
set_option maxHeartbeats 2000000 in
set_option maxRecDepth 100000 in
theorem twinsT (w : World) (v : Value) (ms : List Mg) (hr : RMS w v ms) (hl : ms.length ≤ 1048576) :
    Calls Tryd.prog 15 #[v] w fun e w' => ∃ v' ns, e = .returned v' ∧ OMS w.heap.size w' v' ns ∧ MsEq ms ns ∧ Below w.heap.size w w' := by
  obtain ⟨a, c, rfl, _⟩ := id hr
  have HR : Hid (RMS w (.slice a ms.length c) ms) := hr
  clear hr
  go_enter Tryd.func15, Tryd.ntmps15
  go_wp2
  generalize hln : ms.length = len at *
  have HN : Hid (ms.length = len) := hln
  clear hln
  go_loopw [3, 4] (fun u t wr => ∃ n : Nat, n ≤ len ∧ t = .int .i64 n ∧ Hid (∃ ns, OMS w.heap.size wr u ns ∧ MsEq (ms.take n) ns ∧ Below w.heap.size w wr)) (fun _ t _ => len - (intOf t).toNat)
  case atStart => exact ⟨0, by omega, rfl, [], OMS.nil _ _, MsEq.nil, Below.refl _ _⟩
  case round =>
    obtain ⟨n, hn, rfl, hI⟩ := hrel
    obtain ⟨ns, hO, hE, hB⟩ := hI.out
    by_cases hlt : n < len
    · have hl2 : n < ms.length := by rw [HN.out]; exact hlt
      have hx : ms[n]? = some ms[n] := List.getElem?_eq_getElem hl2
      generalize ms[n] = x at hx
      obtain ⟨g, o, rfl, hg, hrg, hmx⟩ := (HR.out.keep hB).at n x hx
      have hrg' : wr.rangeAt g (o + n * 40) x.m.ls := hrg
      have hiL : (Tryd.prog.info? 47).map (·.size) = some x.m.ls.length := by rw [ok_ls hmx.ok]; kernel_rfl
      obtain ⟨ua, uc, rfl⟩ := hO.form
      have HX : Hid (MM wr x.m x.D x.hb ∧ OMS w.heap.size wr (.slice ua ns.length uc) ns ∧ MsEq (ms.take n) ns ∧ Below w.heap.size w wr ∧ ms.take (n + 1) = ms.take n ++ [x] ∧ ns.length < 1073741824) := ⟨hmx, hO, hE, hB, by rw [List.take_add_one, hx]; rfl, by have h9 := hE.1; rw [List.length_take] at h9; omega⟩
      clear hI hO hE hB hrg hmx hx
      go_wp2_with (first | (refine wpList_load_mid rfl 47 _ rfl g (o + n * 40) rfl _ _ hrg' Tryd.underlying47 rfl hiL ?_))
      clear hrg' hiL
      refine (twinO wr x.m x.D x.hb HX.out.1).mono ?_
      rintro e w2 ⟨d', h', rfl, om, q3⟩
      obtain ⟨mm, hmm⟩ : ∃ mm : Mg, mm = ⟨{ x.m with d := d', h := h' }, x.D, x.hb⟩ := ⟨_, rfl⟩
      have HMM : Hid (mm.D = x.D ∧ mm.hb = x.hb ∧ mm.m = { x.m with d := mm.m.d, h := mm.m.h }) := by rw [hmm]; exact ⟨rfl, rfl, rfl⟩
      rw [show ({ x.m with d := d', h := h' } : Mv) = mm.m by rw [hmm]]
      rw [← hmm] at om
      clear hmm
      have M1 : OMg w.heap.size w2 mm := om.mono HX.out.2.2.2.1.size
      clear om
      have hz2 := heapNew w2 (.cells z40 47)
      have hi1 := info_msg M1.ok
      have ho1 := M1.ok.one
      have hs1 : z40.size = mm.m.cs.size := M1.ok.size.symm
      have hc := heapSetRow _ _ _ mm.m.cs _ hz2
      have hsz40 : mm.m.cs.size = 40 := M1.ok.size
      have bX : Below w2.heap.size w2 ((w2.alloc (.cells z40 47)).setRow w2.heap.size mm.m.cs) := belowSetRow ((Below.refl _ _).alloc (Nat.le_refl _) _) (Nat.le_refl _) _
      have b9 : Below wr.heap.size wr ((w2.alloc (.cells z40 47)).setRow w2.heap.size mm.m.cs) := q3.trans (bX.mono q3.size)
      have bZ : Below ((w2.alloc (.cells z40 47)).setRow w2.heap.size mm.m.cs).heap.size ((w2.alloc (.cells z40 47)).setRow w2.heap.size mm.m.cs) (((w2.alloc (.cells z40 47)).setRow w2.heap.size mm.m.cs).alloc (.cells mm.m.cs 47)) := (Below.refl _ _).alloc (Nat.le_refl _) _
      have bT : Below wr.heap.size wr (((w2.alloc (.cells z40 47)).setRow w2.heap.size mm.m.cs).alloc (.cells mm.m.cs 47)) := b9.trans (bZ.mono b9.size)
      have HV : Hid (OMS w.heap.size (((w2.alloc (.cells z40 47)).setRow w2.heap.size mm.m.cs).alloc (.cells mm.m.cs 47)) (.slice ua ns.length uc) ns ∧ OMg w.heap.size (((w2.alloc (.cells z40 47)).setRow w2.heap.size mm.m.cs).alloc (.cells mm.m.cs 47)) mm ∧ (((w2.alloc (.cells z40 47)).setRow w2.heap.size mm.m.cs).alloc (.cells mm.m.cs 47)).heap[((w2.alloc (.cells z40 47)).setRow w2.heap.size mm.m.cs).heap.size]? = some (.cells mm.m.cs 47 (0, 0)) ∧ Below w.heap.size w (((w2.alloc (.cells z40 47)).setRow w2.heap.size mm.m.cs).alloc (.cells mm.m.cs 47))) := ⟨HX.out.2.1.grow bT, (M1.grow bX).grow bZ, heapNew _ _, HX.out.2.2.2.1.trans (bT.mono HX.out.2.2.2.1.size)⟩
      clear q3 bX b9 bZ bT M1
      go_wp2_with (first | (refine wpList_store_row rfl 47 _ _ rfl w2.heap.size mm.m.cs rfl rfl 47 z40 hz2 hi1 hs1 ho1 ?_) | (refine wpList_load_row rfl 47 _ rfl w2.heap.size rfl 47 mm.m.cs (0, 0) _ hc Tryd.underlying47 rfl hi1 ?_) | (refine build_msg rfl _ rfl mm.m.cs rfl hsz40 ?_) | (at_builtin; refine append_msg rfl _ _ rfl rfl HV.out.1 ((w2.alloc (.cells z40 47)).setRow w2.heap.size mm.m.cs).heap.size mm rfl HV.out.2.2.1 HV.out.2.1 HV.out.2.2.2.size HX.out.2.2.2.2.2 ?_; intro v5 w5 o5 b5 r5))
      refine ⟨⟨n + 1, by omega, by go_num, ⟨ns ++ [mm], o5, ?_, HV.out.2.2.2.trans b5⟩⟩, by simp [intOf]; omega⟩
      rw [HX.out.2.2.2.2.1]
      exact HX.out.2.2.1.snoc x mm HMM.out.1 HMM.out.2.1 HMM.out.2.2
    · have HE : Hid (∃ ns, OMS w.heap.size wr u3 ns ∧ MsEq ms ns ∧ Below w.heap.size w wr) := by
        rw [List.take_of_length_le (by have := HN.out; omega)] at hE
        exact ⟨ns, hO, hE, hB⟩
      clear hI hO hE hB
      go_wp2
      go_ret
      obtain ⟨ns, h1, h2, h3⟩ := HE.out
      exact ⟨_, ns, rfl, h1, h2, h3⟩
set_option maxHeartbeats 2000000 in
set_option maxRecDepth 100000 in
theorem rWireT (w : World) (v : Value) (ms : List Mg) (hr : RMS w v ms) (hl : ms.length ≤ 2147483647) :
    Calls Tryd.prog 16 #[v] w fun e w' => WIR w w' e ms := by
  obtain ⟨a, c, rfl, _⟩ := id hr
  have HR : Hid (RMS w (.slice a ms.length c) ms) := hr
  clear hr
  go_enter Tryd.func16, Tryd.ntmps16
  go_wp2
  generalize hln : ms.length = len at *
  have HN : Hid (ms.length = len) := hln
  clear hln
  go_loopw [4, 5] (fun u t wr => ∃ n : Nat, n ≤ len ∧ t = .int .i64 n ∧ Hid (OW w.heap.size wr u (wirB (ms.take n)) ∧ Below w.heap.size w wr ∧ wirE (ms.take n) = 0)) (fun _ t _ => len - (intOf t).toNat)
  case atStart => exact ⟨0, by omega, rfl, World.ownsRow_nil _ _ _ _, Below.refl _ _, rfl⟩
  case round =>
    obtain ⟨n, hn, rfl, hI⟩ := hrel
    by_cases hlt : n < len
    · have hl2 : n < ms.length := by rw [HN.out]; exact hlt
      have hx : ms[n]? = some ms[n] := List.getElem?_eq_getElem hl2
      generalize ms[n] = x at hx
      have hb1 := hI.out.2.1
      obtain ⟨g, o, rfl, hg, hrg, hmx⟩ := (HR.out.keep hb1).at n x hx
      have hrg' : wr.rangeAt g (o + n * 40) x.m.ls := hrg
      have hiL : (Tryd.prog.info? 47).map (·.size) = some x.m.ls.length := by rw [ok_ls hmx.ok]; kernel_rfl
      have HX : Hid (MM wr x.m x.D x.hb ∧ OW w.heap.size wr u4 (wirB (ms.take n)) ∧ Below w.heap.size w wr ∧ wirE (ms.take n) = 0 ∧ ms.take (n + 1) = ms.take n ++ [x] ∧ (wirB (ms.take n)).length + x.fr.length ≤ 140737488351232 ∧ ms[n]? = some x) := by
        refine ⟨hmx, hI.out.1, hb1, hI.out.2.2, by rw [List.take_add_one, hx]; rfl, ?_, hx⟩
        have h1 := wirB_le (w := w) (ms.take n) (fun y hy => HR.out.mem y (List.mem_of_mem_take hy))
        have h2 := fr_le hmx
        have h3 : (ms.take n).length ≤ 2147483647 := by rw [List.length_take]; omega
        have h4 := Nat.mul_le_mul_right 32772 h3
        omega
      obtain ⟨ua, un, uc, rfl⟩ := hI.out.1.form3
      clear hI hrg hmx hb1 hx
      go_wp2_with (first | (refine wpList_load_mid rfl 47 _ rfl g (o + n * 40) rfl _ _ hrg' Tryd.underlying47 rfl hiL ?_))
      clear hrg' hiL
      refine (rEncodeT wr x.m x.D x.hb HX.out.1).mono ?_
      rintro e w2 ⟨v2, rfl, o2, b2⟩
      obtain ⟨va, vn, vc, rfl⟩ := o2.form3
      by_cases h0 : valE x.m = 0
      · have HY : Hid (OW w.heap.size w2 (.slice ua un uc) (wirB (ms.take n)) ∧ RB w2 (.slice va vn vc) (encB x.m x.D x.hb) ∧ Below w.heap.size w w2 ∧ valE x.m = 0) := ⟨HX.out.2.1.grow b2, o2.rb, HX.out.2.2.1.trans (b2.mono HX.out.2.2.1.size), h0⟩
        rw [h0]
        clear h0 o2 b2
        go_wp2_with fail
        refine (wrapR_yes _ (encB x.m x.D x.hb) HX.out.1.enc_le w2 HY.out.2.1).mono ?_
        rintro e w3 ⟨v3, rfl, o3, b3⟩
        obtain ⟨fa, fn, fc, rfl⟩ := o3.form3
        have HZ : Hid (OW w.heap.size w3 (.slice ua un uc) (wirB (ms.take n)) ∧ RB w3 (.slice fa fn fc) x.fr ∧ Below w.heap.size w w3) := ⟨HY.out.1.grow b3, o3.rb, HY.out.2.2.1.trans (b3.mono HY.out.2.2.1.size)⟩
        clear o3 b3
        go_wp2_with (first | (at_builtin; refine append_bytes rfl _ _ rfl rfl HZ.out.1 rfl HZ.out.2.1 HZ.out.2.2.size HX.out.2.2.2.2.2.1 ?_; intro v' w4 o4 b4))
        refine ⟨⟨n + 1, by omega, by go_num, ?_, HZ.out.2.2.trans b4, ?_⟩, by simp [intOf]; omega⟩
        · rw [HX.out.2.2.2.2.1, wirB_snoc]; exact o4
        · rw [HX.out.2.2.2.2.1]; exact wirE_snoc _ _ HX.out.2.2.2.1 HY.out.2.2.2
      · obtain ⟨ve, hve⟩ : ∃ ve, valE x.m = ve := ⟨_, rfl⟩
        have HV : Hid (wirE ms = ve ∧ ve ≠ 0 ∧ Below w.heap.size w w2) := by
          refine ⟨by rw [← hve]; exact wirE_take ms n x HX.out.2.2.2.2.2.2 HX.out.2.2.2.1 h0, by rw [← hve]; exact h0, HX.out.2.2.1.trans (b2.mono HX.out.2.2.1.size)⟩
        rw [hve] at h0 ⊢
        clear hve o2 b2
        go_wp2
        go_ret2
        exact ⟨_, by rw [HV.out.1]; rfl, by rw [HV.out.1, if_neg HV.out.2.1]; exact World.ownsRow_nil _ _ _ _, HV.out.2.2⟩
    · have HE : Hid (OW w.heap.size wr u4 (wirB ms) ∧ Below w.heap.size w wr ∧ wirE ms = 0) := by
        have h1 := hI.out
        rw [List.take_of_length_le (by have := HN.out; omega)] at h1
        exact h1
      clear hI
      go_wp2
      go_ret2
      exact ⟨_, by rw [HE.out.2.2]; rfl, by rw [HE.out.2.2, if_pos rfl]; exact HE.out.1, HE.out.2.1⟩
set_option maxHeartbeats 2000000 in
set_option maxRecDepth 100000 in
theorem wiresLaw (w : World) (v : Value) (ms : List Mg) (hr : RMS w v ms) (hb : mgW ms ≤ 1048576) (hk : KT w) :
    Calls Tryd.prog 4 #[v] w fun e w' => e = .returned (.bool true) ∧ Below w.heap.size w w' := by
  obtain ⟨a, c, rfl, _⟩ := id hr
  have HO : Hid (RMS w (.slice a ms.length c) ms ∧ mgW ms ≤ 1048576 ∧ KT w) := ⟨hr, hb, hk⟩
  clear hr hb hk
  have hlm := mgW_len ms
  have hlm2 : ms.length ≤ 1048576 := Nat.le_trans hlm HO.out.2.1
  clear hlm
  generalize hlen : ms.length = len at *
  have HN : Hid (ms.length = len) := hlen
  clear hlen
  go_enter Tryd.func4, Tryd.ntmps4
  go_wp2_with fail
  refine (farMsgsT w _ ms HO.out.1 HO.out.2.1).mono ?_
  rintro e w1 ⟨rfl, b1⟩
  have H1 : Hid (KT w1 ∧ Below w.heap.size w w1 ∧ RMS w1 (.slice a len c) ms) := ⟨HO.out.2.2.below b1 HO.out.2.2.pos, b1, HO.out.1.keep b1⟩
  clear b1
  go_wp2_with fail
  refine (twinsT w1 _ ms H1.out.2.2 (by rw [HN.out]; exact hlm2)).mono ?_
  rintro e w2 ⟨v2, ns, rfl, o2, e2, b2⟩
  obtain ⟨na, nc, rfl⟩ := o2.form
  have H2 : Hid (KT w2 ∧ Below w.heap.size w w2 ∧ RMS w2 (.slice a len c) ms ∧ RMS w2 (.slice na ns.length nc) ns ∧ MsEq ms ns ∧ ns.length = len) := ⟨H1.out.1.below b2 H1.out.1.pos, H1.out.2.1.trans (b2.mono H1.out.2.1.size), H1.out.2.2.keep b2, o2.rms, e2, by rw [e2.1]; exact HN.out⟩
  clear H1 o2 e2 b2
  generalize hnl : ns.length = nl at *
  have HNN : Hid (ns.length = nl) := hnl
  clear hnl
  obtain rfl : nl = len := H2.out.2.2.2.2.2
  go_wp2_with fail
  refine (wireT w2 _ ms H2.out.2.2.1 H2.out.1 (by have := HN.out; omega)).mono ?_
  rintro e w3 ⟨v3, rfl, o3, b3⟩
  obtain ⟨va, vn, vc, rfl⟩ := o3.form3
  have hw := H2.out.2.2.2.2.1.wires (w := w2) (w' := w2) (fun x hx => H2.out.2.2.1.mem x hx) (fun x hx => H2.out.2.2.2.1.mem x hx)
  have H3 : Hid (Below w.heap.size w w3 ∧ RMS w3 (.slice a nl c) ms ∧ RMS w3 (.slice na nl nc) ns ∧ MsEq ms ns ∧ RB w3 (.slice va vn vc) (if wirE ms = 0 then wirB ms else []) ∧ wirE ns = wirE ms ∧ wirB ns = wirB ms ∧ (if wirE ms = 0 then wirB ms else []).length ≤ 140737488351232) := by
    refine ⟨H2.out.2.1.trans (b3.mono H2.out.2.1.size), H2.out.2.2.1.keep b3, H2.out.2.2.2.1.keep b3, H2.out.2.2.2.2.1, o3.rb, hw.1, hw.2, ?_⟩
    split
    · have h1 := wirB_le (w := w2) ms (fun y hy => H2.out.2.2.1.mem y hy)
      have h3 : ms.length ≤ 1048576 := by rw [HN.out]; exact hlm2
      have h4 := Nat.mul_le_mul_right 32772 h3
      omega
    · simp
  clear b3 o3 H2 hw
  go_wp2_with fail
  refine (rWireT w3 _ ns H3.out.2.2.1 (by have := HNN.out; omega)).mono ?_
  rintro e w4 ⟨v4, rfl, o4, b4⟩
  obtain ⟨ya, yn, yc, rfl⟩ := o4.form3
  rw [H3.out.2.2.2.2.2.1, H3.out.2.2.2.2.2.2.1] at o4
  rw [H3.out.2.2.2.2.2.1]
  have H4 : Hid (Below w.heap.size w w4 ∧ RMS w4 (.slice a nl c) ms ∧ RMS w4 (.slice na nl nc) ns ∧ MsEq ms ns ∧ RB w4 (.slice va vn vc) (if wirE ms = 0 then wirB ms else []) ∧ RB w4 (.slice ya yn yc) (if wirE ms = 0 then wirB ms else []) ∧ (if wirE ms = 0 then wirB ms else []).length ≤ 140737488351232) := ⟨H3.out.1.trans (b4.mono H3.out.1.size), H3.out.2.1.keep b4, H3.out.2.2.1.keep b4, H3.out.2.2.2.1, H3.out.2.2.2.2.1.keep b4, o4.rb, H3.out.2.2.2.2.2.2.2⟩
  clear H3 o4 b4
  generalize (if wirE ms = 0 then wirB ms else []) = WB at *
  generalize wirE ms = WE at *
  go_wp2_with fail
  refine (same _ _ WB w4 H4.out.2.2.2.2.2.2 H4.out.2.2.2.2.1 H4.out.2.2.2.2.2.1).mono ?_
  rintro e w5 ⟨rfl, nq, rfl⟩
  have H5 : Hid (Below w.heap.size w (w4.drewN nq) ∧ RMS (w4.drewN nq) (.slice a nl c) ms ∧ RMS (w4.drewN nq) (.slice na nl nc) ns ∧ MsEq ms ns) := ⟨belowN H4.out.1 nq, H4.out.2.1.keep (belowDrew _ _), H4.out.2.2.1.keep (belowDrew _ _), H4.out.2.2.2.1⟩
  clear H4
  generalize w4.drewN nq = w6 at *
  go_wp2_with fail
  refine (rowSameT w6 _ _ ms ns H5.out.2.1 H5.out.2.2.1 H5.out.2.2.2 (by rw [HN.out]; omega)).mono ?_
  rintro e w7 ⟨rfl, b7⟩
  have H7 : Hid (Below w.heap.size w w7) := H5.out.1.trans (b7.mono H5.out.1.size)
  clear H5 b7
  go_wp2
  go_ret
  exact ⟨rfl, H7.out⟩
end Go.Proofs.YtbnnfpjgjieaeaaDoor
