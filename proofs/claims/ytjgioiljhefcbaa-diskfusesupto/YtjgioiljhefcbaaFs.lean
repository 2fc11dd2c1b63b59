import Derived.Test.YtjgioiljhefcbaaAd
import Derived.Deep.RegionHeld3
namespace Go.Proofs.Ytjgioiljhefcbaa
open Go.RowKit
theorem word4_rb (u : World) (a b c d : UInt8) (f : Nat × Nat) : RB (u.alloc (.cells #[.int .u8 (a.toNat : Int), .int .u8 (b.toNat : Int), .int .u8 (c.toNat : Int), .int .u8 (d.toNat : Int)] 5 f)) (.slice (some ⟨u.heap.size, 0, none⟩) 4 4) [a, b, c, d] := by
  have hg := heapNew u (.cells #[.int .u8 (a.toNat : Int), .int .u8 (b.toNat : Int), .int .u8 (c.toNat : Int), .int .u8 (d.toNat : Int)] 5 f)
  refine ⟨_, 4, rfl, Nat.le_refl _, .inr ⟨u.heap.size, 0, rfl, (Array.getElem?_eq_some_iff.1 hg).1, fun i hi => ?_⟩⟩
  simp only [World.cell?, hg]
  match i, hi with
  | 0, _ => rfl
  | 1, _ => rfl
  | 2, _ => rfl
  | 3, _ => rfl
theorem conv4 (u : World) (x y z v : Value) (g : Nat) (hg : g = u.heap.size) : (convert 22 22 (.slice (some ⟨g, 0, none⟩) 4 4)).run Try.prog (u.alloc (.cells #[x, y, z, v] 5)) = .ok (.slice (some ⟨g, 0, none⟩) 4 4) (u.alloc (.cells #[x, y, z, v] 5 (4, 5))) :=
  by subst hg; exact Lib.run_convert_bytes_const u 22 5 #[x, y, z, v] 4 4 Try.underlying22 Try.underlying5
def wAnew : List UInt8 := [97, 110, 101, 119]
/-- an act that is kept -/
def isFit (n : Nat) (x : Av) : Bool := x.sy || (decide (0 ≤ x.u.at_) && decide (x.u.at_ < (n : Int)))
theorem isFit_fits {nl : Nat} {x : Av} (h : isFit (nl / 64) x = true) : Fits nl x := by
  unfold isFit at h
  rcases Bool.or_eq_true_iff.1 h with h | h
  · exact .inl h
  · obtain ⟨h1, h2⟩ := Bool.and_eq_true_iff.1 h
    have := of_decide_eq_true h1
    have := of_decide_eq_true h2
    exact .inr ⟨by omega, by omega⟩
theorem slice_acts (va : Option Addr) (vn vc nb : Nat) (h : nb ≤ vc) (hv : va = none → vc = 0) (w : World) : (Instr.sliceAt 54 (.slice va vn vc) none (some (.int .i64 nb)) none).run Try.prog w = .ok (.slice va nb vc) w := by
  have hu := Try.underlying54
  have h1 : (0 : Int) ≤ (nb : Int) := by omega
  have h2 : (nb : Int) ≤ (vc : Int) := by omega
  cases va with
  | none =>
    have := hv rfl
    subst this
    have : nb = 0 := by omega
    subst this
    simp [Instr.sliceAt, run_underlying hu, go_sem]
  | some a => simp [Instr.sliceAt, run_underlying hu, go_sem, h1, h2]
/-- three disks, each in blocks of its own -/
structure F3 (w wr : World) (s3 s4 s5 : Nat) (a b c : Nat) (A B C : Dk) : Prop where
  f : Below w.heap.size w wr
  a : DK (fun k => s3 ≤ k ∧ k < s4) wr a A
  b : DK (fun k => s4 ≤ k ∧ k < s5) wr b B
  c : DK (fun k => s5 ≤ k) wr c C
  o : w.heap.size ≤ s3 ∧ s3 ≤ s4 ∧ s4 ≤ s5 ∧ s5 ≤ wr.heap.size
theorem F3.on {w wr w2 : World} {s3 s4 s5 a b c : Nat} {A B C : Dk} (h : F3 w wr s3 s4 s5 a b c A B C) (hb : Below wr.heap.size wr w2) : F3 w w2 s3 s4 s5 a b c A B C :=
  ⟨h.f.trans (hb.mono h.f.size), h.a.below hb, h.b.below hb, h.c.below hb, h.o.1, h.o.2.1, h.o.2.2.1, Nat.le_trans h.o.2.2.2 hb.size⟩
theorem F3.setA {w wr w2 : World} {s3 s4 s5 a b c : Nat} {A B C A' : Dk} (h : F3 w wr s3 s4 s5 a b c A B C) (hd : DK (fun k => s3 ≤ k ∧ k < s4) w2 a A') (hf : Fr (fun k => ¬ (s3 ≤ k ∧ k < s4)) wr w2) : F3 w w2 s3 s4 s5 a b c A' B C := by
  have ho := h.o
  have hz := h.f.size
  have hs := hf.size
  exact ⟨⟨hf.os.trans h.f.os, hf.tape.trans h.f.tape, hf.output.trans h.f.output, Nat.le_trans hz hf.size, fun k hk => (hf.block k (by omega) (by omega)).trans (h.f.block k hk)⟩, hd, h.b.fr (hf.mono (fun k _ h => by omega)), h.c.fr (hf.mono (fun k _ h => by omega)), ho.1, ho.2.1, ho.2.2.1, by omega⟩
theorem F3.setB {w wr w2 : World} {s3 s4 s5 a b c : Nat} {A B C B' : Dk} (h : F3 w wr s3 s4 s5 a b c A B C) (hd : DK (fun k => s4 ≤ k ∧ k < s5) w2 b B') (hf : Fr (fun k => ¬ (s4 ≤ k ∧ k < s5)) wr w2) : F3 w w2 s3 s4 s5 a b c A B' C := by
  have ho := h.o
  have hz := h.f.size
  have hs := hf.size
  exact ⟨⟨hf.os.trans h.f.os, hf.tape.trans h.f.tape, hf.output.trans h.f.output, Nat.le_trans hz hf.size, fun k hk => (hf.block k (by omega) (by omega)).trans (h.f.block k hk)⟩, h.a.fr (hf.mono (fun k _ h => by omega)), hd, h.c.fr (hf.mono (fun k _ h => by omega)), ho.1, ho.2.1, ho.2.2.1, by omega⟩
/-- the image and the acts, held -/
structure PF (w wr : World) (ov lv : Value) (o : List UInt8) (X : List Av) : Prop where
  b : Below w.heap.size w wr
  o : RB wr ov o
  x : RAv wr lv X
theorem PF.on {w wr w2 : World} {ov lv : Value} {o : List UInt8} {X : List Av} (h : PF w wr ov lv o X) (hb : Below wr.heap.size wr w2) : PF w w2 ov lv o X := ⟨h.b.trans (hb.mono h.b.size), h.o.keep hb, h.x.keep hb⟩
set_option maxHeartbeats 40000000 in
set_option maxRecDepth 100000 in
theorem fusesLaw (iv v kv : Value) (l : List UInt8) (xs : List Av) (fz : Int) (keep : List Bool) (torn cut : Int) (w : World) (hi : RB w iv l) (hl : l.length ≤ 140737488351232) (hr : RAv w v xs) (hxl : xs.length ≤ 1048576) (hfz : -9223372036854775808 ≤ fz ∧ fz ≤ 9223372036854775807) (hk : RBo w kv keep) (hkl : keep.length ≤ 1048576) :
    Calls Try.prog 7 #[iv, v, .int .i64 fz, kv, .int .i64 torn, .int .i64 cut] w fun e w' => e = .returned (.bool true) ∧ Below w.heap.size w w' := by
  have HAW := Lib.hid (awake w)
  have HI : Hid (RB w iv l) := hi
  have HR : Hid (RAv w v xs) := hr
  have HK : Hid (RBo w kv keep) := hk
  have HLL : Hid (l.length ≤ 140737488351232 ∧ keep.length ≤ 1048576 ∧ fz ≤ 9223372036854775807) := ⟨hl, hkl, hfz.2⟩
  obtain ⟨ia, ic, rfl, _, _⟩ := hi
  obtain ⟨wa, wc, rfl, _, _⟩ := hr.1
  obtain ⟨ka, kc, rfl, _, _⟩ := hk
  clear hr hfz hkl
  generalize hln : xs.length = ln at *
  have HLN : Hid (xs.length = ln) := hln
  clear hln
  have hcv := fun (u : World) (g : Nat) (h : g = u.heap.size) => conv4 u (.int .u8 97) (.int .u8 110) (.int .u8 101) (.int .u8 119) g h
  go_enter Try.func7, Try.ntmps7
  go_wp2_with fail
  refine HAW.out.mono ?_
  rintro e w1 ⟨rfl, b1⟩
  have B1 : Hid (Below w.heap.size w w1) := b1
  clear b1 HAW
  go_wp2_with fail
  refine (whole _ l w1 (HI.out.keep B1.out) HLL.out.1).mono ?_
  rintro e w2 ⟨ov, rfl, ho, b2⟩
  obtain ⟨oa, oc, rfl⟩ := ho.form
  have P2 : Hid (Below w.heap.size w w2 ∧ OW w1.heap.size w2 (.slice oa (wh l).length oc) (wh l) ∧ w.heap.size ≤ w1.heap.size) := ⟨B1.out.trans (b2.mono B1.out.size), ho, B1.out.size⟩
  clear ho b2 B1
  have hwl : (wh l).length ≤ 32768 := (wh_gd l).2.2
  have HWG : Hid ((wh l).length % 64 = 0 ∧ 64 ≤ (wh l).length) := ⟨(wh_gd l).1, (wh_gd l).2.1⟩
  generalize hnl : (wh l).length = nl at *
  have HWL : Hid ((wh l).length = nl) := hnl
  clear hnl
  have HF : Hid (∀ k, ((xs.take k).filter (isFit (nl / 64))).length ≤ k) := fun k => Nat.le_trans (List.length_filter_le _ _) (List.length_take_le _ _)
  go_wp2_with fail
  go_loopw [15, 16] (fun v i wr => ∃ (k vn : Nat) (va : Option Addr) (vc : Nat), k ≤ ln ∧ i = .int .i64 k ∧ v = .slice va vn vc ∧ Hid (OAv w2.heap.size wr (.slice va vn vc) ((xs.take k).filter (isFit (nl / 64))) ∧ Below w2.heap.size w2 wr)) (fun _ i _ => ln - (intOf i).toNat)
  case atStart => exact ⟨0, 0, none, 0, Nat.zero_le _, rfl, rfl, World.ownsRow_nil _ _ _ _, Below.refl _ _⟩
  case round =>
    obtain ⟨k, vn, va, vc, hk, rfl, rfl, H⟩ := hrel
    by_cases hlt : k < ln
    · obtain ⟨u, hu⟩ : ∃ u, xs[k]? = some u := ⟨xs[k]'(by rw [HLN.out]; exact hlt), List.getElem?_eq_getElem _⟩
      have HW := Lib.hid ((HR.out.keep P2.out.1).keep H.out.2)
      obtain ⟨g, o, rfl, hc1, hc2, hc3⟩ : ∃ g o, wa = some ⟨g, o, none⟩ ∧ wr.cell? ⟨g, o + k * 3, none⟩ = some (.bool u.sy) ∧ wr.cell? ⟨g, o + k * 3 + 1, none⟩ = some (.int .i64 u.u.at_) ∧ wr.cell? ⟨g, o + k * 3 + 2, none⟩ = some u.u.dv := by
        obtain ⟨⟨a', c', e, _, h⟩, _⟩ := HW.out
        simp only [Value.slice.injEq] at e
        rcases h with h0 | ⟨g, o, e2, _, h⟩
        · rw [h0] at hu; simp at hu
        · exact ⟨g, o, by rw [e.1, e2], h k u hu⟩
      have HT : Hid ((xs.take (k + 1)).filter (isFit (nl / 64)) = (xs.take k).filter (isFit (nl / 64)) ++ if isFit (nl / 64) u then [u] else []) := by
        obtain ⟨h1, h2⟩ := List.getElem?_eq_some_iff.1 hu
        show (xs.take (k + 1)).filter (isFit (nl / 64)) = _
        rw [List.take_succ_eq_append_getElem h1, List.filter_append, h2]
        by_cases hb : isFit (nl / 64) u = true <;> simp [hb]
      have hone : u.u.dv.oneCell' = true := (HW.out.2 u (List.mem_of_getElem? hu)).1.one
      have HA : Hid (OAv w2.heap.size (wr.alloc (.cells #[.bool u.sy, .int .i64 u.u.at_, u.u.dv] 56)) (.slice va vn vc) ((xs.take k).filter (isFit (nl / 64))) ∧ w2.heap.size ≤ (wr.alloc (.cells #[.bool u.sy, .int .i64 u.u.at_, u.u.dv] 56)).heap.size ∧ Below w2.heap.size w2 (wr.alloc (.cells #[.bool u.sy, .int .i64 u.u.at_, u.u.dv] 56)) ∧ ((xs.take k).filter (isFit (nl / 64))).length < 1073741824) :=
        ⟨ownsRow_fr (S := fun _ => True) H.out.1 (Fr.of_below ((Below.refl _ _).alloc (Nat.le_refl _) _)) (fun _ _ => trivial), by have := H.out.2.size; simp; omega, H.out.2.alloc H.out.2.size _, by have := HF.out k; omega⟩
      have HG : Hid (∀ W : World, (W.alloc (.cells #[.bool u.sy, .int .i64 u.u.at_, u.u.dv] 56)).heap[W.heap.size]? = some (.cells #[.bool u.sy, .int .i64 u.u.at_, u.u.dv] 56 (0, 0))) := fun W => heapNew _ _
      have HNO : Hid (isFit (nl / 64) u = false → OAv w2.heap.size wr (.slice va vn vc) ((xs.take (k + 1)).filter (isFit (nl / 64))) ∧ Below w2.heap.size w2 wr) := fun h => ⟨by rw [HT.out, h]; simpa using H.out.1, H.out.2⟩
      have HIF : Hid (isFit (nl / 64) u = (u.sy || (decide (0 ≤ u.u.at_) && decide (u.u.at_ < ((nl / 64 : Nat) : Int))))) := rfl
      clear H hu HW
      obtain ⟨sy, ua, ud, ul⟩ := u
      dsimp only at *
      cases sy with
      | true =>
        have hfit : isFit (nl / 64) ⟨true, ua, ud, ul⟩ = true := by rw [HIF.out]; rfl
        have HT2 : Hid ((xs.take (k + 1)).filter (isFit (nl / 64)) = (xs.take k).filter (isFit (nl / 64)) ++ [⟨true, ua, ud, ul⟩]) := HT.out.trans (by rw [if_pos hfit])
        clear HT HNO HIF hfit
        go_wp2_with (at_builtin; refine append_act rfl _ _ rfl rfl HA.out.1 wr.heap.size ⟨true, ua, ud, ul⟩ rfl (HG.out wr) hone HA.out.2.1 HA.out.2.2.2 ?_; intro v' w3 ho1 hb1; obtain ⟨a', n', c', rfl⟩ : ∃ a n c, v' = .slice a n c := (by obtain ⟨a, c, e⟩ := ownsRow_form ho1; exact ⟨a, _, c, e⟩); have HN : Hid (OAv w2.heap.size w3 (.slice a' n' c') ((xs.take (k + 1)).filter (isFit (nl / 64))) ∧ Below w2.heap.size w2 w3) := ⟨by rw [HT2.out]; exact ho1, HA.out.2.2.1.trans hb1⟩; clear ho1 hb1 HA HT2)
        go_roundw
        case rel => exact ⟨k + 1, n', a', c', by omega, by go_num, rfl, HN⟩
        case measure => (simp [intOf]; omega)
      | false =>
        by_cases h0 : 0 ≤ ua
        · have hq0 : decide (0 ≤ ua) = true := decide_eq_true h0
          by_cases h1 : ua < ((nl / 64 : Nat) : Int)
          · have hfit : isFit (nl / 64) ⟨false, ua, ud, ul⟩ = true := by rw [HIF.out, decide_eq_true h0, decide_eq_true h1]; rfl
            have hq1 : decide (ua < (nl : Int) / 64) = true := decide_eq_true (by omega)
            have HT2 : Hid ((xs.take (k + 1)).filter (isFit (nl / 64)) = (xs.take k).filter (isFit (nl / 64)) ++ [⟨false, ua, ud, ul⟩]) := HT.out.trans (by rw [if_pos hfit])
            clear HT HNO HIF hfit
            go_wp2_with (at_builtin; refine append_act rfl _ _ rfl rfl HA.out.1 wr.heap.size ⟨false, ua, ud, ul⟩ rfl (HG.out wr) hone HA.out.2.1 HA.out.2.2.2 ?_; intro v' w3 ho1 hb1; obtain ⟨a', n', c', rfl⟩ : ∃ a n c, v' = .slice a n c := (by obtain ⟨a, c, e⟩ := ownsRow_form ho1; exact ⟨a, _, c, e⟩); have HN : Hid (OAv w2.heap.size w3 (.slice a' n' c') ((xs.take (k + 1)).filter (isFit (nl / 64))) ∧ Below w2.heap.size w2 w3) := ⟨by rw [HT2.out]; exact ho1, HA.out.2.2.1.trans hb1⟩; clear ho1 hb1 HA HT2)
            go_roundw
            case rel => exact ⟨k + 1, n', a', c', by omega, by go_num, rfl, HN⟩
            case measure => (simp [intOf]; omega)
          · have hfit : (false || (decide (0 ≤ ua) && decide (ua < ((nl / 64 : Nat) : Int)))) = false := by rw [decide_eq_false h1]; simp
            have hq1 : decide (ua < (nl : Int) / 64) = false := decide_eq_false (by omega)
            have HN := Lib.hid (HNO.out (by rw [HIF.out, hfit]))
            clear HT HNO HIF HA HG hfit
            go_wp2_with fail
            go_roundw
            case rel => exact ⟨k + 1, vn, va, vc, by omega, by go_num, rfl, HN⟩
            case measure => (simp [intOf]; omega)
        · have hfit : (false || (decide (0 ≤ ua) && decide (ua < ((nl / 64 : Nat) : Int)))) = false := by rw [decide_eq_false h0]; rfl
          have hq0 : decide (0 ≤ ua) = false := decide_eq_false h0
          have HN := Lib.hid (HNO.out (by rw [HIF.out, hfit]))
          clear HT HNO HIF HA HG hfit
          go_wp2_with fail
          go_roundw
          case rel => exact ⟨k + 1, vn, va, vc, by omega, by go_num, rfl, HN⟩
          case measure => (simp [intOf]; omega)
    · have hkn : k = xs.length := by rw [HLN.out]; omega
      have P3 : Hid (OAv w2.heap.size wr (.slice va vn vc) (xs.filter (isFit (nl / 64))) ∧ Below w2.heap.size w2 wr) := ⟨by have := H.out.1; rw [hkn, List.take_length] at this; exact this, H.out.2⟩
      clear H hkn HF
      have HXF : Hid ((∀ x ∈ xs.filter (isFit (nl / 64)), Fits nl x) ∧ (xs.filter (isFit (nl / 64))).length ≤ 1048576) := ⟨fun x hx => isFit_fits (List.mem_filter.1 hx).2, by have := List.length_filter_le (isFit (nl / 64)) xs; have := HLN.out; omega⟩
      have P4 : Hid (PF w wr (.slice oa nl oc) (.slice va vn vc) (wh l) (xs.filter (isFit (nl / 64)))) := by
        have hb : Below w.heap.size w wr := P2.out.1.trans (P3.out.2.mono P2.out.1.size)
        exact ⟨hb, P2.out.2.1.rb.keep P3.out.2, P3.out.1.rw (fun u hu => ⟨(HR.out.2 u (List.mem_filter.1 hu).1).1.keep hb, (HR.out.2 u (List.mem_filter.1 hu).1).2⟩)⟩
      have hvn : vn = (xs.filter (isFit (nl / 64))).length ∧ vn ≤ vc := by
        obtain ⟨a', c', e⟩ := ownsRow_form P3.out.1
        simp only [Value.slice.injEq] at e
        obtain ⟨⟨_, _, e2, hle, _⟩, _⟩ := P4.out.x
        simp only [Value.slice.injEq] at e2
        exact ⟨e.2.1, by omega⟩
      have HVA : Hid (va = none → vc = 0) := fun hv => by
        rcases P3.out.1.2 with ⟨e, _⟩ | ⟨g', c', cur, e, _⟩
        · simp only [Value.slice.injEq] at e; exact e.2.2
        · simp only [Value.slice.injEq] at e; rw [hv] at e; cases e.1
      clear P3 P2
      generalize xs.filter (isFit (nl / 64)) = X at *
      have HXN : Hid (X.length = vn) := hvn.1.symm
      have hvc : vn ≤ vc := hvn.2
      have hvz : vn ≤ 1048576 := by have := HXF.out.2; omega
      clear hvn
      have hwg1 : nl % 64 = 0 := HWG.out.1
      have hwg2 : 64 ≤ nl := HWG.out.2
      have HAC : Hid (∀ (W : World) (ov lv : Value) (Y : List Av), RB W ov (wh l) → RAv W lv Y → Y.length ≤ 1048576 → (∀ x ∈ Y, Fits nl x) → Calls Try.prog 30 #[ov, lv, .int .i64 (-1)] W (ActE W ⟨wh l, [], none⟩ Y)) := fun W ov lv Y h1 h2 h3 h4 => acted_no ov lv (wh l) Y W h1 (by rw [HWL.out]; exact hwg1) (by rw [HWL.out]; exact hwg2) (by rw [HWL.out]; omega) h2 h3 (by rw [HWL.out]; exact h4)
      by_cases hneg : fz < 0
      · have hq : decide (fz < 0) = true := decide_eq_true hneg
        go_wp2_with fail
        refine (HAC.out wr _ _ X P4.out.o P4.out.x HXF.out.2 HXF.out.1).mono ?_
        rintro e w4 ⟨p, rfl, hd, hb⟩
        have M4 : Hid (DK (fun b => wr.heap.size ≤ b) w4 p (acts ⟨wh l, [], none⟩ X) ∧ Below w.heap.size w w4) := ⟨hd, (P4.out.on hb).b⟩
        clear hd hb P4 HAC
        go_wp2_with fail
        refine (fuse_arg M4.out.1 fz hneg).mono ?_
        rintro e w5 ⟨rfl, rfl⟩
        go_wp2_with fail
        go_ret
        exact ⟨rfl, M4.out.2⟩
      obtain ⟨m, rfl⟩ : ∃ m : Nat, fz = m := ⟨fz.toNat, by omega⟩
      have hq : decide ((m : Int) < 0) = false := decide_eq_false (by omega)
      have HM : Hid (m ≤ 9223372036854775807) := by have := HLL.out.2.2; show m ≤ _; omega
      clear hneg
      by_cases hmv : m < vn
      · have hq2 : decide (m < vn) = true := decide_eq_true hmv
        have hsl := fun u : World => slice_acts va vn vc m (by omega) HVA.out u
        have HXB : Hid (X.take m = X.take m) := rfl
        have P5 := Lib.hid (P4.out.on (belowDrew wr 1))
        go_wp2_with fail
        refine wp_region_held_drew (S := fun _ => True) (by kernel_rfl) (trivial) (fun hHeld => ?_)
        refine wpAnyH_take (i := 0) (v := .slice oa nl oc) rfl (by kernel_rfl) (by kernel_rfl) (by kernel_rfl) (fun _ _ _ h => h) (Or.inl ⟨by rfl, fun w hw => by go_simp⟩) hHeld ?_
        simp only [Act.put, List.getElem_toArray, List.getElem_cons_zero, List.setIfInBounds_toArray, List.set_cons_zero, List.set_cons_succ]
        refine wpAnyH_take (i := 1) (v := .slice va vn vc) rfl (by kernel_rfl) (by kernel_rfl) (by kernel_rfl) (fun _ _ _ h => h) (Or.inl ⟨by rfl, fun w hw => by go_simp⟩) hHeld ?_
        simp only [Act.put, List.getElem_toArray, List.getElem_cons_zero, List.getElem_cons_succ, List.setIfInBounds_toArray, List.set_cons_zero, List.set_cons_succ]
        refine wpAnyH_take (i := 2) (v := .int .i64 m) rfl (by kernel_rfl) (by kernel_rfl) (by kernel_rfl) (fun _ _ _ h => h) (Or.inl ⟨by rfl, fun w hw => by go_simp⟩) hHeld ?_
        simp only [Act.put, List.getElem_toArray, List.getElem_cons_zero, List.getElem_cons_succ, List.setIfInBounds_toArray, List.set_cons_zero, List.set_cons_succ]
        refine wpAnyH_take (i := 4) (v := .slice oa nl oc) rfl (by kernel_rfl) (by kernel_rfl) (by kernel_rfl) (fun _ _ _ h => h) (Or.inl ⟨by rfl, fun w hw => by go_simp⟩) hHeld ?_
        simp only [Act.put, List.getElem_toArray, List.getElem_cons_zero, List.getElem_cons_succ, List.setIfInBounds_toArray, List.set_cons_zero, List.set_cons_succ]
        refine wpAnyH_take (i := 5) (v := .slice va vn vc) rfl (by kernel_rfl) (by kernel_rfl) (by kernel_rfl) (fun _ _ _ h => h) (Or.inl ⟨by rfl, fun w hw => by go_simp⟩) hHeld ?_
        simp only [Act.put, List.getElem_toArray, List.getElem_cons_zero, List.getElem_cons_succ, List.setIfInBounds_toArray, List.set_cons_zero, List.set_cons_succ]
        refine wpAnyH_take (i := 6) (v := .int .i64 m) rfl (by kernel_rfl) (by kernel_rfl) (by kernel_rfl) (fun _ _ _ h => h) (Or.inl ⟨by rfl, fun w hw => by go_simp⟩) hHeld ?_
        simp only [Act.put, List.getElem_toArray, List.getElem_cons_zero, List.getElem_cons_succ, List.setIfInBounds_toArray, List.set_cons_zero, List.set_cons_succ]
        refine wpAnyH_take (i := 7) (v := .slice va m vc) rfl (by kernel_rfl) (by kernel_rfl) (by kernel_rfl) (fun _ _ _ h => h) (Or.inl ⟨by rfl, fun w hw => by go_simp⟩) hHeld ?_
        simp only [Act.put, List.getElem_toArray, List.getElem_cons_zero, List.getElem_cons_succ, List.setIfInBounds_toArray, List.set_cons_zero, List.set_cons_succ]
        refine wpAnyH_take (i := 9) (v := .slice oa nl oc) rfl (by kernel_rfl) (by kernel_rfl) (by kernel_rfl) (fun _ _ _ h => h) (Or.inl ⟨by rfl, fun w hw => by go_simp⟩) hHeld ?_
        simp only [Act.put, List.getElem_toArray, List.getElem_cons_zero, List.getElem_cons_succ, List.setIfInBounds_toArray, List.set_cons_zero, List.set_cons_succ]
        refine wpAnyH_take (i := 10) (v := .slice va vn vc) rfl (by kernel_rfl) (by kernel_rfl) (by kernel_rfl) (fun _ _ _ h => h) (Or.inl ⟨by rfl, fun w hw => by go_simp⟩) hHeld ?_
        simp only [Act.put, List.getElem_toArray, List.getElem_cons_zero, List.getElem_cons_succ, List.setIfInBounds_toArray, List.set_cons_zero, List.set_cons_succ]
        refine wpAnyH_ready (rs := [3]) (by kernel_rfl) (by simp) ?_
        refine AllReadyH.cons (o := _) rfl (fun K hK => ?_) AllReadyH.nil
        go_simp
        refine (acted_fuse _ _ (wh l) X m HM.out wr.drew P5.out.o (by rw [HWL.out]; exact hwg1) (by rw [HWL.out]; exact hwg2) (by rw [HWL.out]; omega) P5.out.x HXF.out.2 (by rw [HWL.out]; exact HXF.out.1)).mono ?_
        rintro e w5 ⟨pa, rfl, hda, b5⟩
        have M5 : Hid (DK (fun k => wr.heap.size ≤ k ∧ k < w5.heap.size) w5 pa (acts ⟨wh l, [], some m⟩ X) ∧ PF w w5 (.slice oa nl oc) (.slice va vn vc) (wh l) X ∧ wr.heap.size ≤ w5.heap.size ∧ w.heap.size ≤ wr.heap.size) := ⟨hda.sub (fun k hk h => ⟨h, hk⟩), P5.out.on b5, b5.size, P4.out.b.size⟩
        clear hda b5 P5 P4
        go_wp2_with fail
        refine hK.out _ _ trivial (fun hHeld => ?_)
        clear hK K
        refine wpAnyH_ready (rs := [8]) (by kernel_rfl) (by simp) ?_
        refine AllReadyH.cons (o := _) rfl (fun K hK => ?_) AllReadyH.nil
        go_simp
        refine (HAC.out w5 _ _ (X.take m) M5.out.2.1.o (M5.out.2.1.x.pre (by rw [HXN.out]; omega)) (by have := List.length_take_le m X; have := HXF.out.2; have := HXN.out; omega) (fun x hx => HXF.out.1 x (List.mem_of_mem_take hx))).mono ?_
        rintro e w6 ⟨pb, rfl, hdb, b6⟩
        have M6 : Hid (DK (fun k => wr.heap.size ≤ k ∧ k < w5.heap.size) w6 pa (acts ⟨wh l, [], some m⟩ X) ∧ DK (fun k => w5.heap.size ≤ k ∧ k < w6.heap.size) w6 pb (acts ⟨wh l, [], none⟩ (X.take m)) ∧ PF w w6 (.slice oa nl oc) (.slice va vn vc) (wh l) X ∧ wr.heap.size ≤ w5.heap.size ∧ w.heap.size ≤ wr.heap.size ∧ w5.heap.size ≤ w6.heap.size) := ⟨M5.out.1.below b6, hdb.sub (fun k hk h => ⟨h, hk⟩), M5.out.2.1.on b6, M5.out.2.2.1, M5.out.2.2.2, b6.size⟩
        clear hdb b6 M5
        go_wp2_with fail
        refine hK.out _ _ trivial (fun hHeld => ?_)
        clear hK K
        refine wpAnyH_ready (rs := [11]) (by kernel_rfl) (by simp) ?_
        refine AllReadyH.cons (o := _) rfl (fun K hK => ?_) AllReadyH.nil
        go_simp
        refine (HAC.out w6 _ _ X M6.out.2.2.1.o M6.out.2.2.1.x HXF.out.2 HXF.out.1).mono ?_
        rintro e w7 ⟨pc, rfl, hdc, b7⟩
        have M7 : Hid (F3 w w7 wr.heap.size w5.heap.size w6.heap.size pa pb pc (acts ⟨wh l, [], some m⟩ X) (acts ⟨wh l, [], none⟩ (X.take m)) (acts ⟨wh l, [], none⟩ X)) := ⟨(M6.out.2.2.1.on b7).b, M6.out.1.below b7, M6.out.2.1.below b7, hdc, M6.out.2.2.2.2.1, M6.out.2.2.2.1, M6.out.2.2.2.2.2, b7.size⟩
        clear hdc b7 M6
        go_wp2_with fail
        refine hK.out _ _ trivial (fun hHeld => ?_)
        clear hK K
        refine wpAnyH_ready (rs := [12]) (by kernel_rfl) (by simp) ?_
        refine AllReadyH.cons (o := _) rfl (fun K hK => ?_) AllReadyH.nil
        go_simp
        refine hK.out _ _ hHeld (fun hHeld => ?_)
        clear hK K
        refine wpAnyH_ready (rs := [13]) (by kernel_rfl) (by simp) ?_
        refine AllReadyH.cons (o := _) rfl (fun K hK => ?_) AllReadyH.nil
        go_simp
        refine hK.out _ _ hHeld (fun hHeld => ?_)
        clear hK K
        refine wpAnyH_ready (rs := [14]) (by kernel_rfl) (by simp) ?_
        refine AllReadyH.cons (o := _) rfl (fun K hK => ?_) AllReadyH.nil
        go_simp
        refine hK.out _ _ hHeld (fun hHeld => ?_)
        clear hK K
        refine wpAnyH_done (by kernel_rfl) ?_ _
        clear hHeld
        have HFA : Hid (∃ dd, (acts ⟨wh l, [], some m⟩ X).last = (acts ⟨wh l, [], none⟩ (X.take m)).last ∧ (acts ⟨wh l, [], some m⟩ X).ws = (acts ⟨wh l, [], none⟩ (X.take m)).ws ++ dd ∧ ∀ x ∈ dd, x.dead = true) := by
          have h := acts_fuse X m (wh l) []
          exact h
        have HIA : Hid (img (acts ⟨wh l, [], some m⟩ X).last (acts ⟨wh l, [], some m⟩ X).ws = img (acts ⟨wh l, [], none⟩ X).last (acts ⟨wh l, [], none⟩ X).ws) := acts_img X ⟨wh l, [], some m⟩ ⟨wh l, [], none⟩ rfl rfl (fun x hx => by show Fits (wh l).length x; rw [HWL.out]; exact HXF.out.1 x hx)
        have HLA : Hid ((acts ⟨wh l, [], some m⟩ X).last.length = nl ∧ (acts ⟨wh l, [], none⟩ X).last.length = nl ∧ (acts ⟨wh l, [], some m⟩ X).ws.length ≤ 1048576) := ⟨(acts_len _ _).trans HWL.out, (acts_len _ _).trans HWL.out, by have := acts_ws X ⟨wh l, [], some m⟩; have := HXF.out.2; simp only [List.length_nil] at *; omega⟩
        generalize acts ⟨wh l, [], some m⟩ X = A at *
        generalize acts ⟨wh l, [], none⟩ (X.take m) = B at *
        generalize acts ⟨wh l, [], none⟩ X = C at *
        go_wp2_with fail
        refine (image M7.out.a).mono ?_
        rintro e w8 ⟨v8, rfl, ho, hb⟩
        have M8 : Hid (F3 w w8 wr.heap.size w5.heap.size w6.heap.size pa pb pc A B C ∧ RB w8 v8 (img A.last A.ws)) := ⟨M7.out.on hb, ho.rb⟩
        obtain ⟨a8, c8, e8⟩ := ho.form
        rw [img_len, HLA.out.1] at e8
        subst e8
        clear ho hb M7
        go_wp2_with fail
        refine (image M8.out.1.c).mono ?_
        rintro e w9 ⟨v9, rfl, ho, hb⟩
        rw [← HIA.out] at ho
        have M9 : Hid (F3 w w9 wr.heap.size w5.heap.size w6.heap.size pa pb pc A B C ∧ RB w9 (.slice a8 nl c8) (img A.last A.ws) ∧ RB w9 v9 (img A.last A.ws)) := ⟨M8.out.1.on hb, M8.out.2.keep hb, ho.rb⟩
        obtain ⟨a9, c9, e9⟩ := ho.form
        rw [img_len, HLA.out.1] at e9
        subst e9
        clear ho hb M8
        go_wp2_with fail
        refine (same _ _ _ w9 (by rw [img_len, HLA.out.1]; omega) M9.out.2.1 M9.out.2.2).mono ?_
        rintro e w10 ⟨rfl, nq, rfl⟩
        have M10 := Lib.hid (M9.out.1.on (belowDrew w9 nq))
        clear M9
        generalize w9.drewN nq = w10 at *
        go_wp2_with fail
        refine (durable M10.out.a).mono ?_
        rintro e w11 ⟨v11, rfl, ho, hb⟩
        have M11 : Hid (F3 w w11 wr.heap.size w5.heap.size w6.heap.size pa pb pc A B C ∧ RB w11 v11 A.last) := ⟨M10.out.on hb, ho.rb⟩
        obtain ⟨a11, c11, e11⟩ := ho.form
        rw [HLA.out.1] at e11
        subst e11
        clear ho hb M10
        go_wp2_with fail
        refine (durable M11.out.1.b).mono ?_
        rintro e w12 ⟨v12, rfl, ho, hb⟩
        have HAB : Hid (A.last = B.last) := by obtain ⟨_, h, _⟩ := HFA.out; exact h
        rw [← HAB.out] at ho
        have M12 : Hid (F3 w w12 wr.heap.size w5.heap.size w6.heap.size pa pb pc A B C ∧ RB w12 (.slice a11 nl c11) A.last ∧ RB w12 v12 A.last) := ⟨M11.out.1.on hb, M11.out.2.keep hb, ho.rb⟩
        obtain ⟨a12, c12, e12⟩ := ho.form
        rw [HLA.out.1] at e12
        subst e12
        clear ho hb M11
        go_wp2_with fail
        refine (same _ _ _ w12 (by rw [HLA.out.1]; omega) M12.out.2.1 M12.out.2.2).mono ?_
        rintro e w13 ⟨rfl, nq2, rfl⟩
        have M13 := Lib.hid (M12.out.1.on (belowDrew w12 nq2))
        clear M12
        generalize w12.drewN nq2 = w13 at *
        have HPQ : Hid (B.ws.length ≤ A.ws.length) := by obtain ⟨dd, _, h, _⟩ := HFA.out; show _ ≤ _; rw [h]; simp
        generalize hnp : A.ws.length = np at *
        have HNP : Hid (A.ws.length = np) := hnp
        clear hnp
        generalize hnq : B.ws.length = nB at *
        have HNQ : Hid (B.ws.length = nB) := hnq
        clear hnq
        have hpq : nB ≤ np := HPQ.out
        have hp20 : np ≤ 1048576 := HLA.out.2.2
        go_wp2_with fail
        refine (pending M13.out.a (by rw [HNP.out]; omega)).mono ?_
        rintro e w14 ⟨v14, rfl, ho, hb⟩
        obtain ⟨a14, c14, e14⟩ := ownsRow_form ho
        rw [HNP.out] at e14
        subst e14
        have M14 := Lib.hid (M13.out.on hb)
        clear ho hb M13
        go_wp2_with fail
        refine (pending M14.out.b (by rw [HNQ.out]; omega)).mono ?_
        rintro e w15 ⟨v15, rfl, ho, hb⟩
        obtain ⟨a15, c15, e15⟩ := ownsRow_form ho
        rw [HNQ.out] at e15
        subst e15
        have M15 := Lib.hid (M14.out.on hb)
        clear ho hb M14
        have hq3 : decide (np < nB) = false := decide_eq_false (by omega)
        have hq4 : (nB ≤ np) = True := eq_true hpq
        by_cases t1 : torn < -1
        · have hq5 : decide (torn < -1) = true := decide_eq_true t1
          go_wp2_with fail
          go_ret
          exact ⟨rfl, M15.out.f⟩
        have hq5 : decide (torn < -1) = false := decide_eq_false t1
        by_cases t2 : (np : Int) ≤ torn
        · have hq6 : decide ((np : Int) ≤ torn) = true := decide_eq_true t2
          go_wp2_with fail
          go_ret
          exact ⟨rfl, M15.out.f⟩
        have hq6 : decide ((np : Int) ≤ torn) = false := decide_eq_false t2
        by_cases t3 : cut < 0
        · have hq7 : decide (cut < 0) = true := decide_eq_true t3
          go_wp2_with fail
          go_ret
          exact ⟨rfl, M15.out.f⟩
        have hq7 : decide (cut < 0) = false := decide_eq_false t3
        by_cases t4 : 64 < cut
        · have hq8 : decide (64 < cut) = true := decide_eq_true t4
          go_wp2_with fail
          go_ret
          exact ⟨rfl, M15.out.f⟩
        have hq8 : decide (64 < cut) = false := decide_eq_false t4
        go_wp2_with fail
        refine (kept _ keep np w15 (HK.out.keep M15.out.f) (by have := HLL.out.2.1; omega) (by omega)).mono ?_
        rintro e w16 ⟨kw, rfl, hko, b16⟩
        have M16 := Lib.hid (M15.out.on b16)
        have hkg : ∀ g, kw.ownBlock = some g → w15.heap.size ≤ g := fun g hg => by
          rcases hko.2 with ⟨e, _⟩ | ⟨g', _, _, e, h1, _⟩
          · rw [e] at hg; simp [Value.ownBlock] at hg
          · rw [e] at hg; simp [Value.ownBlock] at hg; omega
        have NC := Lib.hid (crash M16.out.a kw (kp keep np) hko.rb (by rw [kp_len, HNP.out]) (fun g hg h => by have := hkg g hg; have := M15.out.o; omega) (by rw [HNP.out]; omega) torn cut (by omega) (by rw [HNP.out]; omega) (fun _ => by omega))
        obtain ⟨ak, ck, ek⟩ := ownsRow_form hko
        rw [kp_len] at ek
        subst ek
        clear hko b16 hkg M15
        go_wp2_with fail
        refine NC.out.mono ?_
        rintro e w17 ⟨rfl, hd, hf⟩
        have M17 := Lib.hid (M16.out.setA hd hf)
        clear hd hf NC M16
        by_cases t5 : (nB : Int) ≤ torn
        · have hq9 : decide ((nB : Int) ≤ torn) = true := decide_eq_true t5
          have HCF : Hid (crD (kp keep np) torn (if torn = -1 then 0 else cut.toNat) A.last A.ws = crD (kp keep nB) (-1) 0 B.last B.ws) := by
            obtain ⟨dd, h1, h2, h3⟩ := HFA.out
            rw [h1, h2]
            exact (crash_fuse keep torn (-1) cut B.last B.ws dd np nB HNQ.out hpq h3 (by rw [if_pos t5])).trans (by rw [if_pos rfl])
          rw [HCF.out] at M17
          clear HCF HIA HFA
          go_wp2_with fail
          refine (kept _ keep nB w17 (HK.out.keep M17.out.f) (by have := HLL.out.2.1; omega) (by omega)).mono ?_
          rintro e w18 ⟨kw2, rfl, hko, b18⟩
          have M18 := Lib.hid (M17.out.on b18)
          have hkg : ∀ g, kw2.ownBlock = some g → w17.heap.size ≤ g := fun g hg => by
            rcases hko.2 with ⟨e, _⟩ | ⟨g', _, _, e, h1, _⟩
            · rw [e] at hg; simp [Value.ownBlock] at hg
            · rw [e] at hg; simp [Value.ownBlock] at hg; omega
          have NC := Lib.hid (crash M18.out.b kw2 (kp keep nB) hko.rb (by rw [kp_len, HNQ.out]) (fun g hg h => by have := hkg g hg; have := M17.out.o; omega) (by rw [HNQ.out]; omega) (-1) cut (by omega) (by rw [HNQ.out]; omega) (fun _ => by omega))
          rw [if_pos rfl] at NC
          obtain ⟨ak2, ck2, ek2⟩ := ownsRow_form hko
          rw [kp_len] at ek2
          subst ek2
          have HIM0 : Hid ((crD (kp keep nB) (-1) 0 B.last B.ws).length = nl) := by show (crD _ _ _ _ _).length = nl; rw [crD_len, ← HAB.out]; exact HLA.out.1
          clear hko b18 hkg M17
          generalize crD (kp keep nB) (-1) 0 B.last B.ws = im at *
          have HIM : Hid (im.length = nl) := HIM0.out
          clear HIM0
          go_wp2_with fail
          refine NC.out.mono ?_
          rintro e w19 ⟨rfl, hd, hf⟩
          have M19 := Lib.hid (M18.out.setB hd hf)
          clear hd hf NC M18
          go_wp2_with fail
          refine (image M19.out.a).mono ?_
          rintro e w20 ⟨v20, rfl, ho, hb⟩
          have ho' : OW w19.heap.size w20 v20 (img im []) := ho
          rw [img_nil] at ho'
          have M20 : Hid (F3 w w20 wr.heap.size w5.heap.size w6.heap.size pa pb pc ⟨im, [], none⟩ ⟨im, [], none⟩ C ∧ RB w20 v20 im) := ⟨M19.out.on hb, ho'.rb⟩
          obtain ⟨a20, c20, e20⟩ := ho'.form
          rw [HIM.out] at e20
          subst e20
          clear ho ho' hb M19
          go_wp2_with fail
          refine (image M20.out.1.b).mono ?_
          rintro e w21 ⟨v21, rfl, ho, hb⟩
          have ho' : OW w20.heap.size w21 v21 (img im []) := ho
          rw [img_nil] at ho'
          have M21 : Hid (F3 w w21 wr.heap.size w5.heap.size w6.heap.size pa pb pc ⟨im, [], none⟩ ⟨im, [], none⟩ C ∧ RB w21 (.slice a20 nl c20) im ∧ RB w21 v21 im) := ⟨M20.out.1.on hb, M20.out.2.keep hb, ho'.rb⟩
          obtain ⟨a21, c21, e21⟩ := ho'.form
          rw [HIM.out] at e21
          subst e21
          clear ho ho' hb M20
          go_wp2_with fail
          refine (same _ _ im w21 (by rw [HIM.out]; omega) M21.out.2.1 M21.out.2.2).mono ?_
          rintro e w22 ⟨rfl, nq3, rfl⟩
          have M22 : Hid (DK (fun k => wr.heap.size ≤ k ∧ k < w5.heap.size) (w21.drewN nq3) pa ⟨im, [], none⟩ ∧ Below w.heap.size w (w21.drewN nq3) ∧ w.heap.size ≤ wr.heap.size) := ⟨(M21.out.1.on (belowDrew w21 nq3)).a, (M21.out.1.on (belowDrew w21 nq3)).f, M21.out.1.o.1⟩
          clear M21
          generalize w21.drewN nq3 = w22 at *
          go_wp2_with fail
          refine (full _ wAnew _ (word4_rb w22 97 110 101 119 (4, 5)) (by decide)).mono ?_
          rintro e w23 ⟨g23, rfl, hg, hr, hb⟩
          have hb23 : Below w22.heap.size w22 w23 := ((Below.refl w22.heap.size w22).alloc (Nat.le_refl _) (.cells #[.int .u8 97, .int .u8 110, .int .u8 101, .int .u8 119] 5 (4, 5))).trans (hb.mono (by simp))
          have M23 : Hid (DK (fun k => wr.heap.size ≤ k ∧ k < w5.heap.size) w23 pa ⟨im, [], none⟩ ∧ Below w.heap.size w w23 ∧ w.heap.size ≤ wr.heap.size ∧ RB w23 (.slice (some ⟨g23, 0, none⟩) 64 64) (fl wAnew)) := ⟨M22.out.1.below hb23, M22.out.2.1.trans (hb23.mono M22.out.2.1.size), M22.out.2.2, hr⟩
          clear hg hr hb hb23 M22
          go_wp2_with fail
          refine (write M23.out.1 0 (by show 64 * 0 + 64 ≤ im.length; rw [HIM.out]; omega) _ (fl wAnew) M23.out.2.2.2 (fl_len _) (by show ([] : List Wt).length < _; simp)).mono ?_
          rintro e w24 ⟨rfl, hd, hf⟩
          have M24 : Hid (DK (fun k => (wr.heap.size ≤ k ∧ k < w5.heap.size) ∨ w23.heap.size ≤ k) w24 pa ⟨im, [⟨0, fl wAnew, false⟩], none⟩ ∧ Below w.heap.size w w24 ∧ w.heap.size ≤ wr.heap.size ∧ w.heap.size ≤ w23.heap.size) := by
            have hz := M23.out.2.1.size
            have h3 := M23.out.2.2.1
            exact ⟨hd, ⟨hf.os.trans M23.out.2.1.os, hf.tape.trans M23.out.2.1.tape, hf.output.trans M23.out.2.1.output, Nat.le_trans hz hf.size, fun k hk => (hf.block k (by omega) (by omega)).trans (M23.out.2.1.block k hk)⟩, h3, hz⟩
          clear hd hf M23
          go_wp2_with fail
          refine (sync_live M24.out.1 rfl).mono ?_
          rintro e w25 ⟨rfl, hd, hf⟩
          have M25 : Hid (DK (fun k => (wr.heap.size ≤ k ∧ k < w5.heap.size) ∨ w23.heap.size ≤ k) w25 pa ⟨img im [⟨0, fl wAnew, false⟩], [], none⟩ ∧ Below w.heap.size w w25) := by
            have hz := M24.out.2.1.size
            have h3 := M24.out.2.2
            exact ⟨hd, ⟨hf.os.trans M24.out.2.1.os, hf.tape.trans M24.out.2.1.tape, hf.output.trans M24.out.2.1.output, Nat.le_trans hz hf.size, fun k hk => (hf.block k (by omega) (by omega)).trans (M24.out.2.1.block k hk)⟩⟩
          clear hd hf M24
          go_wp2_with fail
          refine (durable M25.out.1).mono ?_
          rintro e w26 ⟨v26, rfl, ho, hb⟩
          have ho' : OW w25.heap.size w26 v26 (img im [⟨0, fl wAnew, false⟩]) := ho
          have HDL : Hid ((img im [⟨0, fl wAnew, false⟩]).length = nl ∧ (img im [⟨0, fl wAnew, false⟩]).take 64 = fl wAnew) := ⟨by rw [img_len]; exact HIM.out, first_sec im (fl wAnew) false (fl_len _) (by rw [HIM.out]; exact hwg2)⟩
          obtain ⟨g26, c26, e26, hc26⟩ : ∃ g c, v26 = .slice (some ⟨g, 0, none⟩) nl c ∧ nl ≤ c := by
            rcases ho'.2 with ⟨_, h0⟩ | ⟨g, c, _, h1, _, _, h2, _⟩
            · have := HDL.out.1; omega
            · rw [HDL.out.1] at h1 h2
              exact ⟨g, c, h1, h2⟩
          subst e26
          have M26 : Hid (Below w.heap.size w w26 ∧ RB w26 (.slice (some ⟨g26, 0, none⟩) 64 c26) (fl wAnew)) := by
            refine ⟨M25.out.2.trans (hb.mono M25.out.2.size), ?_⟩
            have h := ho'.rb.pre (m := 64) (by rw [HDL.out.1]; exact hwg2)
            rw [HDL.out.2] at h
            exact h
          clear ho ho' hb M25 HDL
          go_wp2_with fail
          have hlen64 : (64 ≤ nl) = True := eq_true hwg2
          have hc64 : 64 ≤ c26 := by omega
          have hcvd : (convert 22 22 (.slice (some ⟨w26.heap.size, 0, none⟩) 4 4)).run Try.prog (w26.alloc (.cells #[.int .u8 97, .int .u8 110, .int .u8 101, .int .u8 119] 5)).drew = .ok (.slice (some ⟨w26.heap.size, 0, none⟩) 4 4) (w26.alloc (.cells #[.int .u8 97, .int .u8 110, .int .u8 101, .int .u8 119] 5 (4, 5))).drew := conv4 w26.drew _ _ _ _ _ rfl
          have HRW : Hid (RB (w26.alloc (.cells #[.int .u8 97, .int .u8 110, .int .u8 101, .int .u8 119] 5 (4, 5))).drew (.slice (some ⟨w26.heap.size, 0, none⟩) 4 4) wAnew) := word4_rb w26.drew 97 110 101 119 (4, 5)
          have HBW : Hid (Below w26.heap.size w26 (w26.alloc (.cells #[.int .u8 97, .int .u8 110, .int .u8 101, .int .u8 119] 5 (4, 5))).drew) := ((Below.refl w26.heap.size w26).alloc (Nat.le_refl _) _).trans ((belowDrew _ 1).mono (by simp))
          refine wp_region_held_drew (S := fun _ => True) (by kernel_rfl) (trivial) (fun hHeld => ?_)
          refine wpAnyH_take (i := 0) (v := .int .i64 0) rfl (by kernel_rfl) (by kernel_rfl) (by kernel_rfl) (fun _ _ _ h => h) (Or.inl ⟨by rfl, fun w hw => by go_simp⟩) hHeld ?_
          simp only [Act.put, List.getElem_toArray, List.getElem_cons_zero, List.setIfInBounds_toArray, List.set_cons_zero, List.set_cons_succ]
          refine wpAnyH_take (i := 1) (v := .bool true) rfl (by kernel_rfl) (by kernel_rfl) (by kernel_rfl) (fun _ _ _ h => h) (Or.inl ⟨by rfl, fun w hw => by go_simp⟩) hHeld ?_
          simp only [Act.put, List.getElem_toArray, List.getElem_cons_zero, List.getElem_cons_succ, List.setIfInBounds_toArray, List.set_cons_zero, List.set_cons_succ]
          refine wpAnyH_take (i := 2) (v := .bool true) rfl (by kernel_rfl) (by kernel_rfl) (by kernel_rfl) (fun _ _ _ h => h) (Or.inl ⟨by rfl, fun w hw => by go_simp⟩) hHeld ?_
          simp only [Act.put, List.getElem_toArray, List.getElem_cons_zero, List.getElem_cons_succ, List.setIfInBounds_toArray, List.set_cons_zero, List.set_cons_succ]
          refine wpAnyH_take (i := 3) (v := .int .i64 0) rfl (by kernel_rfl) (by kernel_rfl) (by kernel_rfl) (fun _ _ _ h => h) (Or.inl ⟨by rfl, fun w hw => by go_simp⟩) hHeld ?_
          simp only [Act.put, List.getElem_toArray, List.getElem_cons_zero, List.getElem_cons_succ, List.setIfInBounds_toArray, List.set_cons_zero, List.set_cons_succ]
          refine wpAnyH_take (i := 4) (v := .bool true) rfl (by kernel_rfl) (by kernel_rfl) (by kernel_rfl) (fun _ _ _ h => h) (Or.inl ⟨by rfl, fun w hw => by go_simp⟩) hHeld ?_
          simp only [Act.put, List.getElem_toArray, List.getElem_cons_zero, List.getElem_cons_succ, List.setIfInBounds_toArray, List.set_cons_zero, List.set_cons_succ]
          refine wpAnyH_take (i := 5) (v := .bool true) rfl (by kernel_rfl) (by kernel_rfl) (by kernel_rfl) (fun _ _ _ h => h) (Or.inl ⟨by rfl, fun w hw => by go_simp⟩) hHeld ?_
          simp only [Act.put, List.getElem_toArray, List.getElem_cons_zero, List.getElem_cons_succ, List.setIfInBounds_toArray, List.set_cons_zero, List.set_cons_succ]
          refine wpAnyH_take (i := 6) (v := .bool true) rfl (by kernel_rfl) (by kernel_rfl) (by kernel_rfl) (fun _ _ _ h => h) (Or.inl ⟨by rfl, fun w hw => by go_simp⟩) hHeld ?_
          simp only [Act.put, List.getElem_toArray, List.getElem_cons_zero, List.getElem_cons_succ, List.setIfInBounds_toArray, List.set_cons_zero, List.set_cons_succ]
          refine wpAnyH_take (i := 7) (v := .slice (some ⟨g26, 0, none⟩) nl c26) rfl (by kernel_rfl) (by kernel_rfl) (by kernel_rfl) (fun _ _ _ h => h) (Or.inl ⟨by rfl, fun w hw => by go_simp⟩) hHeld ?_
          simp only [Act.put, List.getElem_toArray, List.getElem_cons_zero, List.getElem_cons_succ, List.setIfInBounds_toArray, List.set_cons_zero, List.set_cons_succ]
          refine wpAnyH_take (i := 8) (v := .int .i64 nl) rfl (by kernel_rfl) (by kernel_rfl) (by kernel_rfl) (fun _ _ _ h => h) (Or.inl ⟨by rfl, fun w hw => by go_simp⟩) hHeld ?_
          simp only [Act.put, List.getElem_toArray, List.getElem_cons_zero, List.getElem_cons_succ, List.setIfInBounds_toArray, List.set_cons_zero, List.set_cons_succ]
          refine wpAnyH_take (i := 9) (v := .bool true) rfl (by kernel_rfl) (by kernel_rfl) (by kernel_rfl) (fun _ _ _ h => h) (Or.inl ⟨by rfl, fun w hw => by go_simp; omega⟩) hHeld ?_
          simp only [Act.put, List.getElem_toArray, List.getElem_cons_zero, List.getElem_cons_succ, List.setIfInBounds_toArray, List.set_cons_zero, List.set_cons_succ]
          refine wpAnyH_take (i := 10) (v := .bool true) rfl (by kernel_rfl) (by kernel_rfl) (by kernel_rfl) (fun _ _ _ h => h) (Or.inl ⟨by rfl, fun w hw => by go_simp⟩) hHeld ?_
          simp only [Act.put, List.getElem_toArray, List.getElem_cons_zero, List.getElem_cons_succ, List.setIfInBounds_toArray, List.set_cons_zero, List.set_cons_succ]
          refine wpAnyH_take (i := 11) (v := .bool true) rfl (by kernel_rfl) (by kernel_rfl) (by kernel_rfl) (fun _ _ _ h => h) (Or.inl ⟨by rfl, fun w hw => by go_simp⟩) hHeld ?_
          simp only [Act.put, List.getElem_toArray, List.getElem_cons_zero, List.getElem_cons_succ, List.setIfInBounds_toArray, List.set_cons_zero, List.set_cons_succ]
          refine wpAnyH_take (i := 12) (v := .slice (some ⟨g26, 0, none⟩) nl c26) rfl (by kernel_rfl) (by kernel_rfl) (by kernel_rfl) (fun _ _ _ h => h) (Or.inl ⟨by rfl, fun w hw => by go_simp⟩) hHeld ?_
          simp only [Act.put, List.getElem_toArray, List.getElem_cons_zero, List.getElem_cons_succ, List.setIfInBounds_toArray, List.set_cons_zero, List.set_cons_succ]
          refine wpAnyH_take (i := 13) (v := .slice (some ⟨g26, 0, none⟩) 64 c26) rfl (by kernel_rfl) (by kernel_rfl) (by kernel_rfl) (fun _ _ _ h => h) (Or.inl ⟨by rfl, fun w hw => by go_simp; intro h; omega⟩) hHeld ?_
          simp only [Act.put, List.getElem_toArray, List.getElem_cons_zero, List.getElem_cons_succ, List.setIfInBounds_toArray, List.set_cons_zero, List.set_cons_succ]
          refine wpAnyH_ready (rs := [14]) (by kernel_rfl) (by simp) ?_
          refine AllReadyH.cons (o := _) rfl (fun K hK => ?_) AllReadyH.nil
          go_simp
          refine hK.out _ _ trivial (fun hHeld => ?_)
          clear hK K
          refine wpAnyH_ready (rs := [15]) (by kernel_rfl) (by simp) ?_
          refine AllReadyH.cons (o := _) rfl (fun K hK => ?_) AllReadyH.nil
          go_simp
          refine hK.out _ _ trivial (fun hHeld => ?_)
          clear hK K
          refine wpAnyH_ready (rs := [16]) (by kernel_rfl) (by simp) ?_
          refine AllReadyH.cons (o := _) rfl (fun K hK => ?_) AllReadyH.nil
          go_simp
          refine (full _ wAnew _ HRW.out (by decide)).mono ?_
          rintro e w27 ⟨g27, rfl, hg, hr, hb⟩
          have hb27 : Below w26.heap.size w26 w27 := HBW.out.trans (hb.mono HBW.out.size)
          have M27 : Hid (Below w.heap.size w w27 ∧ RB w27 (.slice (some ⟨g26, 0, none⟩) 64 c26) (fl wAnew) ∧ RB w27 (.slice (some ⟨g27, 0, none⟩) 64 64) (fl wAnew)) := ⟨M26.out.1.trans (hb27.mono M26.out.1.size), M26.out.2.keep hb27, hr⟩
          clear hg hr hb hb27 M26
          go_wp2_with fail
          refine hK.out _ _ trivial (fun hHeld => ?_)
          clear hK K
          refine wpAnyH_ready (rs := [17]) (by kernel_rfl) (by simp) ?_
          refine AllReadyH.cons (o := _) rfl (fun K hK => ?_) AllReadyH.nil
          go_simp
          refine (same _ _ (fl wAnew) w27 (by rw [fl_len]; omega) M27.out.2.1 M27.out.2.2).mono ?_
          rintro e w28 ⟨rfl, nq4, rfl⟩
          have M28 : Hid (Below w.heap.size w (w27.drewN nq4)) := belowN M27.out.1 nq4
          clear M27
          generalize w27.drewN nq4 = w28 at *
          go_wp2_with fail
          refine hK.out _ _ trivial (fun hHeld => ?_)
          clear hK K
          refine wpAnyH_take (i := 18) (v := .bool true) rfl (by kernel_rfl) (by kernel_rfl) (by kernel_rfl) (fun _ _ _ h => h) (Or.inl ⟨by rfl, fun w hw => by go_simp⟩) hHeld ?_
          simp only [Act.put, List.getElem_toArray, List.getElem_cons_zero, List.getElem_cons_succ, List.setIfInBounds_toArray, List.set_cons_zero, List.set_cons_succ]
          refine wpAnyH_ready (rs := [19]) (by kernel_rfl) (by simp) ?_
          refine AllReadyH.cons (o := _) rfl (fun K hK => ?_) AllReadyH.nil
          go_simp
          refine hK.out _ _ trivial (fun hHeld => ?_)
          clear hK K
          refine wpAnyH_done (by kernel_rfl) ?_ _
          clear hHeld
          go_wp2_with fail
          go_ret
          exact ⟨rfl, M28.out⟩
        · have hq9 : decide ((nB : Int) ≤ torn) = false := decide_eq_false t5
          have HCF : Hid (crD (kp keep np) torn (if torn = -1 then 0 else cut.toNat) A.last A.ws = crD (kp keep nB) torn (if torn = -1 then 0 else cut.toNat) B.last B.ws) := by
            obtain ⟨dd, h1, h2, h3⟩ := HFA.out
            rw [h1, h2]
            exact (crash_fuse keep torn torn cut B.last B.ws dd np nB HNQ.out hpq h3 (by rw [if_neg t5])).trans (by rfl)
          rw [HCF.out] at M17
          clear HCF HIA HFA
          go_wp2_with fail
          refine (kept _ keep nB w17 (HK.out.keep M17.out.f) (by have := HLL.out.2.1; omega) (by omega)).mono ?_
          rintro e w18 ⟨kw2, rfl, hko, b18⟩
          have M18 := Lib.hid (M17.out.on b18)
          have hkg : ∀ g, kw2.ownBlock = some g → w17.heap.size ≤ g := fun g hg => by
            rcases hko.2 with ⟨e, _⟩ | ⟨g', _, _, e, h1, _⟩
            · rw [e] at hg; simp [Value.ownBlock] at hg
            · rw [e] at hg; simp [Value.ownBlock] at hg; omega
          have NC := Lib.hid (crash M18.out.b kw2 (kp keep nB) hko.rb (by rw [kp_len, HNQ.out]) (fun g hg h => by have := hkg g hg; have := M17.out.o; omega) (by rw [HNQ.out]; omega) torn cut (by omega) (by rw [HNQ.out]; omega) (fun _ => by omega))
          obtain ⟨ak2, ck2, ek2⟩ := ownsRow_form hko
          rw [kp_len] at ek2
          subst ek2
          have HIM0 : Hid ((crD (kp keep nB) torn (if torn = -1 then 0 else cut.toNat) B.last B.ws).length = nl) := by show (crD _ _ _ _ _).length = nl; rw [crD_len, ← HAB.out]; exact HLA.out.1
          clear hko b18 hkg M17
          generalize crD (kp keep nB) torn (if torn = -1 then 0 else cut.toNat) B.last B.ws = im at *
          have HIM : Hid (im.length = nl) := HIM0.out
          clear HIM0
          go_wp2_with fail
          refine NC.out.mono ?_
          rintro e w19 ⟨rfl, hd, hf⟩
          have M19 := Lib.hid (M18.out.setB hd hf)
          clear hd hf NC M18
          go_wp2_with fail
          refine (image M19.out.a).mono ?_
          rintro e w20 ⟨v20, rfl, ho, hb⟩
          have ho' : OW w19.heap.size w20 v20 (img im []) := ho
          rw [img_nil] at ho'
          have M20 : Hid (F3 w w20 wr.heap.size w5.heap.size w6.heap.size pa pb pc ⟨im, [], none⟩ ⟨im, [], none⟩ C ∧ RB w20 v20 im) := ⟨M19.out.on hb, ho'.rb⟩
          obtain ⟨a20, c20, e20⟩ := ho'.form
          rw [HIM.out] at e20
          subst e20
          clear ho ho' hb M19
          go_wp2_with fail
          refine (image M20.out.1.b).mono ?_
          rintro e w21 ⟨v21, rfl, ho, hb⟩
          have ho' : OW w20.heap.size w21 v21 (img im []) := ho
          rw [img_nil] at ho'
          have M21 : Hid (F3 w w21 wr.heap.size w5.heap.size w6.heap.size pa pb pc ⟨im, [], none⟩ ⟨im, [], none⟩ C ∧ RB w21 (.slice a20 nl c20) im ∧ RB w21 v21 im) := ⟨M20.out.1.on hb, M20.out.2.keep hb, ho'.rb⟩
          obtain ⟨a21, c21, e21⟩ := ho'.form
          rw [HIM.out] at e21
          subst e21
          clear ho ho' hb M20
          go_wp2_with fail
          refine (same _ _ im w21 (by rw [HIM.out]; omega) M21.out.2.1 M21.out.2.2).mono ?_
          rintro e w22 ⟨rfl, nq3, rfl⟩
          have M22 : Hid (DK (fun k => wr.heap.size ≤ k ∧ k < w5.heap.size) (w21.drewN nq3) pa ⟨im, [], none⟩ ∧ Below w.heap.size w (w21.drewN nq3) ∧ w.heap.size ≤ wr.heap.size) := ⟨(M21.out.1.on (belowDrew w21 nq3)).a, (M21.out.1.on (belowDrew w21 nq3)).f, M21.out.1.o.1⟩
          clear M21
          generalize w21.drewN nq3 = w22 at *
          go_wp2_with fail
          refine (full _ wAnew _ (word4_rb w22 97 110 101 119 (4, 5)) (by decide)).mono ?_
          rintro e w23 ⟨g23, rfl, hg, hr, hb⟩
          have hb23 : Below w22.heap.size w22 w23 := ((Below.refl w22.heap.size w22).alloc (Nat.le_refl _) (.cells #[.int .u8 97, .int .u8 110, .int .u8 101, .int .u8 119] 5 (4, 5))).trans (hb.mono (by simp))
          have M23 : Hid (DK (fun k => wr.heap.size ≤ k ∧ k < w5.heap.size) w23 pa ⟨im, [], none⟩ ∧ Below w.heap.size w w23 ∧ w.heap.size ≤ wr.heap.size ∧ RB w23 (.slice (some ⟨g23, 0, none⟩) 64 64) (fl wAnew)) := ⟨M22.out.1.below hb23, M22.out.2.1.trans (hb23.mono M22.out.2.1.size), M22.out.2.2, hr⟩
          clear hg hr hb hb23 M22
          go_wp2_with fail
          refine (write M23.out.1 0 (by show 64 * 0 + 64 ≤ im.length; rw [HIM.out]; omega) _ (fl wAnew) M23.out.2.2.2 (fl_len _) (by show ([] : List Wt).length < _; simp)).mono ?_
          rintro e w24 ⟨rfl, hd, hf⟩
          have M24 : Hid (DK (fun k => (wr.heap.size ≤ k ∧ k < w5.heap.size) ∨ w23.heap.size ≤ k) w24 pa ⟨im, [⟨0, fl wAnew, false⟩], none⟩ ∧ Below w.heap.size w w24 ∧ w.heap.size ≤ wr.heap.size ∧ w.heap.size ≤ w23.heap.size) := by
            have hz := M23.out.2.1.size
            have h3 := M23.out.2.2.1
            exact ⟨hd, ⟨hf.os.trans M23.out.2.1.os, hf.tape.trans M23.out.2.1.tape, hf.output.trans M23.out.2.1.output, Nat.le_trans hz hf.size, fun k hk => (hf.block k (by omega) (by omega)).trans (M23.out.2.1.block k hk)⟩, h3, hz⟩
          clear hd hf M23
          go_wp2_with fail
          refine (sync_live M24.out.1 rfl).mono ?_
          rintro e w25 ⟨rfl, hd, hf⟩
          have M25 : Hid (DK (fun k => (wr.heap.size ≤ k ∧ k < w5.heap.size) ∨ w23.heap.size ≤ k) w25 pa ⟨img im [⟨0, fl wAnew, false⟩], [], none⟩ ∧ Below w.heap.size w w25) := by
            have hz := M24.out.2.1.size
            have h3 := M24.out.2.2
            exact ⟨hd, ⟨hf.os.trans M24.out.2.1.os, hf.tape.trans M24.out.2.1.tape, hf.output.trans M24.out.2.1.output, Nat.le_trans hz hf.size, fun k hk => (hf.block k (by omega) (by omega)).trans (M24.out.2.1.block k hk)⟩⟩
          clear hd hf M24
          go_wp2_with fail
          refine (durable M25.out.1).mono ?_
          rintro e w26 ⟨v26, rfl, ho, hb⟩
          have ho' : OW w25.heap.size w26 v26 (img im [⟨0, fl wAnew, false⟩]) := ho
          have HDL : Hid ((img im [⟨0, fl wAnew, false⟩]).length = nl ∧ (img im [⟨0, fl wAnew, false⟩]).take 64 = fl wAnew) := ⟨by rw [img_len]; exact HIM.out, first_sec im (fl wAnew) false (fl_len _) (by rw [HIM.out]; exact hwg2)⟩
          obtain ⟨g26, c26, e26, hc26⟩ : ∃ g c, v26 = .slice (some ⟨g, 0, none⟩) nl c ∧ nl ≤ c := by
            rcases ho'.2 with ⟨_, h0⟩ | ⟨g, c, _, h1, _, _, h2, _⟩
            · have := HDL.out.1; omega
            · rw [HDL.out.1] at h1 h2
              exact ⟨g, c, h1, h2⟩
          subst e26
          have M26 : Hid (Below w.heap.size w w26 ∧ RB w26 (.slice (some ⟨g26, 0, none⟩) 64 c26) (fl wAnew)) := by
            refine ⟨M25.out.2.trans (hb.mono M25.out.2.size), ?_⟩
            have h := ho'.rb.pre (m := 64) (by rw [HDL.out.1]; exact hwg2)
            rw [HDL.out.2] at h
            exact h
          clear ho ho' hb M25 HDL
          go_wp2_with fail
          have hlen64 : (64 ≤ nl) = True := eq_true hwg2
          have hc64 : 64 ≤ c26 := by omega
          have hcvd : (convert 22 22 (.slice (some ⟨w26.heap.size, 0, none⟩) 4 4)).run Try.prog (w26.alloc (.cells #[.int .u8 97, .int .u8 110, .int .u8 101, .int .u8 119] 5)).drew = .ok (.slice (some ⟨w26.heap.size, 0, none⟩) 4 4) (w26.alloc (.cells #[.int .u8 97, .int .u8 110, .int .u8 101, .int .u8 119] 5 (4, 5))).drew := conv4 w26.drew _ _ _ _ _ rfl
          have HRW : Hid (RB (w26.alloc (.cells #[.int .u8 97, .int .u8 110, .int .u8 101, .int .u8 119] 5 (4, 5))).drew (.slice (some ⟨w26.heap.size, 0, none⟩) 4 4) wAnew) := word4_rb w26.drew 97 110 101 119 (4, 5)
          have HBW : Hid (Below w26.heap.size w26 (w26.alloc (.cells #[.int .u8 97, .int .u8 110, .int .u8 101, .int .u8 119] 5 (4, 5))).drew) := ((Below.refl w26.heap.size w26).alloc (Nat.le_refl _) _).trans ((belowDrew _ 1).mono (by simp))
          refine wp_region_held_drew (S := fun _ => True) (by kernel_rfl) (trivial) (fun hHeld => ?_)
          refine wpAnyH_take (i := 0) (v := .int .i64 0) rfl (by kernel_rfl) (by kernel_rfl) (by kernel_rfl) (fun _ _ _ h => h) (Or.inl ⟨by rfl, fun w hw => by go_simp⟩) hHeld ?_
          simp only [Act.put, List.getElem_toArray, List.getElem_cons_zero, List.setIfInBounds_toArray, List.set_cons_zero, List.set_cons_succ]
          refine wpAnyH_take (i := 1) (v := .bool true) rfl (by kernel_rfl) (by kernel_rfl) (by kernel_rfl) (fun _ _ _ h => h) (Or.inl ⟨by rfl, fun w hw => by go_simp⟩) hHeld ?_
          simp only [Act.put, List.getElem_toArray, List.getElem_cons_zero, List.getElem_cons_succ, List.setIfInBounds_toArray, List.set_cons_zero, List.set_cons_succ]
          refine wpAnyH_take (i := 2) (v := .bool true) rfl (by kernel_rfl) (by kernel_rfl) (by kernel_rfl) (fun _ _ _ h => h) (Or.inl ⟨by rfl, fun w hw => by go_simp⟩) hHeld ?_
          simp only [Act.put, List.getElem_toArray, List.getElem_cons_zero, List.getElem_cons_succ, List.setIfInBounds_toArray, List.set_cons_zero, List.set_cons_succ]
          refine wpAnyH_take (i := 3) (v := .int .i64 0) rfl (by kernel_rfl) (by kernel_rfl) (by kernel_rfl) (fun _ _ _ h => h) (Or.inl ⟨by rfl, fun w hw => by go_simp⟩) hHeld ?_
          simp only [Act.put, List.getElem_toArray, List.getElem_cons_zero, List.getElem_cons_succ, List.setIfInBounds_toArray, List.set_cons_zero, List.set_cons_succ]
          refine wpAnyH_take (i := 4) (v := .bool true) rfl (by kernel_rfl) (by kernel_rfl) (by kernel_rfl) (fun _ _ _ h => h) (Or.inl ⟨by rfl, fun w hw => by go_simp⟩) hHeld ?_
          simp only [Act.put, List.getElem_toArray, List.getElem_cons_zero, List.getElem_cons_succ, List.setIfInBounds_toArray, List.set_cons_zero, List.set_cons_succ]
          refine wpAnyH_take (i := 5) (v := .bool true) rfl (by kernel_rfl) (by kernel_rfl) (by kernel_rfl) (fun _ _ _ h => h) (Or.inl ⟨by rfl, fun w hw => by go_simp⟩) hHeld ?_
          simp only [Act.put, List.getElem_toArray, List.getElem_cons_zero, List.getElem_cons_succ, List.setIfInBounds_toArray, List.set_cons_zero, List.set_cons_succ]
          refine wpAnyH_take (i := 6) (v := .bool true) rfl (by kernel_rfl) (by kernel_rfl) (by kernel_rfl) (fun _ _ _ h => h) (Or.inl ⟨by rfl, fun w hw => by go_simp⟩) hHeld ?_
          simp only [Act.put, List.getElem_toArray, List.getElem_cons_zero, List.getElem_cons_succ, List.setIfInBounds_toArray, List.set_cons_zero, List.set_cons_succ]
          refine wpAnyH_take (i := 7) (v := .slice (some ⟨g26, 0, none⟩) nl c26) rfl (by kernel_rfl) (by kernel_rfl) (by kernel_rfl) (fun _ _ _ h => h) (Or.inl ⟨by rfl, fun w hw => by go_simp⟩) hHeld ?_
          simp only [Act.put, List.getElem_toArray, List.getElem_cons_zero, List.getElem_cons_succ, List.setIfInBounds_toArray, List.set_cons_zero, List.set_cons_succ]
          refine wpAnyH_take (i := 8) (v := .int .i64 nl) rfl (by kernel_rfl) (by kernel_rfl) (by kernel_rfl) (fun _ _ _ h => h) (Or.inl ⟨by rfl, fun w hw => by go_simp⟩) hHeld ?_
          simp only [Act.put, List.getElem_toArray, List.getElem_cons_zero, List.getElem_cons_succ, List.setIfInBounds_toArray, List.set_cons_zero, List.set_cons_succ]
          refine wpAnyH_take (i := 9) (v := .bool true) rfl (by kernel_rfl) (by kernel_rfl) (by kernel_rfl) (fun _ _ _ h => h) (Or.inl ⟨by rfl, fun w hw => by go_simp; omega⟩) hHeld ?_
          simp only [Act.put, List.getElem_toArray, List.getElem_cons_zero, List.getElem_cons_succ, List.setIfInBounds_toArray, List.set_cons_zero, List.set_cons_succ]
          refine wpAnyH_take (i := 10) (v := .bool true) rfl (by kernel_rfl) (by kernel_rfl) (by kernel_rfl) (fun _ _ _ h => h) (Or.inl ⟨by rfl, fun w hw => by go_simp⟩) hHeld ?_
          simp only [Act.put, List.getElem_toArray, List.getElem_cons_zero, List.getElem_cons_succ, List.setIfInBounds_toArray, List.set_cons_zero, List.set_cons_succ]
          refine wpAnyH_take (i := 11) (v := .bool true) rfl (by kernel_rfl) (by kernel_rfl) (by kernel_rfl) (fun _ _ _ h => h) (Or.inl ⟨by rfl, fun w hw => by go_simp⟩) hHeld ?_
          simp only [Act.put, List.getElem_toArray, List.getElem_cons_zero, List.getElem_cons_succ, List.setIfInBounds_toArray, List.set_cons_zero, List.set_cons_succ]
          refine wpAnyH_take (i := 12) (v := .slice (some ⟨g26, 0, none⟩) nl c26) rfl (by kernel_rfl) (by kernel_rfl) (by kernel_rfl) (fun _ _ _ h => h) (Or.inl ⟨by rfl, fun w hw => by go_simp⟩) hHeld ?_
          simp only [Act.put, List.getElem_toArray, List.getElem_cons_zero, List.getElem_cons_succ, List.setIfInBounds_toArray, List.set_cons_zero, List.set_cons_succ]
          refine wpAnyH_take (i := 13) (v := .slice (some ⟨g26, 0, none⟩) 64 c26) rfl (by kernel_rfl) (by kernel_rfl) (by kernel_rfl) (fun _ _ _ h => h) (Or.inl ⟨by rfl, fun w hw => by go_simp; intro h; omega⟩) hHeld ?_
          simp only [Act.put, List.getElem_toArray, List.getElem_cons_zero, List.getElem_cons_succ, List.setIfInBounds_toArray, List.set_cons_zero, List.set_cons_succ]
          refine wpAnyH_ready (rs := [14]) (by kernel_rfl) (by simp) ?_
          refine AllReadyH.cons (o := _) rfl (fun K hK => ?_) AllReadyH.nil
          go_simp
          refine hK.out _ _ trivial (fun hHeld => ?_)
          clear hK K
          refine wpAnyH_ready (rs := [15]) (by kernel_rfl) (by simp) ?_
          refine AllReadyH.cons (o := _) rfl (fun K hK => ?_) AllReadyH.nil
          go_simp
          refine hK.out _ _ trivial (fun hHeld => ?_)
          clear hK K
          refine wpAnyH_ready (rs := [16]) (by kernel_rfl) (by simp) ?_
          refine AllReadyH.cons (o := _) rfl (fun K hK => ?_) AllReadyH.nil
          go_simp
          refine (full _ wAnew _ HRW.out (by decide)).mono ?_
          rintro e w27 ⟨g27, rfl, hg, hr, hb⟩
          have hb27 : Below w26.heap.size w26 w27 := HBW.out.trans (hb.mono HBW.out.size)
          have M27 : Hid (Below w.heap.size w w27 ∧ RB w27 (.slice (some ⟨g26, 0, none⟩) 64 c26) (fl wAnew) ∧ RB w27 (.slice (some ⟨g27, 0, none⟩) 64 64) (fl wAnew)) := ⟨M26.out.1.trans (hb27.mono M26.out.1.size), M26.out.2.keep hb27, hr⟩
          clear hg hr hb hb27 M26
          go_wp2_with fail
          refine hK.out _ _ trivial (fun hHeld => ?_)
          clear hK K
          refine wpAnyH_ready (rs := [17]) (by kernel_rfl) (by simp) ?_
          refine AllReadyH.cons (o := _) rfl (fun K hK => ?_) AllReadyH.nil
          go_simp
          refine (same _ _ (fl wAnew) w27 (by rw [fl_len]; omega) M27.out.2.1 M27.out.2.2).mono ?_
          rintro e w28 ⟨rfl, nq4, rfl⟩
          have M28 : Hid (Below w.heap.size w (w27.drewN nq4)) := belowN M27.out.1 nq4
          clear M27
          generalize w27.drewN nq4 = w28 at *
          go_wp2_with fail
          refine hK.out _ _ trivial (fun hHeld => ?_)
          clear hK K
          refine wpAnyH_take (i := 18) (v := .bool true) rfl (by kernel_rfl) (by kernel_rfl) (by kernel_rfl) (fun _ _ _ h => h) (Or.inl ⟨by rfl, fun w hw => by go_simp⟩) hHeld ?_
          simp only [Act.put, List.getElem_toArray, List.getElem_cons_zero, List.getElem_cons_succ, List.setIfInBounds_toArray, List.set_cons_zero, List.set_cons_succ]
          refine wpAnyH_ready (rs := [19]) (by kernel_rfl) (by simp) ?_
          refine AllReadyH.cons (o := _) rfl (fun K hK => ?_) AllReadyH.nil
          go_simp
          refine hK.out _ _ trivial (fun hHeld => ?_)
          clear hK K
          refine wpAnyH_done (by kernel_rfl) ?_ _
          clear hHeld
          go_wp2_with fail
          go_ret
          exact ⟨rfl, M28.out⟩
      · have hq2 : decide (m < vn) = false := decide_eq_false hmv
        have hsl := fun u : World => slice_acts va vn vc vn (by omega) HVA.out u
        have HXB : Hid (X.take vn = X.take m) := (List.take_of_length_le (Nat.le_of_eq HXN.out)).trans (List.take_of_length_le (by have := HXN.out; omega)).symm
        have P5 := Lib.hid (P4.out.on (belowDrew wr 1))
        go_wp2_with fail
        refine wp_region_held_drew (S := fun _ => True) (by kernel_rfl) (trivial) (fun hHeld => ?_)
        refine wpAnyH_take (i := 0) (v := .slice oa nl oc) rfl (by kernel_rfl) (by kernel_rfl) (by kernel_rfl) (fun _ _ _ h => h) (Or.inl ⟨by rfl, fun w hw => by go_simp⟩) hHeld ?_
        simp only [Act.put, List.getElem_toArray, List.getElem_cons_zero, List.setIfInBounds_toArray, List.set_cons_zero, List.set_cons_succ]
        refine wpAnyH_take (i := 1) (v := .slice va vn vc) rfl (by kernel_rfl) (by kernel_rfl) (by kernel_rfl) (fun _ _ _ h => h) (Or.inl ⟨by rfl, fun w hw => by go_simp⟩) hHeld ?_
        simp only [Act.put, List.getElem_toArray, List.getElem_cons_zero, List.getElem_cons_succ, List.setIfInBounds_toArray, List.set_cons_zero, List.set_cons_succ]
        refine wpAnyH_take (i := 2) (v := .int .i64 m) rfl (by kernel_rfl) (by kernel_rfl) (by kernel_rfl) (fun _ _ _ h => h) (Or.inl ⟨by rfl, fun w hw => by go_simp⟩) hHeld ?_
        simp only [Act.put, List.getElem_toArray, List.getElem_cons_zero, List.getElem_cons_succ, List.setIfInBounds_toArray, List.set_cons_zero, List.set_cons_succ]
        refine wpAnyH_take (i := 4) (v := .slice oa nl oc) rfl (by kernel_rfl) (by kernel_rfl) (by kernel_rfl) (fun _ _ _ h => h) (Or.inl ⟨by rfl, fun w hw => by go_simp⟩) hHeld ?_
        simp only [Act.put, List.getElem_toArray, List.getElem_cons_zero, List.getElem_cons_succ, List.setIfInBounds_toArray, List.set_cons_zero, List.set_cons_succ]
        refine wpAnyH_take (i := 5) (v := .slice va vn vc) rfl (by kernel_rfl) (by kernel_rfl) (by kernel_rfl) (fun _ _ _ h => h) (Or.inl ⟨by rfl, fun w hw => by go_simp⟩) hHeld ?_
        simp only [Act.put, List.getElem_toArray, List.getElem_cons_zero, List.getElem_cons_succ, List.setIfInBounds_toArray, List.set_cons_zero, List.set_cons_succ]
        refine wpAnyH_take (i := 6) (v := .int .i64 vn) rfl (by kernel_rfl) (by kernel_rfl) (by kernel_rfl) (fun _ _ _ h => h) (Or.inl ⟨by rfl, fun w hw => by go_simp⟩) hHeld ?_
        simp only [Act.put, List.getElem_toArray, List.getElem_cons_zero, List.getElem_cons_succ, List.setIfInBounds_toArray, List.set_cons_zero, List.set_cons_succ]
        refine wpAnyH_take (i := 7) (v := .slice va vn vc) rfl (by kernel_rfl) (by kernel_rfl) (by kernel_rfl) (fun _ _ _ h => h) (Or.inl ⟨by rfl, fun w hw => by go_simp⟩) hHeld ?_
        simp only [Act.put, List.getElem_toArray, List.getElem_cons_zero, List.getElem_cons_succ, List.setIfInBounds_toArray, List.set_cons_zero, List.set_cons_succ]
        refine wpAnyH_take (i := 9) (v := .slice oa nl oc) rfl (by kernel_rfl) (by kernel_rfl) (by kernel_rfl) (fun _ _ _ h => h) (Or.inl ⟨by rfl, fun w hw => by go_simp⟩) hHeld ?_
        simp only [Act.put, List.getElem_toArray, List.getElem_cons_zero, List.getElem_cons_succ, List.setIfInBounds_toArray, List.set_cons_zero, List.set_cons_succ]
        refine wpAnyH_take (i := 10) (v := .slice va vn vc) rfl (by kernel_rfl) (by kernel_rfl) (by kernel_rfl) (fun _ _ _ h => h) (Or.inl ⟨by rfl, fun w hw => by go_simp⟩) hHeld ?_
        simp only [Act.put, List.getElem_toArray, List.getElem_cons_zero, List.getElem_cons_succ, List.setIfInBounds_toArray, List.set_cons_zero, List.set_cons_succ]
        refine wpAnyH_ready (rs := [3]) (by kernel_rfl) (by simp) ?_
        refine AllReadyH.cons (o := _) rfl (fun K hK => ?_) AllReadyH.nil
        go_simp
        refine (acted_fuse _ _ (wh l) X m HM.out wr.drew P5.out.o (by rw [HWL.out]; exact hwg1) (by rw [HWL.out]; exact hwg2) (by rw [HWL.out]; omega) P5.out.x HXF.out.2 (by rw [HWL.out]; exact HXF.out.1)).mono ?_
        rintro e w5 ⟨pa, rfl, hda, b5⟩
        have M5 : Hid (DK (fun k => wr.heap.size ≤ k ∧ k < w5.heap.size) w5 pa (acts ⟨wh l, [], some m⟩ X) ∧ PF w w5 (.slice oa nl oc) (.slice va vn vc) (wh l) X ∧ wr.heap.size ≤ w5.heap.size ∧ w.heap.size ≤ wr.heap.size) := ⟨hda.sub (fun k hk h => ⟨h, hk⟩), P5.out.on b5, b5.size, P4.out.b.size⟩
        clear hda b5 P5 P4
        go_wp2_with fail
        refine hK.out _ _ trivial (fun hHeld => ?_)
        clear hK K
        refine wpAnyH_ready (rs := [8]) (by kernel_rfl) (by simp) ?_
        refine AllReadyH.cons (o := _) rfl (fun K hK => ?_) AllReadyH.nil
        go_simp
        refine (HAC.out w5 _ _ (X.take vn) M5.out.2.1.o (M5.out.2.1.x.pre (by rw [HXN.out]; omega)) (by have := List.length_take_le vn X; have := HXF.out.2; have := HXN.out; omega) (fun x hx => HXF.out.1 x (List.mem_of_mem_take hx))).mono ?_
        rintro e w6 ⟨pb, rfl, hdb, b6⟩
        have M6 : Hid (DK (fun k => wr.heap.size ≤ k ∧ k < w5.heap.size) w6 pa (acts ⟨wh l, [], some m⟩ X) ∧ DK (fun k => w5.heap.size ≤ k ∧ k < w6.heap.size) w6 pb (acts ⟨wh l, [], none⟩ (X.take vn)) ∧ PF w w6 (.slice oa nl oc) (.slice va vn vc) (wh l) X ∧ wr.heap.size ≤ w5.heap.size ∧ w.heap.size ≤ wr.heap.size ∧ w5.heap.size ≤ w6.heap.size) := ⟨M5.out.1.below b6, hdb.sub (fun k hk h => ⟨h, hk⟩), M5.out.2.1.on b6, M5.out.2.2.1, M5.out.2.2.2, b6.size⟩
        clear hdb b6 M5
        go_wp2_with fail
        refine hK.out _ _ trivial (fun hHeld => ?_)
        clear hK K
        refine wpAnyH_ready (rs := [11]) (by kernel_rfl) (by simp) ?_
        refine AllReadyH.cons (o := _) rfl (fun K hK => ?_) AllReadyH.nil
        go_simp
        refine (HAC.out w6 _ _ X M6.out.2.2.1.o M6.out.2.2.1.x HXF.out.2 HXF.out.1).mono ?_
        rintro e w7 ⟨pc, rfl, hdc, b7⟩
        have M7 : Hid (F3 w w7 wr.heap.size w5.heap.size w6.heap.size pa pb pc (acts ⟨wh l, [], some m⟩ X) (acts ⟨wh l, [], none⟩ (X.take vn)) (acts ⟨wh l, [], none⟩ X)) := ⟨(M6.out.2.2.1.on b7).b, M6.out.1.below b7, M6.out.2.1.below b7, hdc, M6.out.2.2.2.2.1, M6.out.2.2.2.1, M6.out.2.2.2.2.2, b7.size⟩
        clear hdc b7 M6
        go_wp2_with fail
        refine hK.out _ _ trivial (fun hHeld => ?_)
        clear hK K
        refine wpAnyH_ready (rs := [12]) (by kernel_rfl) (by simp) ?_
        refine AllReadyH.cons (o := _) rfl (fun K hK => ?_) AllReadyH.nil
        go_simp
        refine hK.out _ _ hHeld (fun hHeld => ?_)
        clear hK K
        refine wpAnyH_ready (rs := [13]) (by kernel_rfl) (by simp) ?_
        refine AllReadyH.cons (o := _) rfl (fun K hK => ?_) AllReadyH.nil
        go_simp
        refine hK.out _ _ hHeld (fun hHeld => ?_)
        clear hK K
        refine wpAnyH_ready (rs := [14]) (by kernel_rfl) (by simp) ?_
        refine AllReadyH.cons (o := _) rfl (fun K hK => ?_) AllReadyH.nil
        go_simp
        refine hK.out _ _ hHeld (fun hHeld => ?_)
        clear hK K
        refine wpAnyH_done (by kernel_rfl) ?_ _
        clear hHeld
        have HFA : Hid (∃ dd, (acts ⟨wh l, [], some m⟩ X).last = (acts ⟨wh l, [], none⟩ (X.take vn)).last ∧ (acts ⟨wh l, [], some m⟩ X).ws = (acts ⟨wh l, [], none⟩ (X.take vn)).ws ++ dd ∧ ∀ x ∈ dd, x.dead = true) := by
          have h := acts_fuse X m (wh l) []
          rw [← HXB.out] at h
          exact h
        have HIA : Hid (img (acts ⟨wh l, [], some m⟩ X).last (acts ⟨wh l, [], some m⟩ X).ws = img (acts ⟨wh l, [], none⟩ X).last (acts ⟨wh l, [], none⟩ X).ws) := acts_img X ⟨wh l, [], some m⟩ ⟨wh l, [], none⟩ rfl rfl (fun x hx => by show Fits (wh l).length x; rw [HWL.out]; exact HXF.out.1 x hx)
        have HLA : Hid ((acts ⟨wh l, [], some m⟩ X).last.length = nl ∧ (acts ⟨wh l, [], none⟩ X).last.length = nl ∧ (acts ⟨wh l, [], some m⟩ X).ws.length ≤ 1048576) := ⟨(acts_len _ _).trans HWL.out, (acts_len _ _).trans HWL.out, by have := acts_ws X ⟨wh l, [], some m⟩; have := HXF.out.2; simp only [List.length_nil] at *; omega⟩
        generalize acts ⟨wh l, [], some m⟩ X = A at *
        generalize acts ⟨wh l, [], none⟩ (X.take vn) = B at *
        generalize acts ⟨wh l, [], none⟩ X = C at *
        go_wp2_with fail
        refine (image M7.out.a).mono ?_
        rintro e w8 ⟨v8, rfl, ho, hb⟩
        have M8 : Hid (F3 w w8 wr.heap.size w5.heap.size w6.heap.size pa pb pc A B C ∧ RB w8 v8 (img A.last A.ws)) := ⟨M7.out.on hb, ho.rb⟩
        obtain ⟨a8, c8, e8⟩ := ho.form
        rw [img_len, HLA.out.1] at e8
        subst e8
        clear ho hb M7
        go_wp2_with fail
        refine (image M8.out.1.c).mono ?_
        rintro e w9 ⟨v9, rfl, ho, hb⟩
        rw [← HIA.out] at ho
        have M9 : Hid (F3 w w9 wr.heap.size w5.heap.size w6.heap.size pa pb pc A B C ∧ RB w9 (.slice a8 nl c8) (img A.last A.ws) ∧ RB w9 v9 (img A.last A.ws)) := ⟨M8.out.1.on hb, M8.out.2.keep hb, ho.rb⟩
        obtain ⟨a9, c9, e9⟩ := ho.form
        rw [img_len, HLA.out.1] at e9
        subst e9
        clear ho hb M8
        go_wp2_with fail
        refine (same _ _ _ w9 (by rw [img_len, HLA.out.1]; omega) M9.out.2.1 M9.out.2.2).mono ?_
        rintro e w10 ⟨rfl, nq, rfl⟩
        have M10 := Lib.hid (M9.out.1.on (belowDrew w9 nq))
        clear M9
        generalize w9.drewN nq = w10 at *
        go_wp2_with fail
        refine (durable M10.out.a).mono ?_
        rintro e w11 ⟨v11, rfl, ho, hb⟩
        have M11 : Hid (F3 w w11 wr.heap.size w5.heap.size w6.heap.size pa pb pc A B C ∧ RB w11 v11 A.last) := ⟨M10.out.on hb, ho.rb⟩
        obtain ⟨a11, c11, e11⟩ := ho.form
        rw [HLA.out.1] at e11
        subst e11
        clear ho hb M10
        go_wp2_with fail
        refine (durable M11.out.1.b).mono ?_
        rintro e w12 ⟨v12, rfl, ho, hb⟩
        have HAB : Hid (A.last = B.last) := by obtain ⟨_, h, _⟩ := HFA.out; exact h
        rw [← HAB.out] at ho
        have M12 : Hid (F3 w w12 wr.heap.size w5.heap.size w6.heap.size pa pb pc A B C ∧ RB w12 (.slice a11 nl c11) A.last ∧ RB w12 v12 A.last) := ⟨M11.out.1.on hb, M11.out.2.keep hb, ho.rb⟩
        obtain ⟨a12, c12, e12⟩ := ho.form
        rw [HLA.out.1] at e12
        subst e12
        clear ho hb M11
        go_wp2_with fail
        refine (same _ _ _ w12 (by rw [HLA.out.1]; omega) M12.out.2.1 M12.out.2.2).mono ?_
        rintro e w13 ⟨rfl, nq2, rfl⟩
        have M13 := Lib.hid (M12.out.1.on (belowDrew w12 nq2))
        clear M12
        generalize w12.drewN nq2 = w13 at *
        have HPQ : Hid (B.ws.length ≤ A.ws.length) := by obtain ⟨dd, _, h, _⟩ := HFA.out; show _ ≤ _; rw [h]; simp
        generalize hnp : A.ws.length = np at *
        have HNP : Hid (A.ws.length = np) := hnp
        clear hnp
        generalize hnq : B.ws.length = nB at *
        have HNQ : Hid (B.ws.length = nB) := hnq
        clear hnq
        have hpq : nB ≤ np := HPQ.out
        have hp20 : np ≤ 1048576 := HLA.out.2.2
        go_wp2_with fail
        refine (pending M13.out.a (by rw [HNP.out]; omega)).mono ?_
        rintro e w14 ⟨v14, rfl, ho, hb⟩
        obtain ⟨a14, c14, e14⟩ := ownsRow_form ho
        rw [HNP.out] at e14
        subst e14
        have M14 := Lib.hid (M13.out.on hb)
        clear ho hb M13
        go_wp2_with fail
        refine (pending M14.out.b (by rw [HNQ.out]; omega)).mono ?_
        rintro e w15 ⟨v15, rfl, ho, hb⟩
        obtain ⟨a15, c15, e15⟩ := ownsRow_form ho
        rw [HNQ.out] at e15
        subst e15
        have M15 := Lib.hid (M14.out.on hb)
        clear ho hb M14
        have hq3 : decide (np < nB) = false := decide_eq_false (by omega)
        have hq4 : (nB ≤ np) = True := eq_true hpq
        by_cases t1 : torn < -1
        · have hq5 : decide (torn < -1) = true := decide_eq_true t1
          go_wp2_with fail
          go_ret
          exact ⟨rfl, M15.out.f⟩
        have hq5 : decide (torn < -1) = false := decide_eq_false t1
        by_cases t2 : (np : Int) ≤ torn
        · have hq6 : decide ((np : Int) ≤ torn) = true := decide_eq_true t2
          go_wp2_with fail
          go_ret
          exact ⟨rfl, M15.out.f⟩
        have hq6 : decide ((np : Int) ≤ torn) = false := decide_eq_false t2
        by_cases t3 : cut < 0
        · have hq7 : decide (cut < 0) = true := decide_eq_true t3
          go_wp2_with fail
          go_ret
          exact ⟨rfl, M15.out.f⟩
        have hq7 : decide (cut < 0) = false := decide_eq_false t3
        by_cases t4 : 64 < cut
        · have hq8 : decide (64 < cut) = true := decide_eq_true t4
          go_wp2_with fail
          go_ret
          exact ⟨rfl, M15.out.f⟩
        have hq8 : decide (64 < cut) = false := decide_eq_false t4
        go_wp2_with fail
        refine (kept _ keep np w15 (HK.out.keep M15.out.f) (by have := HLL.out.2.1; omega) (by omega)).mono ?_
        rintro e w16 ⟨kw, rfl, hko, b16⟩
        have M16 := Lib.hid (M15.out.on b16)
        have hkg : ∀ g, kw.ownBlock = some g → w15.heap.size ≤ g := fun g hg => by
          rcases hko.2 with ⟨e, _⟩ | ⟨g', _, _, e, h1, _⟩
          · rw [e] at hg; simp [Value.ownBlock] at hg
          · rw [e] at hg; simp [Value.ownBlock] at hg; omega
        have NC := Lib.hid (crash M16.out.a kw (kp keep np) hko.rb (by rw [kp_len, HNP.out]) (fun g hg h => by have := hkg g hg; have := M15.out.o; omega) (by rw [HNP.out]; omega) torn cut (by omega) (by rw [HNP.out]; omega) (fun _ => by omega))
        obtain ⟨ak, ck, ek⟩ := ownsRow_form hko
        rw [kp_len] at ek
        subst ek
        clear hko b16 hkg M15
        go_wp2_with fail
        refine NC.out.mono ?_
        rintro e w17 ⟨rfl, hd, hf⟩
        have M17 := Lib.hid (M16.out.setA hd hf)
        clear hd hf NC M16
        by_cases t5 : (nB : Int) ≤ torn
        · have hq9 : decide ((nB : Int) ≤ torn) = true := decide_eq_true t5
          have HCF : Hid (crD (kp keep np) torn (if torn = -1 then 0 else cut.toNat) A.last A.ws = crD (kp keep nB) (-1) 0 B.last B.ws) := by
            obtain ⟨dd, h1, h2, h3⟩ := HFA.out
            rw [h1, h2]
            exact (crash_fuse keep torn (-1) cut B.last B.ws dd np nB HNQ.out hpq h3 (by rw [if_pos t5])).trans (by rw [if_pos rfl])
          rw [HCF.out] at M17
          clear HCF HIA HFA
          go_wp2_with fail
          refine (kept _ keep nB w17 (HK.out.keep M17.out.f) (by have := HLL.out.2.1; omega) (by omega)).mono ?_
          rintro e w18 ⟨kw2, rfl, hko, b18⟩
          have M18 := Lib.hid (M17.out.on b18)
          have hkg : ∀ g, kw2.ownBlock = some g → w17.heap.size ≤ g := fun g hg => by
            rcases hko.2 with ⟨e, _⟩ | ⟨g', _, _, e, h1, _⟩
            · rw [e] at hg; simp [Value.ownBlock] at hg
            · rw [e] at hg; simp [Value.ownBlock] at hg; omega
          have NC := Lib.hid (crash M18.out.b kw2 (kp keep nB) hko.rb (by rw [kp_len, HNQ.out]) (fun g hg h => by have := hkg g hg; have := M17.out.o; omega) (by rw [HNQ.out]; omega) (-1) cut (by omega) (by rw [HNQ.out]; omega) (fun _ => by omega))
          rw [if_pos rfl] at NC
          obtain ⟨ak2, ck2, ek2⟩ := ownsRow_form hko
          rw [kp_len] at ek2
          subst ek2
          have HIM0 : Hid ((crD (kp keep nB) (-1) 0 B.last B.ws).length = nl) := by show (crD _ _ _ _ _).length = nl; rw [crD_len, ← HAB.out]; exact HLA.out.1
          clear hko b18 hkg M17
          generalize crD (kp keep nB) (-1) 0 B.last B.ws = im at *
          have HIM : Hid (im.length = nl) := HIM0.out
          clear HIM0
          go_wp2_with fail
          refine NC.out.mono ?_
          rintro e w19 ⟨rfl, hd, hf⟩
          have M19 := Lib.hid (M18.out.setB hd hf)
          clear hd hf NC M18
          go_wp2_with fail
          refine (image M19.out.a).mono ?_
          rintro e w20 ⟨v20, rfl, ho, hb⟩
          have ho' : OW w19.heap.size w20 v20 (img im []) := ho
          rw [img_nil] at ho'
          have M20 : Hid (F3 w w20 wr.heap.size w5.heap.size w6.heap.size pa pb pc ⟨im, [], none⟩ ⟨im, [], none⟩ C ∧ RB w20 v20 im) := ⟨M19.out.on hb, ho'.rb⟩
          obtain ⟨a20, c20, e20⟩ := ho'.form
          rw [HIM.out] at e20
          subst e20
          clear ho ho' hb M19
          go_wp2_with fail
          refine (image M20.out.1.b).mono ?_
          rintro e w21 ⟨v21, rfl, ho, hb⟩
          have ho' : OW w20.heap.size w21 v21 (img im []) := ho
          rw [img_nil] at ho'
          have M21 : Hid (F3 w w21 wr.heap.size w5.heap.size w6.heap.size pa pb pc ⟨im, [], none⟩ ⟨im, [], none⟩ C ∧ RB w21 (.slice a20 nl c20) im ∧ RB w21 v21 im) := ⟨M20.out.1.on hb, M20.out.2.keep hb, ho'.rb⟩
          obtain ⟨a21, c21, e21⟩ := ho'.form
          rw [HIM.out] at e21
          subst e21
          clear ho ho' hb M20
          go_wp2_with fail
          refine (same _ _ im w21 (by rw [HIM.out]; omega) M21.out.2.1 M21.out.2.2).mono ?_
          rintro e w22 ⟨rfl, nq3, rfl⟩
          have M22 : Hid (DK (fun k => wr.heap.size ≤ k ∧ k < w5.heap.size) (w21.drewN nq3) pa ⟨im, [], none⟩ ∧ Below w.heap.size w (w21.drewN nq3) ∧ w.heap.size ≤ wr.heap.size) := ⟨(M21.out.1.on (belowDrew w21 nq3)).a, (M21.out.1.on (belowDrew w21 nq3)).f, M21.out.1.o.1⟩
          clear M21
          generalize w21.drewN nq3 = w22 at *
          go_wp2_with fail
          refine (full _ wAnew _ (word4_rb w22 97 110 101 119 (4, 5)) (by decide)).mono ?_
          rintro e w23 ⟨g23, rfl, hg, hr, hb⟩
          have hb23 : Below w22.heap.size w22 w23 := ((Below.refl w22.heap.size w22).alloc (Nat.le_refl _) (.cells #[.int .u8 97, .int .u8 110, .int .u8 101, .int .u8 119] 5 (4, 5))).trans (hb.mono (by simp))
          have M23 : Hid (DK (fun k => wr.heap.size ≤ k ∧ k < w5.heap.size) w23 pa ⟨im, [], none⟩ ∧ Below w.heap.size w w23 ∧ w.heap.size ≤ wr.heap.size ∧ RB w23 (.slice (some ⟨g23, 0, none⟩) 64 64) (fl wAnew)) := ⟨M22.out.1.below hb23, M22.out.2.1.trans (hb23.mono M22.out.2.1.size), M22.out.2.2, hr⟩
          clear hg hr hb hb23 M22
          go_wp2_with fail
          refine (write M23.out.1 0 (by show 64 * 0 + 64 ≤ im.length; rw [HIM.out]; omega) _ (fl wAnew) M23.out.2.2.2 (fl_len _) (by show ([] : List Wt).length < _; simp)).mono ?_
          rintro e w24 ⟨rfl, hd, hf⟩
          have M24 : Hid (DK (fun k => (wr.heap.size ≤ k ∧ k < w5.heap.size) ∨ w23.heap.size ≤ k) w24 pa ⟨im, [⟨0, fl wAnew, false⟩], none⟩ ∧ Below w.heap.size w w24 ∧ w.heap.size ≤ wr.heap.size ∧ w.heap.size ≤ w23.heap.size) := by
            have hz := M23.out.2.1.size
            have h3 := M23.out.2.2.1
            exact ⟨hd, ⟨hf.os.trans M23.out.2.1.os, hf.tape.trans M23.out.2.1.tape, hf.output.trans M23.out.2.1.output, Nat.le_trans hz hf.size, fun k hk => (hf.block k (by omega) (by omega)).trans (M23.out.2.1.block k hk)⟩, h3, hz⟩
          clear hd hf M23
          go_wp2_with fail
          refine (sync_live M24.out.1 rfl).mono ?_
          rintro e w25 ⟨rfl, hd, hf⟩
          have M25 : Hid (DK (fun k => (wr.heap.size ≤ k ∧ k < w5.heap.size) ∨ w23.heap.size ≤ k) w25 pa ⟨img im [⟨0, fl wAnew, false⟩], [], none⟩ ∧ Below w.heap.size w w25) := by
            have hz := M24.out.2.1.size
            have h3 := M24.out.2.2
            exact ⟨hd, ⟨hf.os.trans M24.out.2.1.os, hf.tape.trans M24.out.2.1.tape, hf.output.trans M24.out.2.1.output, Nat.le_trans hz hf.size, fun k hk => (hf.block k (by omega) (by omega)).trans (M24.out.2.1.block k hk)⟩⟩
          clear hd hf M24
          go_wp2_with fail
          refine (durable M25.out.1).mono ?_
          rintro e w26 ⟨v26, rfl, ho, hb⟩
          have ho' : OW w25.heap.size w26 v26 (img im [⟨0, fl wAnew, false⟩]) := ho
          have HDL : Hid ((img im [⟨0, fl wAnew, false⟩]).length = nl ∧ (img im [⟨0, fl wAnew, false⟩]).take 64 = fl wAnew) := ⟨by rw [img_len]; exact HIM.out, first_sec im (fl wAnew) false (fl_len _) (by rw [HIM.out]; exact hwg2)⟩
          obtain ⟨g26, c26, e26, hc26⟩ : ∃ g c, v26 = .slice (some ⟨g, 0, none⟩) nl c ∧ nl ≤ c := by
            rcases ho'.2 with ⟨_, h0⟩ | ⟨g, c, _, h1, _, _, h2, _⟩
            · have := HDL.out.1; omega
            · rw [HDL.out.1] at h1 h2
              exact ⟨g, c, h1, h2⟩
          subst e26
          have M26 : Hid (Below w.heap.size w w26 ∧ RB w26 (.slice (some ⟨g26, 0, none⟩) 64 c26) (fl wAnew)) := by
            refine ⟨M25.out.2.trans (hb.mono M25.out.2.size), ?_⟩
            have h := ho'.rb.pre (m := 64) (by rw [HDL.out.1]; exact hwg2)
            rw [HDL.out.2] at h
            exact h
          clear ho ho' hb M25 HDL
          go_wp2_with fail
          have hlen64 : (64 ≤ nl) = True := eq_true hwg2
          have hc64 : 64 ≤ c26 := by omega
          have hcvd : (convert 22 22 (.slice (some ⟨w26.heap.size, 0, none⟩) 4 4)).run Try.prog (w26.alloc (.cells #[.int .u8 97, .int .u8 110, .int .u8 101, .int .u8 119] 5)).drew = .ok (.slice (some ⟨w26.heap.size, 0, none⟩) 4 4) (w26.alloc (.cells #[.int .u8 97, .int .u8 110, .int .u8 101, .int .u8 119] 5 (4, 5))).drew := conv4 w26.drew _ _ _ _ _ rfl
          have HRW : Hid (RB (w26.alloc (.cells #[.int .u8 97, .int .u8 110, .int .u8 101, .int .u8 119] 5 (4, 5))).drew (.slice (some ⟨w26.heap.size, 0, none⟩) 4 4) wAnew) := word4_rb w26.drew 97 110 101 119 (4, 5)
          have HBW : Hid (Below w26.heap.size w26 (w26.alloc (.cells #[.int .u8 97, .int .u8 110, .int .u8 101, .int .u8 119] 5 (4, 5))).drew) := ((Below.refl w26.heap.size w26).alloc (Nat.le_refl _) _).trans ((belowDrew _ 1).mono (by simp))
          refine wp_region_held_drew (S := fun _ => True) (by kernel_rfl) (trivial) (fun hHeld => ?_)
          refine wpAnyH_take (i := 0) (v := .int .i64 0) rfl (by kernel_rfl) (by kernel_rfl) (by kernel_rfl) (fun _ _ _ h => h) (Or.inl ⟨by rfl, fun w hw => by go_simp⟩) hHeld ?_
          simp only [Act.put, List.getElem_toArray, List.getElem_cons_zero, List.setIfInBounds_toArray, List.set_cons_zero, List.set_cons_succ]
          refine wpAnyH_take (i := 1) (v := .bool true) rfl (by kernel_rfl) (by kernel_rfl) (by kernel_rfl) (fun _ _ _ h => h) (Or.inl ⟨by rfl, fun w hw => by go_simp⟩) hHeld ?_
          simp only [Act.put, List.getElem_toArray, List.getElem_cons_zero, List.getElem_cons_succ, List.setIfInBounds_toArray, List.set_cons_zero, List.set_cons_succ]
          refine wpAnyH_take (i := 2) (v := .bool true) rfl (by kernel_rfl) (by kernel_rfl) (by kernel_rfl) (fun _ _ _ h => h) (Or.inl ⟨by rfl, fun w hw => by go_simp⟩) hHeld ?_
          simp only [Act.put, List.getElem_toArray, List.getElem_cons_zero, List.getElem_cons_succ, List.setIfInBounds_toArray, List.set_cons_zero, List.set_cons_succ]
          refine wpAnyH_take (i := 3) (v := .int .i64 0) rfl (by kernel_rfl) (by kernel_rfl) (by kernel_rfl) (fun _ _ _ h => h) (Or.inl ⟨by rfl, fun w hw => by go_simp⟩) hHeld ?_
          simp only [Act.put, List.getElem_toArray, List.getElem_cons_zero, List.getElem_cons_succ, List.setIfInBounds_toArray, List.set_cons_zero, List.set_cons_succ]
          refine wpAnyH_take (i := 4) (v := .bool true) rfl (by kernel_rfl) (by kernel_rfl) (by kernel_rfl) (fun _ _ _ h => h) (Or.inl ⟨by rfl, fun w hw => by go_simp⟩) hHeld ?_
          simp only [Act.put, List.getElem_toArray, List.getElem_cons_zero, List.getElem_cons_succ, List.setIfInBounds_toArray, List.set_cons_zero, List.set_cons_succ]
          refine wpAnyH_take (i := 5) (v := .bool true) rfl (by kernel_rfl) (by kernel_rfl) (by kernel_rfl) (fun _ _ _ h => h) (Or.inl ⟨by rfl, fun w hw => by go_simp⟩) hHeld ?_
          simp only [Act.put, List.getElem_toArray, List.getElem_cons_zero, List.getElem_cons_succ, List.setIfInBounds_toArray, List.set_cons_zero, List.set_cons_succ]
          refine wpAnyH_take (i := 6) (v := .bool true) rfl (by kernel_rfl) (by kernel_rfl) (by kernel_rfl) (fun _ _ _ h => h) (Or.inl ⟨by rfl, fun w hw => by go_simp⟩) hHeld ?_
          simp only [Act.put, List.getElem_toArray, List.getElem_cons_zero, List.getElem_cons_succ, List.setIfInBounds_toArray, List.set_cons_zero, List.set_cons_succ]
          refine wpAnyH_take (i := 7) (v := .slice (some ⟨g26, 0, none⟩) nl c26) rfl (by kernel_rfl) (by kernel_rfl) (by kernel_rfl) (fun _ _ _ h => h) (Or.inl ⟨by rfl, fun w hw => by go_simp⟩) hHeld ?_
          simp only [Act.put, List.getElem_toArray, List.getElem_cons_zero, List.getElem_cons_succ, List.setIfInBounds_toArray, List.set_cons_zero, List.set_cons_succ]
          refine wpAnyH_take (i := 8) (v := .int .i64 nl) rfl (by kernel_rfl) (by kernel_rfl) (by kernel_rfl) (fun _ _ _ h => h) (Or.inl ⟨by rfl, fun w hw => by go_simp⟩) hHeld ?_
          simp only [Act.put, List.getElem_toArray, List.getElem_cons_zero, List.getElem_cons_succ, List.setIfInBounds_toArray, List.set_cons_zero, List.set_cons_succ]
          refine wpAnyH_take (i := 9) (v := .bool true) rfl (by kernel_rfl) (by kernel_rfl) (by kernel_rfl) (fun _ _ _ h => h) (Or.inl ⟨by rfl, fun w hw => by go_simp; omega⟩) hHeld ?_
          simp only [Act.put, List.getElem_toArray, List.getElem_cons_zero, List.getElem_cons_succ, List.setIfInBounds_toArray, List.set_cons_zero, List.set_cons_succ]
          refine wpAnyH_take (i := 10) (v := .bool true) rfl (by kernel_rfl) (by kernel_rfl) (by kernel_rfl) (fun _ _ _ h => h) (Or.inl ⟨by rfl, fun w hw => by go_simp⟩) hHeld ?_
          simp only [Act.put, List.getElem_toArray, List.getElem_cons_zero, List.getElem_cons_succ, List.setIfInBounds_toArray, List.set_cons_zero, List.set_cons_succ]
          refine wpAnyH_take (i := 11) (v := .bool true) rfl (by kernel_rfl) (by kernel_rfl) (by kernel_rfl) (fun _ _ _ h => h) (Or.inl ⟨by rfl, fun w hw => by go_simp⟩) hHeld ?_
          simp only [Act.put, List.getElem_toArray, List.getElem_cons_zero, List.getElem_cons_succ, List.setIfInBounds_toArray, List.set_cons_zero, List.set_cons_succ]
          refine wpAnyH_take (i := 12) (v := .slice (some ⟨g26, 0, none⟩) nl c26) rfl (by kernel_rfl) (by kernel_rfl) (by kernel_rfl) (fun _ _ _ h => h) (Or.inl ⟨by rfl, fun w hw => by go_simp⟩) hHeld ?_
          simp only [Act.put, List.getElem_toArray, List.getElem_cons_zero, List.getElem_cons_succ, List.setIfInBounds_toArray, List.set_cons_zero, List.set_cons_succ]
          refine wpAnyH_take (i := 13) (v := .slice (some ⟨g26, 0, none⟩) 64 c26) rfl (by kernel_rfl) (by kernel_rfl) (by kernel_rfl) (fun _ _ _ h => h) (Or.inl ⟨by rfl, fun w hw => by go_simp; intro h; omega⟩) hHeld ?_
          simp only [Act.put, List.getElem_toArray, List.getElem_cons_zero, List.getElem_cons_succ, List.setIfInBounds_toArray, List.set_cons_zero, List.set_cons_succ]
          refine wpAnyH_ready (rs := [14]) (by kernel_rfl) (by simp) ?_
          refine AllReadyH.cons (o := _) rfl (fun K hK => ?_) AllReadyH.nil
          go_simp
          refine hK.out _ _ trivial (fun hHeld => ?_)
          clear hK K
          refine wpAnyH_ready (rs := [15]) (by kernel_rfl) (by simp) ?_
          refine AllReadyH.cons (o := _) rfl (fun K hK => ?_) AllReadyH.nil
          go_simp
          refine hK.out _ _ trivial (fun hHeld => ?_)
          clear hK K
          refine wpAnyH_ready (rs := [16]) (by kernel_rfl) (by simp) ?_
          refine AllReadyH.cons (o := _) rfl (fun K hK => ?_) AllReadyH.nil
          go_simp
          refine (full _ wAnew _ HRW.out (by decide)).mono ?_
          rintro e w27 ⟨g27, rfl, hg, hr, hb⟩
          have hb27 : Below w26.heap.size w26 w27 := HBW.out.trans (hb.mono HBW.out.size)
          have M27 : Hid (Below w.heap.size w w27 ∧ RB w27 (.slice (some ⟨g26, 0, none⟩) 64 c26) (fl wAnew) ∧ RB w27 (.slice (some ⟨g27, 0, none⟩) 64 64) (fl wAnew)) := ⟨M26.out.1.trans (hb27.mono M26.out.1.size), M26.out.2.keep hb27, hr⟩
          clear hg hr hb hb27 M26
          go_wp2_with fail
          refine hK.out _ _ trivial (fun hHeld => ?_)
          clear hK K
          refine wpAnyH_ready (rs := [17]) (by kernel_rfl) (by simp) ?_
          refine AllReadyH.cons (o := _) rfl (fun K hK => ?_) AllReadyH.nil
          go_simp
          refine (same _ _ (fl wAnew) w27 (by rw [fl_len]; omega) M27.out.2.1 M27.out.2.2).mono ?_
          rintro e w28 ⟨rfl, nq4, rfl⟩
          have M28 : Hid (Below w.heap.size w (w27.drewN nq4)) := belowN M27.out.1 nq4
          clear M27
          generalize w27.drewN nq4 = w28 at *
          go_wp2_with fail
          refine hK.out _ _ trivial (fun hHeld => ?_)
          clear hK K
          refine wpAnyH_take (i := 18) (v := .bool true) rfl (by kernel_rfl) (by kernel_rfl) (by kernel_rfl) (fun _ _ _ h => h) (Or.inl ⟨by rfl, fun w hw => by go_simp⟩) hHeld ?_
          simp only [Act.put, List.getElem_toArray, List.getElem_cons_zero, List.getElem_cons_succ, List.setIfInBounds_toArray, List.set_cons_zero, List.set_cons_succ]
          refine wpAnyH_ready (rs := [19]) (by kernel_rfl) (by simp) ?_
          refine AllReadyH.cons (o := _) rfl (fun K hK => ?_) AllReadyH.nil
          go_simp
          refine hK.out _ _ trivial (fun hHeld => ?_)
          clear hK K
          refine wpAnyH_done (by kernel_rfl) ?_ _
          clear hHeld
          go_wp2_with fail
          go_ret
          exact ⟨rfl, M28.out⟩
        · have hq9 : decide ((nB : Int) ≤ torn) = false := decide_eq_false t5
          have HCF : Hid (crD (kp keep np) torn (if torn = -1 then 0 else cut.toNat) A.last A.ws = crD (kp keep nB) torn (if torn = -1 then 0 else cut.toNat) B.last B.ws) := by
            obtain ⟨dd, h1, h2, h3⟩ := HFA.out
            rw [h1, h2]
            exact (crash_fuse keep torn torn cut B.last B.ws dd np nB HNQ.out hpq h3 (by rw [if_neg t5])).trans (by rfl)
          rw [HCF.out] at M17
          clear HCF HIA HFA
          go_wp2_with fail
          refine (kept _ keep nB w17 (HK.out.keep M17.out.f) (by have := HLL.out.2.1; omega) (by omega)).mono ?_
          rintro e w18 ⟨kw2, rfl, hko, b18⟩
          have M18 := Lib.hid (M17.out.on b18)
          have hkg : ∀ g, kw2.ownBlock = some g → w17.heap.size ≤ g := fun g hg => by
            rcases hko.2 with ⟨e, _⟩ | ⟨g', _, _, e, h1, _⟩
            · rw [e] at hg; simp [Value.ownBlock] at hg
            · rw [e] at hg; simp [Value.ownBlock] at hg; omega
          have NC := Lib.hid (crash M18.out.b kw2 (kp keep nB) hko.rb (by rw [kp_len, HNQ.out]) (fun g hg h => by have := hkg g hg; have := M17.out.o; omega) (by rw [HNQ.out]; omega) torn cut (by omega) (by rw [HNQ.out]; omega) (fun _ => by omega))
          obtain ⟨ak2, ck2, ek2⟩ := ownsRow_form hko
          rw [kp_len] at ek2
          subst ek2
          have HIM0 : Hid ((crD (kp keep nB) torn (if torn = -1 then 0 else cut.toNat) B.last B.ws).length = nl) := by show (crD _ _ _ _ _).length = nl; rw [crD_len, ← HAB.out]; exact HLA.out.1
          clear hko b18 hkg M17
          generalize crD (kp keep nB) torn (if torn = -1 then 0 else cut.toNat) B.last B.ws = im at *
          have HIM : Hid (im.length = nl) := HIM0.out
          clear HIM0
          go_wp2_with fail
          refine NC.out.mono ?_
          rintro e w19 ⟨rfl, hd, hf⟩
          have M19 := Lib.hid (M18.out.setB hd hf)
          clear hd hf NC M18
          go_wp2_with fail
          refine (image M19.out.a).mono ?_
          rintro e w20 ⟨v20, rfl, ho, hb⟩
          have ho' : OW w19.heap.size w20 v20 (img im []) := ho
          rw [img_nil] at ho'
          have M20 : Hid (F3 w w20 wr.heap.size w5.heap.size w6.heap.size pa pb pc ⟨im, [], none⟩ ⟨im, [], none⟩ C ∧ RB w20 v20 im) := ⟨M19.out.on hb, ho'.rb⟩
          obtain ⟨a20, c20, e20⟩ := ho'.form
          rw [HIM.out] at e20
          subst e20
          clear ho ho' hb M19
          go_wp2_with fail
          refine (image M20.out.1.b).mono ?_
          rintro e w21 ⟨v21, rfl, ho, hb⟩
          have ho' : OW w20.heap.size w21 v21 (img im []) := ho
          rw [img_nil] at ho'
          have M21 : Hid (F3 w w21 wr.heap.size w5.heap.size w6.heap.size pa pb pc ⟨im, [], none⟩ ⟨im, [], none⟩ C ∧ RB w21 (.slice a20 nl c20) im ∧ RB w21 v21 im) := ⟨M20.out.1.on hb, M20.out.2.keep hb, ho'.rb⟩
          obtain ⟨a21, c21, e21⟩ := ho'.form
          rw [HIM.out] at e21
          subst e21
          clear ho ho' hb M20
          go_wp2_with fail
          refine (same _ _ im w21 (by rw [HIM.out]; omega) M21.out.2.1 M21.out.2.2).mono ?_
          rintro e w22 ⟨rfl, nq3, rfl⟩
          have M22 : Hid (DK (fun k => wr.heap.size ≤ k ∧ k < w5.heap.size) (w21.drewN nq3) pa ⟨im, [], none⟩ ∧ Below w.heap.size w (w21.drewN nq3) ∧ w.heap.size ≤ wr.heap.size) := ⟨(M21.out.1.on (belowDrew w21 nq3)).a, (M21.out.1.on (belowDrew w21 nq3)).f, M21.out.1.o.1⟩
          clear M21
          generalize w21.drewN nq3 = w22 at *
          go_wp2_with fail
          refine (full _ wAnew _ (word4_rb w22 97 110 101 119 (4, 5)) (by decide)).mono ?_
          rintro e w23 ⟨g23, rfl, hg, hr, hb⟩
          have hb23 : Below w22.heap.size w22 w23 := ((Below.refl w22.heap.size w22).alloc (Nat.le_refl _) (.cells #[.int .u8 97, .int .u8 110, .int .u8 101, .int .u8 119] 5 (4, 5))).trans (hb.mono (by simp))
          have M23 : Hid (DK (fun k => wr.heap.size ≤ k ∧ k < w5.heap.size) w23 pa ⟨im, [], none⟩ ∧ Below w.heap.size w w23 ∧ w.heap.size ≤ wr.heap.size ∧ RB w23 (.slice (some ⟨g23, 0, none⟩) 64 64) (fl wAnew)) := ⟨M22.out.1.below hb23, M22.out.2.1.trans (hb23.mono M22.out.2.1.size), M22.out.2.2, hr⟩
          clear hg hr hb hb23 M22
          go_wp2_with fail
          refine (write M23.out.1 0 (by show 64 * 0 + 64 ≤ im.length; rw [HIM.out]; omega) _ (fl wAnew) M23.out.2.2.2 (fl_len _) (by show ([] : List Wt).length < _; simp)).mono ?_
          rintro e w24 ⟨rfl, hd, hf⟩
          have M24 : Hid (DK (fun k => (wr.heap.size ≤ k ∧ k < w5.heap.size) ∨ w23.heap.size ≤ k) w24 pa ⟨im, [⟨0, fl wAnew, false⟩], none⟩ ∧ Below w.heap.size w w24 ∧ w.heap.size ≤ wr.heap.size ∧ w.heap.size ≤ w23.heap.size) := by
            have hz := M23.out.2.1.size
            have h3 := M23.out.2.2.1
            exact ⟨hd, ⟨hf.os.trans M23.out.2.1.os, hf.tape.trans M23.out.2.1.tape, hf.output.trans M23.out.2.1.output, Nat.le_trans hz hf.size, fun k hk => (hf.block k (by omega) (by omega)).trans (M23.out.2.1.block k hk)⟩, h3, hz⟩
          clear hd hf M23
          go_wp2_with fail
          refine (sync_live M24.out.1 rfl).mono ?_
          rintro e w25 ⟨rfl, hd, hf⟩
          have M25 : Hid (DK (fun k => (wr.heap.size ≤ k ∧ k < w5.heap.size) ∨ w23.heap.size ≤ k) w25 pa ⟨img im [⟨0, fl wAnew, false⟩], [], none⟩ ∧ Below w.heap.size w w25) := by
            have hz := M24.out.2.1.size
            have h3 := M24.out.2.2
            exact ⟨hd, ⟨hf.os.trans M24.out.2.1.os, hf.tape.trans M24.out.2.1.tape, hf.output.trans M24.out.2.1.output, Nat.le_trans hz hf.size, fun k hk => (hf.block k (by omega) (by omega)).trans (M24.out.2.1.block k hk)⟩⟩
          clear hd hf M24
          go_wp2_with fail
          refine (durable M25.out.1).mono ?_
          rintro e w26 ⟨v26, rfl, ho, hb⟩
          have ho' : OW w25.heap.size w26 v26 (img im [⟨0, fl wAnew, false⟩]) := ho
          have HDL : Hid ((img im [⟨0, fl wAnew, false⟩]).length = nl ∧ (img im [⟨0, fl wAnew, false⟩]).take 64 = fl wAnew) := ⟨by rw [img_len]; exact HIM.out, first_sec im (fl wAnew) false (fl_len _) (by rw [HIM.out]; exact hwg2)⟩
          obtain ⟨g26, c26, e26, hc26⟩ : ∃ g c, v26 = .slice (some ⟨g, 0, none⟩) nl c ∧ nl ≤ c := by
            rcases ho'.2 with ⟨_, h0⟩ | ⟨g, c, _, h1, _, _, h2, _⟩
            · have := HDL.out.1; omega
            · rw [HDL.out.1] at h1 h2
              exact ⟨g, c, h1, h2⟩
          subst e26
          have M26 : Hid (Below w.heap.size w w26 ∧ RB w26 (.slice (some ⟨g26, 0, none⟩) 64 c26) (fl wAnew)) := by
            refine ⟨M25.out.2.trans (hb.mono M25.out.2.size), ?_⟩
            have h := ho'.rb.pre (m := 64) (by rw [HDL.out.1]; exact hwg2)
            rw [HDL.out.2] at h
            exact h
          clear ho ho' hb M25 HDL
          go_wp2_with fail
          have hlen64 : (64 ≤ nl) = True := eq_true hwg2
          have hc64 : 64 ≤ c26 := by omega
          have hcvd : (convert 22 22 (.slice (some ⟨w26.heap.size, 0, none⟩) 4 4)).run Try.prog (w26.alloc (.cells #[.int .u8 97, .int .u8 110, .int .u8 101, .int .u8 119] 5)).drew = .ok (.slice (some ⟨w26.heap.size, 0, none⟩) 4 4) (w26.alloc (.cells #[.int .u8 97, .int .u8 110, .int .u8 101, .int .u8 119] 5 (4, 5))).drew := conv4 w26.drew _ _ _ _ _ rfl
          have HRW : Hid (RB (w26.alloc (.cells #[.int .u8 97, .int .u8 110, .int .u8 101, .int .u8 119] 5 (4, 5))).drew (.slice (some ⟨w26.heap.size, 0, none⟩) 4 4) wAnew) := word4_rb w26.drew 97 110 101 119 (4, 5)
          have HBW : Hid (Below w26.heap.size w26 (w26.alloc (.cells #[.int .u8 97, .int .u8 110, .int .u8 101, .int .u8 119] 5 (4, 5))).drew) := ((Below.refl w26.heap.size w26).alloc (Nat.le_refl _) _).trans ((belowDrew _ 1).mono (by simp))
          refine wp_region_held_drew (S := fun _ => True) (by kernel_rfl) (trivial) (fun hHeld => ?_)
          refine wpAnyH_take (i := 0) (v := .int .i64 0) rfl (by kernel_rfl) (by kernel_rfl) (by kernel_rfl) (fun _ _ _ h => h) (Or.inl ⟨by rfl, fun w hw => by go_simp⟩) hHeld ?_
          simp only [Act.put, List.getElem_toArray, List.getElem_cons_zero, List.setIfInBounds_toArray, List.set_cons_zero, List.set_cons_succ]
          refine wpAnyH_take (i := 1) (v := .bool true) rfl (by kernel_rfl) (by kernel_rfl) (by kernel_rfl) (fun _ _ _ h => h) (Or.inl ⟨by rfl, fun w hw => by go_simp⟩) hHeld ?_
          simp only [Act.put, List.getElem_toArray, List.getElem_cons_zero, List.getElem_cons_succ, List.setIfInBounds_toArray, List.set_cons_zero, List.set_cons_succ]
          refine wpAnyH_take (i := 2) (v := .bool true) rfl (by kernel_rfl) (by kernel_rfl) (by kernel_rfl) (fun _ _ _ h => h) (Or.inl ⟨by rfl, fun w hw => by go_simp⟩) hHeld ?_
          simp only [Act.put, List.getElem_toArray, List.getElem_cons_zero, List.getElem_cons_succ, List.setIfInBounds_toArray, List.set_cons_zero, List.set_cons_succ]
          refine wpAnyH_take (i := 3) (v := .int .i64 0) rfl (by kernel_rfl) (by kernel_rfl) (by kernel_rfl) (fun _ _ _ h => h) (Or.inl ⟨by rfl, fun w hw => by go_simp⟩) hHeld ?_
          simp only [Act.put, List.getElem_toArray, List.getElem_cons_zero, List.getElem_cons_succ, List.setIfInBounds_toArray, List.set_cons_zero, List.set_cons_succ]
          refine wpAnyH_take (i := 4) (v := .bool true) rfl (by kernel_rfl) (by kernel_rfl) (by kernel_rfl) (fun _ _ _ h => h) (Or.inl ⟨by rfl, fun w hw => by go_simp⟩) hHeld ?_
          simp only [Act.put, List.getElem_toArray, List.getElem_cons_zero, List.getElem_cons_succ, List.setIfInBounds_toArray, List.set_cons_zero, List.set_cons_succ]
          refine wpAnyH_take (i := 5) (v := .bool true) rfl (by kernel_rfl) (by kernel_rfl) (by kernel_rfl) (fun _ _ _ h => h) (Or.inl ⟨by rfl, fun w hw => by go_simp⟩) hHeld ?_
          simp only [Act.put, List.getElem_toArray, List.getElem_cons_zero, List.getElem_cons_succ, List.setIfInBounds_toArray, List.set_cons_zero, List.set_cons_succ]
          refine wpAnyH_take (i := 6) (v := .bool true) rfl (by kernel_rfl) (by kernel_rfl) (by kernel_rfl) (fun _ _ _ h => h) (Or.inl ⟨by rfl, fun w hw => by go_simp⟩) hHeld ?_
          simp only [Act.put, List.getElem_toArray, List.getElem_cons_zero, List.getElem_cons_succ, List.setIfInBounds_toArray, List.set_cons_zero, List.set_cons_succ]
          refine wpAnyH_take (i := 7) (v := .slice (some ⟨g26, 0, none⟩) nl c26) rfl (by kernel_rfl) (by kernel_rfl) (by kernel_rfl) (fun _ _ _ h => h) (Or.inl ⟨by rfl, fun w hw => by go_simp⟩) hHeld ?_
          simp only [Act.put, List.getElem_toArray, List.getElem_cons_zero, List.getElem_cons_succ, List.setIfInBounds_toArray, List.set_cons_zero, List.set_cons_succ]
          refine wpAnyH_take (i := 8) (v := .int .i64 nl) rfl (by kernel_rfl) (by kernel_rfl) (by kernel_rfl) (fun _ _ _ h => h) (Or.inl ⟨by rfl, fun w hw => by go_simp⟩) hHeld ?_
          simp only [Act.put, List.getElem_toArray, List.getElem_cons_zero, List.getElem_cons_succ, List.setIfInBounds_toArray, List.set_cons_zero, List.set_cons_succ]
          refine wpAnyH_take (i := 9) (v := .bool true) rfl (by kernel_rfl) (by kernel_rfl) (by kernel_rfl) (fun _ _ _ h => h) (Or.inl ⟨by rfl, fun w hw => by go_simp; omega⟩) hHeld ?_
          simp only [Act.put, List.getElem_toArray, List.getElem_cons_zero, List.getElem_cons_succ, List.setIfInBounds_toArray, List.set_cons_zero, List.set_cons_succ]
          refine wpAnyH_take (i := 10) (v := .bool true) rfl (by kernel_rfl) (by kernel_rfl) (by kernel_rfl) (fun _ _ _ h => h) (Or.inl ⟨by rfl, fun w hw => by go_simp⟩) hHeld ?_
          simp only [Act.put, List.getElem_toArray, List.getElem_cons_zero, List.getElem_cons_succ, List.setIfInBounds_toArray, List.set_cons_zero, List.set_cons_succ]
          refine wpAnyH_take (i := 11) (v := .bool true) rfl (by kernel_rfl) (by kernel_rfl) (by kernel_rfl) (fun _ _ _ h => h) (Or.inl ⟨by rfl, fun w hw => by go_simp⟩) hHeld ?_
          simp only [Act.put, List.getElem_toArray, List.getElem_cons_zero, List.getElem_cons_succ, List.setIfInBounds_toArray, List.set_cons_zero, List.set_cons_succ]
          refine wpAnyH_take (i := 12) (v := .slice (some ⟨g26, 0, none⟩) nl c26) rfl (by kernel_rfl) (by kernel_rfl) (by kernel_rfl) (fun _ _ _ h => h) (Or.inl ⟨by rfl, fun w hw => by go_simp⟩) hHeld ?_
          simp only [Act.put, List.getElem_toArray, List.getElem_cons_zero, List.getElem_cons_succ, List.setIfInBounds_toArray, List.set_cons_zero, List.set_cons_succ]
          refine wpAnyH_take (i := 13) (v := .slice (some ⟨g26, 0, none⟩) 64 c26) rfl (by kernel_rfl) (by kernel_rfl) (by kernel_rfl) (fun _ _ _ h => h) (Or.inl ⟨by rfl, fun w hw => by go_simp; intro h; omega⟩) hHeld ?_
          simp only [Act.put, List.getElem_toArray, List.getElem_cons_zero, List.getElem_cons_succ, List.setIfInBounds_toArray, List.set_cons_zero, List.set_cons_succ]
          refine wpAnyH_ready (rs := [14]) (by kernel_rfl) (by simp) ?_
          refine AllReadyH.cons (o := _) rfl (fun K hK => ?_) AllReadyH.nil
          go_simp
          refine hK.out _ _ trivial (fun hHeld => ?_)
          clear hK K
          refine wpAnyH_ready (rs := [15]) (by kernel_rfl) (by simp) ?_
          refine AllReadyH.cons (o := _) rfl (fun K hK => ?_) AllReadyH.nil
          go_simp
          refine hK.out _ _ trivial (fun hHeld => ?_)
          clear hK K
          refine wpAnyH_ready (rs := [16]) (by kernel_rfl) (by simp) ?_
          refine AllReadyH.cons (o := _) rfl (fun K hK => ?_) AllReadyH.nil
          go_simp
          refine (full _ wAnew _ HRW.out (by decide)).mono ?_
          rintro e w27 ⟨g27, rfl, hg, hr, hb⟩
          have hb27 : Below w26.heap.size w26 w27 := HBW.out.trans (hb.mono HBW.out.size)
          have M27 : Hid (Below w.heap.size w w27 ∧ RB w27 (.slice (some ⟨g26, 0, none⟩) 64 c26) (fl wAnew) ∧ RB w27 (.slice (some ⟨g27, 0, none⟩) 64 64) (fl wAnew)) := ⟨M26.out.1.trans (hb27.mono M26.out.1.size), M26.out.2.keep hb27, hr⟩
          clear hg hr hb hb27 M26
          go_wp2_with fail
          refine hK.out _ _ trivial (fun hHeld => ?_)
          clear hK K
          refine wpAnyH_ready (rs := [17]) (by kernel_rfl) (by simp) ?_
          refine AllReadyH.cons (o := _) rfl (fun K hK => ?_) AllReadyH.nil
          go_simp
          refine (same _ _ (fl wAnew) w27 (by rw [fl_len]; omega) M27.out.2.1 M27.out.2.2).mono ?_
          rintro e w28 ⟨rfl, nq4, rfl⟩
          have M28 : Hid (Below w.heap.size w (w27.drewN nq4)) := belowN M27.out.1 nq4
          clear M27
          generalize w27.drewN nq4 = w28 at *
          go_wp2_with fail
          refine hK.out _ _ trivial (fun hHeld => ?_)
          clear hK K
          refine wpAnyH_take (i := 18) (v := .bool true) rfl (by kernel_rfl) (by kernel_rfl) (by kernel_rfl) (fun _ _ _ h => h) (Or.inl ⟨by rfl, fun w hw => by go_simp⟩) hHeld ?_
          simp only [Act.put, List.getElem_toArray, List.getElem_cons_zero, List.getElem_cons_succ, List.setIfInBounds_toArray, List.set_cons_zero, List.set_cons_succ]
          refine wpAnyH_ready (rs := [19]) (by kernel_rfl) (by simp) ?_
          refine AllReadyH.cons (o := _) rfl (fun K hK => ?_) AllReadyH.nil
          go_simp
          refine hK.out _ _ trivial (fun hHeld => ?_)
          clear hK K
          refine wpAnyH_done (by kernel_rfl) ?_ _
          clear hHeld
          go_wp2_with fail
          go_ret
          exact ⟨rfl, M28.out⟩
end Go.Proofs.Ytjgioiljhefcbaa
