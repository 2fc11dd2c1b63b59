import Derived.Test.YtglknmelcianjaaRn2
namespace Go.Proofs.Ytglknmelcianjaa
open Go.RowKit
section
variable {S : Nat → Prop} {w w' : World} {q lb cap : Nat} {wv : Value} {ps : List (Wt × Value)} {lf : Int} {D : Dk}
/-- a copy under way -/
structure CPY (w : World) (c lb2 cap2 : Nat) (lf : Int) (D : Dk) (i : Nat) (wv2 : Value) (ps2 : List (Wt × Value)) (wr : World) : Prop where
  ri : RI (fun k => w.heap.size ≤ k) wr c lb2 cap2 wv2 ps2 lf ⟨D.last, D.ws.take i, D.fu⟩
  len : ps2.length = i
  bel : Below w.heap.size w wr
/-- a new disk of the reference's, with its fuse -/
theorem ri_copy {B lb cap : Nat} {l : List UInt8} {f : Option Nat} {lf : Int} (ho : OW B w (.slice (some ⟨lb, 0, none⟩) l.length cap) l) (hB : B ≤ w.heap.size) (hg : Gd ⟨l, [], f⟩) (hl : ∀ k, f = some k → lf = k) : RI (fun k => B ≤ k) (w.alloc (.cells #[.slice (some ⟨lb, 0, none⟩) l.length cap, .slice none 0 0, .bool f.isSome, .int .i64 lf] 47)) w.heap.size lb cap (.slice none 0 0) [] lf ⟨l, [], f⟩ := by
  have hb : Below w.heap.size w (w.alloc (.cells #[.slice (some ⟨lb, 0, none⟩) l.length cap, .slice none 0 0, .bool f.isSome, .int .i64 lf] 47)) := (Below.refl _ _).alloc (Nat.le_refl _) _
  have hlb : B ≤ lb := by
    rcases ho.2 with ⟨e, _⟩ | ⟨g, c, cur, e, h1, _⟩
    · cases e
    · simp only [Value.slice.injEq, Option.some.injEq, Addr.mk.injEq] at e
      omega
  refine ⟨heapNew _ _, hl, ?_, rfl, World.ownsRow_nil _ _ _ _, (fun p hp => by simp at hp), hB, hlb, (fun g hg => by simp [Value.ownBlock] at hg), hg⟩
  have := ownsRow_fr (S := fun _ => True) ho (Fr.of_below hb) (fun _ _ => trivial)
  exact OW.mono this (Nat.zero_le _)
set_option maxHeartbeats 4000000 in
set_option maxRecDepth 100000 in
theorem rcopyT (h : RI S w q lb cap wv ps lf D) (hn : ps.length ≤ 1073741824) : Calls Try.prog 11 #[.pointer (some ⟨q, 0, none⟩)] w fun e w' => ∃ c, e = .returned (.pointer (some ⟨c, 0, none⟩)) ∧ RK (fun k => w.heap.size ≤ k) w' c D ∧ Below w.heap.size w w' := by
  have H : Hid (RI S w q lb cap wv ps lf D) := h
  obtain ⟨wa, wc', hwv⟩ := h.wform
  have HWV := Lib.hid hwv
  have HN := Lib.hid hn
  have hx := h.gd.max
  have HCal := Lib.hid (bytesOf (.slice (some ⟨lb, 0, none⟩) D.last.length cap) D.last w.drew (h.las.rb.keep (belowDrew w 1)) (by omega))
  have c0 := h.c0
  have c2 := h.c2
  have c3 := h.c3
  have hqlt := h.lt
  generalize hfs : D.fu.isSome = fs at *
  have HFS := Lib.hid hfs
  clear hfs
  generalize hll : D.last.length = ll at *
  have HLL := Lib.hid hll
  generalize hpn : ps.length = n at *
  have HPN := Lib.hid hpn
  clear h hwv hpn hll
  have c0d : w.drew.cell? ⟨q, 0, none⟩ = some (.slice (some ⟨lb, 0, none⟩) ll cap) := c0
  have c2d : w.drew.cell? ⟨q, 2, none⟩ = some (.bool fs) := c2
  have c3d : w.drew.cell? ⟨q, 3, none⟩ = some (.int .i64 lf) := c3
  go_enter Try.func11, Try.ntmps11
  go_upto_region 3 with fail
  refine wp_region_held_drew (S := fun x => x.cell? ⟨q, 0, none⟩ = some (.slice (some ⟨lb, 0, none⟩) ll cap) ∧ x.cell? ⟨q, 2, none⟩ = some (.bool fs) ∧ x.cell? ⟨q, 3, none⟩ = some (.int .i64 lf)) (by kernel_rfl) (⟨c0d, c2d, c3d⟩) (fun hHeld => ?_)
  refine wpAnyH_take (i := 0) (v := .pointer (some ⟨q, 0, none⟩)) rfl (by kernel_rfl) (by kernel_rfl) (by kernel_rfl) (fun _ _ _ h => h) (Or.inl ⟨by rfl, fun w hw => by go_simp⟩) hHeld ?_
  simp only [Act.put, List.getElem_toArray, List.getElem_cons_zero, List.setIfInBounds_toArray, List.set_cons_zero, List.set_cons_succ]
  refine wpAnyH_take (i := 1) (v := .pointer (some ⟨q, 0, none⟩)) rfl (by kernel_rfl) (by kernel_rfl) (by kernel_rfl) (fun _ _ _ h => h) (Or.inl ⟨by rfl, fun w hw => by go_simp⟩) hHeld ?_
  simp only [Act.put, List.getElem_toArray, List.getElem_cons_zero, List.getElem_cons_succ, List.setIfInBounds_toArray, List.set_cons_zero, List.set_cons_succ]
  refine wpAnyH_take (i := 2) (v := .pointer (some ⟨q, 0, none⟩)) rfl (by kernel_rfl) (by kernel_rfl) (by kernel_rfl) (fun _ _ _ h => h) (Or.inl ⟨by rfl, fun w hw => by go_simp⟩) hHeld ?_
  simp only [Act.put, List.getElem_toArray, List.getElem_cons_zero, List.getElem_cons_succ, List.setIfInBounds_toArray, List.set_cons_zero, List.set_cons_succ]
  refine wpAnyH_take (i := 3) (v := .slice (some ⟨lb, 0, none⟩) ll cap) rfl (by kernel_rfl) (by kernel_rfl) (by kernel_rfl) (fun _ _ _ h => h) (Or.inl ⟨by rfl, fun w hw => by have hq1 := hw.1; have hq2 := hw.2.1; have hq3 := hw.2.2; go_simp⟩) hHeld ?_
  simp only [Act.put, List.getElem_toArray, List.getElem_cons_zero, List.getElem_cons_succ, List.setIfInBounds_toArray, List.set_cons_zero, List.set_cons_succ]
  refine wpAnyH_take (i := 5) (v := .pointer (some ⟨q, 0, none⟩)) rfl (by kernel_rfl) (by kernel_rfl) (by kernel_rfl) (fun _ _ _ h => h) (Or.inl ⟨by rfl, fun w hw => by go_simp⟩) hHeld ?_
  simp only [Act.put, List.getElem_toArray, List.getElem_cons_zero, List.getElem_cons_succ, List.setIfInBounds_toArray, List.set_cons_zero, List.set_cons_succ]
  refine wpAnyH_take (i := 6) (v := .pointer (some ⟨q, 0, none⟩)) rfl (by kernel_rfl) (by kernel_rfl) (by kernel_rfl) (fun _ _ _ h => h) (Or.inl ⟨by rfl, fun w hw => by go_simp⟩) hHeld ?_
  simp only [Act.put, List.getElem_toArray, List.getElem_cons_zero, List.getElem_cons_succ, List.setIfInBounds_toArray, List.set_cons_zero, List.set_cons_succ]
  refine wpAnyH_take (i := 7) (v := .pointer (some ⟨q, 2, none⟩)) rfl (by kernel_rfl) (by kernel_rfl) (by kernel_rfl) (fun _ _ _ h => h) (Or.inl ⟨by rfl, fun w hw => by go_simp⟩) hHeld ?_
  simp only [Act.put, List.getElem_toArray, List.getElem_cons_zero, List.getElem_cons_succ, List.setIfInBounds_toArray, List.set_cons_zero, List.set_cons_succ]
  refine wpAnyH_take (i := 8) (v := .bool fs) rfl (by kernel_rfl) (by kernel_rfl) (by kernel_rfl) (fun _ _ _ h => h) (Or.inl ⟨by rfl, fun w hw => by have hq1 := hw.1; have hq2 := hw.2.1; have hq3 := hw.2.2; go_simp⟩) hHeld ?_
  simp only [Act.put, List.getElem_toArray, List.getElem_cons_zero, List.getElem_cons_succ, List.setIfInBounds_toArray, List.set_cons_zero, List.set_cons_succ]
  refine wpAnyH_take (i := 9) (v := .pointer (some ⟨q, 0, none⟩)) rfl (by kernel_rfl) (by kernel_rfl) (by kernel_rfl) (fun _ _ _ h => h) (Or.inl ⟨by rfl, fun w hw => by go_simp⟩) hHeld ?_
  simp only [Act.put, List.getElem_toArray, List.getElem_cons_zero, List.getElem_cons_succ, List.setIfInBounds_toArray, List.set_cons_zero, List.set_cons_succ]
  refine wpAnyH_take (i := 10) (v := .pointer (some ⟨q, 0, none⟩)) rfl (by kernel_rfl) (by kernel_rfl) (by kernel_rfl) (fun _ _ _ h => h) (Or.inl ⟨by rfl, fun w hw => by go_simp⟩) hHeld ?_
  simp only [Act.put, List.getElem_toArray, List.getElem_cons_zero, List.getElem_cons_succ, List.setIfInBounds_toArray, List.set_cons_zero, List.set_cons_succ]
  refine wpAnyH_take (i := 11) (v := .pointer (some ⟨q, 3, none⟩)) rfl (by kernel_rfl) (by kernel_rfl) (by kernel_rfl) (fun _ _ _ h => h) (Or.inl ⟨by rfl, fun w hw => by go_simp⟩) hHeld ?_
  simp only [Act.put, List.getElem_toArray, List.getElem_cons_zero, List.getElem_cons_succ, List.setIfInBounds_toArray, List.set_cons_zero, List.set_cons_succ]
  refine wpAnyH_take (i := 12) (v := .int .i64 lf) rfl (by kernel_rfl) (by kernel_rfl) (by kernel_rfl) (fun _ _ _ h => h) (Or.inl ⟨by rfl, fun w hw => by have hq1 := hw.1; have hq2 := hw.2.1; have hq3 := hw.2.2; go_simp⟩) hHeld ?_
  simp only [Act.put, List.getElem_toArray, List.getElem_cons_zero, List.getElem_cons_succ, List.setIfInBounds_toArray, List.set_cons_zero, List.set_cons_succ]
  refine wpAnyH_ready (rs := [4]) (by kernel_rfl) (by simp) ?_
  refine AllReadyH.cons (o := _) rfl (fun K hK => ?_) AllReadyH.nil
  go_simp
  refine HCal.out.mono ?_
  rintro e w2 ⟨v2, rfl, o2, b2'⟩
  have b2 : Below w.heap.size w w2 := (belowDrew w 1).trans b2'
  obtain ⟨lb2, cap2, rfl⟩ : ∃ lb2 c2, v2 = .slice (some ⟨lb2, 0, none⟩) ll c2 := by
    rcases o2.2 with ⟨_, e⟩ | ⟨g, c', cur, e, _⟩
    · have h1 := H.out.gd.pos; have h2 := HLL.out; rw [h2] at h1; have h3 : D.last.length = 0 := e; omega
    · exact ⟨g, c', by rw [e, HLL.out]⟩
  have hh2 : w2.cell? ⟨q, 0, none⟩ = some (.slice (some ⟨lb, 0, none⟩) ll cap) ∧ w2.cell? ⟨q, 2, none⟩ = some (.bool fs) ∧ w2.cell? ⟨q, 3, none⟩ = some (.int .i64 lf) := ⟨(b2.cell (p := ⟨q, 0, none⟩) hqlt).trans c0, (b2.cell (p := ⟨q, 2, none⟩) hqlt).trans c2, (b2.cell (p := ⟨q, 3, none⟩) hqlt).trans c3⟩
  have H2 : Hid (OW w.heap.size w2 (.slice (some ⟨lb2, 0, none⟩) ll cap2) D.last ∧ Below w.heap.size w w2) := ⟨o2, b2⟩
  clear o2 b2 b2' HCal
  go_wp2_with fail
  refine hK.out _ _ hh2 (fun hHeld => ?_)
  clear hK K
  refine wpAnyH_take (i := 13) (v := .agg #[.slice (some ⟨lb2, 0, none⟩) ll cap2, .slice none 0 0, .bool fs, .int .i64 lf]) rfl (by kernel_rfl) (by kernel_rfl) (by kernel_rfl) (fun _ _ _ h => h) (Or.inl ⟨by rfl, fun w hw => by go_simp⟩) hHeld ?_
  simp only [Act.put, List.getElem_toArray, List.getElem_cons_zero, List.getElem_cons_succ, List.setIfInBounds_toArray, List.set_cons_zero, List.set_cons_succ]
  refine wpAnyH_ready (rs := [14]) (by kernel_rfl) (by simp) ?_
  refine AllReadyH.cons (o := _) rfl (fun K hK => ?_) AllReadyH.nil
  go_simp
  have hh3 : (w2.alloc (.cells #[.slice (some ⟨lb2, 0, none⟩) ll cap2, .slice none 0 0, .bool fs, .int .i64 lf] 47)).cell? ⟨q, 0, none⟩ = some (.slice (some ⟨lb, 0, none⟩) ll cap) ∧ (w2.alloc (.cells #[.slice (some ⟨lb2, 0, none⟩) ll cap2, .slice none 0 0, .bool fs, .int .i64 lf] 47)).cell? ⟨q, 2, none⟩ = some (.bool fs) ∧ (w2.alloc (.cells #[.slice (some ⟨lb2, 0, none⟩) ll cap2, .slice none 0 0, .bool fs, .int .i64 lf] 47)).cell? ⟨q, 3, none⟩ = some (.int .i64 lf) := ⟨(World.cell?_alloc_some _ _ _ (by rw [hh2.1]; rfl)).trans hh2.1, (World.cell?_alloc_some _ _ _ (by rw [hh2.2.1]; rfl)).trans hh2.2.1, (World.cell?_alloc_some _ _ _ (by rw [hh2.2.2]; rfl)).trans hh2.2.2⟩
  have H3 : Hid (CPY w w2.heap.size lb2 cap2 lf D 0 (.slice none 0 0) [] (w2.alloc (.cells #[.slice (some ⟨lb2, 0, none⟩) ll cap2, .slice none 0 0, .bool fs, .int .i64 lf] 47))) := by
    refine ⟨?_, rfl, H2.out.2.alloc H2.out.2.size _⟩
    have h9 := ri_copy (f := D.fu) (lf := lf) (l := D.last) (lb := lb2) (cap := cap2) (w := w2) (B := w.heap.size) (by rw [HLL.out]; exact H2.out.1) H2.out.2.size ⟨H.out.gd.mul, H.out.gd.pos, H.out.gd.max, fun x hx => by simp at hx, H.out.gd.fu⟩ H.out.left
    rw [HLL.out, HFS.out] at h9
    rw [List.take_zero]
    exact h9
  refine hK.out _ _ hh3 (fun hHeld => ?_)
  clear hK K
  refine wpAnyH_ready (rs := [15]) (by kernel_rfl) (by simp) ?_
  refine AllReadyH.cons (o := _) rfl (fun K hK => ?_) AllReadyH.nil
  go_simp
  refine hK.out _ _ hh3 (fun hHeld => ?_)
  clear hK K
  refine wpAnyH_done (by kernel_rfl) ?_ _
  clear hHeld
  clear hh2 hh3 c0 c2 c3 c0d c2d c3d H2
  generalize World.alloc w2 (.cells #[.slice (some ⟨lb2, 0, none⟩) ll cap2, .slice none 0 0, .bool fs, .int .i64 lf] 47) = w3 at *
  generalize w2.heap.size = c at *
  go_wp2_with fail
  go_loopw [4, 5] (fun t _u wr => ∃ i : Nat, i ≤ n ∧ t = .int .i64 i ∧ Hid (∃ wv2 ps2, CPY w c lb2 cap2 lf D i wv2 ps2 wr)) (fun t _ _ => n - (intOf t).toNat)
  case atStart => exact ⟨0, Nat.zero_le _, rfl, ⟨_, _, H3.out⟩⟩
  case round =>
    obtain ⟨i, hi, rfl, HI⟩ := hrel
    obtain ⟨wv2, ps2, hcp⟩ := HI.out
    have HC := Lib.hid hcp
    have hRq := H.out.fr (Fr.of_below hcp.bel)
    have c1 := hRq.c1
    rw [HWV.out] at c1
    by_cases hlt : i < n
    · have hip : i < ps.length := by rw [HPN.out]; exact hlt
      obtain ⟨p, hp⟩ : ∃ p, ps[i]? = some p := ⟨_, List.getElem?_eq_getElem hip⟩
      obtain ⟨gw, cw, hwv, hrg⟩ := hRq.at hp
      have hwv2 := HWV.out
      rw [hwv] at hwv2
      simp only [Value.slice.injEq] at hwv2
      obtain ⟨rfl, -, rfl⟩ := hwv2
      obtain ⟨hwsi, hpm, hs, hd⟩ := hRq.wat hp
      obtain ⟨k0, k1, k2⟩ := rangeC hrg
      obtain ⟨pa, pc, hpv⟩ := ownsRow_form (hRq.dat p hpm).1
      have hpv2 : p.2 = .slice pa 64 pc := by rw [hpv, hd]
      rw [hpv2] at k1
      have HX : Hid (RB wr (.slice pa 64 pc) p.1.data ∧ 64 * p.1.at_ + 64 ≤ D.last.length ∧ p.1.data.length = 64 ∧ D.ws[i]? = some p.1) := ⟨by rw [← hpv2]; exact (hRq.dat p hpm).1.rb, hs, hd, hwsi⟩
      clear hrg hwv hpv hpv2 hcp HI hRq hs hd hwsi hpm hp hip
      obtain ⟨va2, vc2, hw2⟩ := HC.out.ri.wform
      have hq0 := HC.out.ri.c1
      rw [hw2, HC.out.len] at hq0
      have HW2 := Lib.hid hw2
      have hclt := HC.out.ri.lt
      clear hw2
      go_upto_region 8 with fail
      have hbw := heapNew wr (.cells #[.int .i64 (p.1.at_ : Int), .slice pa 64 pc, .bool p.1.dead] 64)
      have b1 : Below wr.heap.size wr (wr.alloc (.cells #[.int .i64 (p.1.at_ : Int), .slice pa 64 pc, .bool p.1.dead] 64)) := (Below.refl _ _).alloc (Nat.le_refl _) _
      have hz1 : (wr.alloc (.cells #[.int .i64 (p.1.at_ : Int), .slice pa 64 pc, .bool p.1.dead] 64)).heap.size = wr.heap.size + 1 := by simp
      have H1 : Hid (RI (fun k => w.heap.size ≤ k) (wr.alloc (.cells #[.int .i64 (p.1.at_ : Int), .slice pa 64 pc, .bool p.1.dead] 64)) c lb2 cap2 wv2 ps2 lf ⟨D.last, D.ws.take i, D.fu⟩ ∧ Below w.heap.size w (wr.alloc (.cells #[.int .i64 (p.1.at_ : Int), .slice pa 64 pc, .bool p.1.dead] 64)) ∧ RB (wr.alloc (.cells #[.int .i64 (p.1.at_ : Int), .slice pa 64 pc, .bool p.1.dead] 64)) (.slice pa 64 pc) p.1.data ∧ (∀ g, wv2.ownBlock = some g → g < wr.heap.size)) := ⟨HC.out.ri.fr (Fr.of_below b1), HC.out.bel.trans (b1.mono HC.out.bel.size), HX.out.1.keep b1, fun g hg => (ownsRow_lt HC.out.ri.row g hg).1⟩
      have hq1 : (wr.alloc (.cells #[.int .i64 (p.1.at_ : Int), .slice pa 64 pc, .bool p.1.dead] 64)).cell? ⟨c, 1, none⟩ = some (.slice va2 i vc2) := (b1.cell (p := ⟨c, 1, none⟩) hclt).trans hq0
      generalize (wr.alloc (.cells #[.int .i64 (p.1.at_ : Int), .slice pa 64 pc, .bool p.1.dead] 64)) = w1 at *
      generalize wr.heap.size = bx at *
      have hh1 : w1.cell? ⟨bx, 0, none⟩ = some (.int .i64 (p.1.at_ : Int)) ∧ w1.cell? ⟨bx, 1, none⟩ = some (.slice pa 64 pc) ∧ w1.cell? ⟨bx, 2, none⟩ = some (.bool p.1.dead) := ⟨by simp [World.cell?, hbw], by simp [World.cell?, hbw], by simp [World.cell?, hbw]⟩
      have hh1d : w1.drew.cell? ⟨bx, 0, none⟩ = some (.int .i64 (p.1.at_ : Int)) ∧ w1.drew.cell? ⟨bx, 1, none⟩ = some (.slice pa 64 pc) ∧ w1.drew.cell? ⟨bx, 2, none⟩ = some (.bool p.1.dead) := hh1
      have hq1d : w1.drew.cell? ⟨c, 1, none⟩ = some (.slice va2 i vc2) := hq1
      have HCal := Lib.hid (bytesOf (.slice pa 64 pc) p.1.data w1.drew (H1.out.2.2.1.keep (belowDrew w1 1)) (by rw [HX.out.2.2.1]; omega))
      have hbx1 : bx < w1.heap.size := by omega
      have hne : c ≠ bx := by omega
      clear b1 hq0 k0 k1 k2 c1 hbw
      refine wp_region_held_drew (S := fun x => x.cell? ⟨bx, 0, none⟩ = some (.int .i64 (p.1.at_ : Int)) ∧ x.cell? ⟨bx, 1, none⟩ = some (.slice pa 64 pc) ∧ x.cell? ⟨bx, 2, none⟩ = some (.bool p.1.dead)) (by kernel_rfl) (hh1d) (fun hHeld => ?_)
      refine wpAnyH_take (i := 0) (v := .pointer (some ⟨c, 0, none⟩)) rfl (by kernel_rfl) (by kernel_rfl) (by kernel_rfl) (fun _ _ _ h => h) (Or.inl ⟨by rfl, fun w hw => by go_simp⟩) hHeld ?_
      simp only [Act.put, List.getElem_toArray, List.getElem_cons_zero, List.setIfInBounds_toArray, List.set_cons_zero, List.set_cons_succ]
      refine wpAnyH_take (i := 1) (v := .pointer (some ⟨c, 0, none⟩)) rfl (by kernel_rfl) (by kernel_rfl) (by kernel_rfl) (fun _ _ _ h => h) (Or.inl ⟨by rfl, fun w hw => by go_simp⟩) hHeld ?_
      simp only [Act.put, List.getElem_toArray, List.getElem_cons_zero, List.getElem_cons_succ, List.setIfInBounds_toArray, List.set_cons_zero, List.set_cons_succ]
      refine wpAnyH_take (i := 2) (v := .pointer (some ⟨c, 0, none⟩)) rfl (by kernel_rfl) (by kernel_rfl) (by kernel_rfl) (fun _ _ _ h => h) (Or.inl ⟨by rfl, fun w hw => by go_simp⟩) hHeld ?_
      simp only [Act.put, List.getElem_toArray, List.getElem_cons_zero, List.getElem_cons_succ, List.setIfInBounds_toArray, List.set_cons_zero, List.set_cons_succ]
      refine wpAnyH_take (i := 3) (v := .pointer (some ⟨c, 1, none⟩)) rfl (by kernel_rfl) (by kernel_rfl) (by kernel_rfl) (fun _ _ _ h => h) (Or.inl ⟨by rfl, fun w hw => by go_simp⟩) hHeld ?_
      simp only [Act.put, List.getElem_toArray, List.getElem_cons_zero, List.getElem_cons_succ, List.setIfInBounds_toArray, List.set_cons_zero, List.set_cons_succ]
      refine wpAnyH_take (i := 5) (v := .pointer (some ⟨bx, 0, none⟩)) rfl (by kernel_rfl) (by kernel_rfl) (by kernel_rfl) (fun _ _ _ h => h) (Or.inl ⟨by rfl, fun w hw => by go_simp⟩) hHeld ?_
      simp only [Act.put, List.getElem_toArray, List.getElem_cons_zero, List.getElem_cons_succ, List.setIfInBounds_toArray, List.set_cons_zero, List.set_cons_succ]
      refine wpAnyH_take (i := 6) (v := .int .i64 (p.1.at_ : Int)) rfl (by kernel_rfl) (by kernel_rfl) (by kernel_rfl) (fun _ _ _ h => h) (Or.inl ⟨by rfl, fun w hw => by have hq7 := hw.1; have hq8 := hw.2.1; have hq9 := hw.2.2; go_simp⟩) hHeld ?_
      simp only [Act.put, List.getElem_toArray, List.getElem_cons_zero, List.getElem_cons_succ, List.setIfInBounds_toArray, List.set_cons_zero, List.set_cons_succ]
      refine wpAnyH_take (i := 7) (v := .pointer (some ⟨bx, 1, none⟩)) rfl (by kernel_rfl) (by kernel_rfl) (by kernel_rfl) (fun _ _ _ h => h) (Or.inl ⟨by rfl, fun w hw => by go_simp⟩) hHeld ?_
      simp only [Act.put, List.getElem_toArray, List.getElem_cons_zero, List.getElem_cons_succ, List.setIfInBounds_toArray, List.set_cons_zero, List.set_cons_succ]
      refine wpAnyH_take (i := 8) (v := .slice pa 64 pc) rfl (by kernel_rfl) (by kernel_rfl) (by kernel_rfl) (fun _ _ _ h => h) (Or.inl ⟨by rfl, fun w hw => by have hq7 := hw.1; have hq8 := hw.2.1; have hq9 := hw.2.2; go_simp⟩) hHeld ?_
      simp only [Act.put, List.getElem_toArray, List.getElem_cons_zero, List.getElem_cons_succ, List.setIfInBounds_toArray, List.set_cons_zero, List.set_cons_succ]
      refine wpAnyH_take (i := 10) (v := .pointer (some ⟨bx, 2, none⟩)) rfl (by kernel_rfl) (by kernel_rfl) (by kernel_rfl) (fun _ _ _ h => h) (Or.inl ⟨by rfl, fun w hw => by go_simp⟩) hHeld ?_
      simp only [Act.put, List.getElem_toArray, List.getElem_cons_zero, List.getElem_cons_succ, List.setIfInBounds_toArray, List.set_cons_zero, List.set_cons_succ]
      refine wpAnyH_take (i := 11) (v := .bool p.1.dead) rfl (by kernel_rfl) (by kernel_rfl) (by kernel_rfl) (fun _ _ _ h => h) (Or.inl ⟨by rfl, fun w hw => by have hq7 := hw.1; have hq8 := hw.2.1; have hq9 := hw.2.2; go_simp⟩) hHeld ?_
      simp only [Act.put, List.getElem_toArray, List.getElem_cons_zero, List.getElem_cons_succ, List.setIfInBounds_toArray, List.set_cons_zero, List.set_cons_succ]
      refine wpAnyH_ready (rs := [4, 9]) (by kernel_rfl) (by simp) ?_
      refine AllReadyH.cons (o := _) rfl (fun K hK => ?_) (AllReadyH.cons (o := _) rfl (fun K hK => ?_) AllReadyH.nil)
      · go_simp
        refine hK.out _ _ hh1d (fun hHeld => ?_)
        clear hK K
        refine wpAnyH_ready (rs := [9]) (by kernel_rfl) (by simp) ?_
        refine AllReadyH.cons (o := _) rfl (fun K hK => ?_) AllReadyH.nil
        go_simp
        refine HCal.out.mono ?_
        rintro e w2 ⟨v2, rfl, o2, b2'⟩
        have b2 : Below w1.heap.size w1 w2 := (belowDrew w1 1).trans b2'
        obtain ⟨a2, c2, rfl⟩ := ownsRow_form o2
        have hdn := HX.out.2.2.1
        rw [hdn] at o2 ⊢
        have hq2 : w2.cell? ⟨c, 1, none⟩ = some (.slice va2 i vc2) := (b2.cell (p := ⟨c, 1, none⟩) (Nat.lt_trans hclt hbx1)).trans hq1
        have hh2 : w2.cell? ⟨bx, 0, none⟩ = some (.int .i64 (p.1.at_ : Int)) ∧ w2.cell? ⟨bx, 1, none⟩ = some (.slice pa 64 pc) ∧ w2.cell? ⟨bx, 2, none⟩ = some (.bool p.1.dead) := ⟨(b2.cell (p := ⟨bx, 0, none⟩) hbx1).trans hh1.1, (b2.cell (p := ⟨bx, 1, none⟩) hbx1).trans hh1.2.1, (b2.cell (p := ⟨bx, 2, none⟩) hbx1).trans hh1.2.2⟩
        have H2 : Hid (RI (fun k => w.heap.size ≤ k) w2 c lb2 cap2 wv2 ps2 lf ⟨D.last, D.ws.take i, D.fu⟩ ∧ Below w1.heap.size w1 w2 ∧ OW w1.heap.size w2 (.slice a2 64 c2) p.1.data) := ⟨H1.out.1.fr (Fr.of_below b2), b2, o2⟩
        clear o2 b2 b2' HCal hdn
        go_wp2_with fail
        refine hK.out _ _ hh2 (fun hHeld => ?_)
        clear hK K
        refine wpAnyH_take (i := 12) (v := .agg #[.int .i64 (p.1.at_ : Int), .slice a2 64 c2, .bool p.1.dead]) rfl (by kernel_rfl) (by kernel_rfl) (by kernel_rfl) (fun _ _ _ h => h) (Or.inl ⟨by rfl, fun w hw => by go_simp⟩) hHeld ?_
        simp only [Act.put, List.getElem_toArray, List.getElem_cons_zero, List.getElem_cons_succ, List.setIfInBounds_toArray, List.set_cons_zero, List.set_cons_succ]
        refine wpAnyH_ready (rs := [13]) (by kernel_rfl) (by simp) ?_
        refine AllReadyH.cons (o := _) rfl (fun K hK => ?_) AllReadyH.nil
        go_simp
        have hq3 : (w2.alloc (.cells #[.int .i64 (p.1.at_ : Int), .slice a2 64 c2, .bool p.1.dead] 64)).cell? ⟨c, 1, none⟩ = some (.slice va2 i vc2) := (World.cell?_alloc_some _ _ _ (by rw [hq2]; rfl)).trans hq2
        have hh3 : (w2.alloc (.cells #[.int .i64 (p.1.at_ : Int), .slice a2 64 c2, .bool p.1.dead] 64)).cell? ⟨bx, 0, none⟩ = some (.int .i64 (p.1.at_ : Int)) ∧ (w2.alloc (.cells #[.int .i64 (p.1.at_ : Int), .slice a2 64 c2, .bool p.1.dead] 64)).cell? ⟨bx, 1, none⟩ = some (.slice pa 64 pc) ∧ (w2.alloc (.cells #[.int .i64 (p.1.at_ : Int), .slice a2 64 c2, .bool p.1.dead] 64)).cell? ⟨bx, 2, none⟩ = some (.bool p.1.dead) := ⟨(World.cell?_alloc_some _ _ _ (by rw [hh2.1]; rfl)).trans hh2.1, (World.cell?_alloc_some _ _ _ (by rw [hh2.2.1]; rfl)).trans hh2.2.1, (World.cell?_alloc_some _ _ _ (by rw [hh2.2.2]; rfl)).trans hh2.2.2⟩
        have b3 : Below w2.heap.size w2 (w2.alloc (.cells #[.int .i64 (p.1.at_ : Int), .slice a2 64 c2, .bool p.1.dead] 64)) := (Below.refl _ _).alloc (Nat.le_refl _) _
        have hb3 := heapNew w2 (.cells #[.int .i64 (p.1.at_ : Int), .slice a2 64 c2, .bool p.1.dead] 64)
        have H3 : Hid (RI (fun k => w.heap.size ≤ k) (w2.alloc (.cells #[.int .i64 (p.1.at_ : Int), .slice a2 64 c2, .bool p.1.dead] 64)) c lb2 cap2 wv2 ps2 lf ⟨D.last, D.ws.take i, D.fu⟩ ∧ Below w1.heap.size w1 (w2.alloc (.cells #[.int .i64 (p.1.at_ : Int), .slice a2 64 c2, .bool p.1.dead] 64)) ∧ OW w1.heap.size (w2.alloc (.cells #[.int .i64 (p.1.at_ : Int), .slice a2 64 c2, .bool p.1.dead] 64)) (.slice a2 64 c2) p.1.data) := ⟨H2.out.1.fr (Fr.of_below b3), H2.out.2.1.trans (b3.mono H2.out.2.1.size), H2.out.2.2.grow b3⟩
        refine hK.out _ _ hh3 (fun hHeld => ?_)
        clear hK K
        obtain ⟨v4, w4, hrun, hrow, hgr, hat⟩ := append_u2 (x := (p.1, .slice a2 64 c2)) H3.out.1.row hb3 rfl (by have h9 := HC.out.len; omega)
        generalize (w2.alloc (.cells #[.int .i64 (p.1.at_ : Int), .slice a2 64 c2, .bool p.1.dead] 64)) = w3 at *
        rw [HW2.out, HC.out.len] at hrun
        have hmore := H3.out.1.more (x := (p.1, .slice a2 64 c2)) HX.out.2.1 HX.out.2.2.1 hrow hgr hat (OW.mono H3.out.2.2 (Nat.zero_le _)) (fun g hg => by
          have h7 := (World.ownsRow.lt H3.out.2.2 g hg).1
          have h5 := (ownsRow_lt H1.out.1.las lb2 rfl).1
          have h6 := H1.out.2.1.size
          exact ⟨by omega, by omega⟩)
        have hh4 : w4.cell? ⟨bx, 0, none⟩ = some (.int .i64 (p.1.at_ : Int)) ∧ w4.cell? ⟨bx, 1, none⟩ = some (.slice pa 64 pc) ∧ w4.cell? ⟨bx, 2, none⟩ = some (.bool p.1.dead) := by
          have h8 : w4.heap[bx]? = w3.heap[bx]? := hgr.block bx (Nat.lt_of_lt_of_le hbx1 H3.out.2.1.size) (fun e => by have := H1.out.2.2.2 bx e.symm; omega)
          exact ⟨(World.cell?_of_block (w := w3) h8).trans hh3.1, (World.cell?_of_block (w := w3) h8).trans hh3.2.1, (World.cell?_of_block (w := w3) h8).trans hh3.2.2⟩
        rw [HW2.out, HC.out.len] at hmore
        generalize hnn : (ps2 ++ [((p.1 : Wt), Value.slice a2 64 c2)]).length = nn at hrow
        clear hnn
        obtain ⟨a4, c4, rfl⟩ := ownsRow_form hrow
        have hq4 := hmore.2.2.1
        have hf4 := hmore.2.2.2
        have H4 : Hid (_ ∧ _) := ⟨hmore.1, hmore.2.1⟩
        have hh5 : (w4.setCell ⟨c, 1, none⟩ (.slice a4 nn c4)).cell? ⟨bx, 0, none⟩ = some (.int .i64 (p.1.at_ : Int)) ∧ (w4.setCell ⟨c, 1, none⟩ (.slice a4 nn c4)).cell? ⟨bx, 1, none⟩ = some (.slice pa 64 pc) ∧ (w4.setCell ⟨c, 1, none⟩ (.slice a4 nn c4)).cell? ⟨bx, 2, none⟩ = some (.bool p.1.dead) := ⟨(World.cell?_of_block (w := w4) (setCell_other hne.symm)).trans hh4.1, (World.cell?_of_block (w := w4) (setCell_other hne.symm)).trans hh4.2.1, (World.cell?_of_block (w := w4) (setCell_other hne.symm)).trans hh4.2.2⟩
        clear hrow hgr hat hmore b3 hb3 hq2 hq3
        refine wpAnyH_ready (rs := [14]) (by kernel_rfl) (by simp) ?_
        refine AllReadyH.cons (o := _) rfl (fun K hK => ?_) AllReadyH.nil
        rw [if_pos (show Region.wanted _ _ = true by kernel_rfl)]
        refine wp_append_u _ _ rfl rfl rfl hrun ?_
        simp only [Act.put, List.getElem_toArray, List.getElem_cons_zero, List.getElem_cons_succ, List.setIfInBounds_toArray, List.set_cons_zero, List.set_cons_succ]
        refine hK.out _ _ hh4 (fun hHeld => ?_)
        clear hK K
        refine wpAnyH_take (i := 15) (v := .pointer (some ⟨c, 0, none⟩)) rfl (by kernel_rfl) (by kernel_rfl) (by kernel_rfl) (fun _ _ _ h => h) (Or.inl ⟨by rfl, fun w hw => by go_simp⟩) hHeld ?_
        simp only [Act.put, List.getElem_toArray, List.getElem_cons_zero, List.getElem_cons_succ, List.setIfInBounds_toArray, List.set_cons_zero, List.set_cons_succ]
        refine wpAnyH_take (i := 16) (v := .pointer (some ⟨c, 1, none⟩)) rfl (by kernel_rfl) (by kernel_rfl) (by kernel_rfl) (fun _ _ _ h => h) (Or.inl ⟨by rfl, fun w hw => by go_simp⟩) hHeld ?_
        simp only [Act.put, List.getElem_toArray, List.getElem_cons_zero, List.getElem_cons_succ, List.setIfInBounds_toArray, List.set_cons_zero, List.set_cons_succ]
        refine wpAnyH_ready (rs := [17]) (by kernel_rfl) (by simp) ?_
        refine AllReadyH.cons (o := _) rfl (fun K hK => ?_) AllReadyH.nil
        go_simp
        refine hK.out _ _ hh5 (fun hHeld => ?_)
        clear hK K
        refine wpAnyH_done (by kernel_rfl) ?_ _
        clear hHeld
        have HN2 : Hid (∃ wv2 ps2, CPY w c lb2 cap2 lf D (i + 1) wv2 ps2 (w4.setCell ⟨c, 1, none⟩ (.slice a4 nn c4))) := by
          have z1 := H1.out.2.1.size
          have z3 := H3.out.2.1.size
          have htk : D.ws.take i ++ [p.1] = D.ws.take (i + 1) := by
            obtain ⟨e1, e2⟩ := List.getElem?_eq_some_iff.1 HX.out.2.2.2
            rw [List.take_succ_eq_append_getElem e1, e2]
          have h9 := H4.out.1
          refine ⟨.slice a4 nn c4, ps2 ++ [(p.1, .slice a2 64 c2)], ?_, ?_, ?_⟩
          · rw [← htk]
            exact h9.sub (fun k _ h => by rcases h with h | h; exact h; omega)
          · rw [List.length_append, HC.out.len]; rfl
          · have f9 : Fr (fun k => ¬ w.heap.size ≤ k) w3 (w4.setCell ⟨c, 1, none⟩ (.slice a4 nn c4)) := H4.out.2
            exact (H1.out.2.1.trans (H3.out.2.1.mono z1)).trans ⟨f9.os, f9.tape, f9.output, f9.size, fun k hk => f9.block k (by omega) (by omega)⟩
        clear H4 H3 H2 H1 hq4 hf4 hrun hh1 hh2 hh3 hh4 hh5 hh1d hq1d hq1
        go_wp2
        exact ⟨⟨i + 1, by omega, by go_num, HN2⟩, by simp [intOf]; omega⟩
      · go_simp
        refine HCal.out.mono ?_
        rintro e w2 ⟨v2, rfl, o2, b2'⟩
        have b2 : Below w1.heap.size w1 w2 := (belowDrew w1 1).trans b2'
        obtain ⟨a2, c2, rfl⟩ := ownsRow_form o2
        have hdn := HX.out.2.2.1
        rw [hdn] at o2 ⊢
        have hq2 : w2.cell? ⟨c, 1, none⟩ = some (.slice va2 i vc2) := (b2.cell (p := ⟨c, 1, none⟩) (Nat.lt_trans hclt hbx1)).trans hq1
        have hh2 : w2.cell? ⟨bx, 0, none⟩ = some (.int .i64 (p.1.at_ : Int)) ∧ w2.cell? ⟨bx, 1, none⟩ = some (.slice pa 64 pc) ∧ w2.cell? ⟨bx, 2, none⟩ = some (.bool p.1.dead) := ⟨(b2.cell (p := ⟨bx, 0, none⟩) hbx1).trans hh1.1, (b2.cell (p := ⟨bx, 1, none⟩) hbx1).trans hh1.2.1, (b2.cell (p := ⟨bx, 2, none⟩) hbx1).trans hh1.2.2⟩
        have H2 : Hid (RI (fun k => w.heap.size ≤ k) w2 c lb2 cap2 wv2 ps2 lf ⟨D.last, D.ws.take i, D.fu⟩ ∧ Below w1.heap.size w1 w2 ∧ OW w1.heap.size w2 (.slice a2 64 c2) p.1.data) := ⟨H1.out.1.fr (Fr.of_below b2), b2, o2⟩
        clear o2 b2 b2' HCal hdn
        go_wp2_with fail
        refine hK.out _ _ hh2 (fun hHeld => ?_)
        clear hK K
        refine wpAnyH_take (i := 12) (v := .agg #[.int .i64 (p.1.at_ : Int), .slice a2 64 c2, .bool p.1.dead]) rfl (by kernel_rfl) (by kernel_rfl) (by kernel_rfl) (fun _ _ _ h => h) (Or.inl ⟨by rfl, fun w hw => by go_simp⟩) hHeld ?_
        simp only [Act.put, List.getElem_toArray, List.getElem_cons_zero, List.getElem_cons_succ, List.setIfInBounds_toArray, List.set_cons_zero, List.set_cons_succ]
        refine wpAnyH_ready (rs := [4, 13]) (by kernel_rfl) (by simp) ?_
        refine AllReadyH.cons (o := _) rfl (fun K hK => ?_) (AllReadyH.cons (o := _) rfl (fun K hK => ?_) AllReadyH.nil)
        · go_simp
          refine hK.out _ _ hh2 (fun hHeld => ?_)
          clear hK K
          refine wpAnyH_ready (rs := [13]) (by kernel_rfl) (by simp) ?_
          refine AllReadyH.cons (o := _) rfl (fun K hK => ?_) AllReadyH.nil
          go_simp
          have hq3 : (w2.alloc (.cells #[.int .i64 (p.1.at_ : Int), .slice a2 64 c2, .bool p.1.dead] 64)).cell? ⟨c, 1, none⟩ = some (.slice va2 i vc2) := (World.cell?_alloc_some _ _ _ (by rw [hq2]; rfl)).trans hq2
          have hh3 : (w2.alloc (.cells #[.int .i64 (p.1.at_ : Int), .slice a2 64 c2, .bool p.1.dead] 64)).cell? ⟨bx, 0, none⟩ = some (.int .i64 (p.1.at_ : Int)) ∧ (w2.alloc (.cells #[.int .i64 (p.1.at_ : Int), .slice a2 64 c2, .bool p.1.dead] 64)).cell? ⟨bx, 1, none⟩ = some (.slice pa 64 pc) ∧ (w2.alloc (.cells #[.int .i64 (p.1.at_ : Int), .slice a2 64 c2, .bool p.1.dead] 64)).cell? ⟨bx, 2, none⟩ = some (.bool p.1.dead) := ⟨(World.cell?_alloc_some _ _ _ (by rw [hh2.1]; rfl)).trans hh2.1, (World.cell?_alloc_some _ _ _ (by rw [hh2.2.1]; rfl)).trans hh2.2.1, (World.cell?_alloc_some _ _ _ (by rw [hh2.2.2]; rfl)).trans hh2.2.2⟩
          have b3 : Below w2.heap.size w2 (w2.alloc (.cells #[.int .i64 (p.1.at_ : Int), .slice a2 64 c2, .bool p.1.dead] 64)) := (Below.refl _ _).alloc (Nat.le_refl _) _
          have hb3 := heapNew w2 (.cells #[.int .i64 (p.1.at_ : Int), .slice a2 64 c2, .bool p.1.dead] 64)
          have H3 : Hid (RI (fun k => w.heap.size ≤ k) (w2.alloc (.cells #[.int .i64 (p.1.at_ : Int), .slice a2 64 c2, .bool p.1.dead] 64)) c lb2 cap2 wv2 ps2 lf ⟨D.last, D.ws.take i, D.fu⟩ ∧ Below w1.heap.size w1 (w2.alloc (.cells #[.int .i64 (p.1.at_ : Int), .slice a2 64 c2, .bool p.1.dead] 64)) ∧ OW w1.heap.size (w2.alloc (.cells #[.int .i64 (p.1.at_ : Int), .slice a2 64 c2, .bool p.1.dead] 64)) (.slice a2 64 c2) p.1.data) := ⟨H2.out.1.fr (Fr.of_below b3), H2.out.2.1.trans (b3.mono H2.out.2.1.size), H2.out.2.2.grow b3⟩
          refine hK.out _ _ hh3 (fun hHeld => ?_)
          clear hK K
          obtain ⟨v4, w4, hrun, hrow, hgr, hat⟩ := append_u2 (x := (p.1, .slice a2 64 c2)) H3.out.1.row hb3 rfl (by have h9 := HC.out.len; omega)
          generalize (w2.alloc (.cells #[.int .i64 (p.1.at_ : Int), .slice a2 64 c2, .bool p.1.dead] 64)) = w3 at *
          rw [HW2.out, HC.out.len] at hrun
          have hmore := H3.out.1.more (x := (p.1, .slice a2 64 c2)) HX.out.2.1 HX.out.2.2.1 hrow hgr hat (OW.mono H3.out.2.2 (Nat.zero_le _)) (fun g hg => by
            have h7 := (World.ownsRow.lt H3.out.2.2 g hg).1
            have h5 := (ownsRow_lt H1.out.1.las lb2 rfl).1
            have h6 := H1.out.2.1.size
            exact ⟨by omega, by omega⟩)
          have hh4 : w4.cell? ⟨bx, 0, none⟩ = some (.int .i64 (p.1.at_ : Int)) ∧ w4.cell? ⟨bx, 1, none⟩ = some (.slice pa 64 pc) ∧ w4.cell? ⟨bx, 2, none⟩ = some (.bool p.1.dead) := by
            have h8 : w4.heap[bx]? = w3.heap[bx]? := hgr.block bx (Nat.lt_of_lt_of_le hbx1 H3.out.2.1.size) (fun e => by have := H1.out.2.2.2 bx e.symm; omega)
            exact ⟨(World.cell?_of_block (w := w3) h8).trans hh3.1, (World.cell?_of_block (w := w3) h8).trans hh3.2.1, (World.cell?_of_block (w := w3) h8).trans hh3.2.2⟩
          rw [HW2.out, HC.out.len] at hmore
          generalize hnn : (ps2 ++ [((p.1 : Wt), Value.slice a2 64 c2)]).length = nn at hrow
          clear hnn
          obtain ⟨a4, c4, rfl⟩ := ownsRow_form hrow
          have hq4 := hmore.2.2.1
          have hf4 := hmore.2.2.2
          have H4 : Hid (_ ∧ _) := ⟨hmore.1, hmore.2.1⟩
          have hh5 : (w4.setCell ⟨c, 1, none⟩ (.slice a4 nn c4)).cell? ⟨bx, 0, none⟩ = some (.int .i64 (p.1.at_ : Int)) ∧ (w4.setCell ⟨c, 1, none⟩ (.slice a4 nn c4)).cell? ⟨bx, 1, none⟩ = some (.slice pa 64 pc) ∧ (w4.setCell ⟨c, 1, none⟩ (.slice a4 nn c4)).cell? ⟨bx, 2, none⟩ = some (.bool p.1.dead) := ⟨(World.cell?_of_block (w := w4) (setCell_other hne.symm)).trans hh4.1, (World.cell?_of_block (w := w4) (setCell_other hne.symm)).trans hh4.2.1, (World.cell?_of_block (w := w4) (setCell_other hne.symm)).trans hh4.2.2⟩
          clear hrow hgr hat hmore b3 hb3 hq2 hq3
          refine wpAnyH_ready (rs := [14]) (by kernel_rfl) (by simp) ?_
          refine AllReadyH.cons (o := _) rfl (fun K hK => ?_) AllReadyH.nil
          rw [if_pos (show Region.wanted _ _ = true by kernel_rfl)]
          refine wp_append_u _ _ rfl rfl rfl hrun ?_
          simp only [Act.put, List.getElem_toArray, List.getElem_cons_zero, List.getElem_cons_succ, List.setIfInBounds_toArray, List.set_cons_zero, List.set_cons_succ]
          refine hK.out _ _ hh4 (fun hHeld => ?_)
          clear hK K
          refine wpAnyH_take (i := 15) (v := .pointer (some ⟨c, 0, none⟩)) rfl (by kernel_rfl) (by kernel_rfl) (by kernel_rfl) (fun _ _ _ h => h) (Or.inl ⟨by rfl, fun w hw => by go_simp⟩) hHeld ?_
          simp only [Act.put, List.getElem_toArray, List.getElem_cons_zero, List.getElem_cons_succ, List.setIfInBounds_toArray, List.set_cons_zero, List.set_cons_succ]
          refine wpAnyH_take (i := 16) (v := .pointer (some ⟨c, 1, none⟩)) rfl (by kernel_rfl) (by kernel_rfl) (by kernel_rfl) (fun _ _ _ h => h) (Or.inl ⟨by rfl, fun w hw => by go_simp⟩) hHeld ?_
          simp only [Act.put, List.getElem_toArray, List.getElem_cons_zero, List.getElem_cons_succ, List.setIfInBounds_toArray, List.set_cons_zero, List.set_cons_succ]
          refine wpAnyH_ready (rs := [17]) (by kernel_rfl) (by simp) ?_
          refine AllReadyH.cons (o := _) rfl (fun K hK => ?_) AllReadyH.nil
          go_simp
          refine hK.out _ _ hh5 (fun hHeld => ?_)
          clear hK K
          refine wpAnyH_done (by kernel_rfl) ?_ _
          clear hHeld
          have HN2 : Hid (∃ wv2 ps2, CPY w c lb2 cap2 lf D (i + 1) wv2 ps2 (w4.setCell ⟨c, 1, none⟩ (.slice a4 nn c4))) := by
            have z1 := H1.out.2.1.size
            have z3 := H3.out.2.1.size
            have htk : D.ws.take i ++ [p.1] = D.ws.take (i + 1) := by
              obtain ⟨e1, e2⟩ := List.getElem?_eq_some_iff.1 HX.out.2.2.2
              rw [List.take_succ_eq_append_getElem e1, e2]
            have h9 := H4.out.1
            refine ⟨.slice a4 nn c4, ps2 ++ [(p.1, .slice a2 64 c2)], ?_, ?_, ?_⟩
            · rw [← htk]
              exact h9.sub (fun k _ h => by rcases h with h | h; exact h; omega)
            · rw [List.length_append, HC.out.len]; rfl
            · have f9 : Fr (fun k => ¬ w.heap.size ≤ k) w3 (w4.setCell ⟨c, 1, none⟩ (.slice a4 nn c4)) := H4.out.2
              exact (H1.out.2.1.trans (H3.out.2.1.mono z1)).trans ⟨f9.os, f9.tape, f9.output, f9.size, fun k hk => f9.block k (by omega) (by omega)⟩
          clear H4 H3 H2 H1 hq4 hf4 hrun hh1 hh2 hh3 hh4 hh5 hh1d hq1d hq1
          go_wp2
          exact ⟨⟨i + 1, by omega, by go_num, HN2⟩, by simp [intOf]; omega⟩
        · go_simp
          have hq3 : (w2.alloc (.cells #[.int .i64 (p.1.at_ : Int), .slice a2 64 c2, .bool p.1.dead] 64)).cell? ⟨c, 1, none⟩ = some (.slice va2 i vc2) := (World.cell?_alloc_some _ _ _ (by rw [hq2]; rfl)).trans hq2
          have hh3 : (w2.alloc (.cells #[.int .i64 (p.1.at_ : Int), .slice a2 64 c2, .bool p.1.dead] 64)).cell? ⟨bx, 0, none⟩ = some (.int .i64 (p.1.at_ : Int)) ∧ (w2.alloc (.cells #[.int .i64 (p.1.at_ : Int), .slice a2 64 c2, .bool p.1.dead] 64)).cell? ⟨bx, 1, none⟩ = some (.slice pa 64 pc) ∧ (w2.alloc (.cells #[.int .i64 (p.1.at_ : Int), .slice a2 64 c2, .bool p.1.dead] 64)).cell? ⟨bx, 2, none⟩ = some (.bool p.1.dead) := ⟨(World.cell?_alloc_some _ _ _ (by rw [hh2.1]; rfl)).trans hh2.1, (World.cell?_alloc_some _ _ _ (by rw [hh2.2.1]; rfl)).trans hh2.2.1, (World.cell?_alloc_some _ _ _ (by rw [hh2.2.2]; rfl)).trans hh2.2.2⟩
          have b3 : Below w2.heap.size w2 (w2.alloc (.cells #[.int .i64 (p.1.at_ : Int), .slice a2 64 c2, .bool p.1.dead] 64)) := (Below.refl _ _).alloc (Nat.le_refl _) _
          have hb3 := heapNew w2 (.cells #[.int .i64 (p.1.at_ : Int), .slice a2 64 c2, .bool p.1.dead] 64)
          have H3 : Hid (RI (fun k => w.heap.size ≤ k) (w2.alloc (.cells #[.int .i64 (p.1.at_ : Int), .slice a2 64 c2, .bool p.1.dead] 64)) c lb2 cap2 wv2 ps2 lf ⟨D.last, D.ws.take i, D.fu⟩ ∧ Below w1.heap.size w1 (w2.alloc (.cells #[.int .i64 (p.1.at_ : Int), .slice a2 64 c2, .bool p.1.dead] 64)) ∧ OW w1.heap.size (w2.alloc (.cells #[.int .i64 (p.1.at_ : Int), .slice a2 64 c2, .bool p.1.dead] 64)) (.slice a2 64 c2) p.1.data) := ⟨H2.out.1.fr (Fr.of_below b3), H2.out.2.1.trans (b3.mono H2.out.2.1.size), H2.out.2.2.grow b3⟩
          refine hK.out _ _ hh3 (fun hHeld => ?_)
          clear hK K
          refine wpAnyH_ready (rs := [4]) (by kernel_rfl) (by simp) ?_
          refine AllReadyH.cons (o := _) rfl (fun K hK => ?_) AllReadyH.nil
          go_simp
          refine hK.out _ _ hh3 (fun hHeld => ?_)
          clear hK K
          obtain ⟨v4, w4, hrun, hrow, hgr, hat⟩ := append_u2 (x := (p.1, .slice a2 64 c2)) H3.out.1.row hb3 rfl (by have h9 := HC.out.len; omega)
          generalize (w2.alloc (.cells #[.int .i64 (p.1.at_ : Int), .slice a2 64 c2, .bool p.1.dead] 64)) = w3 at *
          rw [HW2.out, HC.out.len] at hrun
          have hmore := H3.out.1.more (x := (p.1, .slice a2 64 c2)) HX.out.2.1 HX.out.2.2.1 hrow hgr hat (OW.mono H3.out.2.2 (Nat.zero_le _)) (fun g hg => by
            have h7 := (World.ownsRow.lt H3.out.2.2 g hg).1
            have h5 := (ownsRow_lt H1.out.1.las lb2 rfl).1
            have h6 := H1.out.2.1.size
            exact ⟨by omega, by omega⟩)
          have hh4 : w4.cell? ⟨bx, 0, none⟩ = some (.int .i64 (p.1.at_ : Int)) ∧ w4.cell? ⟨bx, 1, none⟩ = some (.slice pa 64 pc) ∧ w4.cell? ⟨bx, 2, none⟩ = some (.bool p.1.dead) := by
            have h8 : w4.heap[bx]? = w3.heap[bx]? := hgr.block bx (Nat.lt_of_lt_of_le hbx1 H3.out.2.1.size) (fun e => by have := H1.out.2.2.2 bx e.symm; omega)
            exact ⟨(World.cell?_of_block (w := w3) h8).trans hh3.1, (World.cell?_of_block (w := w3) h8).trans hh3.2.1, (World.cell?_of_block (w := w3) h8).trans hh3.2.2⟩
          rw [HW2.out, HC.out.len] at hmore
          generalize hnn : (ps2 ++ [((p.1 : Wt), Value.slice a2 64 c2)]).length = nn at hrow
          clear hnn
          obtain ⟨a4, c4, rfl⟩ := ownsRow_form hrow
          have hq4 := hmore.2.2.1
          have hf4 := hmore.2.2.2
          have H4 : Hid (_ ∧ _) := ⟨hmore.1, hmore.2.1⟩
          have hh5 : (w4.setCell ⟨c, 1, none⟩ (.slice a4 nn c4)).cell? ⟨bx, 0, none⟩ = some (.int .i64 (p.1.at_ : Int)) ∧ (w4.setCell ⟨c, 1, none⟩ (.slice a4 nn c4)).cell? ⟨bx, 1, none⟩ = some (.slice pa 64 pc) ∧ (w4.setCell ⟨c, 1, none⟩ (.slice a4 nn c4)).cell? ⟨bx, 2, none⟩ = some (.bool p.1.dead) := ⟨(World.cell?_of_block (w := w4) (setCell_other hne.symm)).trans hh4.1, (World.cell?_of_block (w := w4) (setCell_other hne.symm)).trans hh4.2.1, (World.cell?_of_block (w := w4) (setCell_other hne.symm)).trans hh4.2.2⟩
          clear hrow hgr hat hmore b3 hb3 hq2 hq3
          refine wpAnyH_ready (rs := [14]) (by kernel_rfl) (by simp) ?_
          refine AllReadyH.cons (o := _) rfl (fun K hK => ?_) AllReadyH.nil
          rw [if_pos (show Region.wanted _ _ = true by kernel_rfl)]
          refine wp_append_u _ _ rfl rfl rfl hrun ?_
          simp only [Act.put, List.getElem_toArray, List.getElem_cons_zero, List.getElem_cons_succ, List.setIfInBounds_toArray, List.set_cons_zero, List.set_cons_succ]
          refine hK.out _ _ hh4 (fun hHeld => ?_)
          clear hK K
          refine wpAnyH_take (i := 15) (v := .pointer (some ⟨c, 0, none⟩)) rfl (by kernel_rfl) (by kernel_rfl) (by kernel_rfl) (fun _ _ _ h => h) (Or.inl ⟨by rfl, fun w hw => by go_simp⟩) hHeld ?_
          simp only [Act.put, List.getElem_toArray, List.getElem_cons_zero, List.getElem_cons_succ, List.setIfInBounds_toArray, List.set_cons_zero, List.set_cons_succ]
          refine wpAnyH_take (i := 16) (v := .pointer (some ⟨c, 1, none⟩)) rfl (by kernel_rfl) (by kernel_rfl) (by kernel_rfl) (fun _ _ _ h => h) (Or.inl ⟨by rfl, fun w hw => by go_simp⟩) hHeld ?_
          simp only [Act.put, List.getElem_toArray, List.getElem_cons_zero, List.getElem_cons_succ, List.setIfInBounds_toArray, List.set_cons_zero, List.set_cons_succ]
          refine wpAnyH_ready (rs := [17]) (by kernel_rfl) (by simp) ?_
          refine AllReadyH.cons (o := _) rfl (fun K hK => ?_) AllReadyH.nil
          go_simp
          refine hK.out _ _ hh5 (fun hHeld => ?_)
          clear hK K
          refine wpAnyH_done (by kernel_rfl) ?_ _
          clear hHeld
          have HN2 : Hid (∃ wv2 ps2, CPY w c lb2 cap2 lf D (i + 1) wv2 ps2 (w4.setCell ⟨c, 1, none⟩ (.slice a4 nn c4))) := by
            have z1 := H1.out.2.1.size
            have z3 := H3.out.2.1.size
            have htk : D.ws.take i ++ [p.1] = D.ws.take (i + 1) := by
              obtain ⟨e1, e2⟩ := List.getElem?_eq_some_iff.1 HX.out.2.2.2
              rw [List.take_succ_eq_append_getElem e1, e2]
            have h9 := H4.out.1
            refine ⟨.slice a4 nn c4, ps2 ++ [(p.1, .slice a2 64 c2)], ?_, ?_, ?_⟩
            · rw [← htk]
              exact h9.sub (fun k _ h => by rcases h with h | h; exact h; omega)
            · rw [List.length_append, HC.out.len]; rfl
            · have f9 : Fr (fun k => ¬ w.heap.size ≤ k) w3 (w4.setCell ⟨c, 1, none⟩ (.slice a4 nn c4)) := H4.out.2
              exact (H1.out.2.1.trans (H3.out.2.1.mono z1)).trans ⟨f9.os, f9.tape, f9.output, f9.size, fun k hk => f9.block k (by omega) (by omega)⟩
          clear H4 H3 H2 H1 hq4 hf4 hrun hh1 hh2 hh3 hh4 hh5 hh1d hq1d hq1
          go_wp2
          exact ⟨⟨i + 1, by omega, by go_num, HN2⟩, by simp [intOf]; omega⟩
    · have hin : n = i := by omega
      have HE : Hid (RK (fun k => w.heap.size ≤ k) wr c D ∧ Below w.heap.size w wr) := by
        refine ⟨?_, hcp.bel⟩
        have h1 := hcp.ri
        rw [List.take_of_length_le (by rw [H.out.ws, List.length_map, HPN.out]; omega)] at h1
        exact ⟨_, _, _, _, _, h1⟩
      clear HI HC hcp hRq
      go_wp2
      go_ret
      exact ⟨_, rfl, HE.out.1, HE.out.2⟩
end
end Go.Proofs.Ytglknmelcianjaa
