import Derived.Test.YtabjpffaleaoaaaGreatDoorM23
import Derived.Test.YtabjpffaleaoaaaGreatDoorM03
import Derived.ProofKit
import Derived.OpenShut
import Derived.SizedLaws
import Derived.Carry
import Derived.ChangeSlices
import Derived.Deep.Slices
namespace Go.Proofs.YtabjpffaleaoaaaGreatDoor
open Go.RowKit
theorem load_hash_if {ops : Array Oper} {rest : List Oper} {o : Oper} {a : Act} {w : World} {Q : Exit → Act → World → Prop} (hw : Region.wanted o (yielded ops a.tmps) = true) (x : Operand) (ho : o.op = .load 25 x)
    (g : Nat) (hx : a.eval x = .pointer (some ⟨g, 0, none⟩)) (r : List UInt8) (hg : w.heap[g]? = some (.cells (bc r) 25 (0, 0))) (hl : r.length = 32)
    (h : wpList Tryz.prog ops Q rest (a.put o.dst (.agg (bc r))) w) : wpList Tryz.prog ops Q (o :: rest) a w := by
  unfold wpList
  rw [if_pos hw]
  exact .inl (wp_load_row 25 x ho g hx 25 (bc r) (0, 0) _ hg Tryz.underlying25 rfl (by rw [bc_size, hl]; exact info_hash) h)
/-- a state in a variable -/
def SV (u : World) (q : Nat) (cs : Array Value) : Prop := u.heap[q]? = some (.cells cs 43 (0, 0))
theorem SV.cell {u : World} {q : Nat} {cs : Array Value} (h : SV u q cs) (j : Nat) : u.cell? ⟨q, j, none⟩ = cs[j]? := by
  unfold World.cell?
  unfold SV at h
  simp only [h]
  rfl
theorem SV.keep {u u' : World} {q : Nat} {cs : Array Value} (h : SV u q cs) (hb : Below u.heap.size u u') : SV u' q cs := (hb.block q (Array.getElem?_eq_some_iff.1 h).1).trans h
theorem three (w : World) (A B C : Obj) : (((w.alloc A).alloc B).alloc C).heap[w.heap.size]? = some A ∧ (((w.alloc A).alloc B).alloc C).heap[w.heap.size + 1]? = some B ∧ (((w.alloc A).alloc B).alloc C).heap[w.heap.size + 1 + 1]? = some C ∧ (((w.alloc A).alloc B).alloc C).heap.size = w.heap.size + 3 := by
  have z1 : (w.alloc A).heap.size = w.heap.size + 1 := by simp
  have z2 : ((w.alloc A).alloc B).heap.size = w.heap.size + 1 + 1 := by simp
  have bB : Below (w.alloc A).heap.size (w.alloc A) ((w.alloc A).alloc B) := (Below.refl _ _).alloc (Nat.le_refl _) _
  have bC : Below ((w.alloc A).alloc B).heap.size ((w.alloc A).alloc B) (((w.alloc A).alloc B).alloc C) := (Below.refl _ _).alloc (Nat.le_refl _) _
  refine ⟨(bC.block _ (by omega)).trans ((bB.block _ (by omega)).trans (heapNew w A)), (bC.block _ (by omega)).trans ?_, ?_, by simp⟩
  · rw [← z1]; exact heapNew _ B
  · rw [← z2]; exact heapNew _ C
set_option maxHeartbeats 2000000 in
set_option maxRecDepth 100000 in
theorem breaksT (w : World) (hkt : KT w) (hmt : Bs.MT w) (b v : Int) (hb0 : List UInt8) (h320 : hb0.length = 32) (lv : Value) (L : List Int) (hl : L.length * 8 ≤ 140737488351232) (hr : Bs.RZ w lv L) (bv : Value) (l : List UInt8) (hb : RB w bv l) (hll : l.length ≤ 16777216) (mv : Value) (lm : List UInt8) (hmr : RB w mv lm) (m : Mv) (D hb1 : List UInt8) (hmm : MM w m D hb1) :
    Calls Tryz.prog 4 #[Bs.sc b v, .agg (bc hb0), lv, bv, mv, .agg m.cs] w fun e w' => e = .returned (.bool true) ∧ Below w.heap.size w w' := by
  have HA : Hid (∀ u, Below w.heap.size w u → Calls Tryz.prog 9 #[] u fun e w' => e = .returned (.bool true) ∧ Below u.heap.size u w') := fun u hu => awakeT u (hkt.below hu hkt.pos) (hmt.keep hu)
  have HC0 := Lib.hid (And.intro hkt (And.intro hmt (And.intro hr (And.intro hb (And.intro hmr hmm)))))
  clear hkt hmt hr hb hmr hmm
  go_enter Tryz.func4, Tryz.ntmps4
  go_wp2_with fail
  obtain ⟨u0, hu0⟩ : ∃ x, x = ((w.alloc (Obj.cells #[Value.int IntKind.i64 b, Value.int IntKind.i64 v] 23)).alloc (Obj.cells (bc hb0) 25)).alloc (Obj.cells m.cs 47) := ⟨_, rfl⟩
  have B0 : Hid (Below w.heap.size w u0) := by
    rw [hu0]
    exact (((Below.refl _ _).alloc (Nat.le_refl _) _).alloc (by simp) _).alloc (by simp; omega) _
  rw [← hu0]
  refine (HA.out u0 B0.out).mono ?_
  rintro e w1 ⟨rfl, b1⟩
  have hs0 : u0.heap[w.heap.size]? = some (.cells #[.int .i64 b, .int .i64 v] 23) ∧ u0.heap[w.heap.size + 1]? = some (.cells (bc hb0) 25) ∧ u0.heap[w.heap.size + 1 + 1]? = some (.cells m.cs 47) ∧ u0.heap.size = w.heap.size + 3 := by
    rw [hu0]
    exact three w _ _ _
  have HS1 : Hid (w1.heap[w.heap.size]? = some (.cells #[.int .i64 b, .int .i64 v] 23) ∧ w1.heap[w.heap.size + 1]? = some (.cells (bc hb0) 25) ∧ w1.heap[w.heap.size + 1 + 1]? = some (.cells m.cs 47)) := ⟨(b1.block _ (by omega)).trans hs0.1, (b1.block _ (by omega)).trans hs0.2.1, (b1.block _ (by omega)).trans hs0.2.2.1⟩
  have B1 : Hid (Below w.heap.size w w1) := B0.out.trans (b1.mono B0.out.size)
  have HZ1 : Hid (w.heap.size + 3 ≤ w1.heap.size) := by have := b1.size; show _ ≤ _; omega
  have hN := newP b v hb0 h320 lv L w1 hl (HC0.out.2.2.1.keep B1.out) (HC0.out.1.below B1.out HC0.out.1.pos) (HC0.out.2.1.keep B1.out)
  have HN := Lib.hid hN
  have hsc := HS1.out.1
  have hsh := HS1.out.2.1
  have c0 : w1.cell? ⟨w.heap.size, 0, none⟩ = some (.int .i64 b) := by unfold World.cell?; simp only [hsc]; rfl
  have c1 : w1.cell? ⟨w.heap.size, 1, none⟩ = some (.int .i64 v) := by unfold World.cell?; simp only [hsc]; rfl
  clear hN b1 hs0 hu0 HA hsc
  go_wp2_with (first | (refine load_hash_if rfl _ rfl (w.heap.size + 1) rfl hb0 hsh h320 ?_))
  refine HN.out.mono ?_
  rintro e w2 ⟨p, rfl, hpp, b2, hnew⟩
  have B2 : Hid (Below w.heap.size w w2) := B1.out.trans (b2.mono B1.out.size)
  by_cases hE : nwE b v L = 0
  · obtain ⟨g, R, P, rfl, hg, hf, hi, hpb, hsh0, _⟩ := hnew hE
    rw [hE]
    have HF := Lib.hid hf
    have HG : Hid (w1.heap.size ≤ g ∧ P.b = b ∧ w.heap.size + 3 ≤ w1.heap.size) := ⟨hg, hpb, HZ1.out⟩
    have hFd := feedT w2 g R P L _ 2 0 [] (.slice none 0 0) hf bv l (Fm.rn_free (HC0.out.2.2.2.1.keep B2.out)) hll
    have HFd := Lib.hid hFd
    obtain ⟨ba, bcp, hbv, _⟩ := HC0.out.2.2.2.1
    rw [hbv]
    rw [hbv] at HFd
    clear hFd hf hg hpb hi hsh0 hpp hnew hE hsh c0 c1 HN
    go_wp2_with (first | (go_at_call 11; refine (numLT _ _).mono ?_; rintro e w9 ⟨rfl, rfl⟩))
    refine HFd.out.mono ?_
    intro e w3 hx
    obtain ⟨ev, fin, P3, H3, rfl, ⟨ea, en, ec, rfl⟩, k3, hw3, hb3, r3, l3, fr3⟩ := FdE.sum HF.out hx
    have hbp : 0 < P3.b := by have := HF.out.b0; omega
    have B3 : Hid (Below w.heap.size w w3) := by
      have h1 := HG.out
      have h2 := HF.out.gR
      exact below_fr B2.out fr3 B2.out.size (fun k hk => ⟨by omega, by omega⟩)
    have HM3 : Hid (w3.heap[w.heap.size + 1 + 1]? = some (.cells m.cs 47)) := by
      have h1 := HG.out
      have h2 := HF.out.gR
      exact (fr3.block _ (by have := b2.size; omega) ⟨by omega, by omega⟩).trans ((b2.block _ (by omega)).trans HS1.out.2.2)
    have hSt := stateT w3 g P3 k3 hbp H3 r3 l3
    have HSt := Lib.hid hSt
    have HK3 := Lib.hid (And.intro k3 (And.intro r3 (And.intro l3 hbp)))
    clear hx hSt fr3 HFd k3 r3 l3 hb3
    subst hw3
    go_wp2_with fail
    refine HSt.out.mono ?_
    rintro e w4 ⟨v4, rfl, o4, b4⟩
    obtain ⟨a4, c4, rfl⟩ := o4.form
    have B4 : Hid (Below w.heap.size w w4) := B3.out.trans (b4.mono B3.out.size)
    by_cases hy : P3.why = 0
    · have q1 : (P3.why != 0) = false := by simp [hy]
      rw [q1, hy]
      have HBe : Hid (∀ o, Below w.heap.size w (w4.alloc o)) := fun o => B4.out.trans (((Below.refl _ _).alloc (Nat.le_refl _) o).mono B4.out.size)
      clear HSt HK3 HM3 o4 b4 q1 hy HS1 HC0
      go_wp2_with (first | (go_at_call 11; refine (numLT _ _).mono ?_; rintro e w9 ⟨rfl, rfl⟩))
      go_wp2
      go_ret
      exact ⟨rfl, HBe.out _⟩
    · have q1 : (P3.why != 0) = true := by simp [hy]
      rw [q1]
      obtain ⟨u4, hu4⟩ : ∃ x, x = w4.alloc (.cells #[.bool P3.sh, .bool true, .int .i64 P3.why, .bool P3.wc, .bool P3.wi, .bool P3.ic, .bool P3.ii, .slice a4 H3.length c4] 43) := ⟨_, rfl⟩
      have bu : Below w4.heap.size w4 u4 := by rw [hu4]; exact (Below.refl _ _).alloc (Nat.le_refl _) _
      have bu3 : Below w3.heap.size w3 u4 := b4.trans (bu.mono b4.size)
      have hsu : u4.heap[w4.heap.size]? = some (.cells #[.bool P3.sh, .bool true, .int .i64 P3.why, .bool P3.wc, .bool P3.wi, .bool P3.ic, .bool P3.ii, .slice a4 H3.length c4] 43) := by rw [hu4]; exact heapNew _ _
      obtain ⟨k3, r3, l3, hbp⟩ := HK3.out
      have ku : PK u4 g P3 := k3.keep (bu3.block g k3.lt)
      have hm4 : u4.heap[w.heap.size + 1 + 1]? = some (.cells m.cs 47) := (bu3.block _ (Array.getElem?_eq_some_iff.1 HM3.out).1).trans HM3.out
      have him := info_msg HC0.out.2.2.2.2.2.ok
      obtain ⟨ma, mc, hmv, _⟩ := HC0.out.2.2.2.2.1
      have HFg := Lib.hid (feedGone u4 g P3 ku hbp hy ma lm.length mc)
      have HSg := Lib.hid (sayGone u4 g P3 ku hbp hy m)
      have HU : Hid (Below w.heap.size w u4 ∧ PK u4 g P3 ∧ RB u4 P3.hs H3 ∧ RB u4 (.slice a4 H3.length c4) H3 ∧ H3.length ≤ 140737488351232 ∧ 0 < P3.b ∧ u4.heap[w4.heap.size]? = some (.cells #[.bool P3.sh, .bool true, .int .i64 P3.why, .bool P3.wc, .bool P3.wi, .bool P3.ic, .bool P3.ii, .slice a4 H3.length c4] 43)) := ⟨B4.out.trans (bu.mono B4.out.size), ku, r3.keep bu3, o4.rb.keep bu, l3, hbp, hsu⟩
      have HY := Lib.hid hy
      have q3 := q1
      rw [hmv]
      clear HSt HK3 HM3 o4 b4 bu bu3 k3 r3 l3 ku hsu HC0 HS1 hy B3 B4 B2 HF hbp
      go_wp2_with (first | (go_at_call 11; refine (numLT _ _).mono ?_; rintro e w9 ⟨rfl, rfl⟩))
      rw [← hu4]
      refine HFg.out.mono ?_
      rintro e w5 ⟨rfl, rfl⟩
      clear hu4 HFg
      go_wp2_with (first | (refine load_msg_if rfl _ rfl (w.heap.size + 1 + 1) rfl m.cs hm4 him ?_))
      refine HSg.out.mono ?_
      rintro e w6 ⟨rfl, b6⟩
      have HB6 := Lib.hid b6
      clear b6 HSg hm4
      have HV6 : Hid (SV w6 w4.heap.size #[.bool P3.sh, .bool true, .int .i64 P3.why, .bool P3.wc, .bool P3.wi, .bool P3.ic, .bool P3.ii, .slice a4 H3.length c4]) := SV.keep (u := w5) HU.out.2.2.2.2.2.2 HB6.out
      have HD6 : Hid (Below w.heap.size w (w6.drewN 1) ∧ RB (w6.drewN 1) (.slice a4 H3.length c4) H3) := by
        have b := HB6.out.trans ((belowDrew w6 1).mono HB6.out.size)
        exact ⟨HU.out.1.trans (b.mono HU.out.1.size), HU.out.2.2.2.1.keep b⟩
      have HL3 := Lib.hid HU.out.2.2.2.2.1
      have hSt := stateT (w6.drewN 1) g P3 (HU.out.2.1.keep ((HB6.out.trans ((belowDrew w6 1).mono HB6.out.size)).block g HU.out.2.1.lt)) HU.out.2.2.2.2.2.1 H3 (HU.out.2.2.1.keep (HB6.out.trans ((belowDrew w6 1).mono HB6.out.size))) HU.out.2.2.2.2.1
      rw [q3] at hSt
      have HSt := Lib.hid hSt
      clear hSt q3 q1 HB6
      go_upto_region 13 with fail
      refine wp_region_held_drew (S := fun u => SV u w4.heap.size #[.bool P3.sh, .bool true, .int .i64 P3.why, .bool P3.wc, .bool P3.wi, .bool P3.ic, .bool P3.ii, .slice a4 H3.length c4]) (by kernel_rfl) (HV6.out.keep (belowDrew _ 1)) (fun hHeld => ?_)
      refine wpAnyH_take (i := 0) (v := .pointer (some ⟨w4.heap.size, 1, none⟩)) rfl (by kernel_rfl) (by kernel_rfl) (by kernel_rfl) (fun _ _ _ h => h) (Or.inl ⟨by rfl, fun w hw => by go_simp⟩) hHeld ?_
      simp only [Act.put, List.getElem_toArray, List.getElem_cons_zero, List.setIfInBounds_toArray, List.set_cons_zero, List.set_cons_succ]
      refine wpAnyH_take (i := 1) (v := .bool true) rfl (by kernel_rfl) (by kernel_rfl) (by kernel_rfl) (fun _ _ _ h => h) (Or.inl ⟨by rfl, fun w hw => by have hq1 : w.cell? ⟨w4.heap.size, 1, none⟩ = some (.bool true) := hw.cell 1; go_simp⟩) hHeld ?_
      simp only [Act.put, List.getElem_toArray, List.getElem_cons_zero, List.getElem_cons_succ, List.setIfInBounds_toArray, List.set_cons_zero, List.set_cons_succ]
      refine wpAnyH_take (i := 2) (v := .bool true) rfl (by kernel_rfl) (by kernel_rfl) (by kernel_rfl) (fun _ _ _ h => h) (Or.inl ⟨by rfl, fun w hw => by go_simp⟩) hHeld ?_
      simp only [Act.put, List.getElem_toArray, List.getElem_cons_zero, List.getElem_cons_succ, List.setIfInBounds_toArray, List.set_cons_zero, List.set_cons_succ]
      refine wpAnyH_take (i := 3) (v := .pointer (some ⟨w4.heap.size, 2, none⟩)) rfl (by kernel_rfl) (by kernel_rfl) (by kernel_rfl) (fun _ _ _ h => h) (Or.inl ⟨by rfl, fun w hw => by go_simp⟩) hHeld ?_
      simp only [Act.put, List.getElem_toArray, List.getElem_cons_zero, List.getElem_cons_succ, List.setIfInBounds_toArray, List.set_cons_zero, List.set_cons_succ]
      refine wpAnyH_take (i := 4) (v := .int .i64 P3.why) rfl (by kernel_rfl) (by kernel_rfl) (by kernel_rfl) (fun _ _ _ h => h) (Or.inl ⟨by rfl, fun w hw => by have hq2 : w.cell? ⟨w4.heap.size, 2, none⟩ = some (.int .i64 P3.why) := hw.cell 2; go_simp⟩) hHeld ?_
      simp only [Act.put, List.getElem_toArray, List.getElem_cons_zero, List.getElem_cons_succ, List.setIfInBounds_toArray, List.set_cons_zero, List.set_cons_succ]
      refine wpAnyH_take (i := 5) (v := .int .i64 P3.why) rfl (by kernel_rfl) (by kernel_rfl) (by kernel_rfl) (fun _ _ _ h => h) (Or.inl ⟨by rfl, fun w hw => by go_simp⟩) hHeld ?_
      simp only [Act.put, List.getElem_toArray, List.getElem_cons_zero, List.getElem_cons_succ, List.setIfInBounds_toArray, List.set_cons_zero, List.set_cons_succ]
      refine wpAnyH_take (i := 6) (v := .bool true) rfl (by kernel_rfl) (by kernel_rfl) (by kernel_rfl) (fun _ _ _ h => h) (Or.inl ⟨by rfl, fun w hw => by go_simp⟩) hHeld ?_
      simp only [Act.put, List.getElem_toArray, List.getElem_cons_zero, List.getElem_cons_succ, List.setIfInBounds_toArray, List.set_cons_zero, List.set_cons_succ]
      refine wpAnyH_take (i := 7) (v := .bool true) rfl (by kernel_rfl) (by kernel_rfl) (by kernel_rfl) (fun _ _ _ h => h) (Or.inl ⟨by rfl, fun w hw => by go_simp⟩) hHeld ?_
      simp only [Act.put, List.getElem_toArray, List.getElem_cons_zero, List.getElem_cons_succ, List.setIfInBounds_toArray, List.set_cons_zero, List.set_cons_succ]
      refine wpAnyH_take (i := 8) (v := .bool true) rfl (by kernel_rfl) (by kernel_rfl) (by kernel_rfl) (fun _ _ _ h => h) (Or.inl ⟨by rfl, fun w hw => by go_simp⟩) hHeld ?_
      simp only [Act.put, List.getElem_toArray, List.getElem_cons_zero, List.getElem_cons_succ, List.setIfInBounds_toArray, List.set_cons_zero, List.set_cons_succ]
      refine wpAnyH_take (i := 9) (v := .slice none 0 0) rfl (by kernel_rfl) (by kernel_rfl) (by kernel_rfl) (fun _ _ _ h => h) (Or.inl ⟨by rfl, fun w hw => by go_simp⟩) hHeld ?_
      simp only [Act.put, List.getElem_toArray, List.getElem_cons_zero, List.getElem_cons_succ, List.setIfInBounds_toArray, List.set_cons_zero, List.set_cons_succ]
      refine wpAnyH_take (i := 10) (v := .int .i64 0) rfl (by kernel_rfl) (by kernel_rfl) (by kernel_rfl) (fun _ _ _ h => h) (Or.inl ⟨by rfl, fun w hw => by go_simp⟩) hHeld ?_
      simp only [Act.put, List.getElem_toArray, List.getElem_cons_zero, List.getElem_cons_succ, List.setIfInBounds_toArray, List.set_cons_zero, List.set_cons_succ]
      refine wpAnyH_take (i := 11) (v := .bool true) rfl (by kernel_rfl) (by kernel_rfl) (by kernel_rfl) (fun _ _ _ h => h) (Or.inl ⟨by rfl, fun w hw => by go_simp⟩) hHeld ?_
      simp only [Act.put, List.getElem_toArray, List.getElem_cons_zero, List.getElem_cons_succ, List.setIfInBounds_toArray, List.set_cons_zero, List.set_cons_succ]
      refine wpAnyH_take (i := 12) (v := .bool true) rfl (by kernel_rfl) (by kernel_rfl) (by kernel_rfl) (fun _ _ _ h => h) (Or.inl ⟨by rfl, fun w hw => by go_simp⟩) hHeld ?_
      simp only [Act.put, List.getElem_toArray, List.getElem_cons_zero, List.getElem_cons_succ, List.setIfInBounds_toArray, List.set_cons_zero, List.set_cons_succ]
      refine wpAnyH_take (i := 13) (v := .bool true) rfl (by kernel_rfl) (by kernel_rfl) (by kernel_rfl) (fun _ _ _ h => h) (Or.inl ⟨by rfl, fun w hw => by go_simp⟩) hHeld ?_
      simp only [Act.put, List.getElem_toArray, List.getElem_cons_zero, List.getElem_cons_succ, List.setIfInBounds_toArray, List.set_cons_zero, List.set_cons_succ]
      refine wpAnyH_take (i := 14) (v := .int .i64 170) rfl (by kernel_rfl) (by kernel_rfl) (by kernel_rfl) (fun _ _ _ h => h) (Or.inl ⟨by rfl, fun w hw => by go_simp⟩) hHeld ?_
      simp only [Act.put, List.getElem_toArray, List.getElem_cons_zero, List.getElem_cons_succ, List.setIfInBounds_toArray, List.set_cons_zero, List.set_cons_succ]
      refine wpAnyH_ready (rs := [15]) (by kernel_rfl) (by simp) ?_
      refine AllReadyH.cons (o := _) rfl (fun K hK => ?_) AllReadyH.nil
      go_simp
      refine (numLT _ _).mono ?_
      rintro e w9 ⟨rfl, rfl⟩
      go_wp2_with fail
      refine hK.out _ _ (HV6.out.keep (belowDrew _ 1)) (fun hHeld => ?_)
      clear hK K
      refine wpAnyH_take (i := 16) (v := .bool true) rfl (by kernel_rfl) (by kernel_rfl) (by kernel_rfl) (fun _ _ _ h => h) (Or.inl ⟨by rfl, fun w hw => by go_simp⟩) hHeld ?_
      simp only [Act.put, List.getElem_toArray, List.getElem_cons_zero, List.getElem_cons_succ, List.setIfInBounds_toArray, List.set_cons_zero, List.set_cons_succ]
      refine wpAnyH_take (i := 17) (v := .bool true) rfl (by kernel_rfl) (by kernel_rfl) (by kernel_rfl) (fun _ _ _ h => h) (Or.inl ⟨by rfl, fun w hw => by go_simp⟩) hHeld ?_
      simp only [Act.put, List.getElem_toArray, List.getElem_cons_zero, List.getElem_cons_succ, List.setIfInBounds_toArray, List.set_cons_zero, List.set_cons_succ]
      refine wpAnyH_take (i := 18) (v := .bool true) rfl (by kernel_rfl) (by kernel_rfl) (by kernel_rfl) (fun _ _ _ h => h) (Or.inl ⟨by rfl, fun w hw => by go_simp⟩) hHeld ?_
      simp only [Act.put, List.getElem_toArray, List.getElem_cons_zero, List.getElem_cons_succ, List.setIfInBounds_toArray, List.set_cons_zero, List.set_cons_succ]
      refine wpAnyH_take (i := 19) (v := .slice none 0 0) rfl (by kernel_rfl) (by kernel_rfl) (by kernel_rfl) (fun _ _ _ h => h) (Or.inl ⟨by rfl, fun w hw => by go_simp⟩) hHeld ?_
      simp only [Act.put, List.getElem_toArray, List.getElem_cons_zero, List.getElem_cons_succ, List.setIfInBounds_toArray, List.set_cons_zero, List.set_cons_succ]
      refine wpAnyH_take (i := 20) (v := .int .i64 0) rfl (by kernel_rfl) (by kernel_rfl) (by kernel_rfl) (fun _ _ _ h => h) (Or.inl ⟨by rfl, fun w hw => by go_simp⟩) hHeld ?_
      simp only [Act.put, List.getElem_toArray, List.getElem_cons_zero, List.getElem_cons_succ, List.setIfInBounds_toArray, List.set_cons_zero, List.set_cons_succ]
      refine wpAnyH_take (i := 21) (v := .bool true) rfl (by kernel_rfl) (by kernel_rfl) (by kernel_rfl) (fun _ _ _ h => h) (Or.inl ⟨by rfl, fun w hw => by go_simp⟩) hHeld ?_
      simp only [Act.put, List.getElem_toArray, List.getElem_cons_zero, List.getElem_cons_succ, List.setIfInBounds_toArray, List.set_cons_zero, List.set_cons_succ]
      refine wpAnyH_take (i := 22) (v := .bool true) rfl (by kernel_rfl) (by kernel_rfl) (by kernel_rfl) (fun _ _ _ h => h) (Or.inl ⟨by rfl, fun w hw => by go_simp⟩) hHeld ?_
      simp only [Act.put, List.getElem_toArray, List.getElem_cons_zero, List.getElem_cons_succ, List.setIfInBounds_toArray, List.set_cons_zero, List.set_cons_succ]
      refine wpAnyH_take (i := 23) (v := .bool true) rfl (by kernel_rfl) (by kernel_rfl) (by kernel_rfl) (fun _ _ _ h => h) (Or.inl ⟨by rfl, fun w hw => by go_simp⟩) hHeld ?_
      simp only [Act.put, List.getElem_toArray, List.getElem_cons_zero, List.getElem_cons_succ, List.setIfInBounds_toArray, List.set_cons_zero, List.set_cons_succ]
      refine wpAnyH_take (i := 24) (v := .int .i64 170) rfl (by kernel_rfl) (by kernel_rfl) (by kernel_rfl) (fun _ _ _ h => h) (Or.inl ⟨by rfl, fun w hw => by go_simp⟩) hHeld ?_
      simp only [Act.put, List.getElem_toArray, List.getElem_cons_zero, List.getElem_cons_succ, List.setIfInBounds_toArray, List.set_cons_zero, List.set_cons_succ]
      refine wpAnyH_ready (rs := [25]) (by kernel_rfl) (by simp) ?_
      refine AllReadyH.cons (o := _) rfl (fun K hK => ?_) AllReadyH.nil
      go_simp
      refine (numLT _ _).mono ?_
      rintro e w9 ⟨rfl, rfl⟩
      go_wp2_with fail
      refine hK.out _ _ (HV6.out.keep (belowDrew _ 1)) (fun hHeld => ?_)
      clear hK K
      refine wpAnyH_take (i := 26) (v := .bool true) rfl (by kernel_rfl) (by kernel_rfl) (by kernel_rfl) (fun _ _ _ h => h) (Or.inl ⟨by rfl, fun w hw => by go_simp⟩) hHeld ?_
      simp only [Act.put, List.getElem_toArray, List.getElem_cons_zero, List.getElem_cons_succ, List.setIfInBounds_toArray, List.set_cons_zero, List.set_cons_succ]
      refine wpAnyH_take (i := 27) (v := .bool true) rfl (by kernel_rfl) (by kernel_rfl) (by kernel_rfl) (fun _ _ _ h => h) (Or.inl ⟨by rfl, fun w hw => by go_simp⟩) hHeld ?_
      simp only [Act.put, List.getElem_toArray, List.getElem_cons_zero, List.getElem_cons_succ, List.setIfInBounds_toArray, List.set_cons_zero, List.set_cons_succ]
      refine wpAnyH_take (i := 28) (v := .bool true) rfl (by kernel_rfl) (by kernel_rfl) (by kernel_rfl) (fun _ _ _ h => h) (Or.inl ⟨by rfl, fun w hw => by go_simp⟩) hHeld ?_
      simp only [Act.put, List.getElem_toArray, List.getElem_cons_zero, List.getElem_cons_succ, List.setIfInBounds_toArray, List.set_cons_zero, List.set_cons_succ]
      refine wpAnyH_take (i := 29) (v := .pointer (some ⟨g, 0, none⟩)) rfl (by kernel_rfl) (by kernel_rfl) (by kernel_rfl) (fun _ _ _ h => h) (Or.inl ⟨by rfl, fun w hw => by go_simp⟩) hHeld ?_
      simp only [Act.put, List.getElem_toArray, List.getElem_cons_zero, List.getElem_cons_succ, List.setIfInBounds_toArray, List.set_cons_zero, List.set_cons_succ]
      refine wpAnyH_take (i := 31) (v := .agg #[.bool P3.sh, .bool true, .int .i64 P3.why, .bool P3.wc, .bool P3.wi, .bool P3.ic, .bool P3.ii, .slice a4 H3.length c4]) rfl (by kernel_rfl) (by kernel_rfl) (by kernel_rfl) (fun _ _ _ h => h) (Or.inl ⟨by rfl, fun w hw => by have hq0 : w.cell? ⟨w4.heap.size, 0, none⟩ = some (.bool P3.sh) := hw.cell 0; have hq1 : w.cell? ⟨w4.heap.size, 1, none⟩ = some (.bool true) := hw.cell 1; have hq2 : w.cell? ⟨w4.heap.size, 2, none⟩ = some (.int .i64 P3.why) := hw.cell 2; have hq3 : w.cell? ⟨w4.heap.size, 3, none⟩ = some (.bool P3.wc) := hw.cell 3; have hq4 : w.cell? ⟨w4.heap.size, 4, none⟩ = some (.bool P3.wi) := hw.cell 4; have hq5 : w.cell? ⟨w4.heap.size, 5, none⟩ = some (.bool P3.ic) := hw.cell 5; have hq6 : w.cell? ⟨w4.heap.size, 6, none⟩ = some (.bool P3.ii) := hw.cell 6; have hq7 : w.cell? ⟨w4.heap.size, 7, none⟩ = some (.slice a4 H3.length c4) := hw.cell 7; go_simp⟩) hHeld ?_
      simp only [Act.put, List.getElem_toArray, List.getElem_cons_zero, List.getElem_cons_succ, List.setIfInBounds_toArray, List.set_cons_zero, List.set_cons_succ]
      refine wpAnyH_ready (rs := [30]) (by kernel_rfl) (by simp) ?_
      refine AllReadyH.cons (o := _) rfl (fun K hK => ?_) AllReadyH.nil
      go_simp
      refine (HSt.out).mono ?_
      rintro e w7 ⟨v7, rfl, o7, b7⟩
      obtain ⟨a7, c7, rfl⟩ := o7.form
      have HV7 : Hid (SV w7 w4.heap.size #[.bool P3.sh, .bool true, .int .i64 P3.why, .bool P3.wc, .bool P3.wi, .bool P3.ic, .bool P3.ii, .slice a4 H3.length c4]) := (HV6.out.keep (belowDrew _ 1)).keep b7
      have HO7 : Hid (RB w7 (.slice a7 H3.length c7) H3 ∧ Below w.heap.size w w7 ∧ RB w7 (.slice a4 H3.length c4) H3) := ⟨o7.rb, HD6.out.1.trans (b7.mono HD6.out.1.size), HD6.out.2.keep b7⟩
      clear o7 b7 HSt
      go_wp2_with fail
      refine hK.out _ _ (HV7.out) (fun hHeld => ?_)
      clear hK K
      refine wpAnyH_ready (rs := [32]) (by kernel_rfl) (by simp) ?_
      refine AllReadyH.cons (o := _) rfl (fun K hK => ?_) AllReadyH.nil
      go_simp
      refine (stateSameT w7 P3.sh true P3.why P3.wc P3.wi P3.ic P3.ii (.slice a7 H3.length c7) (.slice a4 H3.length c4) H3 HO7.out.1 HO7.out.2.2 HL3.out).mono ?_
      rintro e w8 ⟨rfl, b8⟩
      have HB8 : Hid (Below w.heap.size w w8) := HO7.out.2.1.trans (b8.mono HO7.out.2.1.size)
      have HV8 := Lib.hid (HV7.out.keep b8)
      go_wp2_with fail
      refine hK.out _ _ HV8.out (fun hHeld => ?_)
      clear hK K
      refine wpAnyH_take (i := 33) (v := .bool true) rfl (by kernel_rfl) (by kernel_rfl) (by kernel_rfl) (fun _ _ _ h => h) (Or.inl ⟨by rfl, fun w hw => by go_simp⟩) hHeld ?_
      simp only [Act.put, List.getElem_toArray, List.getElem_cons_zero, List.getElem_cons_succ, List.setIfInBounds_toArray, List.set_cons_zero, List.set_cons_succ]
      refine wpAnyH_take (i := 34) (v := .bool true) rfl (by kernel_rfl) (by kernel_rfl) (by kernel_rfl) (fun _ _ _ h => h) (Or.inl ⟨by rfl, fun w hw => by go_simp⟩) hHeld ?_
      simp only [Act.put, List.getElem_toArray, List.getElem_cons_zero, List.getElem_cons_succ, List.setIfInBounds_toArray, List.set_cons_zero, List.set_cons_succ]
      refine wpAnyH_done (by kernel_rfl) ?_ _
      clear hHeld
      go_wp2
      go_ret
      exact ⟨rfl, HB8.out⟩
  · have hp := hpp.2 hE
    subst hp
    have q1 : (nwE b v L != 0) = true := by simp [hE]
    have HB2 := B2
    clear hpp hnew hE hsh c0 c1 HN HS1 HC0
    go_wp2_with (first | (go_at_call 11; refine (numLT _ _).mono ?_; rintro e w9 ⟨rfl, rfl⟩))
    go_wp2
    go_ret
    exact ⟨rfl, HB2.out⟩
end Go.Proofs.YtabjpffaleaoaaaGreatDoor
namespace Go.Proofs.YtabjpffaleaoaaaGreatDoor
open Go.ChangeShapes Go.WideShapes Go.ChangeAt Go.RowKit
theorem ownKn : ownKnob Tryz.prog.godebug = none := by kernel_rfl
theorem laidO : laidOutB Tryz.prog = true := by kernel_rfl
theorem trodLt {H : Type} {enc : TypeId × Value → H} {W : World} {t : TypeId} {v : Value} {d : DataW H} {p : List MemPlace} (h : DataW.Trod enc Tryz.prog W 0 (fun _ => true) true t v d p) : ∀ x ∈ p, x.block < W.heap.size := by
  obtain ⟨m, hm⟩ := h
  exact DataW.trod_lt m _ _ _ hm
/-- the cells of a slice of bytes -/
theorem cellsBytes {H : Type} {enc : TypeId × Value → H} {W : World} {fuel : Nat} {cs : List Value} {x : DataW H × List MemPlace}
    (hf : DataW.trod enc Tryz.prog W 0 (fun _ => true) true fuel 31 cs = some x) (hw : ∀ q ∈ DataW.weights Tryz.prog 31 x.1, q ≤ reachBytes) :
    ∃ v l, cs = [v] ∧ RB W v l ∧ l.length ≤ 140737488351232 := by
  have hb : Tryz.prog.bytesOf 5 = 1 := by kernel_rfl
  rcases open_ints Tryz.underlying31 Tryz.underlying5 (by kernel_rfl) hf with ⟨hcs, _⟩ | ⟨a, len, cap, zs, hcs, _, hl, hm, hz, hx, hcell, hwz⟩
  · exact ⟨_, [], hcs, ⟨none, 0, rfl, Nat.le_refl _, .inl rfl⟩, by simp⟩
  · have hz' : zs.length = cap := by simpa using hz
    have hlen : ((zs.take len).map fun z => UInt8.ofNat z.toNat).length = len := by rw [List.length_map, List.length_take]; omega
    refine ⟨_, (zs.take len).map fun z => UInt8.ofNat z.toNat, hcs, ⟨some a, cap, by rw [hlen], by rw [hlen]; omega, ?_⟩, ?_⟩
    · by_cases h0 : len = 0
      · exact .inl (List.length_eq_zero_iff.1 (by rw [hlen, h0]))
      · obtain ⟨b, off, spot⟩ := a
        have hc0 := hcell 0 (by omega)
        have hspot : spot = none := by simpa [Addr.add] using World.cell?_spot hc0
        subst hspot
        refine .inr ⟨b, off, rfl, by simpa [Addr.add] using World.block_lt_of_cell? W _ hc0, fun i hi => ?_⟩
        rw [hlen] at hi
        have := hcell i (by omega)
        rw [Addr.add_mid] at this
        rw [this]
        have hm' : zs.getD i 0 ∈ zs := by simp [List.getD, List.getElem?_eq_getElem (show i < zs.length by omega)]
        have h255 : 0 ≤ zs.getD i 0 ∧ zs.getD i 0 ≤ 255 := by simpa [Lit.wf, IntKind.min, IntKind.max, IntKind.signed, IntKind.bits] using hwz _ hm'
        have e : byt ((zs.take len).map fun z => UInt8.ofNat z.toNat) i = UInt8.ofNat (zs.getD i 0).toNat := by
          unfold byt; simp [List.getD, List.getElem?_map, hi, List.getElem?_eq_getElem (show i < zs.length by omega)]
        rw [e, UInt8.toNat_ofNat', Nat.mod_eq_of_lt (by omega), show (((zs.getD i 0).toNat : Nat) : Int) = zs.getD i 0 by omega]
    · rw [hlen]
      have := hw ((zs.take len).length + (zs.drop len).length) (by rw [hx]; simp [DataW.weights, Tryz.underlying31, lits, hb])
      simp [reachBytes] at this
      omega
theorem cellByte {H : Type} {enc : TypeId × Value → H} {W : World} {cs : List Value} {o n : Nat} {x : DataW H × List MemPlace} (ho : o < cs.length)
    (h : DataW.trod enc Tryz.prog W 0 (fun _ => true) true n 5 ((cs.drop o).take 1) = some x) : ∃ a : UInt8, cs[o]? = some (.int .u8 (a.toNat : Int)) := by
  have e : (cs.drop o).take 1 = [cs[o]] := by rw [List.drop_eq_getElem_cons ho]; rfl
  rw [e] at h
  obtain ⟨a, e0, rfl, wa⟩ := DataW.trod_int Tryz.underlying5 h
  have h255 : 0 ≤ a ∧ a ≤ 255 := by simpa [Lit.wf, IntKind.min, IntKind.max, IntKind.signed, IntKind.bits] using wa
  refine ⟨UInt8.ofNat a.toNat, ?_⟩
  rw [List.getElem?_eq_getElem ho, UInt8.toNat_ofNat', Nat.mod_eq_of_lt (by omega)]
  simp at e0
  rw [e0]
  congr 2
  omega
def asB (v : Value) : UInt8 := match v with | .int _ z => UInt8.ofNat z.toNat | _ => 0
/-- the cells of a hash -/
theorem cellsHash {H : Type} {enc : TypeId × Value → H} {W : World} {fuel : Nat} {cs : List Value} {x : DataW H × List MemPlace}
    (hf : DataW.trod enc Tryz.prog W 0 (fun _ => true) true fuel 25 cs = some x) : cs.length = 32 ∧ ∀ i, i < 32 → ∃ a : UInt8, cs[i]? = some (.int .u8 (a.toNat : Int)) := by
  obtain ⟨xs, m, _, _, hlen, hxs, hget⟩ := DataW.trod_array Tryz.underlying25 hf
  have c5 : Tryz.prog.cellsOf 5 = 1 := by kernel_rfl
  have c32 : Tryz.prog.cellsOf 25 = 32 := by kernel_rfl
  rw [c32] at hlen
  refine ⟨hlen, fun i hi => ?_⟩
  have h1 := hget i hi
  rw [c5, Nat.mul_one, List.getElem?_eq_getElem (by omega)] at h1
  exact cellByte (by omega) h1
theorem bytes_of {cs : List Value} (h : ∀ i, i < cs.length → ∃ a : UInt8, cs[i]? = some (.int .u8 (a.toNat : Int))) : cs = Lib.byteCells (cs.map asB) := by
  apply List.ext_getElem?
  intro i
  simp only [Lib.byteCells, List.getElem?_map]
  by_cases hi : i < cs.length
  · obtain ⟨a, ha⟩ := h i hi
    rw [ha]
    simp [asB]
  · rw [List.getElem?_eq_none (by omega)]; rfl
theorem dsplit (L : List Value) (k n : Nat) : L.drop k = (L.drop k).take n ++ L.drop (k + n) := by
  rw [← List.drop_drop]; exact (List.take_append_drop n (L.drop k)).symm
theorem split40 (L : List Value) (h : L.length = 40) : L = (L.drop 0).take 1 ++ ((L.drop 1).take 1 ++ ((L.drop 2).take 1 ++ ((L.drop 3).take 1 ++ ((L.drop 4).take 1 ++ ((L.drop 5).take 32 ++ ((L.drop 37).take 1 ++ ((L.drop 38).take 1 ++ (L.drop 39).take 1))))))) := by
  have e40 : L.drop 40 = [] := List.drop_eq_nil_of_le (by omega)
  have h39 := dsplit L 39 1
  rw [e40, List.append_nil] at h39
  conv => lhs; rw [← List.drop_zero (l := L), dsplit L 0 1, dsplit L (0 + 1) 1, dsplit L (0 + 1 + 1) 1, dsplit L (0 + 1 + 1 + 1) 1, dsplit L (0 + 1 + 1 + 1 + 1) 1, dsplit L (0 + 1 + 1 + 1 + 1 + 1) 32, dsplit L (0 + 1 + 1 + 1 + 1 + 1 + 32) 1, dsplit L (0 + 1 + 1 + 1 + 1 + 1 + 32 + 1) 1, show 0 + 1 + 1 + 1 + 1 + 1 + 32 + 1 + 1 = 39 from rfl, h39]
set_option maxRecDepth 100000 in
/-- the cells of a slice of hashes -/
theorem cellsHashes {H : Type} {enc : TypeId × Value → H} {W : World} {fuel : Nat} {cs : List Value} {x : DataW H × List MemPlace}
    (hf : DataW.trod enc Tryz.prog W 0 (fun _ => true) true fuel 45 cs = some x) (hw : ∀ q ∈ DataW.weights Tryz.prog 45 x.1, q ≤ reachBytes) :
    ∃ v l, cs = [v] ∧ RH W v l ∧ l.length ≤ 140737488351232 := by
  have hb : Tryz.prog.bytesOf 25 = 32 := by kernel_rfl
  have c32 : Tryz.prog.cellsOf 25 = 32 := by kernel_rfl
  rcases Deep.open_slice Tryz.underlying45 hf with ⟨hcs, _⟩ | ⟨a, len, cap, m, n, Dt, Pl, hcs, _, hle, _, hm, hx, hel⟩
  · exact ⟨_, [], hcs, ⟨none, 0, 0, rfl, rfl, Nat.le_refl _, .inl rfl⟩, by simp⟩
  · have hm' : m = cap := by simpa using hm
    have hlim : len * 32 ≤ 140737488351232 := by
      have := hw (m * 32) (by rw [hx]; simp [DataW.weights, Tryz.underlying45, hb]; left; omega)
      simp [reachBytes] at this
      omega
    by_cases h0 : len = 0
    · subst h0
      exact ⟨_, [], hcs, ⟨some a, 0, cap, rfl, rfl, Nat.zero_le _, .inl rfl⟩, by simp⟩
    obtain ⟨b, off, spot⟩ := a
    have hspot : spot = none := by
      obtain ⟨cs', h1, h2⟩ := hel 0 (by omega)
      obtain ⟨hl32, hby⟩ := cellsHash h2
      obtain ⟨y, hy⟩ := hby 0 (by omega)
      rw [c32] at h1
      have := (World.cells?_some h1).2.2 0 (by omega)
      rw [hy] at this
      simpa [Addr.add] using World.cell?_spot this
    subst hspot
    have key : ∀ i, i < len * 32 → ∃ y : UInt8, W.cell? ⟨b, off + i, none⟩ = some (.int .u8 (y.toNat : Int)) := by
      intro i hi
      obtain ⟨cs', h1, h2⟩ := hel (i / 32) (by omega)
      rw [c32] at h1
      obtain ⟨hl32, hby⟩ := cellsHash h2
      obtain ⟨y, hy⟩ := hby (i % 32) (by omega)
      refine ⟨y, ?_⟩
      have := (World.cells?_some h1).2.2 (i % 32) (by omega)
      rw [hy, Addr.add_mid, Addr.add_mid, show off + i / 32 * 32 + i % 32 = off + i by omega] at this
      exact this
    have hlen : ((List.range (len * 32)).map fun i => asB ((W.cell? ⟨b, off + i, none⟩).getD undef)).length = len * 32 := by simp
    refine ⟨_, (List.range (len * 32)).map fun i => asB ((W.cell? ⟨b, off + i, none⟩).getD undef), hcs, ⟨_, len, cap, rfl, hlen, hle, .inr ⟨b, off, rfl, ?_, fun i hi => ?_⟩⟩, by rw [hlen]; exact hlim⟩
    · obtain ⟨y, hy⟩ := key 0 (by omega)
      exact World.block_lt_of_cell? W _ hy
    · rw [hlen] at hi
      obtain ⟨y, hy⟩ := key i hi
      rw [hy]
      have e : byt ((List.range (len * 32)).map fun i => asB ((W.cell? ⟨b, off + i, none⟩).getD undef)) i = y := by
        unfold byt
        simp [List.getD, hi, hy, asB]
      rw [e]
set_option maxRecDepth 100000 in
/-- an argument that is a message -/
theorem openMsg {H : Type} {enc : TypeId × Value → H} {W : World} {base : Nat} {v : Value} {d : DataW H} {p : List MemPlace} (hv : Value.okWide Tryz.prog W .any base 47 v)
    (h : DataW.Trod enc Tryz.prog W 0 (fun _ => true) true 47 v d p) (hw : ∀ q ∈ DataW.weights Tryz.prog 47 d, q ≤ reachBytes) :
    ∃ (m : Mv) (D hb : List UInt8), v = .agg m.cs ∧ MM W m D hb := by
  obtain ⟨cs, rfl, hsz⟩ := okWide_struct Tryz.underlying47 hv
  obtain ⟨fuel, hf⟩ := h
  obtain ⟨xs, n, _, hx, hl, hlen, hf⟩ := DataW.trod_struct Tryz.underlying47 hf
  have hs : cs.size = 40 := hsz.trans (by kernel_rfl)
  have hL : xs.length = 9 := hlen
  have hd : d = .agg (xs.map (·.1)) := congrArg Prod.fst hx
  have hcs : (Value.agg cs).cells.toList.length = 40 := by simpa [Value.cells] using hs
  have f0 : DataW.trod enc Tryz.prog W 0 (fun _ => true) true n 3 (((Value.agg cs).cells.toList.drop 0).take (Tryz.prog.cellsOf 3)) = xs[0]? := hf 0 _ rfl
  have f1 : DataW.trod enc Tryz.prog W 0 (fun _ => true) true n 3 (((Value.agg cs).cells.toList.drop 1).take (Tryz.prog.cellsOf 3)) = xs[1]? := hf 1 _ rfl
  have f2 : DataW.trod enc Tryz.prog W 0 (fun _ => true) true n 3 (((Value.agg cs).cells.toList.drop 2).take (Tryz.prog.cellsOf 3)) = xs[2]? := hf 2 _ rfl
  have f3 : DataW.trod enc Tryz.prog W 0 (fun _ => true) true n 3 (((Value.agg cs).cells.toList.drop 3).take (Tryz.prog.cellsOf 3)) = xs[3]? := hf 3 _ rfl
  have f4 : DataW.trod enc Tryz.prog W 0 (fun _ => true) true n 31 (((Value.agg cs).cells.toList.drop 4).take (Tryz.prog.cellsOf 31)) = xs[4]? := hf 4 _ rfl
  have f5 : DataW.trod enc Tryz.prog W 0 (fun _ => true) true n 25 (((Value.agg cs).cells.toList.drop 5).take (Tryz.prog.cellsOf 25)) = xs[5]? := hf 5 _ rfl
  have f6 : DataW.trod enc Tryz.prog W 0 (fun _ => true) true n 3 (((Value.agg cs).cells.toList.drop 37).take (Tryz.prog.cellsOf 3)) = xs[6]? := hf 6 _ rfl
  have f7 : DataW.trod enc Tryz.prog W 0 (fun _ => true) true n 3 (((Value.agg cs).cells.toList.drop 38).take (Tryz.prog.cellsOf 3)) = xs[7]? := hf 7 _ rfl
  have f8 : DataW.trod enc Tryz.prog W 0 (fun _ => true) true n 45 (((Value.agg cs).cells.toList.drop 39).take (Tryz.prog.cellsOf 45)) = xs[8]? := hf 8 _ rfl
  obtain ⟨y0, y1, y2, y3, y4, y5, y6, y7, y8, rfl⟩ : ∃ y0 y1 y2 y3 y4 y5 y6 y7 y8, xs = [y0, y1, y2, y3, y4, y5, y6, y7, y8] := by
    match xs, hL with
    | [y0, y1, y2, y3, y4, y5, y6, y7, y8], _ => exact ⟨y0, y1, y2, y3, y4, y5, y6, y7, y8, rfl⟩
  clear hf
  replace f0 : _ = some y0 := f0
  replace f1 : _ = some y1 := f1
  replace f2 : _ = some y2 := f2
  replace f3 : _ = some y3 := f3
  replace f4 : _ = some y4 := f4
  replace f5 : _ = some y5 := f5
  replace f6 : _ = some y6 := f6
  replace f7 : _ = some y7 := f7
  replace f8 : _ = some y8 := f8
  have k3 : Tryz.prog.cellsOf 3 = 1 := by kernel_rfl
  have k22 : Tryz.prog.cellsOf 31 = 1 := by kernel_rfl
  have k26 : Tryz.prog.cellsOf 45 = 1 := by kernel_rfl
  have k25 : Tryz.prog.cellsOf 25 = 32 := by kernel_rfl
  rw [k3] at f0 f1 f2 f3 f6 f7
  rw [k22] at f4
  rw [k25] at f5
  rw [k26] at f8
  have hw4 : ∀ q ∈ DataW.weights Tryz.prog 31 y4.1, q ≤ reachBytes := fun q hq => hw q (by rw [hd]; simp only [DataW.weights, Tryz.underlying47, List.map_cons, List.map_nil]; simp [DataW.weightsEach, hq])
  have hw8 : ∀ q ∈ DataW.weights Tryz.prog 45 y8.1, q ≤ reachBytes := fun q hq => hw q (by rw [hd]; simp only [DataW.weights, Tryz.underlying47, List.map_cons, List.map_nil]; simp [DataW.weightsEach, hq])
  obtain ⟨a0, e0, _⟩ := DataW.trod_int Tryz.underlying3 f0
  obtain ⟨a1, e1, _⟩ := DataW.trod_int Tryz.underlying3 f1
  obtain ⟨a2, e2, _⟩ := DataW.trod_int Tryz.underlying3 f2
  obtain ⟨a3, e3, _⟩ := DataW.trod_int Tryz.underlying3 f3
  obtain ⟨a6, e6, _⟩ := DataW.trod_int Tryz.underlying3 f6
  obtain ⟨a7, e7, _⟩ := DataW.trod_int Tryz.underlying3 f7
  obtain ⟨dv, D, e4, rd, dl⟩ := cellsBytes f4 hw4
  obtain ⟨hv', hb, e8, rh, hl8⟩ := cellsHashes f8 hw8
  obtain ⟨l5, b5⟩ := cellsHash f5
  have e5 := bytes_of (cs := ((Value.agg cs).cells.toList.drop 5).take 32) (fun i hi => b5 i (by rw [l5] at hi; exact hi))
  refine ⟨⟨a0, a1, a2, a3, dv, (((Value.agg cs).cells.toList.drop 5).take 32).map asB, a6, a7, hv'⟩, D, hb, ?_, ⟨⟨by rw [List.length_map, l5], ?_, ?_⟩, rd, rh, dl, hl8⟩⟩
  · have e := split40 _ hcs
    rw [e0, e1, e2, e3, e4, e5, e6, e7, e8] at e
    congr 1
    apply Array.ext'
    have e' : cs.toList = _ := e
    rw [e']
    simp [Mv.cs, Mv.ls]
  · obtain ⟨a, c, e, _⟩ := rd
    exact ⟨_, _, _, e⟩
  · obtain ⟨a, n, c, e, _⟩ := rh
    exact ⟨_, _, _, e⟩
end Go.Proofs.YtabjpffaleaoaaaGreatDoor
namespace Go.Proofs.YtabjpffaleaoaaaGreatDoor
open Go.ChangeShapes Go.WideShapes Go.ChangeAt Go.RowKit
set_option maxRecDepth 100000 in
/-- an argument that is a slice of bytes -/
theorem openBytes {H : Type} {enc : TypeId × Value → H} {W : World} {base : Nat} {v : Value} {d : DataW H} {p : List MemPlace} (hv : Value.okWide Tryz.prog W .any base 31 v)
    (h : DataW.Trod enc Tryz.prog W 0 (fun _ => true) true 31 v d p) (hw : ∀ q ∈ DataW.weights Tryz.prog 31 d, q ≤ reachBytes) :
    ∃ l, RB W v l ∧ l.length ≤ 140737488351232 := by
  obtain ⟨a, len, cap, rfl⟩ := okWide_slice Tryz.underlying31 hv
  obtain ⟨fuel, hf⟩ := h
  obtain ⟨v', l, e, hr, hl⟩ := cellsBytes hf hw
  have e2 : (Value.slice a len cap).cells.toList = [Value.slice a len cap] := rfl
  rw [e2] at e
  simp at e
  rw [e]
  exact ⟨l, hr, hl⟩
end Go.Proofs.YtabjpffaleaoaaaGreatDoor
namespace Go.Proofs.YtabjpffaleaoaaaGreatDoor
open Go.ChangeShapes Go.WideShapes Go.ChangeAt Go.RowKit Go.Deep
theorem bulk_pos {H : Type} : ∀ d : DataW H, 1 ≤ Rows.uptoBulk d
  | .lit (.string b) => by simp [Rows.uptoBulk]
  | .lit (.int _ _) => by simp [Rows.uptoBulk]
  | .lit (.bool _) => by simp [Rows.uptoBulk]
  | .lit (.float _ _) => by simp [Rows.uptoBulk]
  | .lit .nil => by simp [Rows.uptoBulk]
  | .nil => by simp [Rows.uptoBulk]
  | .ptr d => by simp [Rows.uptoBulk]
  | .slice _ _ => by simp [Rows.uptoBulk]
  | .agg _ => by simp [Rows.uptoBulk]
  | .iface _ d => by simp [Rows.uptoBulk]
  | .map _ => by simp [Rows.uptoBulk]
  | .held _ => by simp [Rows.uptoBulk]
theorem bulk_len {H : Type} : ∀ l : List (DataW H), l.length ≤ Rows.uptoBulkAll l
  | [] => by simp [Rows.uptoBulkAll]
  | d :: l => by
    have := bulk_len l
    have := bulk_pos d
    simp [Rows.uptoBulkAll]; omega
theorem bulk_mem {H : Type} {d : DataW H} : ∀ {l : List (DataW H)}, d ∈ l → Rows.uptoBulk d ≤ Rows.uptoBulkAll l
  | [], h => by cases h
  | a :: l, h => by
    simp only [Rows.uptoBulkAll]
    rcases List.mem_cons.1 h with rfl | h
    · omega
    · have := bulk_mem h; omega
section
variable {H : Type} {enc : TypeId × Value → H} {w : World}
theorem openRowB {t e : TypeId} (ht : Tryz.prog.underlying t = some (.slice e)) {fuel : Nat} {v : Value} {x : DataW H × List MemPlace} (h : DataW.trod enc Tryz.prog w 0 (fun _ => true) true fuel t [v] = some x) (hc : 0 < Tryz.prog.cellsOf e) :
    ∃ (a : Option Addr) (len cap : Nat), v = .slice a len cap ∧ len ≤ cap ∧ (len = 0 ∨ ∃ (m : Nat) (elems : List (DataW H × List MemPlace)), elems.length = len ∧ Rows.uptoBulkAll (elems.map (·.1)) + 1 ≤ Rows.uptoBulk x.1 ∧ ∃ b o, a = some ⟨b, o, none⟩ ∧ b < w.heap.size ∧
      ∀ i (hi : i < elems.length), ∃ cs, cs.length = Tryz.prog.cellsOf e ∧ (∀ j, j < Tryz.prog.cellsOf e → w.cell? ⟨b, o + i * Tryz.prog.cellsOf e + j, none⟩ = cs[j]?) ∧ DataW.trod enc Tryz.prog w 0 (fun _ => true) true m e cs = some elems[i]) := by
  rcases DataW.trod_slice ht h with ⟨h0, rfl⟩ | ⟨a, len, cap, elems, rest, m, rfl, h0, rfl, _, hlc, _, hlen, hel, _, _⟩
  · simp at h0
    exact ⟨none, 0, 0, h0, Nat.le_refl _, .inl rfl⟩
  simp at h0
  subst h0
  refine ⟨some a, len, cap, rfl, hlc, ?_⟩
  by_cases h00 : len = 0
  · exact .inl h00
  have key : ∀ i (hi : i < elems.length), ∃ cs, w.cells? 0 (a.add (i * Tryz.prog.cellsOf e)) (Tryz.prog.cellsOf e) = some cs ∧ DataW.trod enc Tryz.prog w 0 (fun _ => true) true m e cs = some elems[i] := by
    intro i hi
    have := hel i (by omega)
    rw [List.getElem?_eq_getElem (by omega)] at this
    obtain ⟨cs', h1, h2⟩ := Option.bind_eq_some_iff.1 this
    exact ⟨cs', h1, h2⟩
  have cellof : ∀ {a' : Addr} {c : Nat} {cs : List Value}, w.cells? 0 a' c = some cs → cs.length = c ∧ ∀ j, j < c → w.cell? (a'.add j) = cs[j]? := fun h => ⟨(World.cells?_some h).2.1, (World.cells?_some h).2.2⟩
  obtain ⟨b, o, spot⟩ := a
  have hspot : spot = none ∧ b < w.heap.size := by
    obtain ⟨cs, h1, _⟩ := key 0 (by omega)
    obtain ⟨hl, hj⟩ := cellof h1
    have := hj 0 hc
    rw [List.getElem?_eq_getElem (by omega)] at this
    have h2 := World.cell?_spot this
    have h3 := World.block_lt_of_cell? w _ this
    simp [Addr.add] at h2 h3
    exact ⟨h2, h3⟩
  obtain ⟨rfl, hb⟩ := hspot
  have hadd : ∀ o i : Nat, (⟨b, o, none⟩ : Addr).add i = ⟨b, o + i, none⟩ := by intro o i; unfold Addr.add; split <;> simp_all
  refine .inr ⟨m, elems, hlen, by simp only [Rows.uptoBulk]; omega, b, o, rfl, hb, fun i hi => ?_⟩
  obtain ⟨cs, h1, h2⟩ := key i hi
  obtain ⟨hl, hj⟩ := cellof h1
  refine ⟨cs, hl, fun j hj' => ?_, h2⟩
  have := hj j hj'
  rw [hadd, hadd] at this
  exact this
theorem cells5 : Tryz.prog.cellsOf 5 = 1 := by kernel_rfl
theorem cells3 : Tryz.prog.cellsOf 3 = 1 := by kernel_rfl
theorem cellsB : Tryz.prog.cellsOf 31 = 1 := by kernel_rfl
theorem lists_of {α : Type} (f : Nat → α) (n : Nat) : ∃ L : List α, L.length = n ∧ ∀ i, i < n → L[i]? = some (f i) :=
  ⟨(List.range n).map f, by simp, fun i hi => by simp [hi]⟩
/-- a list of bytes that is read, and its bulk -/
theorem openBytesB {fuel : Nat} {v : Value} {x : DataW H × List MemPlace} (h : DataW.trod enc Tryz.prog w 0 (fun _ => true) true fuel 31 [v] = some x) :
    ∃ l, RB w v l ∧ l.length + 1 ≤ Rows.uptoBulk x.1 := by
  obtain ⟨a, len, cap, rfl, hlc, hrow⟩ := openRowB Tryz.underlying31 h (by rw [cells5]; omega)
  rcases hrow with rfl | ⟨m, elems, hlen, hbulk, b, o, rfl, hlt, hel⟩
  · exact ⟨[], ⟨a, cap, rfl, hlc, .inl rfl⟩, by have := bulk_pos x.1; simpa using this⟩
  have : ∀ i, i < len → ∃ c : UInt8, w.cell? ⟨b, o + i, none⟩ = some (.int .u8 (c.toNat : Int)) := fun i hi => by
    obtain ⟨cs, hcl, hc, ht⟩ := hel i (by omega)
    have h0 := hc 0 (by rw [cells5]; omega)
    rw [cells5] at h0 hcl
    obtain ⟨y, rfl⟩ := List.length_eq_one_iff.1 hcl
    obtain ⟨z, e0, _, wa⟩ := DataW.trod_int Tryz.underlying5 ht
    have h255 : 0 ≤ z ∧ z ≤ 255 := by simpa [Lit.wf, IntKind.min, IntKind.max, IntKind.signed, IntKind.bits] using wa
    simp at e0
    subst e0
    refine ⟨UInt8.ofNat z.toNat, ?_⟩
    rw [UInt8.toNat_ofNat', Nat.mod_eq_of_lt (by omega)]
    simp at h0
    rw [h0]
    congr 2
    omega
  have hinh : Inhabited UInt8 := ⟨0⟩
  obtain ⟨f, hf⟩ := choose_lt this
  obtain ⟨l, rfl, hl⟩ := lists_of f len
  refine ⟨l, ⟨_, cap, rfl, hlc, .inr ⟨b, o, rfl, hlt, fun i hi => ?_⟩⟩, ?_⟩
  · have : byt l i = f i := by unfold byt; simp [List.getD, hl i hi]
    rw [this]; exact hf i hi
  · have := bulk_len (elems.map (·.1)); rw [List.length_map] at this; omega
set_option maxRecDepth 100000 in
theorem openBytesU {base : Nat} {v : Value} {d : DataW H} {ps : List MemPlace} (hv : Value.okWide Tryz.prog w .any base 31 v)
    (h : DataW.Trod enc Tryz.prog w 0 (fun _ => true) true 31 v d ps) : ∃ l, RB w v l ∧ l.length + 1 ≤ Rows.uptoBulk d := by
  obtain ⟨a0, len0, cap0, rfl⟩ := okWide_slice Tryz.underlying31 hv
  obtain ⟨fuel, hf⟩ := h
  have hf' : DataW.trod enc Tryz.prog w 0 (fun _ => true) true fuel 31 [.slice a0 len0 cap0] = some (d, ps) := hf
  exact openBytesB hf'
end
end Go.Proofs.YtabjpffaleaoaaaGreatDoor
