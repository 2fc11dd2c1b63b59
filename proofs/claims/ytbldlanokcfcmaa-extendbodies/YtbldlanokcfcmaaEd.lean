import Derived.Test.YtbldlanokcfcmaaEc
import Derived.Deep.RegionLaw
import Derived.Deep.Cut
namespace Go.Proofs.Ytbldlanokcfcmaa
open Go.RowKit
theorem wrap_byte (b : UInt8) : IntKind.i64.wrap (b.toNat : Int) = (b.toNat : Int) := by
  have := b.toNat_lt
  simp [IntKind.wrap, IntKind.signed, IntKind.bits]
  omega
theorem rb_drop2 {w : World} {g o c : Nat} {l : List UInt8} (h : RB w (.slice (some ⟨g, o, none⟩) l.length c) l) (hl : 2 ≤ l.length) : ∃ sa : Option Addr, (if c = 2 then some ⟨g, o, none⟩ else some ⟨g, o + 2, none⟩) = sa ∧ RB w (.slice sa (l.length - 2) (c - 2)) (l.drop 2) := by
  refine ⟨_, rfl, ?_⟩
  split
  · rename_i hc
    obtain ⟨a, c', e, hle, _⟩ := h
    simp only [Value.slice.injEq] at e
    obtain ⟨-, -, rfl⟩ := e
    have h0 : l.drop 2 = [] := List.drop_eq_nil_of_le (by omega)
    refine ⟨_, _, by rw [List.length_drop], by rw [List.length_drop]; omega, .inl h0⟩
  · exact rb_drop h hl
set_option maxHeartbeats 1000000 in
theorem openT (v : Value) (l : List UInt8) (w : World) (hr : RB w v l) : Calls Try.prog 9 #[v] w (QO w l) := by
  have HR : Hid (RB w v l) := hr
  obtain ⟨a, c, rfl, hlc, hx⟩ := hr
  by_cases h : 32768 < l.length
  · have HE : Hid (opL l = [] ∧ opN l = 213 ∧ opI l = 0) := ⟨by unfold opL; rw [if_pos h], by unfold opN; rw [if_pos h], by unfold opI; rw [if_pos h]⟩
    have q : decide ((32768 : Int) < (l.length : Int)) = true := decide_eq_true (by omega)
    clear h hx HR
    go_enter Try.func9, Try.ntmps9
    go_wp2
    go_ret3
    unfold QO
    rw [HE.out.1, HE.out.2.1, HE.out.2.2]
    exact ⟨_, _, rfl, rb_nil _, Below.refl _ _⟩
  have q : decide ((32768 : Int) < (l.length : Int)) = false := decide_eq_false (by omega)
  by_cases h2 : l.length < 2
  · have HE : Hid (opL l = [] ∧ opN l = 210 ∧ opI l = 0) := ⟨by unfold opL; rw [if_neg h, if_pos (.inl h2)], by unfold opN; rw [if_neg h, if_pos (.inl h2)], by unfold opI; rw [if_neg h, if_pos (.inl h2)]⟩
    have q2 : decide ((l.length : Int) < 2) = true := decide_eq_true (by omega)
    clear h h2 hx HR
    go_enter Try.func9, Try.ntmps9
    go_wp2
    go_ret3
    unfold QO
    rw [HE.out.1, HE.out.2.1, HE.out.2.2]
    exact ⟨_, _, rfl, rb_nil _, Below.refl _ _⟩
  have q2 : decide ((l.length : Int) < 2) = false := decide_eq_false (by omega)
  obtain ⟨g, o, rfl, hg, hc⟩ := hx.resolve_left (fun e => by rw [e] at h2; simp at h2)
  have c0 : w.cell? ⟨g, o, none⟩ = some (.int .u8 ((byt l 0).toNat : Int)) := hc 0 (by omega)
  have c1 : w.cell? ⟨g, o + 1, none⟩ = some (.int .u8 ((byt l 1).toNat : Int)) := hc 1 (by omega)
  obtain ⟨sa, hsa, hD⟩ := rb_drop2 HR.out (show 2 ≤ l.length by omega)
  have HD : Hid (RB w (.slice sa (l.length - 2) (c - 2)) (l.drop 2)) := hD
  clear hD
  by_cases h3 : byt l 0 = 20
  · have hn : ¬ (l.length < 2 ∨ byt l 0 ≠ 20) := fun e => by
      rcases e with e | e
      · omega
      · exact e h3
    have HE : Hid (opL l = l.drop 2 ∧ opN l = 0 ∧ opI l = (byt l 1).toNat) := ⟨by unfold opL; rw [if_neg h, if_neg hn], by unfold opN; rw [if_neg h, if_neg hn], by unfold opI; rw [if_neg h, if_neg hn]⟩
    have e20 : ((byt l 0).toNat : Int) = 20 := by rw [h3]; rfl
    rw [e20] at c0
    have hy : IntKind.i64.wrap ((byt l 1).toNat : Int) = ((byt l 1).toNat : Int) := wrap_byte _
    have HY : Hid ((byt l 1).toNat < 256) := (byt l 1).toNat_lt
    have hdl : (l.drop 2).length = l.length - 2 := List.length_drop
    have HQ := Lib.hid (clone (.slice sa (l.length - 2) (c - 2)) (l.drop 2) w.drew (HD.out.keep (belowDrew w 1)) (by rw [hdl]; omega))
    have HLEN : Hid (2 ≤ l.length ∧ l.length ≤ c) := ⟨by omega, hlc⟩
    clear h h2 h3 hn hc e20 hx HR
    generalize (byt l 1).toNat = y at *
    generalize hn : l.length = n at *
    obtain ⟨hp, hq⟩ := HLEN.out
    have hg1 : w.drew.cell? ⟨g, o + 1, none⟩ = some (.int .u8 (y : Int)) := c1
    go_enter Try.func9, Try.ntmps9
    go_upto_region 5 with fail
    refine wp_region_held_drew (S := fun x => x.cell? ⟨g, o + 1, none⟩ = some (.int .u8 (y : Int))) (by kernel_rfl) (hg1) (fun hHeld => ?_)
    refine wpAnyH_take (i := 0) (v := .slice (some ⟨g, o, none⟩) n c) rfl (by kernel_rfl) (by kernel_rfl) (by kernel_rfl) (fun _ _ _ h => h) (Or.inl ⟨by rfl, fun w hw => by go_simp⟩) hHeld ?_
    simp only [Act.put, List.getElem_toArray, List.getElem_cons_zero, List.setIfInBounds_toArray, List.set_cons_zero, List.set_cons_succ]
    refine wpAnyH_take (i := 1) (v := .pointer (some ⟨g, o + 1, none⟩)) rfl (by kernel_rfl) (by kernel_rfl) (by kernel_rfl) (fun _ _ _ h => h) (Or.inl ⟨by rfl, fun w hw => by go_simp; intro h9; exfalso; omega⟩) hHeld ?_
    simp only [Act.put, List.getElem_toArray, List.getElem_cons_zero, List.getElem_cons_succ, List.setIfInBounds_toArray, List.set_cons_zero, List.set_cons_succ]
    refine wpAnyH_take (i := 2) (v := .int .u8 (y : Int)) rfl (by kernel_rfl) (by kernel_rfl) (by kernel_rfl) (fun _ _ _ h => h) (Or.inl ⟨by rfl, fun w hw => by have h9 := hw; go_simp⟩) hHeld ?_
    simp only [Act.put, List.getElem_toArray, List.getElem_cons_zero, List.getElem_cons_succ, List.setIfInBounds_toArray, List.set_cons_zero, List.set_cons_succ]
    refine wpAnyH_take (i := 3) (v := .int .i64 (y : Int)) rfl (by kernel_rfl) (by kernel_rfl) (by kernel_rfl) (fun _ _ _ h => h) (Or.inl ⟨by rfl, fun w hw => by go_simp⟩) hHeld ?_
    simp only [Act.put, List.getElem_toArray, List.getElem_cons_zero, List.getElem_cons_succ, List.setIfInBounds_toArray, List.set_cons_zero, List.set_cons_succ]
    refine wpAnyH_take (i := 4) (v := .slice (some ⟨g, o, none⟩) n c) rfl (by kernel_rfl) (by kernel_rfl) (by kernel_rfl) (fun _ _ _ h => h) (Or.inl ⟨by rfl, fun w hw => by go_simp⟩) hHeld ?_
    simp only [Act.put, List.getElem_toArray, List.getElem_cons_zero, List.getElem_cons_succ, List.setIfInBounds_toArray, List.set_cons_zero, List.set_cons_succ]
    refine wpAnyH_take (i := 5) (v := .slice sa (n - 2) (c - 2)) rfl (by kernel_rfl) (by kernel_rfl) (by kernel_rfl) (fun _ _ _ h => h) (Or.inl ⟨by rfl, fun w hw => by go_simp; intro h9; exfalso; omega⟩) hHeld ?_
    simp only [Act.put, List.getElem_toArray, List.getElem_cons_zero, List.getElem_cons_succ, List.setIfInBounds_toArray, List.set_cons_zero, List.set_cons_succ]
    refine wpAnyH_ready (rs := [6]) (by kernel_rfl) (by simp) ?_
    refine AllReadyH.cons (o := _) rfl (fun K hK => ?_) AllReadyH.nil
    go_simp
    refine HQ.out.mono ?_
    rintro e w1 ⟨v1, rfl, o1, b1⟩
    obtain ⟨a1, c1', rfl⟩ := o1.form
    have b2 : Below w.heap.size w w1 := (belowDrew w 1).trans b1
    have hS : w1.cell? ⟨g, o + 1, none⟩ = some (.int .u8 (y : Int)) := (b2.cell (p := ⟨g, o + 1, none⟩) hg).trans c1
    have H2 : Hid (RB w1 (.slice a1 (l.drop 2).length c1') (l.drop 2) ∧ Below w.heap.size w w1) := ⟨o1.rb, b2⟩
    clear o1 b1 b2 HQ
    go_wp2_with fail
    refine hK.out _ _ hS (fun hHeld => ?_)
    clear hK K
    refine wpAnyH_ready (rs := [7]) (by kernel_rfl) (by simp) ?_
    refine AllReadyH.cons (o := _) rfl (fun K hK => ?_) AllReadyH.nil
    go_simp
    refine hK.out _ _ hS (fun hHeld => ?_)
    clear hK K
    refine wpAnyH_ready (rs := [8]) (by kernel_rfl) (by simp) ?_
    refine AllReadyH.cons (o := _) rfl (fun K hK => ?_) AllReadyH.nil
    go_simp
    refine hK.out _ _ hS (fun hHeld => ?_)
    clear hK K
    refine wpAnyH_ready (rs := [9]) (by kernel_rfl) (by simp) ?_
    refine AllReadyH.cons (o := _) rfl (fun K hK => ?_) AllReadyH.nil
    go_simp
    refine hK.out _ _ hS (fun hHeld => ?_)
    clear hK K
    refine wpAnyH_done (by kernel_rfl) ?_ _
    clear hHeld
    go_wp2
    go_ret3
    unfold QO
    have h9 := H2.out.1
    rw [hdl] at h9
    rw [HE.out.1, HE.out.2.1, HE.out.2.2, hdl]
    exact ⟨_, _, rfl, h9, H2.out.2⟩
  · have hn : l.length < 2 ∨ byt l 0 ≠ 20 := .inr h3
    have HE : Hid (opL l = [] ∧ opN l = 210 ∧ opI l = 0) := ⟨by unfold opL; rw [if_neg h, if_pos hn], by unfold opN; rw [if_neg h, if_pos hn], by unfold opI; rw [if_neg h, if_pos hn]⟩
    have q3 : (((byt l 0).toNat : Int) == 20) = false := beq_eq_false_iff_ne.2 (fun e => h3 (UInt8.toNat_inj.1 (by show _ = 20; omega)))
    have hp : 2 ≤ l.length := by omega
    clear h h2 h3 hn hc hx HR HD c1
    generalize ((byt l 0).toNat : Int) = y at *
    generalize hn : l.length = n at *
    go_enter Try.func9, Try.ntmps9
    go_wp2
    go_ret3
    unfold QO
    rw [HE.out.1, HE.out.2.1, HE.out.2.2]
    exact ⟨_, _, rfl, rb_nil _, Below.refl _ _⟩
set_option maxHeartbeats 1000000 in
theorem ropenT (v : Value) (l : List UInt8) (w : World) (hr : RB w v l) : Calls Try.prog 10 #[v] w (QO w l) := by
  have HR : Hid (RB w v l) := hr
  obtain ⟨a, c, rfl, hlc, hx⟩ := hr
  by_cases h : 32768 < l.length
  · have HE : Hid (opL l = [] ∧ opN l = 213 ∧ opI l = 0) := ⟨by unfold opL; rw [if_pos h], by unfold opN; rw [if_pos h], by unfold opI; rw [if_pos h]⟩
    have q : decide ((32768 : Int) < (l.length : Int)) = true := decide_eq_true (by omega)
    clear h hx HR
    go_enter Try.func10, Try.ntmps10
    go_wp2
    go_ret3
    unfold QO
    rw [HE.out.1, HE.out.2.1, HE.out.2.2]
    exact ⟨_, _, rfl, rb_nil _, Below.refl _ _⟩
  have q : decide ((32768 : Int) < (l.length : Int)) = false := decide_eq_false (by omega)
  by_cases h2 : l.length < 2
  · have HE : Hid (opL l = [] ∧ opN l = 210 ∧ opI l = 0) := ⟨by unfold opL; rw [if_neg h, if_pos (.inl h2)], by unfold opN; rw [if_neg h, if_pos (.inl h2)], by unfold opI; rw [if_neg h, if_pos (.inl h2)]⟩
    have q2 : decide ((l.length : Int) < 2) = true := decide_eq_true (by omega)
    clear h h2 hx HR
    go_enter Try.func10, Try.ntmps10
    go_wp2
    go_ret3
    unfold QO
    rw [HE.out.1, HE.out.2.1, HE.out.2.2]
    exact ⟨_, _, rfl, rb_nil _, Below.refl _ _⟩
  have q2 : decide ((l.length : Int) < 2) = false := decide_eq_false (by omega)
  obtain ⟨g, o, rfl, hg, hc⟩ := hx.resolve_left (fun e => by rw [e] at h2; simp at h2)
  have c0 : w.cell? ⟨g, o, none⟩ = some (.int .u8 ((byt l 0).toNat : Int)) := hc 0 (by omega)
  have c1 : w.cell? ⟨g, o + 1, none⟩ = some (.int .u8 ((byt l 1).toNat : Int)) := hc 1 (by omega)
  obtain ⟨sa, hsa, hD⟩ := rb_drop2 HR.out (show 2 ≤ l.length by omega)
  have HD : Hid (RB w (.slice sa (l.length - 2) (c - 2)) (l.drop 2)) := hD
  clear hD
  by_cases h3 : byt l 0 = 20
  · have hn : ¬ (l.length < 2 ∨ byt l 0 ≠ 20) := fun e => by
      rcases e with e | e
      · omega
      · exact e h3
    have HE : Hid (opL l = l.drop 2 ∧ opN l = 0 ∧ opI l = (byt l 1).toNat) := ⟨by unfold opL; rw [if_neg h, if_neg hn], by unfold opN; rw [if_neg h, if_neg hn], by unfold opI; rw [if_neg h, if_neg hn]⟩
    have e20 : ((byt l 0).toNat : Int) = 20 := by rw [h3]; rfl
    rw [e20] at c0
    have HY : Hid ((byt l 1).toNat < 256) := (byt l 1).toNat_lt
    have hdl : (l.drop 2).length = l.length - 2 := List.length_drop
    have H0 : Hid (OW w.heap.size w (.slice none 0 0) []) := World.ownsRow_nil _ _ _ _
    have HLEN : Hid (2 ≤ l.length ∧ l.length ≤ c ∧ (l.drop 2).length ≤ 140737488351232) := ⟨by omega, hlc, by rw [hdl]; omega⟩
    have hy : IntKind.i64.wrap ((byt l 1).toNat : Int) = ((byt l 1).toNat : Int) := wrap_byte _
    clear h h2 h3 hn hc e20 hx HR
    generalize (byt l 1).toNat = y at *
    generalize hn : l.length = n at *
    obtain ⟨hp, hq, -⟩ := HLEN.out
    go_enter Try.func10, Try.ntmps10
    go_wp2_with (at_builtin; refine append_bytes rfl _ _ rfl rfl H0.out rfl HD.out (Nat.le_refl _) (by simpa using HLEN.out.2.2) ?_; intro v' w1 ho1 hb1; rw [List.nil_append] at ho1; obtain ⟨a', c', rfl⟩ := ho1.form; have c1' := (hb1.cell (p := ⟨g, o + 1, none⟩) hg).trans c1)
    go_ret3
    unfold QO
    have h9 := ho1.rb
    rw [hdl] at h9
    rw [HE.out.1, HE.out.2.1, HE.out.2.2, hdl]
    exact ⟨_, _, rfl, h9, hb1⟩
  · have hn : l.length < 2 ∨ byt l 0 ≠ 20 := .inr h3
    have HE : Hid (opL l = [] ∧ opN l = 210 ∧ opI l = 0) := ⟨by unfold opL; rw [if_neg h, if_pos hn], by unfold opN; rw [if_neg h, if_pos hn], by unfold opI; rw [if_neg h, if_pos hn]⟩
    have q3 : (((byt l 0).toNat : Int) == 20) = false := beq_eq_false_iff_ne.2 (fun e => h3 (UInt8.toNat_inj.1 (by show _ = 20; omega)))
    have hp : 2 ≤ l.length := by omega
    clear h h2 h3 hn hc hx HR HD c1
    generalize ((byt l 0).toNat : Int) = y at *
    generalize hn : l.length = n at *
    go_enter Try.func10, Try.ntmps10
    go_wp2
    go_ret3
    unfold QO
    rw [HE.out.1, HE.out.2.1, HE.out.2.2]
    exact ⟨_, _, rfl, rb_nil _, Below.refl _ _⟩
theorem opL_len (l : List UInt8) : (opL l).length ≤ 140737488351232 := by
  unfold opL
  split
  · simp
  · split
    · simp
    · rw [List.length_drop]; omega
set_option maxHeartbeats 1000000 in
theorem opensLaw (v : Value) (l : List UInt8) (w : World) (hr : RB w v l) (hl : l.length ≤ 140737488351232) : Calls Try.prog 4 #[v] w fun e w' => e = .returned (.bool true) ∧ Below w.heap.size w w' := by
  have HR : Hid (RB w v l) := hr
  have HL : Hid (l.length ≤ 140737488351232) := hl
  obtain ⟨a, c, rfl, _, _⟩ := hr
  go_enter Try.func4, Try.ntmps4
  go_wp2_with fail
  refine (copied HR.out HL.out).mono ?_
  rintro e w1 ⟨v1, rfl, o1, b1⟩
  obtain ⟨a1, c1, rfl⟩ := o1.form
  have H1 : Hid (RB w1 (.slice a1 l.length c1) l ∧ RB w1 (.slice a l.length c) l ∧ Below w.heap.size w w1) := ⟨o1.rb, HR.out.keep b1, b1⟩
  clear o1 b1
  go_wp2_with fail
  refine (openT _ l w1 H1.out.1).mono ?_
  rintro e w2 ⟨a2, c2, rfl, r2, b2⟩
  have H2 : Hid (RB w2 (.slice a1 l.length c1) l ∧ RB w2 (.slice a l.length c) l ∧ Below w.heap.size w w2 ∧ RB w2 (.slice a2 (opL l).length c2) (opL l)) := ⟨H1.out.1.keep b2, H1.out.2.1.keep b2, H1.out.2.2.trans (b2.mono H1.out.2.2.size), r2⟩
  clear r2 b2
  go_wp2_with fail
  refine (ropenT _ l w2 H2.out.2.1).mono ?_
  rintro e w3 ⟨a3, c3, rfl, r3, b3⟩
  have H3 : Hid (RB w3 (.slice a1 l.length c1) l ∧ RB w3 (.slice a l.length c) l ∧ Below w.heap.size w w3 ∧ RB w3 (.slice a2 (opL l).length c2) (opL l) ∧ RB w3 (.slice a3 (opL l).length c3) (opL l)) := ⟨H2.out.1.keep b3, H2.out.2.1.keep b3, H2.out.2.2.1.trans (b3.mono H2.out.2.2.1.size), H2.out.2.2.2.keep b3, r3⟩
  clear r3 b3
  go_wp2_with fail
  refine (same _ _ _ w3 (opL_len l) H3.out.2.2.2.1 H3.out.2.2.2.2).mono ?_
  rintro e w4 ⟨rfl, nn, rfl⟩
  have H4 : Hid (RB (w3.drewN nn) (.slice a1 l.length c1) l ∧ RB (w3.drewN nn) (.slice a l.length c) l) := ⟨H3.out.1.keep (belowDrew w3 nn), H3.out.2.1.keep (belowDrew w3 nn)⟩
  go_wp2_with fail
  refine (same _ _ _ _ HL.out H4.out.1 H4.out.2).mono ?_
  rintro e w5 ⟨rfl, nm, rfl⟩
  go_wp2
  go_ret
  exact ⟨rfl, belowN H3.out.2.2.1 _⟩
end Go.Proofs.Ytbldlanokcfcmaa
