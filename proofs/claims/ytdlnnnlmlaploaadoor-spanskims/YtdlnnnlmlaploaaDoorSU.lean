import Derived.Test.YtdlnnnlmlaploaaDoorSP
import Derived.Test.YtdlnnnlmlaploaaDoorSQ
namespace Go.Proofs.YtdlnnnlmlaploaaDoor
open Go.RowKit Go.Deep
def SL (t : T) (er : Int) : List Vi := if er = 0 then (walkT t 0 (dueS [])).map Sp.v else []
theorem SKA.rsp {b : List UInt8} {B : Nat} {w : World} {v : Value} {k : Nat} {er : Int} (h : SKA b B w v k er) : ∃ t, DOUT b t k er ∧ RSp w v (SL t er) ∧ (SL t er).length ≤ 140737488351232 := by
  obtain ⟨t, hd, h⟩ := h
  refine ⟨t, hd, ?_⟩
  rcases h with ⟨he, rfl⟩ | ⟨rfl, h⟩
  · unfold SL
    rw [if_neg he]
    exact ⟨RSp.nil w, Nat.zero_le _⟩
  · have e : SL t 0 = (walkT t 0 (dueS [])).map Sp.v := if_pos rfl
    obtain ⟨h1, h2, h3⟩ := dout_txt hd
    have hw := walk_len t 0 (dueS []) (vt_of_wk t _ h2.1)
    rw [← h1] at hw
    rw [e]
    exact ⟨RSp.of_own (by rw [List.length_map]; rfl) rfl h, by rw [List.length_map]; omega⟩
set_option maxRecDepth 10000 in
set_option maxHeartbeats 2000000 in
theorem skims5 (v : Value) (b : List UInt8) (w : World) (hr : RB w v b) (hs : v = .slice none 0 0 ∨ ∃ ad n c, v = .slice (some ad) n c) (hl : b.length ≤ 140737488351232) (hev : EVw w) (hT : TB w.heap.size w) :
    Calls Tryd.prog 5 #[v] w fun e w' => e = .returned (.bool true) ∧ Below w.heap.size w w' := by
  have HR := Lib.hid (And.intro hr (And.intro hs (And.intro hev hT)))
  obtain ⟨a, c, rfl, _⟩ := hr
  clear hs hev hT
  go_enter Tryd.func5, Tryd.ntmps5
  go_wp2_with fail
  refine (twin13 _ b w HR.out.1 HR.out.2.1 hl).mono ?_
  rintro e w1 ⟨v1, rfl, ho, hb1⟩
  obtain ⟨a1, c1, rfl⟩ := ho.form'
  have HO : Hid (RB w1 (.slice a1 b.length c1) b ∧ RB w1 (.slice a b.length c) b ∧ EVw w1 ∧ TB w1.heap.size w1 ∧ Below w.heap.size w w1) := ⟨ho.rb, HR.out.1.keep hb1, HR.out.2.2.1.keep hb1, tb_up (HR.out.2.2.2.on hb1) hb1.size, hb1⟩
  clear ho hb1 HR
  go_wp2_with fail
  refine (skim14 _ b _ HO.out.2.1 HO.out.2.2.1).mono ?_
  rintro e w2 ⟨sv, p, er, rfl, hsk, hb2⟩
  obtain ⟨k, rfl, hsk2⟩ := SKO.out hsk
  obtain ⟨t, hd, hrs, hsl⟩ := hsk2.rsp
  have H2 : Hid (RB w2 (.slice a1 b.length c1) b ∧ RB w2 (.slice a b.length c) b ∧ TB w2.heap.size w2 ∧ Below w.heap.size w w2 ∧ RSp w2 sv (SL t er) ∧ DOUT b t k er ∧ (SL t er).length ≤ 140737488351232) := by
    obtain ⟨q1, q2, q3, q4, q5⟩ := HO.out
    exact ⟨q1.keep hb2, q2.keep hb2, tb_up (q4.on hb2) hb2.size, q5.trans (hb2.mono q5.size), hrs, hd, hsl⟩
  clear HO hsk hsk2 hd hrs hsl hb2
  go_wp2_with fail
  refine (skim15 _ b _ H2.out.1 hl H2.out.2.2.1).mono ?_
  rintro e w3 ⟨sv', k', er', rfl, hsk, hb3⟩
  obtain ⟨t', hd, hrs, _⟩ := hsk.rsp
  obtain ⟨rfl, rfl, rfl⟩ := DOUT.unique H2.out.2.2.2.2.2.1 hd
  have H3 : Hid (RB w3 (.slice a1 b.length c1) b ∧ RB w3 (.slice a b.length c) b ∧ Below w.heap.size w w3 ∧ RSp w3 sv (SL t er) ∧ RSp w3 sv' (SL t er) ∧ (SL t er).length ≤ 140737488351232) := by
    obtain ⟨q1, q2, q3, q4, q5, q6, q7⟩ := H2.out
    exact ⟨q1.keep hb3, q2.keep hb3, q4.trans (hb3.mono q4.size), q5.keep hb3, hrs, q7⟩
  clear H2 hsk hd hrs hb3
  go_wp2_with fail
  refine (spansSame16 _ _ _ _ H3.out.2.2.2.2.2 H3.out.2.2.2.1 H3.out.2.2.2.2.1).mono ?_
  rintro e w4 ⟨rfl, hb4⟩
  have H4 : Hid (RB w4 (.slice a1 b.length c1) b ∧ RB w4 (.slice a b.length c) b ∧ Below w.heap.size w w4) := by
    obtain ⟨q1, q2, q3, _⟩ := H3.out
    exact ⟨q1.keep hb4, q2.keep hb4, q3.trans (hb4.mono q3.size)⟩
  clear H3 hb4
  go_wp2_with fail
  refine (same9 _ _ b _ hl H4.out.2.1 H4.out.1).mono ?_
  rintro e w6 ⟨rfl, nq, rfl⟩
  go_wp2
  go_ret
  have h := H4.out.2.2
  exact ⟨rfl, ⟨h.os, h.tape, h.output, h.size, h.block⟩⟩
end Go.Proofs.YtdlnnnlmlaploaaDoor
