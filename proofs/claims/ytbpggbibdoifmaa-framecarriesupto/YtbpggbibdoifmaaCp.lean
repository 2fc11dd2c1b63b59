import Derived.Test.YtbpggbibdoifmaaBs
namespace Go.Proofs.Ytbpggbibdoifmaa
open Go.RowKit
theorem sok_sgn (x : List UInt8) : sok (sgn ++ x) 0 = true := (sokp _ 0).2 fun j _ hj => by
  rw [Nat.zero_add] at hj ⊢
  exact byt_left sgn x j hj
theorem hel_mk (hb x : List UInt8) (h : hb.length = 48) : hel (sgn ++ hb ++ x) = hb := by
  unfold hel
  have e : (sgn ++ (hb ++ x)).drop 20 = hb ++ x := List.drop_left' rfl
  rw [List.append_assoc, e, List.take_left' h]
theorem rd_carry (hb : List UInt8) (hhl : hb.length = 48) (L : List (List UInt8)) (hL : ∀ b ∈ L, b.length ≤ 32768) (x : List UInt8) {bs : List (List UInt8)} {r : List UInt8} {e : Int} (h : Rd false x [] bs false r e) : Rd true (sgn ++ hb ++ (fms L ++ x)) [hb] (L ++ bs) false r e := by
  have hd : (sgn ++ hb ++ (fms L ++ x)).drop 68 = fms L ++ x := List.drop_left' (by simp [sgn, hhl])
  have y := Rd.hello (sgn ++ hb ++ (fms L ++ x)) [] (L ++ bs) false r e (by rw [List.append_assoc]; exact sok_sgn _) (by simp [sgn, hhl]) (by rw [hd]; exact rd_fms L hL x h)
  rw [hel_mk hb _ hhl] at y
  exact y
theorem rd_all (hb : List UInt8) (hhl : hb.length = 48) (L : List (List UInt8)) (hL : ∀ b ∈ L, b.length ≤ 32768) : Rd true (sgn ++ hb ++ fms L) [hb] L false [] 0 := by
  have := rd_carry hb hhl L hL [] (Rd.num [] (by simp))
  rwa [List.append_nil, List.append_nil] at this
theorem rd_none (hb : List UInt8) : Rd true ((sgn ++ hb).take 67) [] [] true ((sgn ++ hb).take 67) 0 := by
  refine Rd.few _ ?_ (by rw [List.length_take]; omega)
  have := sok_sgn hb
  rw [← List.take_append_drop 67 (sgn ++ hb), sok_split] at this
  simp only [Bool.and_eq_true] at this
  exact this.1
theorem rd_tail (t : List UInt8) (ht : t.length ≤ 32768) : Rd false ((frm t).take (3 + t.length)) [] [] false ((frm t).take (3 + t.length)) 0 := by
  have hl : ((frm t).take (3 + t.length)).length = 3 + t.length := by rw [List.length_take, frm_len]; omega
  by_cases h0 : t.length = 0
  · exact Rd.num _ (by omega)
  · have hn : nm ((frm t).take (3 + t.length)) = t.length := by
      have e := nm_app ((frm t).take (3 + t.length)) ((frm t).drop (3 + t.length)) (by omega)
      rw [List.take_append_drop] at e
      rw [← e]
      exact nm_be4 _ _ (by omega)
    exact Rd.part _ (by omega) (by omega) (by omega)
theorem rd_cut (hb : List UInt8) (hhl : hb.length = 48) (I : List (List UInt8)) (t : List UInt8) (hL : ∀ b ∈ I ++ [t], b.length ≤ 32768) (m : Nat) (hm : (sgn ++ hb ++ fms (I ++ [t])).length = m + 1) :
    Rd true ((sgn ++ hb ++ fms (I ++ [t])).take m) [hb] I false ((frm t).take (3 + t.length)) 0 := by
  have e : (sgn ++ hb ++ fms (I ++ [t])).take m = sgn ++ hb ++ (fms I ++ (frm t).take (3 + t.length)) := by
    rw [fms_snoc] at hm ⊢
    have hf := frm_len t
    generalize sgn ++ hb = A at *
    rw [List.length_append, List.length_append] at hm
    rw [List.take_append, List.take_of_length_le (by omega), List.take_append, List.take_of_length_le (by omega)]
    congr 3
    omega
  rw [e]
  have := rd_carry hb hhl I (fun b h => hL b (List.mem_append_left _ h)) _ (rd_tail t (hL t (by simp)))
  rwa [List.append_nil] at this
theorem cut_last (hb : List UInt8) (I : List (List UInt8)) (t : List UInt8) (m : Nat) (hm : (sgn ++ hb ++ fms (I ++ [t])).length = m + 1) :
    (frm t).take (3 + t.length) ++ (sgn ++ hb ++ fms (I ++ [t])).drop m = frm t := by
  have hf := frm_len t
  have e : (sgn ++ hb ++ fms (I ++ [t])).drop m = (frm t).drop (3 + t.length) := by
    rw [fms_snoc] at hm ⊢
    rw [← List.append_assoc] at hm ⊢
    rw [List.length_append] at hm
    rw [List.drop_append, List.drop_of_length_le (by omega), List.nil_append]
    congr 1
    omega
  rw [e, List.take_append_drop]
theorem rd_frm1 (t : List UInt8) (ht : t.length ≤ 32768) : Rd false (frm t) [] [t] false [] 0 := by
  have := rd_frm t [] ht (Rd.num [] (by simp))
  rwa [List.append_nil] at this
theorem RI.keepB {w w' : World} {v : Value} {zs : List Int} (h : RI w v zs) (hb : Below w.heap.size w w') : RI w' v zs := by
  obtain ⟨a, c, e, h1, h2⟩ := h
  refine ⟨a, c, e, h1, ?_⟩
  rcases h2 with h2 | ⟨g, o, h2, h3, h4⟩
  · exact .inl h2
  · exact .inr ⟨g, o, h2, Nat.lt_of_lt_of_le h3 hb.size, fun i hi => (hb.cell (p := ⟨g, o + i, none⟩) h3).trans (h4 i hi)⟩
theorem rb_take {w : World} {ba : Option Addr} {m bcap : Nat} {l : List UInt8} (h : RB w (.slice ba (m + 1) bcap) l) (hl : l.length = m + 1) : RB w (.slice ba m bcap) (l.take m) := by
  rw [← hl] at h
  exact h.take m (by omega)
theorem rb_last {w : World} {ba : Option Addr} {m bcap : Nat} {l : List UInt8} (h : RB w (.slice ba (m + 1) bcap) l) (hl : l.length = m + 1) : RB w (.slice (ba.map (·.add m)) 1 (bcap - m)) (l.drop m) := by
  rw [← hl] at h
  have hle := h.le
  have := h.cut (m := m) (n := l.length) (by omega) (Nat.le_refl _)
  rw [if_neg (by omega), List.take_of_length_le (by rw [List.length_drop]; omega), show l.length - m = 1 by omega] at this
  exact this
theorem rbs_init {w : World} {a : Option Addr} {c : Nat} {I : List (List UInt8)} {t : List UInt8} (h : RBS w (.slice a (I.length + 1) c) (I ++ [t])) : RBS w (.slice a I.length c) I := by
  obtain ⟨a', c', e, hle, h⟩ := h
  simp only [List.length_append, List.length_singleton, Value.slice.injEq, true_and] at e hle
  obtain ⟨rfl, rfl⟩ := e
  refine ⟨a, c, rfl, by omega, ?_⟩
  rcases h with h | ⟨g, o, e, hg, h⟩
  · simp at h
  · refine .inr ⟨g, o, e, hg, fun i hi => ?_⟩
    obtain ⟨u, h1, h2⟩ := h i (by simp; omega)
    rw [List.getD_eq_getElem?_getD, List.getElem?_append_left hi, ← List.getD_eq_getElem?_getD] at h2
    exact ⟨u, h1, h2⟩
/-- the last of a row of lists that were there before -/
theorem RR.last {w0 w : World} {a : Option Addr} {c : Nat} {I : List (List UInt8)} {t : List UInt8} (h : RR w0 w (.slice a (I.length + 1) c) (I ++ [t])) : ∃ g ta tc, a = some ⟨g, 0, none⟩ ∧ (∃ cs f, w.heap[g]? = some (.cells cs 22 f)) ∧ w.cell? ⟨g, I.length, none⟩ = some (.slice ta t.length tc) ∧ RB w0 (.slice ta t.length tc) t := by
  obtain ⟨us, h1, h2, h3⟩ := h
  have h4 := h3 I.length (by simp)
  rw [List.getD_eq_getElem?_getD (l := I ++ [t]), List.getElem?_append_right (Nat.le_refl _)] at h4
  simp only [Nat.sub_self, List.getElem?_cons_zero, Option.getD_some] at h4
  have h5 := h4
  obtain ⟨ta, tc, e, _⟩ := h5
  rw [e] at h4
  have h6 : w.ownsRow w0.heap.size 22 1 (.slice a (I.length + 1) c) (I.length + 1) us := by simpa using h2
  rcases h6.2 with ⟨e1, _⟩ | ⟨g, cap, cur, e1, _, e3, _⟩
  · simp at e1
  · have hl : I.length < us.length := by rw [h1]; simp
    cases e1
    have hc := World.ownsRow.cellAt h6 I.length (by omega)
    refine ⟨g, ta, tc, rfl, ⟨_, _, e3⟩, ?_, h4⟩
    rw [List.getD_eq_getElem?_getD, List.getElem?_eq_getElem hl] at e
    simp at e
    rw [hc, List.getElem?_eq_getElem hl, e]
theorem RN.of_two {w7 wx : World} {v hv : Value} {l : List UInt8} (h7 : RB w7 v l) (hx : RB wx v l) (hb : ∀ g, hv.ownBlock = some g → w7.heap.size ≤ g) : RN (fun g => hv.ownBlock ≠ some g) wx v l := by
  obtain ⟨a, c, e, h1, h2⟩ := hx
  obtain ⟨a', c', e', _, h2'⟩ := h7
  rw [e] at e'
  cases e'
  refine ⟨a, c, e, h1, ?_⟩
  rcases h2 with h2 | ⟨g, o, ea, hg, h2⟩
  · exact .inl h2
  · rcases h2' with h2' | ⟨g', o', ea', hg', _⟩
    · exact .inl h2'
    · rw [ea] at ea'
      cases ea'
      exact .inr ⟨g, o, ea, fun hq => by have := hb g hq; omega, hg, h2⟩
/-- behind the second push -/
structure TE (W0 w7 : World) (I : List (List UInt8)) (t l r : List UInt8) (bv sv mv xv : Value) (R N p s : Nat) (hv : Value) (held : List UInt8) (wx : World) : Prop where
  ta : TA W0 (I ++ [t]) l bv sv wx
  x2 : wx.heap[N]? = some (.cells #[mv, xv, .int .i64 0] 36 (0, 0))
  b2 : RBS wx xv I
  rk : RK wx R p s hv 0
  ow : OW (R + 1) wx hv held
  st : St p s held ∧ tx p s held = r ∧ (p == 2) = false
  nil : held = [] → hv = .slice none 0 0
  hb : ∀ g, hv.ownBlock = some g → w7.heap.size ≤ g
theorem TE.keep {W0 w7 : World} {I : List (List UInt8)} {t l r : List UInt8} {bv sv mv xv : Value} {R N p s : Nat} {hv : Value} {held : List UInt8} {wx w2 : World} (h : TE W0 w7 I t l r bv sv mv xv R N p s hv held wx) (hb : Below wx.heap.size wx w2) : TE W0 w7 I t l r bv sv mv xv R N p s hv held w2 :=
  ⟨h.ta.keep hb, (hb.block _ (Array.getElem?_eq_some_iff.1 h.x2).1).trans h.x2, h.b2.keep hb, (hb.block R h.rk.lt).trans h.rk, h.ow.grow hb, h.st, h.nil, h.hb⟩
theorem TE.rq {W0 w7 : World} {I : List (List UInt8)} {t l r : List UInt8} {bv sv mv xv : Value} {R N p s : Nat} {hv : Value} {held : List UInt8} {wx : World} (h : TE W0 w7 I t l r bv sv mv xv R N p s hv held wx) : RQ wx R 0 r :=
  ⟨p, s, hv, held, h.rk, h.ow, fun _ => ⟨h.st.1, h.st.2.1⟩, fun e => absurd rfl e⟩
/-- the last push -/
theorem lastPush {W0 w7 : World} {I : List (List UInt8)} {t l r : List UInt8} {ba : Option Addr} {m bcap : Nat} {sa : Option Addr} {scap : Nat} {mv xv : Value} {R N p s : Nat} {hv : Value} {held : List UInt8} {wx : World} (h : TE W0 w7 I t l r (.slice ba (m + 1) bcap) (.slice sa (I.length + 1) scap) mv xv R N p s hv held wx)
    (h7 : RB w7 (.slice ba (m + 1) bcap) l) (hl : l.length = m + 1) (hr : r ++ l.drop m = frm t) (ht : t.length ≤ 32768) (hW : W0.heap.size ≤ R) (hW7 : W0.heap.size ≤ w7.heap.size) (hrow : RR W0 w7 (.slice sa (I.length + 1) scap) (I ++ [t])) :
    Calls Try.prog 22 #[.pointer (some ⟨R, 0, none⟩), .slice (ba.map (·.add m)) 1 (bcap - m)] wx fun e w' => ∃ ma mc bg bcc ua uc sg ta tc, e = .returned (.tuple #[.slice ma 0 mc, .slice (some ⟨bg, 0, none⟩) 1 bcc, .int .i64 0]) ∧ sa = some ⟨sg, 0, none⟩ ∧ w'.cell? ⟨bg, 0, none⟩ = some (.slice ua t.length uc) ∧ RB w' (.slice ua t.length uc) t ∧ w'.cell? ⟨sg, I.length, none⟩ = some (.slice ta t.length tc) ∧ RB w' (.slice ta t.length tc) t ∧ RQ w' R 0 [] ∧ Below W0.heap.size W0 w' := by
  have hlast := rb_last h.ta.ow.rb hl
  have hrn : RN (fun g => hv.ownBlock ≠ some g) wx (.slice (ba.map (·.add m)) 1 (bcap - m)) (l.drop m) := RN.of_two (rb_last h7 hl) hlast h.hb
  refine (push wx R p s hv _ held (l.drop m) h.rk h.st.1 h.ow h.nil hrn (by rw [List.length_drop]; omega)).mono ?_
  rintro e w' ⟨mv3, bv3, er, met, bs, h', r', p', s', held', hv', rfl, q⟩
  have hrd := q.rd
  rw [h.st.2.2, h.st.2.1, hr] at hrd
  obtain ⟨q1, q2, q3, q4, q5⟩ := (rd_frm1 t ht).det hrd
  subst q1 q2 q3 q4 q5
  obtain ⟨ma, mc, hmf⟩ := q.om.form
  obtain ⟨sg, ta, tc, hsa, ⟨cs, f, hcs⟩, hcell, hrt⟩ := hrow.last
  have hbel : Below W0.heap.size W0 w' := ⟨q.fr.os.trans h.ta.bel.os, q.fr.tape.trans h.ta.bel.tape, q.fr.output.trans h.ta.bel.output, Nat.le_trans h.ta.bel.size q.fr.size, fun k hk => (q.fr.block k (Nat.lt_of_lt_of_le hk h.ta.bel.size) ⟨by omega, fun e => by have := h.hb k e; omega⟩).trans (h.ta.bel.block k hk)⟩
  obtain ⟨sg', ta', tc', hsa', ⟨cs', f', hcs'⟩, hcell', hrt'⟩ := h.ta.rr.last
  rw [hsa] at hsa'
  cases hsa'
  have hsgl : sg < w7.heap.size := (Array.getElem?_eq_some_iff.1 hcs).1
  have hblk : w'.heap[sg]? = wx.heap[sg]? := q.fr.block sg (Array.getElem?_eq_some_iff.1 hcs').1 ⟨fun e => by
    subst e
    have hk := h.rk
    rw [show wx.heap[sg]? = _ from hk] at hcs'
    simp at hcs', fun e => by have := h.hb sg e; omega⟩
  obtain ⟨ab, cb, hbv, _, hb1⟩ := q.ob.rbs
  rcases hb1 with hb1 | ⟨bg, bo, rfl, _, hb1⟩
  · simp at hb1
  obtain ⟨us, u1, u2, u3⟩ := q.ob
  have hbo : bo = 0 := by
    rcases u2.2 with ⟨e1, _⟩ | ⟨g, cap, cur, e1, _⟩
    · rw [hbv] at e1; simp at e1
    · rw [hbv] at e1; simp at e1; exact e1.1.2
  subst hbo
  obtain ⟨u, hu1, hu2⟩ := hb1 0 (by simp)
  have hu2' : RB w' u t := hu2
  have hu3 := hu2'
  obtain ⟨ua, uc, hue, _⟩ := hu3
  rw [hue] at hu1 hu2'
  refine ⟨ma, mc, bg, cb, ua, uc, sg, ta', tc', by rw [hmf, hbv]; rfl, hsa, by simpa using hu1, hu2', ?_, hrt'.keep hbel, ⟨p', s', hv', held', q.rk, q.ow, fun e => ⟨(q.st e).1, (q.st e).2.2⟩, fun e => absurd rfl e⟩, hbel⟩
  rw [← hcell']
  simp [World.cell?, hblk]
end Go.Proofs.Ytbpggbibdoifmaa
