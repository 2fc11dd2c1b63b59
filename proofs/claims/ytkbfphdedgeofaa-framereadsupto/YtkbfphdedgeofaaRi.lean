import Derived.Test.YtkbfphdedgeofaaRh
namespace Go.Proofs.Ytkbfphdedgeofaa
open Go.RowKit
theorem RF.set1 {w : World} {S : Nat} {h : Bool} {av v : Value} {f : Int} (k : RF w S h av f) : RF (w.setCell ⟨S, 1, none⟩ v) S h v f := by
  rw [setCell_eq_setRow w S _ _ _ _ _ k]
  exact heapSetRow _ _ _ _ _ k
theorem RF.set2 {w : World} {S : Nat} {h : Bool} {av : Value} {f g : Int} (k : RF w S h av f) : RF (w.setCell ⟨S, 2, none⟩ (.int .i64 g)) S h av g := by
  rw [setCell_eq_setRow w S _ _ _ _ _ k]
  exact heapSetRow _ _ _ _ _ k
theorem RF.fr {w : World} {S : Nat} {h : Bool} {av : Value} {f : Int} (k : RF w S h av f) (i : Nat) : w.frozen? ⟨S, i, none⟩ = false := by simp [World.frozen?, (show w.heap[S]? = _ from k)]
theorem OW.set {w : World} {B S i : Nat} {v u : Value} {l : List UInt8} (h : OW B w v l) (hS : S < B) : OW B (w.setCell ⟨S, i, none⟩ u) v l := ownsRow_keep h (fun k hk _ => setCell_other (by omega))
theorem OW.blk {w : World} {B : Nat} {v : Value} {l : List UInt8} (h : OW B w v l) : ∀ g, v.ownBlock = some g → B ≤ g ∧ g < w.heap.size := fun g hg => World.ownsRow.lt h g hg
theorem Rd.one {h : Bool} {l : List UInt8} {met bs : List (List UInt8)} {h' : Bool} {r : List UInt8} {e : Int} (x : Rd h l met bs h' r e) : met.length ≤ 1 := by
  cases h with
  | false => rw [(x.frames rfl).1]; simp
  | true =>
    cases x with
    | hello _ _ _ _ _ _ _ _ y => rw [(y.frames rfl).1]; simp
    | _ => simp
theorem smet_drop {B : Nat} {w : World} {a : Option Addr} {n c m : Nat} {met met1 : List (List UInt8)} (om : OM B w (.slice a n c) (met ++ met1)) (hm : met.length = m) (hl : (met ++ met1).length ≤ 1) (hn : n = m + met1.length) :
    SMet w (.slice (if c = m then a else a.map (·.add (m * 48))) (n - m) (c - m)) met1 := by
  rw [List.length_append] at hl
  cases met1 with
  | nil => left; simp at hn; subst hn; exact ⟨rfl, _, _, by rw [Nat.sub_self]⟩
  | cons x xs =>
    right
    simp only [List.length_cons] at hl hn
    obtain rfl : met = [] := List.length_eq_zero_iff.1 (by omega)
    simp at hm
    subst hm
    refine ⟨B, ?_⟩
    have e : (if c = 0 then a else a.map (·.add (0 * 48))) = a := by
      split
      · rfl
      · cases a with
        | none => rfl
        | some x => simp [Addr.add]
    rw [e, Nat.sub_zero, Nat.sub_zero]
    exact om
theorem RF.grown {w w' : World} {S : Nat} {h : Bool} {av v : Value} {f : Int} {l : List UInt8} (k : RF w S h av f) (ho : OW (S + 1) w v l) (g : w.grownBy w' v.ownBlock) : RF w' S h av f := by
  refine (g.block S k.lt ?_).trans k
  intro e
  have := (ho.blk S (by first | exact e | exact e.symm)).1
  omega
set_option maxHeartbeats 2000000 in
theorem refPush (w : World) (S : Nat) (h : Bool) (av bv : Value) (A b : List UInt8) (k : RF w S h av 0) (ho : OW (S + 1) w av A) (hnil : A = [] → av = .slice none 0 0) (hr : RB w bv b) (hl : A.length + b.length ≤ 16777216)
    {met0 bs0 met1 bs1 : List (List UInt8)} {h' h2 : Bool} {r r2 : List UInt8} {er : Int} (rd0 : Rd h A met0 bs0 h' r 0) (rd1 : Rd h' (r ++ b) met1 bs1 h2 r2 er) :
    Calls Try.prog 17 #[.pointer (some ⟨S, 0, none⟩), bv] w fun e w' => ∃ mv bsv, e = .returned (.tuple #[mv, bsv, .int .i64 er]) ∧ RPO w S h (A ++ b) av mv bsv er met1 bs1 w' := by
  have HR : Hid (RB w bv b ∧ OW (S + 1) w av A ∧ RF w S h av 0 ∧ Rd h A met0 bs0 h' r 0 ∧ Rd h' (r ++ b) met1 bs1 h2 r2 er ∧ (A = [] → av = .slice none 0 0)) := ⟨hr, ho, k, rd0, rd1, hnil⟩
  have c1 := k.c1
  have c2 := k.c2
  obtain ⟨ba, bn, bc', rfl⟩ : ∃ a n c, bv = .slice a n c := by obtain ⟨a, c, e, _⟩ := hr; exact ⟨a, _, c, e⟩
  obtain ⟨aa, an, ac, rfl⟩ : ∃ a n c, av = .slice a n c := by obtain ⟨a, c, e⟩ := ho.form; exact ⟨a, _, c, e⟩
  clear hr ho k rd0 rd1 hnil
  go_enter Try.func17, Try.ntmps17
  go_wp2_with fail
  refine (readT w S h _ 0 HR.out.2.2.1 _ A (by omega) HR.out.2.1.rb).mono ?_
  rintro e w1 ⟨mv1, bv1, met, bs, kk, h'', er1, rfl, rd, kle, om, or1, b1⟩
  obtain ⟨rfl, rfl, -, -, -⟩ := HR.out.2.2.2.1.det rd
  obtain ⟨ma1, mc1, rfl⟩ := om.form
  obtain ⟨ba1, bc1, rfl⟩ := or1.form
  have k1 : RF w1 S h (.slice aa an ac) 0 := (b1.block S HR.out.2.2.1.lt).trans HR.out.2.2.1
  have c1' := k1.c1
  have H1 : Hid (RF w1 S h (.slice aa an ac) 0 ∧ OW (S + 1) w1 (.slice aa an ac) A ∧ RB w1 (.slice ba bn bc') b ∧ Below w.heap.size w w1) := ⟨k1, HR.out.2.1.grow b1, HR.out.1.keep b1, b1⟩
  have hS1 : S + 1 ≤ w1.heap.size := k1.lt
  have hfr1 := k1.fr 1
  clear rd kle om or1 b1 k1 c1 c2
  generalize hnm : met.length = nm at *
  generalize hnb : bs.length = nb at *
  have HNM : Hid (met.length = nm ∧ bs.length = nb) := ⟨hnm, hnb⟩
  clear hnm hnb
  go_wp2_with (first | (at_builtin; refine append_held rfl _ _ rfl rfl H1.out.2.1 HR.out.2.2.2.2.2 rfl H1.out.2.2.1 hS1 (by omega) ?_; intro v2 w2 o2 n2 g2 at2; obtain ⟨va2, vn2, vc2, -, rfl⟩ := o2.form4; have k2 := H1.out.1.grown H1.out.2.1 g2; have hfr2 := k2.fr 1; have hc2 := k2.c1))
  have H2 : Hid (RF (w2.setCell ⟨S, 1, none⟩ (.slice va2 vn2 vc2)) S h (.slice va2 vn2 vc2) 0 ∧ OW (S + 1) (w2.setCell ⟨S, 1, none⟩ (.slice va2 vn2 vc2)) (.slice va2 vn2 vc2) (A ++ b) ∧ Fr (fun k => k ≠ S ∧ (Value.slice aa an ac).ownBlock ≠ some k) w (w2.setCell ⟨S, 1, none⟩ (.slice va2 vn2 vc2)) ∧ ((Value.slice va2 vn2 vc2).ownBlock = (Value.slice aa an ac).ownBlock ∨ ∀ g, (Value.slice va2 vn2 vc2).ownBlock = some g → w.heap.size ≤ g) ∧ (A ++ b = [] → Value.slice va2 vn2 vc2 = .slice none 0 0)) := by
    refine ⟨k2.set1, o2.set (Nat.lt_succ_self _), ?_, ?_, n2⟩
    · refine Fr.setCell ⟨g2.os.trans H1.out.2.2.2.os, g2.tape.trans H1.out.2.2.2.tape, g2.output.trans H1.out.2.2.2.output, Nat.le_trans H1.out.2.2.2.size g2.size, fun k hk hs => ?_⟩ S 1 _ (fun x => x.1 rfl)
      exact (g2.block k (Nat.lt_of_lt_of_le hk H1.out.2.2.2.size) (fun e => hs.2 e.symm)).trans (H1.out.2.2.2.block k hk)
    · rcases at2 with e | e
      · exact .inl e
      · right
        intro g hg
        rw [e] at hg
        cases hg
        exact H1.out.2.2.2.size
  clear k2 hfr2 hc2 g2 n2 at2 o2 c1' hfr1 hS1
  generalize w2.setCell ⟨S, 1, none⟩ (.slice va2 vn2 vc2) = w3 at *
  have hT : (A ++ b).length ≤ 33554432 := by rw [List.length_append]; omega
  have c1 := H2.out.1.c1
  go_wp2_with fail
  refine (readT w3 S h _ 0 H2.out.1 _ (A ++ b) hT H2.out.2.1.rb).mono ?_
  rintro e w4 ⟨mv4, bv4, met4, bs4, kk4, h4, er4, rfl, rd4, kle4, om4, or4, b4⟩
  obtain ⟨rfl, rfl, -, -, rfl⟩ := (HR.out.2.2.2.1.app rfl HR.out.2.2.2.2.1).det rd4
  obtain ⟨ma4, mc4, rfl⟩ := om4.form
  obtain ⟨ba4, bc4, rfl⟩ := or4.form
  have k4 : RF w4 S h (.slice va2 vn2 vc2) 0 := (b4.block S H2.out.1.lt).trans H2.out.1
  have hlt3 := H2.out.1.lt
  have hfr4 := k4.fr 2
  have hc4 := k4.c2
  have hfm := om4.1.2
  have H4 : Hid (RF (w4.setCell ⟨S, 2, none⟩ (.int .i64 er4)) S h (.slice va2 vn2 vc2) er4 ∧ OW (S + 1) (w4.setCell ⟨S, 2, none⟩ (.int .i64 er4)) (.slice va2 vn2 vc2) (A ++ b) ∧ Fr (fun k => k ≠ S ∧ (Value.slice aa an ac).ownBlock ≠ some k) w (w4.setCell ⟨S, 2, none⟩ (.int .i64 er4)) ∧ OM w3.heap.size (w4.setCell ⟨S, 2, none⟩ (.int .i64 er4)) (.slice ma4 (met ++ met1).length mc4) (met ++ met1) ∧ OR w3.heap.size (w4.setCell ⟨S, 2, none⟩ (.int .i64 er4)) (.slice ba4 (bs ++ bs1).length bc4) (bs ++ bs1)) := by
    refine ⟨k4.set2, (H2.out.2.1.grow b4).set (Nat.lt_succ_self _), ?_, om4.keep (fun k hk _ => setCell_other (by omega)), or4.keep (fun k hk _ => setCell_other (by omega))⟩
    refine Fr.setCell (H2.out.2.2.1.trans (Fr.of_below b4) (fun _ _ x => x)) S 2 _ (fun x => x.1 rfl)
  have hlen1 : (met ++ met1).length = nm + met1.length := by rw [List.length_append, HNM.out.1]
  have hlen2 : (bs ++ bs1).length = nb + bs1.length := by rw [List.length_append, HNM.out.2]
  have hle1 : (met ++ met1).length ≤ mc4 := by
    have := H4.out.2.2.2.1.1.2
    rcases this with ⟨e, _⟩ | ⟨g, cap, cur, e, _, _, h5, _⟩
    · simp only [Value.slice.injEq] at e; omega
    · simp only [Value.slice.injEq] at e; omega
  have hle2 : (bs ++ bs1).length ≤ bc4 := by obtain ⟨_, _, e, h5, _⟩ := H4.out.2.2.2.2.rbs; simp only [Value.slice.injEq] at e; omega
  generalize (met ++ met1).length = n4 at *
  generalize (bs ++ bs1).length = n5 at *
  have hn4 : nm ≤ n4 := by omega
  have hn5 : nb ≤ n5 := by omega
  have HLL : Hid (n4 = nm + met1.length ∧ n5 = nb + bs1.length) := ⟨hlen1, hlen2⟩
  clear rd4 kle4 om4 or4 b4 k4 hfm hlt3 hlen1 hlen2 c1 hT
  have H5 : Hid (SMet (w4.setCell ⟨S, 2, none⟩ (.int .i64 er4)) (.slice (if mc4 = nm then ma4 else ma4.map (·.add (nm * 48))) (n4 - nm) (mc4 - nm)) met1 ∧ RBS (w4.setCell ⟨S, 2, none⟩ (.int .i64 er4)) (.slice (if bc4 = nb then ba4 else ba4.map (·.add nb)) (n5 - nb) (bc4 - nb)) bs1) := by
    refine ⟨smet_drop H4.out.2.2.2.1 HNM.out.1 (HR.out.2.2.2.1.app rfl HR.out.2.2.2.2.1).one HLL.out.1, ?_⟩
    have := RBS.drop (m := nb) H4.out.2.2.2.2.rbs (by rw [List.length_append, HNM.out.2]; omega)
    rw [← HNM.out.2, List.drop_left, HNM.out.2] at this
    exact this
  generalize hmm : (if mc4 = nm then ma4 else ma4.map (·.add (nm * 48))) = ma5 at *
  generalize hbb : (if bc4 = nb then ba4 else ba4.map (·.add nb)) = ba5 at *
  go_wp2
  go_quiet (fail)
  clear hmm hbb
  have H6 : Hid (RPO w S h (A ++ b) (.slice aa an ac) (.slice ma5 (n4 - nm) (mc4 - nm)) (.slice ba5 (n5 - nb) (bc4 - nb)) er4 met1 bs1 ((w4.setCell ⟨S, 2, none⟩ (.int .i64 er4)).drewN nq)) := by
    refine ⟨⟨_, H4.out.1, H4.out.2.1.grow (belowDrew _ _), H2.out.2.2.2.2, H2.out.2.2.2.1⟩, ?_, H5.out.2.keep (belowDrew _ _), ?_⟩
    · rcases H5.out.1 with h1 | ⟨B, h1⟩
      · exact .inl h1
      · exact .inr ⟨B, h1.keep (fun _ _ _ => rfl)⟩
    · exact H4.out.2.2.1.trans (Fr.of_below (belowDrew _ _)) (fun _ _ x => x)
  clear H4 H5 H2 H1 HLL HNM
  go_wp2
  go_ret3
  exact ⟨_, _, rfl, H6.out⟩
end Go.Proofs.Ytkbfphdedgeofaa
