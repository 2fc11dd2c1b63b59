import Derived.Test.YtkbfphdedgeofaaRj
namespace Go.Proofs.Ytkbfphdedgeofaa
open Go.RowKit
theorem LV.rq {w : World} {R S : Nat} {h : Bool} {A : List UInt8} {p s : Nat} {held : List UInt8} {hv av : Value} (l : LV w R S h A p s held hv av) : RQ w R 0 (tx p s held) := ⟨p, s, hv, held, l.rk, l.oh, fun _ => ⟨l.st, rfl⟩, fun h => absurd rfl h⟩
theorem BK2.rq {w : World} {R S : Nat} {h : Bool} {s : Nat} {hv av : Value} {f : Int} (l : BK2 w R S h s hv av f) : RQ w R f [] := ⟨0, s, hv, [], l.rk, l.oh, fun h => absurd h l.nz, fun _ => ⟨rfl, rfl⟩⟩
theorem ST.held {B n : Nat} {w : World} {rv sv : Value} (h : ST B w rv sv n) (hn : n ≤ 1048576) :
    ∃ z : Int, (Calls Try.prog 20 #[rv] w fun e w' => e = .returned (.int .i64 z) ∧ w' = w) ∧ (Calls Try.prog 21 #[sv] w fun e w' => e = .returned (.int .i64 z) ∧ Below w.heap.size w w') := by
  rcases h with ⟨rfl, rfl⟩ | ⟨R, S, rfl, rfl, _, _, h5⟩
  · exact ⟨0, held_nil w, (refHeld_nil w).mono (by rintro e w' ⟨rfl, rfl⟩; exact ⟨rfl, Below.refl _ _⟩)⟩
  rcases h5 with ⟨h, A, p, s, held, hv, av, l, hA⟩ | ⟨h, s, hv, av, f, l⟩
  · obtain ⟨met, bs, rd⟩ := l.rd
    exact ⟨_, heldQ l.rq, refHeld w S h av A l.rf (by omega) l.oa.rb rd⟩
  · refine ⟨_, heldQ l.rq, (refHeld_broken w S h av f l.rf l.nz).mono ?_⟩
    rintro e w' ⟨rfl, rfl⟩
    exact ⟨by unfold wt; rw [if_neg l.nz]; rfl, Below.refl _ _⟩
theorem ST.fault {B n : Nat} {w : World} {rv sv : Value} (h : ST B w rv sv n) :
    ∃ z : Int, (Calls Try.prog 22 #[rv] w fun e w' => e = .returned (.int .i64 z) ∧ w' = w) ∧ (Calls Try.prog 23 #[sv] w fun e w' => e = .returned (.int .i64 z) ∧ w' = w) := by
  rcases h with ⟨rfl, rfl⟩ | ⟨R, S, rfl, rfl, _, _, h5⟩
  · exact ⟨1, fault_nil w, refFault_nil w⟩
  rcases h5 with ⟨h, A, p, s, held, hv, av, l, hA⟩ | ⟨h, s, hv, av, f, l⟩
  · exact ⟨0, (faultT w R p s 0 hv l.rk).mono (by rintro e w' ⟨rfl, rfl⟩; exact ⟨rfl, rfl⟩), refFault w S h av 0 l.rf⟩
  · exact ⟨f, (faultT w R 0 s f hv l.rk).mono (by rintro e w' ⟨rfl, rfl⟩; exact ⟨rfl, rfl⟩), refFault w S h av f l.rf⟩
/-- what both pushes leave -/
structure PP (w0 wr w w4 : World) (rv sv : Value) (n : Nat) (mv bsv mv2 bv2 : Value) (met bs : List (List UInt8)) (Z : Nat → Prop) : Prop where
  om : ∃ B1, OM B1 w4 mv met
  sm : SMet w4 mv2 met
  one : met.length ≤ 1
  rb1 : RBS w4 bsv bs
  rb2 : RBS w4 bv2 bs
  ln : ∀ b ∈ bs, b.length ≤ 16777216
  lb : bs.length ≤ 16777216
  obx : OBx w.heap.size Z w4 bsv (bs.map List.length)
  zl : ∀ g, Z g → w.heap.size ≤ g
  kp : ∀ k, wr.heap.size ≤ k → k < w.heap.size → w4.heap[k]? = w.heap[k]?
  bl : Below w0.heap.size w0 w4
  fin : ∀ w', Fr (fun g => ¬ Z g ∧ (g < wr.heap.size ∨ w.heap.size ≤ g)) w4 w' → ST w0.heap.size w' rv sv n
/-- the same behind the first push -/
structure PQ (w0 wr w w3 : World) : Prop where
  kp : ∀ k, wr.heap.size ≤ k → k < w.heap.size → w3.heap[k]? = w.heap[k]?
  bl : Below w0.heap.size w0 w3
theorem OM.nil1 (w : World) : ∃ B1, OM B1 w (.slice none 0 0) [] := ⟨0, OM.nil _ _⟩
theorem sz_mem (bs : List (List UInt8)) : bs.length ≤ sz bs ∧ ∀ b ∈ bs, b.length ≤ sz bs := by
  induction bs with
  | nil => simp
  | cons b bs ih =>
    rw [sz_cons]
    refine ⟨by simp; omega, fun c hc => ?_⟩
    rcases List.mem_cons.1 hc with rfl | hc
    · omega
    · have := ih.2 c hc; omega
theorem Rd.lensF {l : List UInt8} {met bs : List (List UInt8)} {h' : Bool} {r : List UInt8} {e : Int} (x : Rd false l met bs h' r e) : bs.length ≤ l.length ∧ ∀ b ∈ bs, b.length ≤ l.length := by
  have h1 := (x.frames rfl).2.2.1
  have h2 := sz_mem bs
  exact ⟨by omega, fun b hb => by have := h2.2 b hb; omega⟩
theorem Rd.lens {h : Bool} {l : List UInt8} {met bs : List (List UInt8)} {h' : Bool} {r : List UInt8} {e : Int} (x : Rd h l met bs h' r e) : bs.length ≤ l.length ∧ ∀ b ∈ bs, b.length ≤ l.length := by
  cases h with
  | false => exact x.lensF
  | true =>
    cases x with
    | hello _ _ _ _ _ _ _ _ y =>
      have := y.lensF
      rw [List.length_drop] at this
      exact ⟨by omega, fun b hb => by have := this.2 b hb; omega⟩
    | _ => simp
set_option maxHeartbeats 1000000 in
theorem pushBoth (w0 wr w : World) (rv sv gv dv : Value) (n : Nat) (dl : List UInt8) (hn : n + dl.length ≤ 1048576) (hst : ST w0.heap.size wr rv sv n) (hb0 : Below w0.heap.size w0 wr) (hbw : Below wr.heap.size wr w) (hgv : RN (fun g => wr.heap.size ≤ g) w gv dl) (hdv : RB w0 dv dl) :
    Calls Try.prog 16 #[rv, gv] w fun e w3 => ∃ mv bsv er, e = .returned (.tuple #[mv, bsv, .int .i64 er]) ∧ PQ w0 wr w w3 ∧ (∃ a k c, mv = .slice a k c) ∧ (∃ a k c, bsv = .slice a k c) ∧
      Calls Try.prog 17 #[sv, dv] w3 fun e' w4 => ∃ mv2 bv2 met bs Z, e' = .returned (.tuple #[mv2, bv2, .int .i64 er]) ∧ PP w0 wr w w4 rv sv (n + dl.length) mv bsv mv2 bv2 met bs Z := by
  have hgf : ∃ a n c, gv = .slice a n c := by obtain ⟨a, c, e, _⟩ := hgv; exact ⟨a, _, c, e⟩
  have hbl : Below w0.heap.size w0 w := hb0.trans (hbw.mono hb0.size)
  have hstw : ST w0.heap.size w rv sv n := hst.keep hbw
  rcases hst with ⟨rfl, rfl⟩ | ⟨R, S, rfl, rfl, hR, hS, h5⟩
  · refine (pushN_nil w gv hgf).mono ?_
    rintro e w' ⟨rfl, rfl⟩
    refine ⟨_, _, _, rfl, ⟨fun _ _ _ => rfl, hbl⟩, ⟨_, _, _, rfl⟩, ⟨_, _, _, rfl⟩, (refPush_nil w' dv).mono ?_⟩
    rintro e w4 ⟨rfl, rfl⟩
    refine ⟨_, _, [], [], fun _ => False, rfl, ⟨OM.nil1 _, .inl ⟨rfl, _, _, rfl⟩, by simp, RBS.nil _ _ _, RBS.nil _ _ _, by simp, by simp, ⟨[], rfl, World.ownsRow_nil _ _ _ _, fun i h => by simp at h⟩, fun _ h => h.elim, fun _ _ _ => rfl, hbl, fun _ _ => .inl ⟨rfl, rfl⟩⟩⟩
  rcases h5 with ⟨h, A, p, s, held, hv, av, l, hA⟩ | ⟨h, s, hv, av, f, l⟩
  · have lw : LV w R S h A p s held hv av := l.fr (T := fun _ => True) (Fr.of_below hbw) trivial trivial (fun _ _ => trivial) (fun _ _ => trivial)
    obtain ⟨met0, bs0, rd0⟩ := l.rd
    have hhb := fun g hg => (l.oh.blk g hg)
    have hab := fun g hg => (l.oa.blk g hg)
    have hRl := l.rk.lt
    have hSl := l.rf.lt
    have hws := hbw.size
    have hRS : R ≠ S := by
      intro e
      have h1 : wr.heap[R]? = _ := l.rk
      have h2 : wr.heap[S]? = _ := l.rf
      rw [e, h2] at h1
      simp at h1
    refine (push w R p s hv gv held dl lw.rk lw.st lw.oh lw.nh (hgv.move (fun g hg e => by have := (hhb g e).2; omega) (fun _ _ _ _ => rfl)) (by omega)).mono ?_
    rintro e w3 ⟨mv, bsv, er, met1, bs1, h', r, p', s', held', hv', rfl, po⟩
    have hkeep : ∀ k, wr.heap.size ≤ k → k < w.heap.size → w3.heap[k]? = w.heap[k]? := fun k h1 h2 => po.fr.block k h2 ⟨by omega, fun e => by have := (hhb k e).2; omega⟩
    have hbl3 : Below w0.heap.size w0 w3 := Below.of_fr hbl po.fr (fun k hk => ⟨by omega, fun e => by have := (hhb k e).1; omega⟩) (Nat.le_refl _)
    have hmf := po.om.form
    have hbf := po.ob.form
    refine ⟨mv, bsv, er, rfl, ⟨hkeep, hbl3⟩, ⟨hmf.choose, _, hmf.choose_spec.choose, hmf.choose_spec.choose_spec⟩, ⟨hbf.choose, _, hbf.choose_spec.choose, hbf.choose_spec.choose_spec⟩, ?_⟩
    have k3 : RF w3 S h av 0 := (po.fr.block S (by omega) ⟨fun e => hRS e.symm, fun e => by
      obtain ⟨cs, f, hh⟩ := row_of lw.oh S e
      have h2 : w.heap[S]? = _ := lw.rf
      rw [hh] at h2
      simp at h2⟩).trans lw.rf
    have o3 : OW (S + 1) w3 av A := ownsRow_one lw.oa (fun k hk => po.fr.block k (lw.oa.blk k hk).2 ⟨fun e => by
      subst e
      obtain ⟨cs, f, hh⟩ := row_of lw.oa k hk
      have h2 : w.heap[k]? = _ := lw.rk
      rw [hh] at h2
      simp at h2, fun e => l.ne k e hk⟩)
    have rd1 : Rd (p == 2) (tx p s held ++ dl) met1 bs1 h' r er := po.rd
    refine (refPush w3 S h av dv A dl k3 o3 l.na (hdv.keep hbl3) (by omega) rd0 rd1).mono ?_
    rintro e w4 ⟨mv2, bv2, rfl, rp⟩
    have hw3s := po.fr.size
    have f34 := rp.fr
    have hSo : ∀ k, w0.heap.size ≤ k → k ≠ S → av.ownBlock ≠ some k → k < w3.heap.size → w4.heap[k]? = w3.heap[k]? := fun k _ h1 h2 h3 => f34.block k h3 ⟨h1, h2⟩
    have havw : ∀ g, av.ownBlock = some g → g < wr.heap.size := fun g hg => (hab g hg).2
    have hnew : ∀ k, w.heap.size ≤ k → k < w3.heap.size → w4.heap[k]? = w3.heap[k]? := fun k h1 h2 => f34.block k h2 ⟨by omega, fun e => by have := havw k e; omega⟩
    have hln := rd1.lens
    have htl : (tx p s held).length ≤ A.length + 68 := by
      obtain ⟨met, bs, rd⟩ := l.rd
      rcases l.st with ⟨rfl, q1, _⟩ | ⟨rfl, q1⟩ | ⟨rfl, q1, q2⟩
      · show held.length ≤ _; omega
      · show held.length ≤ _; omega
      · show (be4 s ++ held).length ≤ _
        have h9 := rd.lens
        have : (tx 1 s held).length ≤ A.length := by
          cases h with
          | false => have := (rd.frames rfl).2.2.1; omega
          | true =>
            cases rd with
            | hello _ _ _ _ _ _ _ _ y => have := (y.frames rfl).2.2.1; rw [List.length_drop] at this; omega
        exact Nat.le_trans this (by omega)
    rw [List.length_append] at hln
    refine ⟨mv2, bv2, met1, bs1, fun g => w.heap.size ≤ g ∧ hv'.ownBlock ≠ some g ∧ g < w3.heap.size, rfl, ?_⟩
    refine ⟨⟨_, po.om.keep (fun k h1 h2 => hnew k h1 h2)⟩, rp.sm, rd1.one, ?_, rp.rb, fun b hb => by have := hln.2 b hb; omega, by omega, ?_, fun g hg => hg.1, fun k h1 h2 => ?_, ?_, ?_⟩
    · exact OB.rbs (po.ob.keep (T := fun g => w.heap.size ≤ g ∧ hv'.ownBlock ≠ some g) (fun k h1 h2 => hnew k h1 h2) (fun k hk => hk.1) (fun g hg _ => hg))
    · have hq := po.ob.obx (Y := fun g => w.heap.size ≤ g ∧ hv'.ownBlock ≠ some g ∧ g < w3.heap.size) (fun g hg hl => ⟨hg.1, hg.2, hl⟩)
      obtain ⟨us, u1, u2, u3⟩ := hq
      refine ⟨us, u1, ownsRow_keep u2 (fun k h1 h2 => hnew k h1 h2), fun i hi => ?_⟩
      obtain ⟨l', e1, e2⟩ := u3 i hi
      exact ⟨l', e1, e2.keep (fun k hk h2 _ => hnew k hk.1 h2) (fun _ hg _ => hg)⟩
    · exact (f34.block k (by omega) ⟨by omega, fun e => by have := havw k e; omega⟩).trans (hkeep k h1 h2)
    · exact Below.of_fr hbl3 f34 (fun k hk => ⟨by omega, fun e => by have := (hab k e).1; omega⟩) (Nat.le_refl _)
    · intro w' fz
      obtain ⟨av', r1, r2, r3, r4⟩ := rp.rf
      have hav' : ∀ g, av'.ownBlock = some g → g < wr.heap.size ∨ w3.heap.size ≤ g := fun g hg => by
        rcases r4 with e | e
        · rw [e] at hg; exact .inl (havw g hg)
        · exact .inr (e g hg)
      have hhv' : ∀ g, hv'.ownBlock = some g → g < wr.heap.size ∨ w.heap.size ≤ g := fun g hg => by
        rcases po.at_ with e | e
        · rw [e] at hg; exact .inl (hhb g hg).2
        · exact .inr (e g hg)
      have rk4 : RK w4 R p' s' hv' er := (f34.block R po.rk.lt ⟨hRS, fun e => by
        obtain ⟨cs, f, hh⟩ := row_of o3 R e
        have h2 : w3.heap[R]? = _ := po.rk
        rw [hh] at h2
        simp at h2⟩).trans po.rk
      have hneq : ∀ g, hv'.ownBlock = some g → av.ownBlock ≠ some g := fun g hg e => by
        rcases po.at_ with e1 | e1
        · rw [e1] at hg; exact l.ne g hg e
        · have := e1 g hg; have := havw g e; omega
      have oh4 : OW (R + 1) w4 hv' held' := ownsRow_one po.ow (fun k hk => f34.block k (po.ow.blk k hk).2 ⟨fun e => by
        subst e
        obtain ⟨cs, f, hh⟩ := row_of po.ow k hk
        have h2 : w3.heap[k]? = _ := k3
        rw [hh] at h2
        simp at h2, hneq k hk⟩)
      refine .inr ⟨R, S, rfl, rfl, hR, hS, ?_⟩
      rcases po.er with h0 | h0
      · subst h0
        obtain ⟨s1, s2, s3⟩ := po.st rfl
        refine .inl ⟨h, A ++ dl, p', s', held', hv', av', ?_, by rw [List.length_append]; omega⟩
        have l4 : LV w4 R S h (A ++ dl) p' s' held' hv' av' := by
          refine ⟨rk4, s1, oh4, po.nil, r1, r2, r3, ?_, fun g hg e => ?_⟩
          · have := rd0.app rfl rd1
            rw [s2, ← s3] at this
            exact ⟨_, _, this⟩
          · rcases r4 with e1 | e1
            · rw [e1] at e; exact hneq g hg e
            · have := e1 g e; have := (po.ow.blk g hg).2; omega
        refine l4.fr fz ⟨fun z => by have := z.1; omega, .inl hRl⟩ ⟨fun z => by have := z.1; omega, .inl hSl⟩ (fun g hg => ⟨fun z => z.2.1 hg, hhv' g hg⟩) (fun g hg => ?_)
        rcases hav' g hg with h1 | h1
        · exact ⟨fun z => by have := z.1; omega, .inl h1⟩
        · exact ⟨fun z => by have := z.2.2; omega, .inr (by omega)⟩
      · have hne0 : er ≠ 0 := by rcases h0 with rfl | rfl <;> decide
        obtain ⟨q1, q2, _⟩ := po.br hne0
        subst q1 q2
        refine .inr ⟨h, s', hv', av', er, ?_⟩
        have b4 : BK2 w4 R S h s' hv' av' er := ⟨rk4, oh4, r1, hne0⟩
        exact b4.fr fz ⟨fun z => by have := z.1; omega, .inl hRl⟩ ⟨fun z => by have := z.1; omega, .inl hSl⟩ (fun g hg => ⟨fun z => z.2.1 hg, hhv' g hg⟩)
  · have lw : BK2 w R S h s hv av f := l.fr (T := fun _ => True) (Fr.of_below hbw) trivial trivial (fun _ _ => trivial)
    have hhb := fun g hg => (l.oh.blk g hg)
    have hRl := l.rk.lt
    have hSl := l.rf.lt
    refine (pushN_broken w R 0 s hv gv f lw.rk lw.nz hgf).mono ?_
    rintro e w' ⟨rfl, rfl⟩
    refine ⟨_, _, _, rfl, ⟨fun _ _ _ => rfl, hbl⟩, ⟨_, _, _, rfl⟩, ⟨_, _, _, rfl⟩, (refPush_broken w' S h av dv f lw.rf lw.nz).mono ?_⟩
    rintro e w4 ⟨rfl, rfl⟩
    refine ⟨_, _, [], [], fun _ => False, rfl, ⟨OM.nil1 _, .inl ⟨rfl, _, _, rfl⟩, by simp, RBS.nil _ _ _, RBS.nil _ _ _, by simp, by simp, ⟨[], rfl, World.ownsRow_nil _ _ _ _, fun i h => by simp at h⟩, fun _ h => h.elim, fun _ _ _ => rfl, hbl, fun w' fz => .inr ⟨R, S, rfl, rfl, hR, hS, .inr ⟨h, s, hv, av, f, lw.fr fz ⟨fun z => z, .inl hRl⟩ ⟨fun z => z, .inl hSl⟩ (fun g hg => ⟨fun z => z, .inl (hhb g hg).2⟩)⟩⟩⟩⟩
theorem OBx.fr {B : Nat} {Z T : Nat → Prop} {w w' : World} {v : Value} {ns : List Nat} (h : OBx B Z w v ns) (f : Fr T w w') (hT : ∀ k, B ≤ k → T k) (hZ : ∀ g, Z g → B ≤ g) : OBx B Z w' v ns := by
  obtain ⟨us, h1, h2, h3⟩ := h
  refine ⟨us, h1, ownsRow_keep h2 (fun k hk hl => f.block k hl (hT k hk)), fun i hi => ?_⟩
  obtain ⟨l, e1, e2⟩ := h3 i hi
  exact ⟨l, e1, e2.keep (fun k hk hl _ => f.block k hl (hT k (hZ k hk))) (fun _ hg _ => hg)⟩
theorem set_row5 {w : World} {G k : Nat} {cs : Array Value} (v : Value) (h : w.heap[G]? = some (.cells cs 5 (0, 0))) : ∃ cs', (w.setCell ⟨G, k, none⟩ v).heap[G]? = some (.cells cs' 5 (0, 0)) ∧ cs'.size = cs.size :=
  ⟨cs.setIfInBounds k v, by rw [setCell_eq_setRow w G _ _ _ _ _ h]; exact heapSetRow _ _ _ _ _ h, by simp⟩
theorem row5_at {w : World} {G k : Nat} {cs : Array Value} (h : w.heap[G]? = some (.cells cs 5 (0, 0))) (hk : k < cs.size) : (∃ v, w.cell? ⟨G, k, none⟩ = some v) ∧ w.frozen? ⟨G, k, none⟩ = false := by
  refine ⟨⟨cs[k], by simp [World.cell?, h, Array.getElem?_eq_getElem hk]⟩, by simp [World.frozen?, h]⟩
/-- what the writing over of given leaves -/
structure SP1 (w7 : World) (G cap : Nat) (wr : World) : Prop where
  fr : Fr (fun g => g ≠ G) w7 wr
  row : ∃ cs : Array Value, wr.heap[G]? = some (.cells cs 5 (0, 0)) ∧ cs.size = cap
theorem SP1.at {w7 wr : World} {G cap k : Nat} (h : SP1 w7 G cap wr) (hk : k < cap) : (∃ v, wr.cell? ⟨G, k, none⟩ = some v) ∧ wr.frozen? ⟨G, k, none⟩ = false := by
  obtain ⟨cs, h1, h2⟩ := h.row
  exact row5_at h1 (by omega)
theorem SP1.set {w7 wr : World} {G cap : Nat} (h : SP1 w7 G cap wr) (k : Nat) (v : Value) : SP1 w7 G cap (wr.setCell ⟨G, k, none⟩ v) := by
  obtain ⟨cs, h1, h2⟩ := h.row
  obtain ⟨cs', h3, h4⟩ := set_row5 (k := k) v h1
  exact ⟨h.fr.setCell G k v (fun x => x rfl), cs', h3, by omega⟩
/-- what the writing over of the bodies leaves -/
structure SP2 (w8 : World) (B : Nat) (Z : Nat → Prop) (bv : Value) (ns : List Nat) (wr : World) : Prop where
  fr : Fr (fun g => ¬ Z g) w8 wr
  ob : OBx B Z wr bv ns
theorem SP2.at {w8 wr : World} {B : Nat} {Z : Nat → Prop} {g0 n c : Nat} {ns : List Nat} (h : SP2 w8 B Z (.slice (some ⟨g0, 0, none⟩) n c) ns wr) (i : Nat) (hi : i < ns.length) :
    ∃ g, wr.cell? ⟨g0, i, none⟩ = some (.slice (some ⟨g, 0, none⟩) (ns.getD i 0) (ns.getD i 0)) ∧ (∀ m, m < ns.getD i 0 → (∃ v, wr.cell? ⟨g, m, none⟩ = some v) ∧ wr.frozen? ⟨g, m, none⟩ = false) ∧ ∀ m (z : Int), 0 ≤ z → z < 256 → SP2 w8 B Z (.slice (some ⟨g0, 0, none⟩) n c) ns (wr.setCell ⟨g, m, none⟩ (.int .u8 z)) := by
  obtain ⟨g0', g, m, l, e, hc, hm, hz, hl, hg⟩ := h.ob.at i hi
  simp only [Option.some.injEq, Addr.mk.injEq] at e
  obtain ⟨rfl, _⟩ := e
  refine ⟨g, by rw [← hm]; exact hc, fun m' hm' => row5_at hg (by rw [bc_size]; omega), fun m' z h0 h1 => ?_⟩
  have ez : z = (((UInt8.ofNat z.toNat).toNat : Nat) : Int) := by rw [UInt8.toNat_ofNat', Nat.mod_eq_of_lt (by omega)]; omega
  rw [ez]
  exact ⟨h.fr.setCell g m' _ (fun x => x hz), h.ob.set hg _⟩
end Go.Proofs.Ytkbfphdedgeofaa
