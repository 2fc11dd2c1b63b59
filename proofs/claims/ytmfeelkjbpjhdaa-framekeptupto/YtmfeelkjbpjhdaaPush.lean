import Derived.Test.YtmfeelkjbpjhdaaPa
import Derived.Deep.LoopGhost
import Derived.WalkMore
import Derived.Great.BuildSlice
namespace Go.Proofs.Ytmfeelkjbpjhdaa
open Go.RowKit
theorem z68 : (#[Value.int .u8 0, Value.int .u8 0, Value.int .u8 0, Value.int .u8 0, Value.int .u8 0, Value.int .u8 0, Value.int .u8 0, Value.int .u8 0, Value.int .u8 0, Value.int .u8 0, Value.int .u8 0, Value.int .u8 0, Value.int .u8 0, Value.int .u8 0, Value.int .u8 0, Value.int .u8 0, Value.int .u8 0, Value.int .u8 0, Value.int .u8 0, Value.int .u8 0, Value.int .u8 0, Value.int .u8 0, Value.int .u8 0, Value.int .u8 0, Value.int .u8 0, Value.int .u8 0, Value.int .u8 0, Value.int .u8 0, Value.int .u8 0, Value.int .u8 0, Value.int .u8 0, Value.int .u8 0, Value.int .u8 0, Value.int .u8 0, Value.int .u8 0, Value.int .u8 0, Value.int .u8 0, Value.int .u8 0, Value.int .u8 0, Value.int .u8 0, Value.int .u8 0, Value.int .u8 0, Value.int .u8 0, Value.int .u8 0, Value.int .u8 0, Value.int .u8 0, Value.int .u8 0, Value.int .u8 0, Value.int .u8 0, Value.int .u8 0, Value.int .u8 0, Value.int .u8 0, Value.int .u8 0, Value.int .u8 0, Value.int .u8 0, Value.int .u8 0, Value.int .u8 0, Value.int .u8 0, Value.int .u8 0, Value.int .u8 0, Value.int .u8 0, Value.int .u8 0, Value.int .u8 0, Value.int .u8 0, Value.int .u8 0, Value.int .u8 0, Value.int .u8 0, Value.int .u8 0] : Array Value) = bc (zr 68) := rfl
theorem z4 : (#[Value.int .u8 0, Value.int .u8 0, Value.int .u8 0, Value.int .u8 0] : Array Value) = bc (zr 4) := rfl
theorem OW.form3 {B : Nat} {w : World} {v : Value} {l : List UInt8} (h : OW B w v l) : ∃ a n c, v = .slice a n c := by
  obtain ⟨a, c, e⟩ := h.form
  exact ⟨a, _, c, e⟩
theorem infoZ68 : (Try.prog.info? 55).map (fun i => (i.zero, i.size)) = some (some (.agg (bc (zr 68))), 68) := by kernel_rfl
theorem zero68 (u : World) : (zeroValue 55).run Try.prog u = .ok (.agg (bc (zr 68))) u := by
  cases hq : Try.prog.info? 55 with
  | none => have := infoZ68; simp [hq] at this
  | some i =>
    have hz : i.zero = some (.agg (bc (zr 68))) := by
      have := infoZ68
      rw [hq] at this
      simp only [Option.map_some, Option.some.injEq, Prod.mk.injEq] at this
      exact this.1
    simp [zeroValue, typeInfo, hq, hz]
theorem foldl_set : ∀ (xs : List Value) (k : Nat) (cs : Array Value), k + xs.length = cs.size → ((xs.zipIdx k).foldl (fun cs (p : Value × Nat) => cs.setIfInBounds (0 * 48 + p.2) p.1) cs).toList = cs.toList.take k ++ xs
  | [], k, cs, h => by simp at h ⊢; rw [h, ← Array.length_toList, List.take_length]
  | x :: xs, k, cs, h => by
    simp only [List.zipIdx_cons, List.foldl_cons]
    rw [foldl_set xs (k + 1) _ (by simp at h ⊢; omega)]
    have hk : k < cs.toList.length := by simp at h ⊢; omega
    rw [Array.toList_setIfInBounds, Nat.zero_mul, Nat.zero_add, List.take_succ_eq_append_getElem (by simpa using hk), List.take_set_of_le (Nat.le_refl _)]
    simp
theorem fill_hello (hx : List UInt8) (hl : hx.length = 48) (Z : Array Value) (hZ : Z.size = 48) : Instr.fill (fun i => some (i * 48, 48)) Z [(0, .agg (bc hx))] = some (bc hx) := by
  have hs : (bc hx).size = 48 := by rw [bc_size, hl]
  have hc : (Value.agg (bc hx)).cells = bc hx := rfl
  unfold Instr.fill
  simp only [hc, hs, hZ]
  rw [if_neg (by decide)]
  unfold Instr.fill
  congr 1
  apply Array.ext'
  rw [← Array.foldl_toList, Array.toList_zipIdx]
  have := foldl_set (bc hx).toList 0 Z (by rw [Array.length_toList, hs, hZ])
  rw [List.take_zero, List.nil_append] at this
  exact this
theorem build_hello {ops : Array Oper} {rest : List Oper} {o : Oper} {a : Act} {w : World} {Q : Exit → Act → World → Prop} (hg : o.guard = none) (x : Operand) (ho : o.op = .buildSlice 39 1 #[(0, x)]) (hx : List UInt8) (hv : a.eval x = .agg (bc hx)) (hl : hx.length = 48)
    (h : wpList Try.prog ops Q rest (a.put o.dst (.slice (some ⟨w.heap.size, 0, none⟩) 1 1)) (w.alloc (.cells (bc hx) 25))) : wpList Try.prog ops Q (o :: rest) a w := by
  obtain ⟨i0, hi, hz0, hz1, hz2⟩ := info_parts infoH
  refine wpList_buildSlice hg 39 25 1 _ ho (bc hx) i0 _ Try.underlying39 hi hz0 (by rw [hz1]; decide) (by rw [hz1]; decide) ?_ h
  rw [hz1]
  have e : (#[(0, x)].map fun (i, y) => (i, a.eval y)).toList = [(0, .agg (bc hx))] := by simp [hv]
  rw [e]
  exact fill_hello hx hl _ (by rw [Array.size_map, Array.size_range])
/-- the state in the midst of a push -/
def Sm (p s : Nat) (held : List UInt8) : Prop := (p = 2 ∧ held.length < 68 ∧ sok held 0 = true) ∨ (p = 0 ∧ held.length < 4) ∨ (p = 1 ∧ s ≤ 32768 ∧ held.length ≤ s)
/-- the round's relation -/
structure PI (w : World) (R : Nat) (h0 : Bool) (T0 : List UInt8) (hv0 : Value) (p s : Nat) (held l : List UInt8) (met bs : List (List UInt8)) (hv bv mv bsv : Value) (wr : World) : Prop where
  sm : Sm p s held
  rk : RK wr R p s hv 0
  hb : hv = hv0 ∨ hv = .slice none 0 0
  ow : OW (R + 1) wr hv held
  nil : held = [] → hv = .slice none 0 0
  rh : RN (fun g => g < w.heap.size) wr hv held
  rb : RN (fun g => g < w.heap.size ∧ hv0.ownBlock ≠ some g) wr bv l
  om : OM w.heap.size wr mv met
  ob : OB w.heap.size (fun g => w.heap.size ≤ g) wr bsv bs
  fr : Fr (fun k => k ≠ R) w wr
  rd : ∀ met' bs' h' r' e', Rd (p == 2) (tx p s held ++ l) met' bs' h' r' e' → Rd h0 T0 (met ++ met') (bs ++ bs') h' r' e'
  ln : met.length + bs.length + l.length + (if p = 1 then 1 else 0) ≤ 33554432
  rl : R < w.heap.size
/-- what a push leaves -/
structure PO (w : World) (R : Nat) (h0 : Bool) (T0 : List UInt8) (hv0 : Value) (mv bsv : Value) (er : Int) (met bs : List (List UInt8)) (h' : Bool) (r : List UInt8) (p s : Nat) (held : List UInt8) (hv : Value) (w' : World) : Prop where
  rd : Rd h0 T0 met bs h' r er
  om : OM w.heap.size w' mv met
  ob : OB w.heap.size (fun g => w.heap.size ≤ g ∧ hv.ownBlock ≠ some g) w' bsv bs
  rk : RK w' R p s hv er
  ow : OW (R + 1) w' hv held
  nil : held = [] → hv = .slice none 0 0
  st : er = 0 → St p s held ∧ h' = (p == 2) ∧ tx p s held = r
  br : er ≠ 0 → p = 0 ∧ held = [] ∧ (er = 100 ∨ er = 102)
  er : er = 0 ∨ er = 100 ∨ er = 102
  fr : Fr (fun k => k ≠ R ∧ hv0.ownBlock ≠ some k) w w'
  at_ : hv.ownBlock = hv0.ownBlock ∨ ∀ g, hv.ownBlock = some g → w.heap.size ≤ g
theorem PI.drew {w : World} {R : Nat} {h0 : Bool} {T0 : List UInt8} {hv0 : Value} {p s : Nat} {held l : List UInt8} {met bs : List (List UInt8)} {hv bv mv bsv : Value} {wr : World} (h : PI w R h0 T0 hv0 p s held l met bs hv bv mv bsv wr) (n : Nat) : PI w R h0 T0 hv0 p s held l met bs hv bv mv bsv (wr.drewN n) :=
  ⟨h.sm, h.rk, h.hb, h.ow.grow (belowDrew _ _), h.nil, h.rh.move (fun _ x => x) (fun _ _ _ _ => rfl), h.rb.move (fun _ x => x) (fun _ _ _ _ => rfl), h.om.keep (fun _ _ _ => rfl), h.ob.keep (fun _ _ _ => rfl) (fun _ x => x) (fun _ x _ => x), ⟨h.fr.os, h.fr.tape, h.fr.output, h.fr.size, h.fr.block⟩, h.rd, h.ln, h.rl⟩
/-- the end behind breakOff -/
theorem PI.broken {w : World} {R : Nat} {h0 : Bool} {T0 : List UInt8} {hv0 : Value} {p s : Nat} {held l : List UInt8} {met bs : List (List UInt8)} {hv bv mv bsv : Value} {wr w' : World} (h : PI w R h0 T0 hv0 p s held l met bs hv bv mv bsv wr) (er : Int) (he : er = 100 ∨ er = 102)
    (hr : Rd (p == 2) (tx p s held ++ l) [] [] (p == 2) (tx p s held ++ l) er) (hk : RK w' R 0 0 (.slice none 0 0) er) (hf : Fr (fun k => k ≠ R) wr w') : PO w R h0 T0 hv0 mv bsv er met bs (p == 2) (tx p s held ++ l) 0 0 [] (.slice none 0 0) w' := by
  have kb : ∀ k, w.heap.size ≤ k → k < wr.heap.size → w'.heap[k]? = wr.heap[k]? := fun k h1 h2 => hf.block k h2 (fun e => by have := h.rl; omega)
  have hrd := h.rd _ _ _ _ _ hr
  rw [List.append_nil, List.append_nil] at hrd
  exact ⟨hrd, h.om.keep kb, h.ob.keep kb (fun _ x => x) (fun g x _ => ⟨x, by simp [Value.ownBlock]⟩), hk, World.ownsRow_nil _ _ _ _, fun _ => rfl, fun e => by omega, fun _ => ⟨rfl, rfl, he⟩, .inr he, (h.fr.trans hf (fun _ _ x => x)).mono (fun _ _ x => x.1), .inr (fun g e => by simp [Value.ownBlock] at e)⟩
/-- the end where what is left waits -/
theorem PI.waits {w : World} {R : Nat} {h0 : Bool} {T0 : List UInt8} {hv0 : Value} {p s : Nat} {held l : List UInt8} {met bs : List (List UInt8)} {hv bv mv bsv v' : Value} {wr w1 : World} (h : PI w R h0 T0 hv0 p s held l met bs hv bv mv bsv wr)
    (hr : Rd (p == 2) (tx p s held ++ l) [] [] (p == 2) (tx p s held ++ l) 0) (hst : St p s (held ++ l)) (ho : OW (R + 1) w1 v' (held ++ l)) (hn : held ++ l = [] → v' = .slice none 0 0) (hg : wr.grownBy w1 hv.ownBlock) (ha : v'.ownBlock = hv.ownBlock ∨ v'.ownBlock = some wr.heap.size) :
    RK w1 R p s hv 0 ∧ PO w R h0 T0 hv0 mv bsv 0 met bs (p == 2) (tx p s held ++ l) p s (held ++ l) v' (w1.setCell ⟨R, 2, none⟩ v') := by
  have hvb : ∀ k, hv.ownBlock = some k → R < k ∧ k < w.heap.size := by
    intro k hk
    rcases h.ow.2 with ⟨e, _⟩ | ⟨g, cap, cur, e, h2, h3, _⟩
    · rw [e] at hk; simp [Value.ownBlock] at hk
    · have hgk : g = k := by rw [e] at hk; simpa [Value.ownBlock] using hk
      subst hgk
      refine ⟨h2, ?_⟩
      by_cases h00 : held = []
      · have := h.nil h00
        rw [e] at this
        cases this
      · obtain ⟨a, c, e2, _, h4⟩ := h.rh
        rcases h4 with h4 | ⟨g2, o2, e3, h5, _⟩
        · exact absurd h4 h00
        · rw [e] at e2
          simp only [Value.slice.injEq] at e2
          rw [e3] at e2
          simp at e2
          omega
  have hRl : R < wr.heap.size := h.rk.lt
  have hk1 : RK w1 R p s hv 0 := (hg.block R hRl (fun e => by have := (hvb R e.symm).1; omega)).trans h.rk
  have kb : ∀ k, w.heap.size ≤ k → k < wr.heap.size → w1.heap[k]? = wr.heap[k]? := fun k h1 h2 => hg.block k h2 (fun e => by have := (hvb k e.symm).2; omega)
  have hbb : ∀ k, hv.ownBlock = some k → hv0.ownBlock = some k := by
    intro k hk
    rcases h.hb with e | e
    · rw [e] at hk; exact hk
    · rw [e] at hk; simp [Value.ownBlock] at hk
  have hrd := h.rd _ _ _ _ _ hr
  rw [List.append_nil, List.append_nil] at hrd
  have hsw : w.heap.size ≤ wr.heap.size := h.fr.size
  have hv'b : ∀ g, v'.ownBlock = some g → g ≠ R ∧ (g < w.heap.size → hv.ownBlock = some g) ∧ (w.heap.size ≤ g → wr.heap.size ≤ g) := by
    intro g e
    rcases ha with e2 | e2
    · rw [e] at e2
      have := hvb g e2.symm
      exact ⟨by omega, fun _ => e2.symm, fun h => by omega⟩
    · rw [e] at e2
      simp at e2
      have := h.rl
      exact ⟨by omega, fun h => by omega, fun h => by omega⟩
  refine ⟨hk1, hrd, ?_, ?_, hk1.set.2.2 v', ?_, hn, fun _ => ⟨hst, rfl, ?_⟩, fun e => absurd rfl e, .inl rfl, ?_, ?_⟩
  · exact (h.om.keep kb).keep (fun k h1 h2 => setCell_other (fun e => by have := h.rl; omega))
  · refine (h.ob.keep kb (fun _ x => x) (fun g x hlt => (show w.heap.size ≤ g ∧ v'.ownBlock ≠ some g from ⟨x, fun e => by have := (hv'b g e).2.2 x; omega⟩))).keep (fun k h1 h2 => setCell_other (fun e => by have := h.rl; omega)) (fun k x => x.1) (fun g x _ => x)
  · refine ⟨ho.1, ?_⟩
    rcases ho.2 with h1 | ⟨g, cap, cur, h1, h2, h3, h4⟩
    · exact .inl h1
    · exact .inr ⟨g, cap, cur, h1, h2, (setCell_other (by omega)).trans h3, h4⟩
  · unfold tx
    split <;> simp
  · refine Fr.setCell ?_ R 2 _ (fun x => x.1 rfl)
    refine (h.fr.mono (fun _ _ x => x.1)).trans (T := fun k => some k ≠ hv.ownBlock) ⟨hg.os, hg.tape, hg.output, hg.size, fun k h1 h2 => hg.block k h1 h2⟩ (fun k h1 h2 e => h2.2 (hbb k e.symm))
  · rcases ha with e | e
    · rcases h.hb with e2 | e2
      · exact .inl (by rw [e, e2])
      · exact .inr (fun g eg => by rw [e, e2] at eg; simp [Value.ownBlock] at eg)
    · exact .inr (fun g eg => by rw [e] at eg; simp at eg; omega)
/-- in the midst: what was held is gone -/
structure PM (w : World) (R : Nat) (hv0 : Value) (p s : Nat) (l : List UInt8) (met bs : List (List UInt8)) (bv mv bsv : Value) (wr : World) : Prop where
  rk : RK wr R p s (.slice none 0 0) 0
  rb : RN (fun g => g < w.heap.size ∧ hv0.ownBlock ≠ some g) wr bv l
  om : OM w.heap.size wr mv met
  ob : OB w.heap.size (fun g => w.heap.size ≤ g) wr bsv bs
  fr : Fr (fun k => k ≠ R) w wr
  rl : R < w.heap.size
theorem PM.below {w : World} {R : Nat} {hv0 : Value} {p s : Nat} {l : List UInt8} {met bs : List (List UInt8)} {bv mv bsv : Value} {wr w' : World} (h : PM w R hv0 p s l met bs bv mv bsv wr) (hb : Below wr.heap.size wr w') : PM w R hv0 p s l met bs bv mv bsv w' :=
  ⟨(hb.block R h.rk.lt).trans h.rk, h.rb.move (fun _ x => x) (fun g _ hl _ => hb.block g hl), h.om.keep (fun k _ hl => hb.block k hl), h.ob.keep (fun k _ hl => hb.block k hl) (fun _ x => x) (fun _ x _ => x), h.fr.trans (Fr.of_below hb) (fun _ _ x => x), h.rl⟩
theorem PM.set {w : World} {R : Nat} {hv0 : Value} {p s : Nat} {l : List UInt8} {met bs : List (List UInt8)} {bv mv bsv : Value} {wr : World} (h : PM w R hv0 p s l met bs bv mv bsv wr) :
    (∀ p' : Nat, PM w R hv0 p' s l met bs bv mv bsv (wr.setCell ⟨R, 0, none⟩ (.int .i64 p'))) ∧ (∀ s' : Nat, PM w R hv0 p s' l met bs bv mv bsv (wr.setCell ⟨R, 1, none⟩ (.int .i64 s'))) := by
  have key : ∀ i v, RN (fun g => g < w.heap.size ∧ hv0.ownBlock ≠ some g) (wr.setCell ⟨R, i, none⟩ v) bv l ∧ OM w.heap.size (wr.setCell ⟨R, i, none⟩ v) mv met ∧ OB w.heap.size (fun g => w.heap.size ≤ g) (wr.setCell ⟨R, i, none⟩ v) bsv bs ∧ Fr (fun k => k ≠ R) w (wr.setCell ⟨R, i, none⟩ v) := fun i v =>
    ⟨h.rb.move (fun _ x => x) (fun g _ _ hex => setCell_other (h.rk.not_bytes hex)), h.om.keep (fun k h1 _ => setCell_other (by have := h.rl; omega)), h.ob.keep (fun k h1 _ => setCell_other (by have := h.rl; omega)) (fun _ x => x) (fun _ x _ => x), h.fr.setCell R i v (fun x => x rfl)⟩
  exact ⟨fun p' => ⟨h.rk.set.1 p', (key 0 _).1, (key 0 _).2.1, (key 0 _).2.2.1, (key 0 _).2.2.2, h.rl⟩, fun s' => ⟨h.rk.set.2.1 s', (key 1 _).1, (key 1 _).2.1, (key 1 _).2.2.1, (key 1 _).2.2.2, h.rl⟩⟩
theorem PM.met {w : World} {R : Nat} {hv0 : Value} {p s : Nat} {l : List UInt8} {met met' bs : List (List UInt8)} {bv mv mv' bsv : Value} {wr w1 : World} (h : PM w R hv0 p s l met bs bv mv bsv wr) (hm : OM w.heap.size w1 mv' met') (hg : wr.grownBy w1 mv.ownBlock) : PM w R hv0 p s l met' bs bv mv' bsv w1 := by
  have hk : ∀ k, k < w.heap.size → k < wr.heap.size → w1.heap[k]? = wr.heap[k]? := fun k h1 h2 => hg.block k h2 (fun e => by have := (World.ownsRow.lt h.om.1 k e.symm).1; omega)
  refine ⟨(hk R h.rl h.rk.lt).trans h.rk, h.rb.move (fun _ x => x) (fun g hs hl _ => hk g hs.1 hl), hm, ?_, ⟨hg.os.trans h.fr.os, hg.tape.trans h.fr.tape, hg.output.trans h.fr.output, Nat.le_trans h.fr.size hg.size, fun k h1 h2 => (hk k h1 (Nat.lt_of_lt_of_le h1 h.fr.size)).trans (h.fr.block k h1 h2)⟩, h.rl⟩
  obtain ⟨us, h1, h2, h3⟩ := h.ob
  refine ⟨us, h1, ownsRow_keep2 (e2 := 25) h2 hg (row_of h.om.1) (by decide), fun i hi => (h3 i hi).keep (fun k _ hl hex => hg.block k hl (fun e => ?_)) (fun _ x _ => x)⟩
  obtain ⟨cs, f, hc⟩ := row_of h.om.1 k e.symm
  obtain ⟨cs', f', hc'⟩ := hex
  rw [hc] at hc'
  simp at hc'
theorem PM.bod {w : World} {R : Nat} {hv0 : Value} {p s : Nat} {l : List UInt8} {met bs bs' : List (List UInt8)} {bv mv bsv bsv' : Value} {wr w1 : World} (h : PM w R hv0 p s l met bs bv mv bsv wr) (hm : OB w.heap.size (fun g => w.heap.size ≤ g) w1 bsv' bs') (hg : wr.grownBy w1 bsv.ownBlock) : PM w R hv0 p s l met bs' bv mv bsv' w1 := by
  obtain ⟨us, h1, h2, h3⟩ := h.ob
  have hk : ∀ k, k < w.heap.size → k < wr.heap.size → w1.heap[k]? = wr.heap[k]? := fun k h1 hl => hg.block k hl (fun e => by have := (World.ownsRow.lt h2 k e.symm).1; omega)
  exact ⟨(hk R h.rl h.rk.lt).trans h.rk, h.rb.move (fun _ x => x) (fun g hs hl _ => hk g hs.1 hl), ⟨ownsRow_keep2 (e2 := 28) h.om.1 hg (row_of h2) (by decide), h.om.2⟩, hm, ⟨hg.os.trans h.fr.os, hg.tape.trans h.fr.tape, hg.output.trans h.fr.output, Nat.le_trans h.fr.size hg.size, fun k h1 h2 => (hk k h1 (Nat.lt_of_lt_of_le h1 h.fr.size)).trans (h.fr.block k h1 h2)⟩, h.rl⟩
/-- behind a new block G and move -/
theorem PI.moved {w : World} {R : Nat} {h0 : Bool} {T0 : List UInt8} {hv0 : Value} {p s : Nat} {held l l' : List UInt8} {met bs : List (List UInt8)} {hv bv mv bsv bv' : Value} {wr w1 w2 : World} (h : PI w R h0 T0 hv0 p s held l met bs hv bv mv bsv wr) (hb : Below wr.heap.size wr w1)
    (hr : RN (fun g => g < w.heap.size ∧ hv0.ownBlock ≠ some g) w2 bv' l') (hk : RK w2 R p s (.slice none 0 0) 0) (hf : Fr (fun k => k ≠ R ∧ k ≠ wr.heap.size) w1 w2) : PM w R hv0 p s l' met bs bv' mv bsv w2 := by
  have kb : ∀ k, w.heap.size ≤ k → k < wr.heap.size → w2.heap[k]? = wr.heap[k]? := fun k h1 h2 => (hf.block k (Nat.lt_of_lt_of_le h2 hb.size) ⟨by have := h.rl; omega, by omega⟩).trans (hb.block k h2)
  refine ⟨hk, hr, h.om.keep kb, h.ob.keep kb (fun _ x => x) (fun _ x _ => x), ?_, h.rl⟩
  refine (h.fr.trans (Fr.of_below hb) (fun _ _ x => x)).trans hf (fun k h1 h2 => ⟨h2, ?_⟩)
  have := h.fr.size
  omega
theorem PI.movedF {w : World} {R : Nat} {h0 : Bool} {T0 : List UInt8} {hv0 : Value} {p s : Nat} {held l : List UInt8} {met bs : List (List UInt8)} {hv bv mv bsv : Value} {wr w1 w2 : World} (h : PI w R h0 T0 hv0 p s held l met bs hv bv mv bsv wr) (hb : Below wr.heap.size wr w1)
    (hf : Fr (fun k => k ≠ R ∧ k ≠ wr.heap.size) w1 w2) : OB w.heap.size (fun g => w.heap.size ≤ g ∧ g < wr.heap.size) w2 bsv bs := by
  have kb : ∀ k, w.heap.size ≤ k → k < wr.heap.size → w2.heap[k]? = wr.heap[k]? := fun k h1 h2 => (hf.block k (Nat.lt_of_lt_of_le h2 hb.size) ⟨by have := h.rl; omega, by omega⟩).trans (hb.block k h2)
  exact h.ob.keep kb (fun _ x => x) (fun _ x y => ⟨x, y⟩)
/-- the next round -/
theorem PM.next {w : World} {R : Nat} {h0 : Bool} {T0 : List UInt8} {hv0 : Value} {p s : Nat} {l : List UInt8} {met bs : List (List UInt8)} {bv mv bsv : Value} {wr : World} (h : PM w R hv0 p s l met bs bv mv bsv wr) (hs : Sm p s [])
    (rd : ∀ met' bs' h' r' e', Rd (p == 2) (tx p s [] ++ l) met' bs' h' r' e' → Rd h0 T0 (met ++ met') (bs ++ bs') h' r' e') (ln : met.length + bs.length + l.length + (if p = 1 then 1 else 0) ≤ 33554432) : PI w R h0 T0 hv0 p s [] l met bs (.slice none 0 0) bv mv bsv wr :=
  ⟨hs, h.rk, .inr rfl, World.ownsRow_nil _ _ _ _, fun _ => rfl, ⟨none, 0, rfl, Nat.le_refl _, .inl rfl⟩, h.rb, h.om, h.ob, h.fr, rd, ln, h.rl⟩
theorem drop_held (held l : List UInt8) (n : Nat) (h : held.length ≤ n) : (held ++ l).drop n = l.drop (n - held.length) := by
  rw [List.drop_append, List.drop_eq_nil_of_le h, List.nil_append]
theorem rd_hello {s : Nat} {held l : List UInt8} (h1 : held.length < 68) (h2 : sok held 0 = true) (h3 : sok l held.length = true) (h4 : 68 ≤ held.length + l.length) {met' bs' : List (List UInt8)} {h' : Bool} {r' : List UInt8} {e' : Int}
    (h : Rd (0 == 2) (tx 0 s [] ++ l.drop (68 - held.length)) met' bs' h' r' e') : Rd (2 == 2) (tx 2 s held ++ l) (hel (held ++ l) :: met') bs' h' r' e' := by
  have e : tx 0 s [] ++ l.drop (68 - held.length) = (held ++ l).drop 68 := by rw [drop_held _ _ _ (by omega)]; simp [tx]
  rw [e] at h
  have e2 : tx 2 s held ++ l = held ++ l := by simp [tx]
  rw [e2]
  exact Rd.hello (held ++ l) _ _ _ _ _ (by rw [sok_split, h2, h3]; rfl) (by rw [List.length_append]; exact h4) h
theorem tx_num {s : Nat} {held l : List UInt8} (h1 : held.length < 4) (h4 : 4 ≤ held.length + l.length) : tx 1 (nm (held ++ l)) [] ++ l.drop (4 - held.length) = tx 0 s held ++ l := by
  have h5 : 4 ≤ (held ++ l).length := by rw [List.length_append]; exact h4
  have e : tx 1 (nm (held ++ l)) [] = (held ++ l).take 4 := by simp [tx, be4_nm _ h5]
  rw [e, ← drop_held _ _ _ (by omega), List.take_append_drop]
  simp [tx]
theorem rd_body {s : Nat} {held l : List UInt8} (h1 : held.length ≤ s) (h2 : s ≤ 32768) (h4 : s ≤ held.length + l.length) {met' bs' : List (List UInt8)} {h' : Bool} {r' : List UInt8} {e' : Int}
    (h : Rd (0 == 2) (tx 0 s [] ++ l.drop (s - held.length)) met' bs' h' r' e') : Rd (1 == 2) (tx 1 s held ++ l) met' ((held ++ l).take s :: bs') h' r' e' := by
  have hl : (be4 s).length = 4 := rfl
  have e2 : tx 1 s held ++ l = be4 s ++ (held ++ l) := by simp [tx]
  have en : nm (be4 s ++ (held ++ l)) = s := nm_be4 s _ (by omega)
  have e : tx 0 s [] ++ l.drop (s - held.length) = (be4 s ++ (held ++ l)).drop (4 + s) := by
    have e9 : (be4 s).drop (4 + s) = [] := List.drop_eq_nil_of_le (by omega)
    rw [List.drop_append, e9, List.nil_append, hl, show 4 + s - 4 = s by omega, drop_held _ _ _ h1]
    simp [tx]
  rw [e] at h
  rw [e2]
  have := Rd.body (be4 s ++ (held ++ l)) met' bs' h' r' e' (by rw [List.length_append]; omega) (by rw [en]; exact h2) (by rw [en, List.length_append, List.length_append]; omega) (by rw [en]; exact h)
  rw [en] at this
  have e3 : ((be4 s ++ (held ++ l)).drop 4) = held ++ l := List.drop_left' hl
  rw [e3] at this
  exact this
theorem PO.drew {w : World} {R : Nat} {h0 : Bool} {T0 : List UInt8} {hv0 mv bsv : Value} {er : Int} {met bs : List (List UInt8)} {h' : Bool} {r : List UInt8} {p s : Nat} {held : List UInt8} {hv : Value} {w' : World} (h : PO w R h0 T0 hv0 mv bsv er met bs h' r p s held hv w') (n : Nat) : PO w R h0 T0 hv0 mv bsv er met bs h' r p s held hv (w'.drewN n) :=
  ⟨h.rd, h.om.keep (fun _ _ _ => rfl), h.ob.keep (fun _ _ _ => rfl) (fun _ x => x.1) (fun _ x _ => x), h.rk, h.ow.grow (belowDrew _ _), h.nil, h.st, h.br, h.er, ⟨h.fr.os, h.fr.tape, h.fr.output, h.fr.size, h.fr.block⟩, h.at_⟩
/-- how a push ends -/
def PushE (w : World) (R : Nat) (h0 : Bool) (T0 : List UInt8) (hv0 : Value) (e : Ending) (w' : World) : Prop := ∃ mv bsv er met bs h' r p s held hv, e = .returned (.tuple #[mv, bsv, .int .i64 er]) ∧ PO w R h0 T0 hv0 mv bsv er met bs h' r p s held hv w'
theorem pushE_mk {w : World} {R : Nat} {h0 : Bool} {T0 : List UInt8} {hv0 mv bsv : Value} {er : Int} {met bs : List (List UInt8)} {h' : Bool} {r : List UInt8} {p s : Nat} {held : List UInt8} {hv : Value} {w' : World} (h : PO w R h0 T0 hv0 mv bsv er met bs h' r p s held hv w') (n : Nat) : PushE w R h0 T0 hv0 (.returned (.tuple #[mv, bsv, .int .i64 er])) (w'.drewN n) := ⟨_, _, _, _, _, _, _, _, _, _, _, rfl, h.drew n⟩
theorem nm_take (l : List UInt8) : nm (l.take 4) = nm l := by
  unfold nm
  rw [byt_take _ _ 0 (by omega), byt_take _ _ 1 (by omega), byt_take _ _ 2 (by omega), byt_take _ _ 3 (by omega)]
theorem info_four {hb : List UInt8} (hl : hb.length = 4) : (Try.prog.info? 58).map (·.size) = some (bc hb).size := by rw [bc_size, hl]; kernel_rfl
theorem rb_block {w : World} {G : Nat} {l : List UInt8} {t : TypeId} (hg : w.heap[G]? = some (.cells (bc l) t (0, 0))) (n : Nat) (hn : l.length = n) : RB w (.slice (some ⟨G, 0, none⟩) n n) l := by
  subst hn
  exact ⟨_, _, rfl, Nat.le_refl _, .inr ⟨G, 0, rfl, (Array.getElem?_eq_some_iff.1 hg).1, fun i hi => by rw [Nat.zero_add]; exact cell_bc hg i hi⟩⟩
theorem PI.at1 {w : World} {R : Nat} {h0 : Bool} {T0 : List UInt8} {hv0 : Value} {p s : Nat} {held l : List UInt8} {met bs : List (List UInt8)} {hv bv mv bsv : Value} {wr : World} (h : PI w R h0 T0 hv0 p s held l met bs hv bv mv bsv wr) (o : Obj) :
    RK (wr.alloc o) R p s hv 0 ∧ RB (wr.alloc o) hv held ∧ RN (fun g => g < w.heap.size ∧ hv0.ownBlock ≠ some g) (wr.alloc o) bv l ∧ ¬ (wr.heap.size < w.heap.size ∧ hv0.ownBlock ≠ some wr.heap.size) ∧ wr.heap.size ≠ R ∧ Below wr.heap.size wr (wr.alloc o) := by
  have hb : Below wr.heap.size wr (wr.alloc o) := (Below.refl _ _).alloc (Nat.le_refl _) _
  have h1 := h.rk.lt
  have h2 := h.fr.size
  exact ⟨(hb.block R h1).trans h.rk, h.rh.rb.keep hb, h.rb.move (fun _ x => x) (fun g _ hl _ => hb.block g hl), fun x => by omega, by omega, hb⟩
end Go.Proofs.Ytmfeelkjbpjhdaa
