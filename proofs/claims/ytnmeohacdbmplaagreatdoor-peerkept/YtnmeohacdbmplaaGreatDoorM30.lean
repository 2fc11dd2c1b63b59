import Derived.Test.YtnmeohacdbmplaaGreatDoorM29
namespace Go.Proofs.YtnmeohacdbmplaaGreatDoor
open Go.RowKit
/-- both connections, what the second state told, and two variables; lab tells whose a block is -/
structure KZ (lab : Nat → Nat) (u : World) (g R g' R' : Nat) (P P' : Pv) (H H' : List UInt8) (n n' : Nat) (tv : Value) (Ht : List UInt8) (b1 b2 : Nat) (C1 C2 : Array Value) : Prop where
  cp : CN u g R P H (fun k => lab k = 1) n
  cq : CN u g' R' P' H' (fun k => lab k = 2) n'
  ot : OW 0 u tv Ht
  lt : ∀ k, tv.ownBlock = some k → lab k = 6
  s1 : SV u b1 C1
  l1 : lab b1 = 0
  s2 : SV u b2 C2
  l2 : lab b2 = 0
  lo : lab 0 = 0 ∧ lab 1 = 0
theorem SV.frS {S : Nat → Prop} {u u' : World} {q : Nat} {cs : Array Value} (h : SV u q cs) (f : Fm.Fr S u u') (hs : S q) : SV u' q cs := (f.block q (Array.getElem?_eq_some_iff.1 h).1 hs).trans h
theorem KZ.fr {S : Nat → Prop} {lab : Nat → Nat} {u u' : World} {g R g' R' : Nat} {P P' : Pv} {H H' : List UInt8} {n n' : Nat} {tv : Value} {Ht : List UInt8} {b1 b2 : Nat} {C1 C2 : Array Value} (h : KZ lab u g R g' R' P P' H H' n n' tv Ht b1 b2 C1 C2) (f : Fm.Fr S u u') (hS : ∀ k, lab k = 0 ∨ lab k = 1 ∨ lab k = 2 ∨ lab k = 6 → S k) : KZ lab u' g R g' R' P P' H H' n n' tv Ht b1 b2 C1 C2 :=
  ⟨h.cp.fr f (fun k hk => hS k (.inr (.inl hk))) (hS 0 (.inl h.lo.1)) (hS 1 (.inl h.lo.2)), h.cq.fr f (fun k hk => hS k (.inr (.inr (.inl hk)))) (hS 0 (.inl h.lo.1)) (hS 1 (.inl h.lo.2)), h.ot.frS f (fun k hk => hS k (.inr (.inr (.inr (h.lt k hk))))), h.lt, h.s1.frS f (hS b1 (.inl h.l1)), h.l1, h.s2.frS f (hS b2 (.inl h.l2)), h.l2, h.lo⟩
theorem KZ.relab {lab lab' : Nat → Nat} {u : World} {g R g' R' : Nat} {P P' : Pv} {H H' : List UInt8} {n n' : Nat} {tv : Value} {Ht : List UInt8} {b1 b2 : Nat} {C1 C2 : Array Value} (h : KZ lab u g R g' R' P P' H H' n n' tv Ht b1 b2 C1 C2) (hl : ∀ k, k < u.heap.size → lab' k = lab k) (h01 : 1 < u.heap.size) : KZ lab' u g R g' R' P P' H H' n n' tv Ht b1 b2 C1 C2 :=
  ⟨h.cp.mono (fun k hk e => by rw [hl k hk]; exact e), h.cq.mono (fun k hk e => by rw [hl k hk]; exact e), h.ot, fun k hk => by rw [hl k (own_ge h.ot hk).2]; exact h.lt k hk, h.s1, by rw [hl b1 (Array.getElem?_eq_some_iff.1 h.s1).1]; exact h.l1, h.s2, by rw [hl b2 (Array.getElem?_eq_some_iff.1 h.s2).1]; exact h.l2, by rw [hl 0 (by omega), hl 1 h01]; exact h.lo⟩
/-- and what the first state told -/
structure KY (lab : Nat → Nat) (u : World) (g R g' R' : Nat) (P P' : Pv) (H H' : List UInt8) (n n' : Nat) (tv : Value) (Ht : List UInt8) (b1 b2 : Nat) (C1 C2 : Array Value) (sv : Value) (Hs : List UInt8) : Prop where
  kz : KZ lab u g R g' R' P P' H H' n n' tv Ht b1 b2 C1 C2
  os : OW 0 u sv Hs
  ls : ∀ k, sv.ownBlock = some k → lab k = 5
theorem KY.fr {S : Nat → Prop} {lab : Nat → Nat} {u u' : World} {g R g' R' : Nat} {P P' : Pv} {H H' : List UInt8} {n n' : Nat} {tv : Value} {Ht : List UInt8} {b1 b2 : Nat} {C1 C2 : Array Value} {sv : Value} {Hs : List UInt8} (h : KY lab u g R g' R' P P' H H' n n' tv Ht b1 b2 C1 C2 sv Hs) (f : Fm.Fr S u u') (hS : ∀ k, lab k ≤ 6 → lab k ≠ 3 → lab k ≠ 4 → S k) : KY lab u' g R g' R' P P' H H' n n' tv Ht b1 b2 C1 C2 sv Hs :=
  ⟨h.kz.fr f (fun k hk => hS k (by omega) (by omega) (by omega)), h.os.frS f (fun k hk => by have := h.ls k hk; exact hS k (by omega) (by omega) (by omega)), h.ls⟩
theorem KY.relab {lab lab' : Nat → Nat} {u : World} {g R g' R' : Nat} {P P' : Pv} {H H' : List UInt8} {n n' : Nat} {tv : Value} {Ht : List UInt8} {b1 b2 : Nat} {C1 C2 : Array Value} {sv : Value} {Hs : List UInt8} (h : KY lab u g R g' R' P P' H H' n n' tv Ht b1 b2 C1 C2 sv Hs) (hl : ∀ k, k < u.heap.size → lab' k = lab k) (h01 : 1 < u.heap.size) : KY lab' u g R g' R' P P' H H' n n' tv Ht b1 b2 C1 C2 sv Hs :=
  ⟨h.kz.relab hl h01, h.os, fun k hk => by rw [hl k (own_ge h.os hk).2]; exact h.ls k hk⟩
/-- and the events of both -/
structure KX (lab : Nat → Nat) (u : World) (g R g' R' : Nat) (P P' : Pv) (H H' : List UInt8) (n n' : Nat) (tv : Value) (Ht : List UInt8) (b1 b2 : Nat) (C1 C2 : Array Value) (sv : Value) (Hs : List UInt8) (ev ev' : Value) (es es' : List Ev) : Prop where
  ky : KY lab u g R g' R' P P' H H' n n' tv Ht b1 b2 C1 C2 sv Hs
  el : EVS 0 u ev es
  ll : ∀ k, eb ev es k → lab k = 3
  ek : EVS 0 u ev' es'
  lk : ∀ k, eb ev' es' k → lab k = 4
theorem KX.fr {S : Nat → Prop} {lab : Nat → Nat} {u u' : World} {g R g' R' : Nat} {P P' : Pv} {H H' : List UInt8} {n n' : Nat} {tv : Value} {Ht : List UInt8} {b1 b2 : Nat} {C1 C2 : Array Value} {sv : Value} {Hs : List UInt8} {ev ev' : Value} {es es' : List Ev} (h : KX lab u g R g' R' P P' H H' n n' tv Ht b1 b2 C1 C2 sv Hs ev ev' es es') (f : Fm.Fr S u u') (hS : ∀ k, lab k ≤ 6 → S k) : KX lab u' g R g' R' P P' H H' n n' tv Ht b1 b2 C1 C2 sv Hs ev ev' es es' :=
  ⟨h.ky.fr f (fun k hk _ _ => hS k hk), h.el.frS f (fun k hk => hS k (by have := h.ll k hk; omega)), h.ll, h.ek.frS f (fun k hk => hS k (by have := h.lk k hk; omega)), h.lk⟩
theorem KX.below {lab : Nat → Nat} {u u' : World} {g R g' R' : Nat} {P P' : Pv} {H H' : List UInt8} {n n' : Nat} {tv : Value} {Ht : List UInt8} {b1 b2 : Nat} {C1 C2 : Array Value} {sv : Value} {Hs : List UInt8} {ev ev' : Value} {es es' : List Ev} (h : KX lab u g R g' R' P P' H H' n n' tv Ht b1 b2 C1 C2 sv Hs ev ev' es es') (hb : Below u.heap.size u u') : KX lab u' g R g' R' P P' H H' n n' tv Ht b1 b2 C1 C2 sv Hs ev ev' es es' :=
  h.fr (S := fun _ => True) (Fm.Fr.of_below hb) (fun _ _ => trivial)
theorem KX.relab {lab lab' : Nat → Nat} {u : World} {g R g' R' : Nat} {P P' : Pv} {H H' : List UInt8} {n n' : Nat} {tv : Value} {Ht : List UInt8} {b1 b2 : Nat} {C1 C2 : Array Value} {sv : Value} {Hs : List UInt8} {ev ev' : Value} {es es' : List Ev} (h : KX lab u g R g' R' P P' H H' n n' tv Ht b1 b2 C1 C2 sv Hs ev ev' es es') (hl : ∀ k, k < u.heap.size → lab' k = lab k) (h01 : 1 < u.heap.size) : KX lab' u g R g' R' P P' H H' n n' tv Ht b1 b2 C1 C2 sv Hs ev ev' es es' :=
  ⟨h.ky.relab hl h01, h.el, fun k hk => by rw [hl k (eb_tag h.el hk).2.1]; exact h.ll k hk, h.ek, fun k hk => by rw [hl k (eb_tag h.ek hk).2.1]; exact h.lk k hk⟩
/-- the bytes of events, as lists in unlike blocks -/
def vsE (es : List Ev) : List Value := es.map (fun e => e.x.m.d)
def LE (es : List Ev) : List (List UInt8) := es.map (fun e => e.x.D)
theorem vsE_at {es : List Ev} {j : Nat} {e : Ev} (h : es[j]? = some e) : (vsE es).getD j nv = e.x.m.d := by simp [vsE, List.getD, h]
theorem LE_at {es : List Ev} {j : Nat} {e : Ev} (h : es[j]? = some e) : (LE es).getD j [] = e.x.D := by simp [LE, List.getD, h]
theorem get_ev {es : List Ev} {j : Nat} (h : j < es.length) : ∃ e, es[j]? = some e := ⟨_, List.getElem?_eq_getElem h⟩
theorem FL.ev {B : Nat} {w : World} {ev : Value} {es : List Ev} (h : EVS B w ev es) (hn : (es.filterMap (fun e => e.x.m.d.ownBlock)).Nodup) : FL B w (vsE es) (LE es) := by
  have hl : (LE es).length = es.length := by simp [LE]
  refine ⟨by simp [vsE, LE], fun j hj => ?_, fun i j g hi hj hij hg hg' => ?_⟩
  · obtain ⟨e, he⟩ := get_ev (es := es) (by rw [← hl]; exact hj)
    rw [vsE_at he, LE_at he]
    exact (h.2 e (List.mem_of_getElem? he)).mg.d
  · obtain ⟨x, hx⟩ := get_ev (es := es) (j := i) (by rw [← hl]; exact hi)
    obtain ⟨y, hy⟩ := get_ev (es := es) (j := j) (by rw [← hl]; exact hj)
    rw [vsE_at hx] at hg
    rw [vsE_at hy] at hg'
    rcases Nat.lt_or_gt_of_ne hij with h1 | h1
    · exact fm_ne (fun e : Ev => e.x.m.d.ownBlock) hn i j h1 hx hy hg hg'
    · exact fm_ne (fun e : Ev => e.x.m.d.ownBlock) hn j i h1 hy hx hg' hg
theorem bks_eb {ev : Value} {es : List Ev} {k : Nat} (h : bks (vsE es) k) : eb ev es k := by
  obtain ⟨j, hj, e⟩ := h
  obtain ⟨x, hx⟩ := get_ev (es := es) (j := j) (by simpa [vsE] using hj)
  rw [vsE_at hx] at e
  exact .inr ⟨x, List.mem_of_getElem? hx, .inl e⟩
/-- while their bytes are gone on with -/
theorem KX.marks {lab : Nat → Nat} {u u' : World} {g R g' R' : Nat} {P P' : Pv} {H H' : List UInt8} {n n' : Nat} {tv : Value} {Ht : List UInt8} {b1 b2 : Nat} {C1 C2 : Array Value} {sv : Value} {Hs : List UInt8} {ev ev' : Value} {es es' : List Ev} (h : KX lab u g R g' R' P P' H H' n n' tv Ht b1 b2 C1 C2 sv Hs ev ev' es es') {mk : Nat → List UInt8} {j : Nat} {ms : List Value} (hm : MF u 0 (vsE es) (LE es) mk j ms u') : KX lab u' g R g' R' P P' H H' n n' tv Ht b1 b2 C1 C2 sv Hs ev ev' es es' := by
  have hb3 : ∀ k, lab k ≠ 3 → ¬ bks (vsE es) k := fun k hk hb => hk (h.ll k (bks_eb hb))
  have tg : ∀ k cs t, u.heap[k]? = some (.cells cs t (0, 0)) → t ≠ 5 → ¬ bks (vsE es) k := fun k cs t hk ht hb => by
    have h0 : FL 0 u' (vsE es) (LE es) := hm.fl
    obtain ⟨e, he, hk2⟩ : ∃ e ∈ es, e.x.m.d.ownBlock = some k := by
      obtain ⟨i, hi, e⟩ := hb
      obtain ⟨x, hx⟩ := get_ev (es := es) (j := i) (by simpa [vsE] using hi)
      rw [vsE_at hx] at e
      exact ⟨x, List.mem_of_getElem? hx, e⟩
    obtain ⟨_, _, cs', h5⟩ := rowTag (h.el.2 e he).mg.d hk2
    exact tag_ne hk h5 ht rfl
  refine ⟨h.ky.fr hm.fr (fun k _ h3 _ => hb3 k h3), ⟨rowFr h.el.1 hm.fr (fun k hk => ?_), fun e he => ⟨(h.el.2 e he).pr, (h.el.2 e he).mg.ok, ?_, ?_, (h.el.2 e he).mg.dl, (h.el.2 e he).mg.hl⟩⟩, h.ll, h.ek.frS hm.fr (fun k hk => hb3 k (by have := h.lk k hk; omega)), h.lk⟩
  · obtain ⟨_, _, cs, t⟩ := rowTag h.el.1 hk
    exact tg k cs _ t (by decide)
  · obtain ⟨i, hi, rfl⟩ := List.mem_iff_getElem.1 he
    have hx : es[i]? = some es[i] := List.getElem?_eq_getElem hi
    have := hm.fl.each i (by simp [LE]; exact hi)
    rwa [vsE_at hx, LE_at hx] at this
  · obtain ⟨n, en, hh⟩ := (h.el.2 e he).mg.h
    refine ⟨n, en, rowFr hh hm.fr (fun k hk => ?_)⟩
    obtain ⟨_, _, cs, t⟩ := rowTag hh hk
    exact tg k cs _ t (by decide)
/-- what was gone on with -/
structure KM (lab : Nat → Nat) (u : World) (es : List Ev) (Hs : List UInt8) (mk : Nat → List UInt8) (mv : Value) (ms : List Value) (nn : Value) : Prop where
  mr : u.ownsRow 0 31 1 mv es.length ms
  lm : ∀ k, mv.ownBlock = some k → lab k = 10
  me : ∀ q, q < es.length → OW 0 u (ms.getD q nv) ((LE es).getD q [] ++ mk q) ∧ ∀ k, (ms.getD q nv).ownBlock = some k → lab k = 3 ∨ lab k = 10
  no : OW 0 u nn (Hs ++ [77])
  ln : ∀ k, nn.ownBlock = some k → lab k = 5 ∨ lab k = 10
theorem KM.fr {S : Nat → Prop} {lab : Nat → Nat} {u u' : World} {es : List Ev} {Hs : List UInt8} {mk : Nat → List UInt8} {mv : Value} {ms : List Value} {nn : Value} (h : KM lab u es Hs mk mv ms nn) (f : Fm.Fr S u u') (hS : ∀ k, lab k = 3 ∨ lab k = 5 ∨ lab k = 10 → S k) : KM lab u' es Hs mk mv ms nn :=
  ⟨rowFr h.mr f (fun k hk => hS k (.inr (.inr (h.lm k hk)))), h.lm, fun q hq => ⟨(h.me q hq).1.frS f (fun k hk => hS k (by rcases (h.me q hq).2 k hk with e | e <;> omega)), (h.me q hq).2⟩, h.no.frS f (fun k hk => hS k (by rcases h.ln k hk with e | e <;> omega)), h.ln⟩
theorem KM.relab {lab lab' : Nat → Nat} {u : World} {es : List Ev} {Hs : List UInt8} {mk : Nat → List UInt8} {mv : Value} {ms : List Value} {nn : Value} (h : KM lab u es Hs mk mv ms nn) (hl : ∀ k, k < u.heap.size → lab' k = lab k) : KM lab' u es Hs mk mv ms nn :=
  ⟨h.mr, fun k hk => by rw [hl k (rowTag h.mr hk).2.1]; exact h.lm k hk, fun q hq => ⟨(h.me q hq).1, fun k hk => by rw [hl k (rowTag (h.me q hq).1 hk).2.1]; exact (h.me q hq).2 k hk⟩, h.no, fun k hk => by rw [hl k (rowTag h.no hk).2.1]; exact h.ln k hk⟩
end Go.Proofs.YtnmeohacdbmplaaGreatDoor
namespace Go.Proofs.YtnmeohacdbmplaaGreatDoor
open Go.RowKit
theorem labs (s4 s5 s6 s8 s9 b1 s11 s12 b2 : Nat) (Q Q' : Nat → Prop) (h45 : s4 ≤ s5) (h56 : s5 ≤ s6) (h68 : s6 ≤ s8) (h89 : s8 ≤ s9) (h911 : s9 ≤ s11) (h112 : s11 ≤ s12) :
    ∃ lab : Nat → Nat, (∀ k, k < s4 → lab k = 0) ∧ (∀ k, s4 ≤ k → k < s5 → lab k = 1) ∧ (∀ k, s5 ≤ k → k < s6 → lab k = 2) ∧ (∀ k, s6 ≤ k → k < s8 → lab k = 7) ∧ (∀ k, s8 ≤ k → k < s9 → Q k → lab k = 3) ∧ (∀ k, s8 ≤ k → k < s9 → ¬ Q k → lab k = 1) ∧ (∀ k, s9 ≤ k → k < s11 → k ≠ b1 → lab k = 5) ∧ (s9 ≤ b1 → b1 < s11 → lab b1 = 0) ∧ (∀ k, s11 ≤ k → k < s12 → Q' k → lab k = 4) ∧ (∀ k, s11 ≤ k → k < s12 → ¬ Q' k → lab k = 2) ∧ (∀ k, s12 ≤ k → k ≠ b2 → lab k = 6) ∧ (s12 ≤ b2 → lab b2 = 0) := by
  classical
  refine ⟨fun k => if k < s4 then 0 else if k < s5 then 1 else if k < s6 then 2 else if k < s8 then 7 else if k < s9 then (if Q k then 3 else 1) else if k < s11 then (if k = b1 then 0 else 5) else if k < s12 then (if Q' k then 4 else 2) else (if k = b2 then 0 else 6), ?_, ?_, ?_, ?_, ?_, ?_, ?_, ?_, ?_, ?_, ?_, ?_⟩
  · intro k h; simp [h]
  · intro k h1 h2; dsimp only; rw [if_neg (by omega), if_pos h2]
  · intro k h1 h2; dsimp only; rw [if_neg (by omega), if_neg (by omega), if_pos h2]
  · intro k h1 h2; dsimp only; rw [if_neg (by omega), if_neg (by omega), if_neg (by omega), if_pos h2]
  · intro k h1 h2 h3; dsimp only; rw [if_neg (by omega), if_neg (by omega), if_neg (by omega), if_neg (by omega), if_pos h2, if_pos h3]
  · intro k h1 h2 h3; dsimp only; rw [if_neg (by omega), if_neg (by omega), if_neg (by omega), if_neg (by omega), if_pos h2, if_neg h3]
  · intro k h1 h2 h3; dsimp only; rw [if_neg (by omega), if_neg (by omega), if_neg (by omega), if_neg (by omega), if_neg (by omega), if_pos h2, if_neg h3]
  · intro h1 h2; dsimp only; rw [if_neg (by omega), if_neg (by omega), if_neg (by omega), if_neg (by omega), if_neg (by omega), if_pos h2, if_pos rfl]
  · intro k h1 h2 h3; dsimp only; rw [if_neg (by omega), if_neg (by omega), if_neg (by omega), if_neg (by omega), if_neg (by omega), if_neg (by omega), if_pos h2, if_pos h3]
  · intro k h1 h2 h3; dsimp only; rw [if_neg (by omega), if_neg (by omega), if_neg (by omega), if_neg (by omega), if_neg (by omega), if_neg (by omega), if_pos h2, if_neg h3]
  · intro k h1 h2; dsimp only; rw [if_neg (by omega), if_neg (by omega), if_neg (by omega), if_neg (by omega), if_neg (by omega), if_neg (by omega), if_neg (by omega), if_neg h2]
  · intro h1; dsimp only; rw [if_neg (by omega), if_neg (by omega), if_neg (by omega), if_neg (by omega), if_neg (by omega), if_neg (by omega), if_neg (by omega), if_pos rfl]
theorem KX.make {s4 s5 s6 : Nat} {w8 w9 w10 w11 w12 w13 w14 : World} {g R g' R' : Nat} {P1 P2 : Pv} {H1 H2 : List UInt8} {n : Nat} {xt sv tv ev ev' : Value} {lt Hs Ht : List UInt8} {es es' : List Ev} {C1 C2 : Array Value} (h1 : 1 < s4) (h45 : s4 ≤ s5) (h56 : s5 ≤ s6) (h68 : s6 ≤ w8.heap.size)
    (ox : OW s6 w8 xt lt)
    (e9 : EVS w8.heap.size w9 ev es) (c9 : CN w9 g R P1 H1 (fun k => (s4 ≤ k ∧ k < s5) ∨ (w8.heap.size ≤ k ∧ ¬ eb ev es k)) n) (f9 : Fm.Fr (fun k => ¬ (s4 ≤ k ∧ k < s5)) w8 w9)
    (o10 : OW w9.heap.size w10 sv Hs) (b10 : Below w9.heap.size w9 w10) (b11 : Below w10.heap.size w10 w11) (v11 : SV w11 w10.heap.size C1)
    (e12 : EVS w11.heap.size w12 ev' es') (c12 : CN w12 g' R' P2 H2 (fun k => (s5 ≤ k ∧ k < s6) ∨ (w11.heap.size ≤ k ∧ ¬ eb ev' es' k)) n) (f12 : Fm.Fr (fun k => ¬ (s5 ≤ k ∧ k < s6)) w11 w12)
    (o13 : OW w12.heap.size w13 tv Ht) (b13 : Below w12.heap.size w12 w13) (b14 : Below w13.heap.size w13 w14) (v14 : SV w14 w13.heap.size C2) :
    ∃ lab, KX lab w14 g R g' R' P1 P2 H1 H2 n n tv Ht w10.heap.size w13.heap.size C1 C2 sv Hs ev ev' es es' ∧ (∀ k, k < s4 → lab k = 0) ∧ OW 0 w14 xt lt ∧ (∀ k, xt.ownBlock = some k → lab k = 7) := by
  have z9 := f9.size
  have z10 := b10.size
  have z11 := b11.size
  have z12 := f12.size
  have z13 := b13.size
  have z14 := b14.size
  have zb1 : w10.heap.size < w11.heap.size := (Array.getElem?_eq_some_iff.1 v11).1
  have zb2 : w13.heap.size < w14.heap.size := (Array.getElem?_eq_some_iff.1 v14).1
  obtain ⟨lab, L0, L1, L2, L7, L3, L31, L5, L50, L4, L42, L6, L60⟩ := labs s4 s5 s6 w8.heap.size w9.heap.size w10.heap.size w11.heap.size w12.heap.size w13.heap.size (eb ev es) (eb ev' es') h45 h56 h68 z9 (by omega) z12
  have B911 : Below w9.heap.size w9 w11 := b10.trans (b11.mono z10)
  have B1214 : Below w12.heap.size w12 w14 := b13.trans (b14.mono z13)
  have f912 : ∀ {S : Nat → Prop}, (∀ k, S k → ¬ (s5 ≤ k ∧ k < s6)) → Fm.Fr S w9 w14 := fun hS => ((Fm.Fr.of_below B911).trans (f12.mono (fun k _ h => hS k h)) (fun _ _ x => x)).trans (Fm.Fr.of_below B1214) (fun _ _ x => x)
  have f1214 : ∀ {S : Nat → Prop}, Fm.Fr S w12 w14 := Fm.Fr.of_below B1214
  refine ⟨lab, ⟨⟨⟨?_, ?_, ?_, ?_, ?_, L50 z10 zb1, v14, L60 z13, L0 0 (by omega), L0 1 h1⟩, ?_, ?_⟩, ?_, ?_, ?_, ?_⟩, L0, ?_, ?_⟩
  · have c14 := c9.fr (S := fun k => ¬ (s5 ≤ k ∧ k < s6)) (f912 (fun _ h => h)) (fun k hk => by rcases hk with hk | hk <;> omega) (by omega) (by omega)
    have c9' : CN w9 g R P1 H1 (fun k => lab k = 1 ∧ k < w9.heap.size) n := c9.mono (fun k hk h => by
      rcases h with h | h
      · exact ⟨L1 k h.1 h.2, hk⟩
      · exact ⟨L31 k h.1 hk h.2, hk⟩)
    have c14' := c9'.fr (S := fun k => ¬ (s5 ≤ k ∧ k < s6)) (f912 (fun _ h => h)) (fun k hk h => by have := L2 k h.1 h.2; omega) (by omega) (by omega)
    exact c14'.mono (fun k _ h => h.1)
  · have c12' : CN w12 g' R' P2 H2 (fun k => lab k = 2) n := c12.mono (fun k hk h => by
      rcases h with h | h
      · exact L2 k h.1 h.2
      · exact L42 k h.1 hk h.2)
    exact c12'.below B1214
  · exact (o13.grow b14).mono (Nat.zero_le _)
  · intro k hk
    have := rowTag o13 hk
    exact L6 k this.1 (by omega)
  · exact (v11.frS f12 (by omega)).keep B1214
  · exact ((o10.grow b11).frS (f12.mono (T := fun k => w9.heap.size ≤ k) (fun k _ h => by omega)) (fun k hk => (rowTag o10 hk).1)).grow B1214 |>.mono (Nat.zero_le _)
  · intro k hk
    have := rowTag o10 hk
    exact L5 k this.1 (by omega) (by omega)
  · exact (e9.frS (f912 (S := fun k => w8.heap.size ≤ k) (fun k h => by omega)) (fun k hk => (eb_tag e9 hk).1)).mono (Nat.zero_le _)
  · intro k hk
    have := eb_tag e9 hk
    exact L3 k this.1 this.2.1 hk
  · exact (e12.frS f1214 (fun _ _ => trivial)).mono (Nat.zero_le _)
  · intro k hk
    have := eb_tag e12 hk
    exact L4 k this.1 this.2.1 hk
  · have o9 : OW s6 w9 xt lt := ox.frS f9 (fun k hk => by have := (rowTag ox hk).1; omega)
    exact (o9.frS (f912 (S := fun k => s6 ≤ k) (fun k h => by omega)) (fun k hk => (rowTag o9 hk).1)).mono (Nat.zero_le _)
  · intro k hk
    have := rowTag ox hk
    exact L7 k this.1 this.2.1
theorem relabel (lab : Nat → Nat) (s : Nat) (Q : Nat → Prop) (a b : Nat) : ∃ lab' : Nat → Nat, (∀ k, k < s → lab' k = lab k) ∧ (∀ k, s ≤ k → Q k → lab' k = a) ∧ (∀ k, s ≤ k → ¬ Q k → lab' k = b) := by
  classical
  refine ⟨fun k => if k < s then lab k else if Q k then a else b, fun k h => ?_, fun k h hq => ?_, fun k h hq => ?_⟩
  · dsimp only; rw [if_pos h]
  · dsimp only; rw [if_neg (by omega), if_pos hq]
  · dsimp only; rw [if_neg (by omega), if_neg hq]
theorem KX.son {lab : Nat → Nat} {u u' : World} {g R g' R' : Nat} {P P' : Pv} {H H' : List UInt8} {n n' : Nat} {tv : Value} {Ht : List UInt8} {b1 b2 : Nat} {C1 C2 : Array Value} {sv : Value} {Hs : List UInt8} {ev ev' : Value} {es es' : List Ev} (h : KX lab u g R g' R' P P' H H' n n' tv Ht b1 b2 C1 C2 sv Hs ev ev' es es') (f : Fm.Fr (fun k => sv.ownBlock ≠ some k) u u') (os : OW 0 u' sv Hs) : KX lab u' g R g' R' P P' H H' n n' tv Ht b1 b2 C1 C2 sv Hs ev ev' es es' :=
  have hS : ∀ k, lab k ≠ 5 → sv.ownBlock ≠ some k := fun k hk e => hk (h.ky.ls k e)
  ⟨⟨h.ky.kz.fr f (fun k hk => hS k (by omega)), os, h.ky.ls⟩, h.el.frS f (fun k hk => hS k (by have := h.ll k hk; omega)), h.ll, h.ek.frS f (fun k hk => hS k (by have := h.lk k hk; omega)), h.lk⟩
theorem KX.setp {lab : Nat → Nat} {u u' : World} {g R g' R' : Nat} {P P' : Pv} {H H' : List UInt8} {n n' : Nat} {tv : Value} {Ht : List UInt8} {b1 b2 : Nat} {C1 C2 : Array Value} {sv : Value} {Hs : List UInt8} {ev ev' : Value} {es es' : List Ev} (h : KX lab u g R g' R' P P' H H' n n' tv Ht b1 b2 C1 C2 sv Hs ev ev' es es') (f : Fm.Fr (fun k => lab k ≠ 1) u u') {P3 : Pv} {H3 : List UInt8} {n3 : Nat} (c : CN u' g R P3 H3 (fun k => lab k = 1) n3) : KX lab u' g R g' R' P3 P' H3 H' n3 n' tv Ht b1 b2 C1 C2 sv Hs ev ev' es es' :=
  have hz := h.ky.kz
  ⟨⟨⟨c, hz.cq.fr f (fun k hk => by omega) (by have := hz.lo.1; omega) (by have := hz.lo.2; omega), hz.ot.frS f (fun k hk => by have := hz.lt k hk; omega), hz.lt, hz.s1.frS f (by have := hz.l1; omega), hz.l1, hz.s2.frS f (by have := hz.l2; omega), hz.l2, hz.lo⟩, h.ky.os.frS f (fun k hk => by have := h.ky.ls k hk; omega), h.ky.ls⟩, h.el.frS f (fun k hk => by have := h.ll k hk; omega), h.ll, h.ek.frS f (fun k hk => by have := h.lk k hk; omega), h.lk⟩
end Go.Proofs.YtnmeohacdbmplaaGreatDoor
