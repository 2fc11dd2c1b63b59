import Derived.Test.YtmfeelkjbpjhdaaCt
import Derived.Test.YtmfeelkjbpjhdaaQp
import Derived.Test.YtmfeelkjbpjhdaaMeetR
namespace Go.Proofs.Ytmfeelkjbpjhdaa
open Go.RowKit
/-- how many bytes wait, told by what was read -/
def wt (why : Int) (r : List UInt8) : Nat := if why = 0 then r.length else 0
/-- a reader behind pushed -/
structure RQ (w : World) (R : Nat) (why : Int) (r : List UInt8) : Prop where
  ex : ∃ p s hv held, RK w R p s hv why ∧ OW (R + 1) w hv held ∧ (why = 0 → St p s held ∧ tx p s held = r) ∧ (why ≠ 0 → p = 0 ∧ held = [])
theorem RQ.keep {w w' : World} {R : Nat} {why : Int} {r : List UInt8} (h : RQ w R why r) (hb : Below w.heap.size w w') : RQ w' R why r := by
  obtain ⟨p, s, hv, held, h1, h2, h3⟩ := h.ex
  exact ⟨p, s, hv, held, (hb.block R h1.lt).trans h1, h2.grow hb, h3⟩
theorem QO.rq {w : World} {R p0 : Nat} {l : List UInt8} {mv bv : Value} {why : Int} {met bs : List (List UInt8)} {h' : Bool} {r : List UInt8} {p s : Nat} {held : List UInt8} {hv : Value} {w' : World} (h : QO w R p0 l mv bv why met bs h' r p s held hv w') : RQ w' R why r :=
  ⟨p, s, hv, held, h.rk, h.ow, fun e => ⟨(h.st e).1, (h.st e).2.2⟩, fun e => ⟨(h.br e).1, (h.br e).2.1⟩⟩
/-- what was told stays where only another reader turns -/
theorem OM.fr {B : Nat} {w w' : World} {v : Value} {met : List (List UInt8)} {R : Nat} (h : OM B w v met) (hf : Fr (fun k => k ≠ R) w w') (hR : R < B) : OM B w' v met := h.keep (fun k h1 h2 => hf.block k h2 (by omega))
theorem OB.fr {B : Nat} {S : Nat → Prop} {w w' : World} {v : Value} {bs : List (List UInt8)} {R : Nat} (h : OB B S w v bs) (hf : Fr (fun k => k ≠ R) w w') (hR : R < B) (hS : ∀ g, S g → B ≤ g) : OB B S w' v bs := h.keep (fun k h1 h2 => hf.block k h2 (by omega)) hS (fun _ x _ => x)
theorem RQ.fr {w w' : World} {R R2 : Nat} {why : Int} {r : List UInt8} (h : RQ w R why r) (hf : Fr (fun k => k ≠ R2) w w') (hR : R ≠ R2) (hk : ∃ p s hv f, RK w R2 p s hv f) : RQ w' R why r := by
  obtain ⟨p, s, hv, held, h1, h2, h3⟩ := h.ex
  refine ⟨p, s, hv, held, (hf.block R h1.lt hR).trans h1, ⟨h2.1, ?_⟩, h3⟩
  rcases h2.2 with k1 | ⟨g, cap, cur, k1, k2, k3, k4⟩
  · exact .inl k1
  · refine .inr ⟨g, cap, cur, k1, k2, (hf.block g (Array.getElem?_eq_some_iff.1 k3).1 fun e => ?_).trans k3, k4⟩
    subst e
    obtain ⟨p', s', hv', f', hk⟩ := hk
    rw [show w.heap[g]? = _ from hk] at k3
    simp at k3
theorem OM.keepB {B : Nat} {w w' : World} {v : Value} {met : List (List UInt8)} (h : OM B w v met) (hb : Below w.heap.size w w') : OM B w' v met := h.keep (fun k _ h2 => hb.block k h2)
theorem Rd.met1 {h : Bool} {l : List UInt8} {met bs : List (List UInt8)} {h' : Bool} {r : List UInt8} {e : Int} (x : Rd h l met bs h' r e) : met.length ≤ 1 := by
  cases h with
  | false => rw [(x.frames rfl).1]; simp
  | true =>
    cases x with
    | bad => simp
    | few => simp
    | hello _ _ _ _ _ _ _ _ y => rw [(y.frames rfl).1]; simp
theorem Rd.bounds {h : Bool} {l : List UInt8} {met bs : List (List UInt8)} {h' : Bool} {r : List UInt8} {e : Int} (x : Rd h l met bs h' r e) : ∀ b ∈ bs, b.length ≤ 32768 := by
  cases h with
  | false => exact (x.frames rfl).2.2.2.2.2
  | true =>
    cases x with
    | bad => simp
    | few => simp
    | hello _ _ _ _ _ _ _ _ y => exact (y.frames rfl).2.2.2.2.2
theorem below_of {W w w' : World} {R : Nat} (h : Below W.heap.size W w) (hf : Fr (fun k => k ≠ R) w w') (hR : W.heap.size ≤ R) : Below W.heap.size W w' :=
  ⟨hf.os.trans h.os, hf.tape.trans h.tape, hf.output.trans h.output, Nat.le_trans h.size hf.size, fun k hk => (hf.block k (Nat.lt_of_lt_of_le hk h.size) (by omega)).trans (h.block k hk)⟩
/-- behind the two pushes -/
structure CB (w : World) (R1 R2 N1 N2 : Nat) (l : List UInt8) (mv1 bv1 mv2 bv2 : Value) (why : Int) (met bs : List (List UInt8)) (r : List UInt8) (v : Value) (w6 : World) : Prop where
  x1 : w6.heap[N1]? = some (.cells #[mv1, bv1, .int .i64 why] 41 (0, 0))
  x2 : w6.heap[N2]? = some (.cells #[mv2, bv2, .int .i64 why] 41 (0, 0))
  m1 : ∃ B, OM B w6 mv1 met
  m2 : ∃ B, OM B w6 mv2 met
  b1 : RBS w6 bv1 bs
  b2 : RBS w6 bv2 bs
  r1 : RQ w6 R1 why r
  r2 : RQ w6 R2 why r
  rb : RB w6 v l
  bel : Below w.heap.size w w6
theorem CB.keep {w : World} {R1 R2 N1 N2 : Nat} {l : List UInt8} {mv1 bv1 mv2 bv2 : Value} {why : Int} {met bs : List (List UInt8)} {r : List UInt8} {v : Value} {w6 w7 : World} (h : CB w R1 R2 N1 N2 l mv1 bv1 mv2 bv2 why met bs r v w6) (hb : Below w6.heap.size w6 w7) : CB w R1 R2 N1 N2 l mv1 bv1 mv2 bv2 why met bs r v w7 := by
  obtain ⟨B1, m1⟩ := h.m1
  obtain ⟨B2, m2⟩ := h.m2
  exact ⟨(hb.block _ (Array.getElem?_eq_some_iff.1 h.x1).1).trans h.x1, (hb.block _ (Array.getElem?_eq_some_iff.1 h.x2).1).trans h.x2, ⟨B1, m1.keepB hb⟩, ⟨B2, m2.keepB hb⟩, h.b1.keep hb, h.b2.keep hb, h.r1.keep hb, h.r2.keep hb, h.rb.keep hb, h.bel.trans (hb.mono h.bel.size)⟩
end Go.Proofs.Ytmfeelkjbpjhdaa
