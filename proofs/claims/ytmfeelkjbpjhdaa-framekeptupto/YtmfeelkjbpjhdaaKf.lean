import Derived.Test.YtmfeelkjbpjhdaaKd
namespace Go.Proofs.Ytmfeelkjbpjhdaa
open Go.RowKit
/-- the second frame is still to come -/
structure KG (W : World) (b : List UInt8) (SL AL : List (List UInt8)) (M : Nat) (T : List UInt8) (bv sv av gv : Value) (wx : World) : Prop where
  kj : KJ W b SL AL M bv sv av wx
  g : BK (fun g => M ≤ g ∧ bv.ownBlock ≠ some g) wx gv (frm T)
  hp : W.heap.size ≤ M
theorem KG.keep {W : World} {b : List UInt8} {SL AL : List (List UInt8)} {M : Nat} {T : List UInt8} {bv sv av gv : Value} {wx w' : World} (h : KG W b SL AL M T bv sv av gv wx) (hb : Below wx.heap.size wx w') : KG W b SL AL M T bv sv av gv w' :=
  ⟨h.kj.keep hb, h.g.keep (fun k _ hl _ => hb.block k hl) (fun _ x _ => x), h.hp⟩
section
variable {ops : Array Oper} {rest : List Oper} {o : Oper} {a : Act} {Q : Exit → Act → World → Prop} {w W : World} {b : List UInt8} {SL AL : List (List UInt8)} {P M : Nat} {T : List UInt8} {bv sv av fv gv : Value}
theorem append_s (hgd : o.guard = none) (s x : Operand) (ho : o.op = .call { callee := .builtin .append, args := #[s, x], argTypes := #[26, 26] }) (hs : a.eval s = sv) (h : KF W b SL AL P M T bv sv av fv gv w) (bk : Nat) (u : Value) (hx : a.eval x = .slice (some ⟨bk, 0, none⟩) 1 1)
    (hc : w.cell? ⟨bk, 0, none⟩ = some u) (hu : RB W u T) (hlim : SL.length < 1073741824)
    (k : ∀ v' w', KF W b (SL ++ [T]) AL P M T bv v' av fv gv w' → wpList Try.prog ops Q rest (a.put o.dst v') w') : wpList Try.prog ops Q (o :: rest) a w :=
  append_refA hgd s x ho hs h.kj.rr bk u T hx hc hu h.kj.bel.size hlim (fun v' w' k1 k2 k3 => k v' w' (h.sent k1 k2 k3))
theorem append_b (hgd : o.guard = none) (s x : Operand) (ho : o.op = .call { callee := .builtin .append, args := #[s, x], argTypes := #[28, 28] }) (hs : a.eval s = bv) (h : KF W b SL AL P M T bv sv av fv gv w) (hx : a.eval x = fv) (hlim : b.length + (frm T).length ≤ 140737488351232)
    (k : ∀ v' w', KF W (b ++ frm T) SL AL P M T v' sv av fv gv w' → wpList Try.prog ops Q rest (a.put o.dst v') w') : wpList Try.prog ops Q (o :: rest) a w :=
  append_held hgd s x ho hs h.kj.ow h.kj.nil hx h.f.rb h.kj.bel.size hlim (fun v' w' k1 k2 k3 k4 => k v' w' (h.more k1 k2 k3 k4))
theorem append_f (hgd : o.guard = none) (s x : Operand) (ho : o.op = .call { callee := .builtin .append, args := #[s, x], argTypes := #[26, 26] }) (hs : a.eval s = av) (h : KF W b SL AL P M T bv sv av fv gv w) (bk : Nat) (hx : a.eval x = .slice (some ⟨bk, 0, none⟩) 1 1)
    (hc : w.cell? ⟨bk, 0, none⟩ = some fv) (hlim : AL.length < 1073741824)
    (k : ∀ v' w', KG W b SL (AL ++ [frm T]) M T bv sv v' gv w' → wpList Try.prog ops Q rest (a.put o.dst v') w') : wpList Try.prog ops Q (o :: rest) a w := by
  have hp := h.hp
  obtain ⟨gf, sf, ef, _⟩ := h.f
  refine append_bodyA (S := fun g => (W.heap.size ≤ g ∧ bv.ownBlock ≠ some g) ∧ g < M) hgd s x ho hs h.kj.al (fun g x => ⟨x.1, by have := x.2; omega⟩) bk fv (fun g n m x e => ?_) (frm T) hx hc (h.f.keep (fun _ _ _ _ => rfl) (fun g x _ => ⟨⟨by have := x.1.1; omega, x.1.2⟩, x.2⟩)) h.kj.bel.size hlim (fun v' w' k1 k2 k3 => ?_)
  · rw [ef] at e
    injection e with e1
    injection e1 with e2
    injection e2 with e3
    have := x.2
    have := sf.1.1
    omega
  · obtain ⟨us, hr⟩ := h.kj.al.row
    exact k v' w' ⟨h.kj.all k1 k2 k3, h.g.tag k2 hr, by omega⟩
theorem append_g (hgd : o.guard = none) (s x : Operand) (ho : o.op = .call { callee := .builtin .append, args := #[s, x], argTypes := #[26, 26] }) (hs : a.eval s = av) (h : KG W b SL AL M T bv sv av gv w) (bk : Nat) (hx : a.eval x = .slice (some ⟨bk, 0, none⟩) 1 1)
    (hc : w.cell? ⟨bk, 0, none⟩ = some gv) (hlim : AL.length < 1073741824)
    (k : ∀ v' w', KJ W b SL (AL ++ [frm T]) w'.heap.size bv sv v' w' → wpList Try.prog ops Q rest (a.put o.dst v') w') : wpList Try.prog ops Q (o :: rest) a w := by
  have hp := h.hp
  obtain ⟨gf, sf, ef, hgf⟩ := h.g
  have hlt := (Array.getElem?_eq_some_iff.1 hgf).1
  refine append_bodyA (S := fun g => (W.heap.size ≤ g ∧ bv.ownBlock ≠ some g) ∧ g < w.heap.size) hgd s x ho hs (h.kj.al.keep (T := fun g => ((W.heap.size ≤ g ∧ bv.ownBlock ≠ some g) ∧ g < w.heap.size) ∧ g < M) (fun _ _ _ => rfl) (fun _ x => x.1.1) (fun g x hl => ⟨⟨x.1, hl⟩, x.2⟩)) (fun g x => x.1) bk gv (fun g n m x e => ?_) (frm T) hx hc (h.g.keep (fun _ _ _ _ => rfl) (fun g x hl => ⟨⟨by have := x.1; omega, x.2⟩, hl⟩)) h.kj.bel.size hlim (fun v' w' k1 k2 k3 => ?_)
  · rw [ef] at e
    injection e with e1
    injection e1 with e2
    injection e2 with e3
    have := x.2
    have := sf.1
    omega
  · exact k v' w' ((h.kj.all k1 k2 k3).bound (Nat.le_refl _))
end
theorem bel_fr {B : Nat} {w wr w' : World} {T : Nat → Prop} (h : Below B w wr) (f : Fr T wr w') (hT : ∀ k, k < B → T k) (hB : B ≤ w.heap.size) : Below B w w' :=
  ⟨f.os.trans h.os, f.tape.trans h.tape, f.output.trans h.output, Nat.le_trans h.size f.size, fun k hk => (f.block k (Nat.lt_of_lt_of_le hk (Nat.le_trans hB h.size)) (hT k hk)).trans (h.block k hk)⟩
end Go.Proofs.Ytmfeelkjbpjhdaa
