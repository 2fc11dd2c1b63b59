import Derived.Test.YtmfeelkjbpjhdaaBr
namespace Go.Proofs.Ytmfeelkjbpjhdaa
open Go.RowKit
set_option maxHeartbeats 1000000 in
/-- a reader that is broken takes nothing -/
theorem pushB (w : World) (R p s : Nat) (hv : Value) (a : Option Addr) (n c : Nat) (hk : RK w R p s hv 102) :
    Calls Try.prog 14 #[.pointer (some ⟨R, 0, none⟩), .slice a n c] w fun e w' => e = .returned (.tuple #[.slice none 0 0, .slice none 0 0, .int .i64 103]) ∧ w' = w := by
  have c3 := hk.c3
  clear hk
  go_enter Try.func14, Try.ntmps14
  go_wp2
  go_step3
  go_wp2
  rw [Exit.noGoto_ret]
  go_ret3
  exact ⟨rfl, rfl⟩
/-- the loop that wraps: what it keeps -/
structure WI (w : World) (L : List (List UInt8)) (i : Nat) (BS : List (List UInt8)) (bv sv : Value) (nb ns : Nat) (wr : World) : Prop where
  bs : BS = gd (L.take i)
  nb : nb = (fms BS).length
  ns : ns = BS.length
  ow : OW w.heap.size wr bv (fms BS)
  nil : fms BS = [] → bv = .slice none 0 0
  rr : RR w wr sv BS
  bel : Below w.heap.size w wr
theorem WI.keep {w : World} {L : List (List UInt8)} {i : Nat} {BS : List (List UInt8)} {bv sv : Value} {nb ns : Nat} {wr w2 : World} (h : WI w L i BS bv sv nb ns wr) (hb : Below wr.heap.size wr w2) : WI w L i BS bv sv nb ns w2 :=
  ⟨h.bs, h.nb, h.ns, h.ow.grow hb, h.nil, h.rr.keep hb, h.bel.trans (hb.mono h.bel.size)⟩
theorem WI.no {w : World} {L : List (List UInt8)} {i : Nat} {BS : List (List UInt8)} {bv sv : Value} {nb ns : Nat} {wr : World} (h : WI w L i BS bv sv nb ns wr) (hi : i < L.length) (hb : ¬ (L.getD i []).length ≤ 32768) : WI w L (i + 1) BS bv sv nb ns wr :=
  ⟨by rw [gd_no L i hi hb]; exact h.bs, h.nb, h.ns, h.ow, h.nil, h.rr, h.bel⟩
theorem rbs_get {w : World} {a : Option Addr} {n c : Nat} {L : List (List UInt8)} (h : RBS w (.slice a n c) L) : ∀ i, i < L.length → ∃ g o ua uc, a = some ⟨g, o, none⟩ ∧ (∀ wr, Below w.heap.size w wr → wr.cell? ⟨g, o + i, none⟩ = some (.slice ua (L.getD i []).length uc)) ∧ RB w (.slice ua (L.getD i []).length uc) (L.getD i []) := by
  obtain ⟨a', c', e, _, h⟩ := h
  cases e
  intro i hi
  rcases h with rfl | ⟨g, o, rfl, hg, h⟩
  · simp at hi
  · obtain ⟨u, h1, h2⟩ := h i hi
    have h3 := h2
    obtain ⟨ua, uc, rfl, _⟩ := h2
    exact ⟨g, o, ua, uc, rfl, fun wr hw => (hw.cell (p := ⟨g, o + i, none⟩) hg).trans h1, h3⟩
/-- between the two appends -/
structure HBW (w : World) (B2 : Nat) (BS BT : List (List UInt8)) (T : List UInt8) (bv sv fv : Value) (wx : World) : Prop where
  rr : RR w wx sv BT
  ow : OW w.heap.size wx bv (fms BS)
  ff : OW B2 wx fv (frm T)
  bel : Below w.heap.size w wx
theorem HBW.below {w : World} {B2 : Nat} {BS BT : List (List UInt8)} {T : List UInt8} {bv sv fv : Value} {wx w3 : World} (h : HBW w B2 BS BT T bv sv fv wx) (hg : wx.grownBy w3 bv.ownBlock) : Below w.heap.size w w3 ∧ RR w w3 sv BT :=
  ⟨h.bel.trans ((Below.refl _ wx).grown hg h.bel.size (fun k hk => (World.ownsRow.lt h.ow k hk).1)), h.rr.keep5 h.ow hg⟩
theorem RR.form3 {w0 w : World} {v : Value} {bs : List (List UInt8)} (h : RR w0 w v bs) : ∃ a n c, n = bs.length ∧ v = .slice a n c := by
  obtain ⟨a, c, e⟩ := h.form
  exact ⟨a, _, c, rfl, e⟩
theorem OW.form4 {B : Nat} {w : World} {v : Value} {l : List UInt8} (h : OW B w v l) : ∃ a n c, n = l.length ∧ v = .slice a n c := by
  obtain ⟨a, c, e⟩ := h.form
  exact ⟨a, _, c, rfl, e⟩
theorem be4_cells (n : Nat) : #[Value.int .u8 ((n : Int) / 16777216 % 256), Value.int .u8 ((n : Int) / 65536 % 256), Value.int .u8 ((n : Int) / 256 % 256), Value.int .u8 ((n : Int) % 256)] = bc (be4 n) := by
  have h1 := u8v (n / 16777216)
  have h2 := u8v (n / 65536)
  have h3 := u8v (n / 256)
  have h4 := u8v n
  simp only [bc, Lib.byteCells, be4, List.map_cons, List.map_nil, h1, h2, h3, h4]
  congr 1
theorem be4_cells2 (n : Nat) (h : n < 4294967296) : #[Value.int .u8 ((n : Int) / 16777216), Value.int .u8 ((n : Int) / 65536 % 256), Value.int .u8 ((n : Int) / 256 % 256), Value.int .u8 ((n : Int) % 256)] = bc (be4 n) := by
  rw [← be4_cells n, show (n : Int) / 16777216 % 256 = (n : Int) / 16777216 by omega]
/-- behind the loop -/
structure TA (w : World) (BS : List (List UInt8)) (l : List UInt8) (bv sv : Value) (wx : World) : Prop where
  ow : OW w.heap.size wx bv l
  nil : l = [] → bv = .slice none 0 0
  rr : RR w wx sv BS
  bel : Below w.heap.size w wx
theorem TA.app {w : World} {BS : List (List UInt8)} {l l2 : List UInt8} {bv sv v2 : Value} {wx w2 : World} (h : TA w BS l bv sv wx) (h1 : OW w.heap.size w2 v2 l2) (h2 : l2 = [] → v2 = .slice none 0 0) (hg : wx.grownBy w2 bv.ownBlock) : TA w BS l2 v2 sv w2 :=
  ⟨h1, h2, h.rr.keep5 h.ow hg, h.bel.trans ((Below.refl _ wx).grown hg h.bel.size (fun k hk => (World.ownsRow.lt h.ow k hk).1))⟩
theorem TA.keep {w : World} {BS : List (List UInt8)} {l : List UInt8} {bv sv : Value} {wx w2 : World} (h : TA w BS l bv sv wx) (hb : Below wx.heap.size wx w2) : TA w BS l bv sv w2 :=
  ⟨h.ow.grow hb, h.nil, h.rr.keep hb, h.bel.trans (hb.mono h.bel.size)⟩
theorem ownsRow_fr {w w' : World} {B e size n R : Nat} {v : Value} {xs : List Value} (h : w.ownsRow B e size v n xs) (hf : Fr (fun k => k ≠ R) w w') (hk : ∃ p s hv f, RK w R p s hv f) (he : e ≠ 51) : w'.ownsRow B e size v n xs := by
  refine ⟨h.1, ?_⟩
  rcases h.2 with k1 | ⟨g, cap, cur, k1, k2, k3, k4⟩
  · exact .inl k1
  · refine .inr ⟨g, cap, cur, k1, k2, (hf.block g (Array.getElem?_eq_some_iff.1 k3).1 fun e' => ?_).trans k3, k4⟩
    subst e'
    obtain ⟨p', s', hv', f', hk⟩ := hk
    rw [show w.heap[g]? = _ from hk] at k3
    simp at k3
    exact he k3.2.symm
theorem TA.fr {w : World} {BS : List (List UInt8)} {l : List UInt8} {bv sv : Value} {wx w2 : World} {R : Nat} (h : TA w BS l bv sv wx) (hf : Fr (fun k => k ≠ R) wx w2) (hk : ∃ p s hv f, RK wx R p s hv f) (hR : w.heap.size ≤ R) : TA w BS l bv sv w2 := by
  obtain ⟨us, h1, h2, h3⟩ := h.rr
  exact ⟨ownsRow_fr h.ow hf hk (by decide), h.nil, ⟨us, h1, ownsRow_fr h2 hf hk (by decide), h3⟩, below_of h.bel hf hR⟩
/-- behind the push -/
structure TB (w : World) (BS : List (List UInt8)) (l : List UInt8) (bv sv xv mv : Value) (R N1 : Nat) (wx : World) : Prop where
  ta : TA w BS l bv sv wx
  x1 : wx.heap[N1]? = some (.cells #[mv, xv, .int .i64 102] 41 (0, 0))
  b1 : RBS wx xv BS
  rk : ∃ p s hv r, RK wx R p s hv 102 ∧ RQ wx R 102 r
theorem TB.keep {w : World} {BS : List (List UInt8)} {l : List UInt8} {bv sv xv mv : Value} {R N1 : Nat} {wx w2 : World} (h : TB w BS l bv sv xv mv R N1 wx) (hb : Below wx.heap.size wx w2) : TB w BS l bv sv xv mv R N1 w2 := by
  obtain ⟨p, s, hv, r, h1, h2⟩ := h.rk
  exact ⟨h.ta.keep hb, (hb.block _ (Array.getElem?_eq_some_iff.1 h.x1).1).trans h.x1, h.b1.keep hb, ⟨p, s, hv, r, (hb.block R h1.lt).trans h1, h2.keep hb⟩⟩
theorem box_told (w : World) (a b : Value) (e : Int) : (((w.alloc (.cells #[.slice none 0 0, .slice none 0 0, .int .i64 0] 41)).setRow w.heap.size #[a, b, .int .i64 e]).heap[w.heap.size]? = some (.cells #[a, b, .int .i64 e] 41 (0, 0))) ∧ Below w.heap.size w ((w.alloc (.cells #[.slice none 0 0, .slice none 0 0, .int .i64 0] 41)).setRow w.heap.size #[a, b, .int .i64 e]) ∧ w.heap.size < ((w.alloc (.cells #[.slice none 0 0, .slice none 0 0, .int .i64 0] 41)).setRow w.heap.size #[a, b, .int .i64 e]).heap.size :=
  ⟨heapSetRow _ _ _ _ _ (heapNew _ _), belowSetRow ((Below.refl _ _).alloc (Nat.le_refl _) _) (Nat.le_refl _) _, by rw [setRow_size]; simp⟩
theorem splitB {v : Value} {l : List UInt8} {BS : List (List UInt8)} {r : List UInt8} {nb : Nat} (hl : l.length ≤ 16777216) (hrd : Rd false l [] BS false r 102) (hnb : nb = sz BS) (w : World) (hr : RB w v l) :
    Calls Try.prog 8 #[v] w fun e w' => ∃ bv, e = .returned (.tuple #[bv, .int .i64 (nb : Nat), .int .i64 102]) ∧ RBS w' bv BS ∧ Below w.heap.size w w' := by
  refine (splitP v l hl w hr).mono ?_
  rintro e w' ⟨bv, bs, er, rfl, ⟨r', h1⟩, h2, h3⟩
  obtain ⟨_, q2, _, _, q5⟩ := hrd.det h1
  rw [q2] at h2
  exact ⟨bv, by rw [q2, q5, hnb], h2.rbs, h3⟩
theorem RBS.form3 {w : World} {v : Value} {bs : List (List UInt8)} (h : RBS w v bs) : ∃ a n c, v = .slice a n c := by
  obtain ⟨a, c, e, _⟩ := h
  exact ⟨a, _, c, e⟩
/-- a reader that is broken -/
def BR (w : World) (R : Nat) : Prop := ∃ p s hv r, RK w R p s hv 102 ∧ RQ w R 102 r
theorem BR.drew {w : World} {R : Nat} (h : BR w R) (n : Nat) : BR (w.drewN n) R := by
  obtain ⟨p, s, hv, r, h1, h2⟩ := h
  exact ⟨p, s, hv, r, h1, h2.keep (belowDrew _ n)⟩
theorem BR.push {w : World} {R : Nat} (h : BR w R) (a : Option Addr) (n c : Nat) : Calls Try.prog 14 #[.pointer (some ⟨R, 0, none⟩), .slice a n c] w fun e w' => e = .returned (.tuple #[.slice none 0 0, .slice none 0 0, .int .i64 103]) ∧ w' = w := by
  obtain ⟨p, s, hv, r, h1, h2⟩ := h
  exact pushB w R p s hv a n c h1
end Go.Proofs.Ytmfeelkjbpjhdaa
