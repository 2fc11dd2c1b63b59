import Derived.Test.YtmfeelkjbpjhdaaKc
namespace Go.Proofs.Ytmfeelkjbpjhdaa
open Go.RowKit
theorem append_bodyA {ops : Array Oper} {rest : List Oper} {o : Oper} {a : Act} {Q : Exit → Act → World → Prop} {w : World} {B : Nat} {S S' : Nat → Prop} {sv : Value} {bs : List (List UInt8)} (hgd : o.guard = none) (s x : Operand)
    (ho : o.op = .call { callee := .builtin .append, args := #[s, x], argTypes := #[26, 26] }) (hs : a.eval s = sv) (hown : OB B S' w sv bs) (hsub : ∀ g, S' g → S g) (b : Nat) (u : Value) (hne : ∀ g n m, S' g → u ≠ .slice (some ⟨g, 0, none⟩) n m) (l : List UInt8) (hx : a.eval x = .slice (some ⟨b, 0, none⟩) 1 1)
    (hc : w.cell? ⟨b, 0, none⟩ = some u) (hu : BK S w u l) (hB : B ≤ w.heap.size) (hlim : bs.length < 1073741824)
    (h : ∀ v' w', OB B S w' v' (bs ++ [l]) → w.grownBy w' sv.ownBlock → (v'.ownBlock = sv.ownBlock ∨ v'.ownBlock = some w.heap.size) → wpList Try.prog ops Q rest (a.put o.dst v') w') : wpList Try.prog ops Q (o :: rest) a w := by
  obtain ⟨i0, hi, hz0, hz1, hz2⟩ := info_parts infoB
  obtain ⟨us, h1, h2, h3⟩ := hown
  refine wpList_append_own_at w hgd s x 26 ho B 28 i0 _ 1 24 Try.underlying26 hi hz0 hz1 hz2 rfl (by omega) sv bs.length us hs h2 ⟨b, 0, none⟩ 1 1 [u] hx rfl (fun j y hy => ?_) (fun y hy => ?_) (by unfold maxLen; omega) (by omega) hB (fun v' w' k1 k2 _ k4 => ?_)
  · match j, hy with
    | 0, hy => simp at hy; subst hy; simpa [Addr.add] using hc
  · simp at hy; subst hy
    obtain ⟨g, _, e, _⟩ := hu
    rw [e]; rfl
  · have hnd : (us ++ [u]).Nodup := by
      rw [List.nodup_append]
      refine ⟨h1.2, by simp, fun x hx y hy e => ?_⟩
      simp at hy
      subst hy
      subst e
      obtain ⟨g, n, hg, e⟩ := OB.mem h1.1 h3 _ hx
      exact hne g n n hg e
    have h1 := h1.1
    refine h v' w' ⟨us ++ [u], ⟨by simp [h1], hnd⟩, by simpa using k1, fun i hi => ?_⟩ k2 k4
    have kb : ∀ k, S k → k < w.heap.size → (∃ cs f, w.heap[k]? = some (.cells cs 5 f)) → w'.heap[k]? = w.heap[k]? := fun k _ hk hex => k2.block k hk fun e => by
      obtain ⟨cs, f, hr⟩ := row_of h2 k e.symm
      obtain ⟨cs', f', hr'⟩ := hex
      rw [hr] at hr'
      simp at hr'
    rw [List.length_append, List.length_singleton] at hi
    by_cases hlt : i < bs.length
    · have := (h3 i hlt).keep (T := S) (fun k hk => kb k (hsub k hk)) (fun g h _ => hsub g h)
      rw [List.getD_eq_getElem?_getD, List.getD_eq_getElem?_getD, List.getElem?_append_left (by omega), List.getElem?_append_left (by omega), ← List.getD_eq_getElem?_getD, ← List.getD_eq_getElem?_getD]
      exact this
    · have hi' : i = bs.length := by omega
      subst hi'
      have := hu.keep (T := S) kb (fun g h _ => h)
      rw [List.getD_eq_getElem?_getD, List.getD_eq_getElem?_getD, List.getElem?_append_right (by omega), List.getElem?_append_right (by omega)]
      simpa [h1] using this
theorem append_refA {ops : Array Oper} {rest : List Oper} {o : Oper} {a : Act} {Q : Exit → Act → World → Prop} {w0 w : World} {sv : Value} {bs : List (List UInt8)} (hgd : o.guard = none) (s x : Operand)
    (ho : o.op = .call { callee := .builtin .append, args := #[s, x], argTypes := #[26, 26] }) (hs : a.eval s = sv) (hown : RR w0 w sv bs) (b : Nat) (u : Value) (l : List UInt8) (hx : a.eval x = .slice (some ⟨b, 0, none⟩) 1 1)
    (hc : w.cell? ⟨b, 0, none⟩ = some u) (hu : RB w0 u l) (hB : w0.heap.size ≤ w.heap.size) (hlim : bs.length < 1073741824)
    (h : ∀ v' w', RR w0 w' v' (bs ++ [l]) → w.grownBy w' sv.ownBlock → (v'.ownBlock = sv.ownBlock ∨ v'.ownBlock = some w.heap.size) → wpList Try.prog ops Q rest (a.put o.dst v') w') : wpList Try.prog ops Q (o :: rest) a w := by
  obtain ⟨i0, hi, hz0, hz1, hz2⟩ := info_parts infoB
  obtain ⟨us, h1, h2, h3⟩ := hown
  refine wpList_append_own_at w hgd s x 26 ho w0.heap.size 28 i0 _ 1 24 Try.underlying26 hi hz0 hz1 hz2 rfl (by omega) sv bs.length us hs h2 ⟨b, 0, none⟩ 1 1 [u] hx rfl (fun j y hy => ?_) (fun y hy => ?_) (by unfold maxLen; omega) (by omega) hB (fun v' w' k1 k2 _ k4 => ?_)
  · match j, hy with
    | 0, hy => simp at hy; subst hy; simpa [Addr.add] using hc
  · simp at hy; subst hy
    obtain ⟨a, c, e, _⟩ := hu
    rw [e]; rfl
  · refine h v' w' ⟨us ++ [u], by simp [h1], by simpa using k1, fun i hi => ?_⟩ k2 k4
    rw [List.length_append, List.length_singleton] at hi
    by_cases hlt : i < bs.length
    · have := h3 i hlt
      rw [List.getD_eq_getElem?_getD, List.getD_eq_getElem?_getD, List.getElem?_append_left (by omega), List.getElem?_append_left (by omega), ← List.getD_eq_getElem?_getD, ← List.getD_eq_getElem?_getD]
      exact this
    · have hi' : i = bs.length := by omega
      subst hi'
      rw [List.getD_eq_getElem?_getD, List.getD_eq_getElem?_getD, List.getElem?_append_right (by omega), List.getElem?_append_right (by omega)]
      simpa [h1] using hu
theorem append_bodiesA {ops : Array Oper} {rest : List Oper} {o : Oper} {a : Act} {Q : Exit → Act → World → Prop} {w : World} {B : Nat} {S S1 S2 : Nat → Prop} {sv xv : Value} {bs bs2 : List (List UInt8)} (hgd : o.guard = none) (s x : Operand)
    (ho : o.op = .call { callee := .builtin .append, args := #[s, x], argTypes := #[26, 26] }) (hs : a.eval s = sv) (hown : OB B S1 w sv bs) (hx : a.eval x = xv) (hx2 : OB B S2 w xv bs2) (hS1 : ∀ g, S1 g → S g) (hS2 : ∀ g, S2 g → S g) (hdis : ∀ g, S1 g → S2 g → False)
    (hB : B ≤ w.heap.size) (hlim : bs.length + bs2.length < 1073741824)
    (h : ∀ v' w', OB B S w' v' (bs ++ bs2) → w.grownBy w' sv.ownBlock → (v'.ownBlock = sv.ownBlock ∨ v'.ownBlock = some w.heap.size) → wpList Try.prog ops Q rest (a.put o.dst v') w') : wpList Try.prog ops Q (o :: rest) a w := by
  obtain ⟨i0, hi, hz0, hz1, hz2⟩ := info_parts infoB
  obtain ⟨us, h1, h2, h3⟩ := hown
  obtain ⟨us2, k1, k2, k3⟩ := hx2
  rcases k2.2 with ⟨e, e0⟩ | ⟨g, cap, cur, e, hg1, hg2, hg3⟩
  · have hb2 : bs2 = [] := List.length_eq_zero_iff.1 e0
    subst hb2
    refine wpList_plain hgd fun K hK => ?_
    have hrun := append_nothing2 o.type 0 h2
    rw [e] at hx
    unfold Oper.wp
    simp [execOp, ho, resolve, invoke, builtin, hs, hx, hrun, Result.andThen]
    exact hK _ _ (h _ _ (by rw [List.append_nil]; exact ⟨us, h1, h2, fun i hi => (h3 i hi).keep (fun _ _ _ _ => rfl) (fun g x _ => hS1 g x)⟩) (grown_refl _ _) (.inl rfl))
  · rw [e] at hx k2
    refine wpList_append_own_at w hgd s x 26 ho B 28 i0 _ 1 24 Try.underlying26 hi hz0 hz1 hz2 rfl (by omega) sv bs.length us hs h2 ⟨g, 0, none⟩ bs2.length cap us2 hx (by rw [k1.1, Nat.mul_one]) (fun j y hy => ?_) (fun y hy => ?_) (by unfold maxLen; omega) (by omega) hB (fun v' w' m1 m2 _ m4 => ?_)
    · have hj' : j < bs2.length := by
        have := (List.getElem?_eq_some_iff.1 hy).1
        have := k1.1
        omega
      have hadd : (⟨g, 0, none⟩ : Addr).add j = ⟨g, j, none⟩ := by unfold Addr.add; split <;> simp_all
      rw [hadd, World.ownsRow.cellAt k2 j (by omega), hy]
    · obtain ⟨i, hi', rfl⟩ := List.getElem_of_mem hy
      obtain ⟨q, _, eq, _⟩ := k3 i (by have := k1.1; omega)
      rw [List.getD_eq_getElem?_getD, List.getElem?_eq_getElem hi'] at eq
      simp at eq
      rw [eq]; rfl
    · have hnd : (us ++ us2).Nodup := by
        rw [List.nodup_append]
        refine ⟨h1.2, k1.2, fun x hx y hy e => ?_⟩
        subst e
        obtain ⟨g1, n1, q1, e1⟩ := OB.mem h1.1 h3 _ hx
        obtain ⟨g2, n2, q2, e2⟩ := OB.mem k1.1 k3 _ hy
        rw [e1] at e2
        simp at e2
        obtain ⟨rfl, _⟩ := e2
        exact hdis _ q1 q2
      have h1 := h1.1
      have k1 := k1.1
      refine h v' w' ⟨us ++ us2, ⟨by simp [h1, k1], hnd⟩, by simpa using m1, fun i hi => ?_⟩ m2 m4
      have kb : ∀ (k : Nat), k < w.heap.size → (∃ cs f, w.heap[k]? = some (.cells cs 5 f)) → w'.heap[k]? = w.heap[k]? := fun k _ hex => by
        obtain ⟨cs, f, hc⟩ := hex
        rw [hc]
        exact gb_keep m2 h2 hc (by decide)
      rw [List.length_append] at hi
      by_cases hlt : i < bs.length
      · have := (h3 i hlt).keep (T := S) (fun k _ => kb k) (fun g h _ => hS1 g h)
        rw [List.getD_eq_getElem?_getD, List.getD_eq_getElem?_getD, List.getElem?_append_left (by omega), List.getElem?_append_left (by omega), ← List.getD_eq_getElem?_getD, ← List.getD_eq_getElem?_getD]
        exact this
      · have := (k3 (i - bs.length) (by omega)).keep (T := S) (fun k _ => kb k) (fun g h _ => hS2 g h)
        rw [List.getD_eq_getElem?_getD, List.getD_eq_getElem?_getD, List.getElem?_append_right (by omega), List.getElem?_append_right (by omega), h1, ← List.getD_eq_getElem?_getD, ← List.getD_eq_getElem?_getD]
        exact this
/-- each frame twice -/
def dbl (BS : List (List UInt8)) : List (List UInt8) := BS.flatMap fun b => [frm b, frm b]
theorem dbl_snoc (BS : List (List UInt8)) (b : List UInt8) : dbl (BS ++ [b]) = dbl BS ++ [frm b] ++ [frm b] := by simp [dbl]
theorem dbl_len : ∀ BS : List (List UInt8), (dbl BS).length = 2 * BS.length
  | [] => rfl
  | b :: BS => by
    have := dbl_len BS
    unfold dbl at *
    rw [List.flatMap_cons, List.length_append, this]
    simp
    omega
theorem dbl_get : ∀ (BS : List (List UInt8)) (i : Nat), i < BS.length → (dbl BS).getD (2 * i + 1) [] = frm (BS.getD i [])
  | [], _, h => absurd h (Nat.not_lt_zero _)
  | b :: BS, 0, _ => rfl
  | b :: BS, i + 1, h => by
    have := dbl_get BS i (by simpa using h)
    have e : dbl (b :: BS) = frm b :: frm b :: dbl BS := rfl
    rw [e, show 2 * (i + 1) + 1 = 2 * i + 1 + 1 + 1 by omega]
    simpa using this
theorem dbl_small (BS : List (List UInt8)) (h : ∀ b ∈ BS, b.length ≤ 32768) : ∀ b ∈ dbl BS, b.length ≤ 32772 := fun b hb => by
  unfold dbl at hb
  simp at hb
  obtain ⟨x, hx, rfl⟩ := hb
  have := h x hx
  rw [frm_len]
  omega
theorem ownsRow_one {w w' : World} {B e size n : Nat} {v : Value} {xs : List Value} (h : w.ownsRow B e size v n xs) (hk : ∀ k, v.ownBlock = some k → w'.heap[k]? = w.heap[k]?) : w'.ownsRow B e size v n xs := by
  refine ⟨h.1, ?_⟩
  rcases h.2 with h1 | ⟨g, cap, cur, h1, h2, h3, h4⟩
  · exact .inl h1
  · exact .inr ⟨g, cap, cur, h1, h2, (hk g (by rw [h1]; rfl)).trans h3, h4⟩
theorem bel_grown {B : Nat} {W w w' : World} {e size n : Nat} {v : Value} {xs : List Value} (h : Below B W w) (hg : w.grownBy w' v.ownBlock) (hr : w.ownsRow B e size v n xs) (hB : B ≤ w.heap.size) : Below B W w' := h.trans ((Below.refl B w).grown hg hB (fun k hk => (World.ownsRow.lt hr k hk).1))
/-- what the law keeps: b, sent and all -/
structure KJ (W : World) (b : List UInt8) (SL AL : List (List UInt8)) (P : Nat) (bv sv av : Value) (wr : World) : Prop where
  ow : OW W.heap.size wr bv b
  nil : b = [] → bv = .slice none 0 0
  rr : RR W wr sv SL
  al : OB W.heap.size (fun g => (W.heap.size ≤ g ∧ bv.ownBlock ≠ some g) ∧ g < P) wr av AL
  ne : ∀ g, sv.ownBlock = some g → av.ownBlock ≠ some g
  bel : Below W.heap.size W wr
theorem KJ.keep {W : World} {b : List UInt8} {SL AL : List (List UInt8)} {P : Nat} {bv sv av : Value} {wr w' : World} (h : KJ W b SL AL P bv sv av wr) (hb : Below wr.heap.size wr w') : KJ W b SL AL P bv sv av w' :=
  ⟨h.ow.grow hb, h.nil, h.rr.keep hb, h.al.keep (fun k _ hl => hb.block k hl) (fun _ x => x.1.1) (fun _ x _ => x), h.ne, h.bel.trans (hb.mono h.bel.size)⟩
theorem KJ.bound {W : World} {b : List UInt8} {SL AL : List (List UInt8)} {P Q : Nat} {bv sv av : Value} {wr : World} (h : KJ W b SL AL P bv sv av wr) (hq : wr.heap.size ≤ Q) : KJ W b SL AL Q bv sv av wr :=
  ⟨h.ow, h.nil, h.rr, h.al.keep (fun _ _ _ => rfl) (fun _ x => x.1.1) (fun _ x hl => ⟨x.1, by omega⟩), h.ne, h.bel⟩
theorem OB.row {B : Nat} {S : Nat → Prop} {w : World} {v : Value} {bs : List (List UInt8)} (h : OB B S w v bs) : ∃ us, w.ownsRow B 28 1 v bs.length us := by
  obtain ⟨us, _, h2, _⟩ := h
  exact ⟨us, h2⟩
theorem RR.row {W w : World} {v : Value} {bs : List (List UInt8)} (h : RR W w v bs) : ∃ us, w.ownsRow W.heap.size 28 1 v bs.length us := by
  obtain ⟨us, _, h2, _⟩ := h
  exact ⟨us, h2⟩
/-- a body stays when a row of lists grows -/
theorem BK.tag {S : Nat → Prop} {w w' : World} {u x : Value} {l : List UInt8} {B2 size n : Nat} {xs : List Value} (h : BK S w u l) (hg : w.grownBy w' x.ownBlock) (hr : w.ownsRow B2 28 size x n xs) : BK S w' u l :=
  h.keep (fun k _ _ hex => by obtain ⟨cs, f, hc⟩ := hex; rw [hc]; exact gb_keep hg hr hc (by decide)) (fun _ x _ => x)
theorem KJ.sent {W : World} {b : List UInt8} {SL SL' AL : List (List UInt8)} {P : Nat} {bv sv sv' av : Value} {wr w' : World} (h : KJ W b SL AL P bv sv av wr) (h1 : RR W w' sv' SL') (hg : wr.grownBy w' sv.ownBlock) (hl : sv'.ownBlock = sv.ownBlock ∨ sv'.ownBlock = some wr.heap.size) : KJ W b SL' AL P bv sv' av w' := by
  obtain ⟨us, hr⟩ := h.rr.row
  refine ⟨ownsRow_keep2 (e2 := 28) h.ow hg (row_of hr) (by decide), h.nil, h1, ?_, ?_, bel_grown h.bel hg hr h.bel.size⟩
  · obtain ⟨vs, k1, k2, k3⟩ := h.al
    exact ⟨vs, k1, ownsRow_one k2 (fun k hk => hg.block k (World.ownsRow.lt k2 k hk).2 (fun e => h.ne k e.symm hk)), fun i hi => (k3 i hi).tag hg hr⟩
  · intro g hg'
    rcases hl with e | e
    · exact h.ne g (by rw [← e]; exact hg')
    · obtain ⟨vs, k2⟩ := h.al.row
      intro e2
      have := (World.ownsRow.lt k2 g e2).2
      rw [e] at hg'
      simp at hg'
      omega
theorem KJ.more {W : World} {b b' : List UInt8} {SL AL : List (List UInt8)} {P : Nat} {bv bv' sv av : Value} {wr w' : World} (h : KJ W b SL AL P bv sv av wr) (h1 : OW W.heap.size w' bv' b') (h2 : b' = [] → bv' = .slice none 0 0) (hg : wr.grownBy w' bv.ownBlock) (hl : bv'.ownBlock = bv.ownBlock ∨ bv'.ownBlock = some wr.heap.size) : KJ W b' SL AL P bv' sv av w' := by
  refine ⟨h1, h2, h.rr.keep5 h.ow hg, ?_, h.ne, bel_grown h.bel hg h.ow h.bel.size⟩
  obtain ⟨vs, k1, k2, k3⟩ := h.al
  refine ⟨vs, k1, ownsRow_keep2 (e2 := 5) k2 hg (row_of h.ow) (by decide), fun i hi => (k3 i hi).keep (fun k hk hl' _ => hg.block k hl' (fun e => hk.1.2 e.symm)) (fun g x hl' => ⟨⟨x.1.1, fun e => ?_⟩, x.2⟩)⟩
  rcases hl with e2 | e2
  · exact x.1.2 (by rw [← e2]; exact e)
  · rw [e2] at e
    simp at e
    omega
theorem KJ.all {W : World} {b : List UInt8} {SL AL AL' : List (List UInt8)} {P P' : Nat} {bv sv av av' : Value} {wr w' : World} (h : KJ W b SL AL P bv sv av wr) (h1 : OB W.heap.size (fun g => (W.heap.size ≤ g ∧ bv.ownBlock ≠ some g) ∧ g < P') w' av' AL') (hg : wr.grownBy w' av.ownBlock) (hl : av'.ownBlock = av.ownBlock ∨ av'.ownBlock = some wr.heap.size) : KJ W b SL AL' P' bv sv av' w' := by
  obtain ⟨vs, k2⟩ := h.al.row
  obtain ⟨us, hr⟩ := h.rr.row
  refine ⟨ownsRow_keep2 (e2 := 28) h.ow hg (row_of k2) (by decide), h.nil, ?_, h1, ?_, bel_grown h.bel hg k2 h.bel.size⟩
  · obtain ⟨ws, q1, q2, q3⟩ := h.rr
    exact ⟨ws, q1, ownsRow_one q2 (fun k hk => hg.block k (World.ownsRow.lt q2 k hk).2 (fun e => h.ne k hk e.symm)), q3⟩
  · intro g hg' e2
    rcases hl with e | e
    · exact h.ne g hg' (by rw [← e]; exact e2)
    · have := (World.ownsRow.lt hr g hg').2
      rw [e] at e2
      simp at e2
      omega
/-- in the midst: the two frames -/
structure KF (W : World) (b : List UInt8) (SL AL : List (List UInt8)) (P M : Nat) (T : List UInt8) (bv sv av fv gv : Value) (wx : World) : Prop where
  kj : KJ W b SL AL P bv sv av wx
  f : BK (fun g => (P ≤ g ∧ bv.ownBlock ≠ some g) ∧ g < M) wx fv (frm T)
  g : BK (fun g => M ≤ g ∧ bv.ownBlock ≠ some g) wx gv (frm T)
  hp : W.heap.size ≤ P ∧ P ≤ M
theorem KF.keep {W : World} {b : List UInt8} {SL AL : List (List UInt8)} {P M : Nat} {T : List UInt8} {bv sv av fv gv : Value} {wx w' : World} (h : KF W b SL AL P M T bv sv av fv gv wx) (hb : Below wx.heap.size wx w') : KF W b SL AL P M T bv sv av fv gv w' :=
  ⟨h.kj.keep hb, h.f.keep (fun k _ hl _ => hb.block k hl) (fun _ x _ => x), h.g.keep (fun k _ hl _ => hb.block k hl) (fun _ x _ => x), h.hp⟩
theorem KF.sent {W : World} {b : List UInt8} {SL SL' AL : List (List UInt8)} {P M : Nat} {T : List UInt8} {bv sv sv' av fv gv : Value} {wr w' : World} (h : KF W b SL AL P M T bv sv av fv gv wr) (h1 : RR W w' sv' SL') (hg : wr.grownBy w' sv.ownBlock) (hl : sv'.ownBlock = sv.ownBlock ∨ sv'.ownBlock = some wr.heap.size) : KF W b SL' AL P M T bv sv' av fv gv w' := by
  obtain ⟨us, hr⟩ := h.kj.rr.row
  exact ⟨h.kj.sent h1 hg hl, h.f.tag hg hr, h.g.tag hg hr, h.hp⟩
theorem KF.more {W : World} {b b' : List UInt8} {SL AL : List (List UInt8)} {P M : Nat} {T : List UInt8} {bv bv' sv av fv gv : Value} {wr w' : World} (h : KF W b SL AL P M T bv sv av fv gv wr) (h1 : OW W.heap.size w' bv' b') (h2 : b' = [] → bv' = .slice none 0 0) (hg : wr.grownBy w' bv.ownBlock) (hl : bv'.ownBlock = bv.ownBlock ∨ bv'.ownBlock = some wr.heap.size) : KF W b' SL AL P M T bv' sv av fv gv w' := by
  have hne : ∀ g, bv.ownBlock ≠ some g → g < wr.heap.size → bv'.ownBlock ≠ some g := fun g x hl' e => by
    rcases hl with e2 | e2
    · exact x (by rw [← e2]; exact e)
    · rw [e2] at e
      simp at e
      omega
  exact ⟨h.kj.more h1 h2 hg hl, h.f.keep (fun k hk hl' _ => hg.block k hl' (fun e => hk.1.2 e.symm)) (fun g x hl' => ⟨⟨x.1.1, hne g x.1.2 hl'⟩, x.2⟩), h.g.keep (fun k hk hl' _ => hg.block k hl' (fun e => hk.2 e.symm)) (fun g x hl' => ⟨x.1, hne g x.2 hl'⟩), h.hp⟩
end Go.Proofs.Ytmfeelkjbpjhdaa
