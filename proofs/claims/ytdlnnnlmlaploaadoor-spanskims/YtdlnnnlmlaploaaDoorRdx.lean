import Derived.Test.YtdlnnnlmlaploaaDoorRds
import Derived.Test.YtdlnnnlmlaploaaDoorRdr
namespace Go.Proofs.YtdlnnnlmlaploaaDoor
open Go.RowKit Go.Deep
theorem joined39F {B : Nat} {S : Nat → Prop} {w : World} {sv : Value} {r : List Fr} {f : Fr} {us : List Value} {L D : Nat → Value} (h : SIx B S w sv (r ++ [f]) us L D) (hB : B ≤ w.heap.size) (h1 : f.ls.length ≤ 2097152) (h2 : f.ps.length ≤ 2097152) (t : T) (xa ya : Option Addr) (xn xc yn yc : Nat) (hrv : RV S w t (.slice xa xn xc) (.slice ya yn yc)) :
    Calls Tryd.prog 69 #[.agg #[kd f, L r.length, D r.length, .string f.key, .bool f.has], .agg #[.int .i64 t.k, .int .i64 t.n, .string t.s, .slice xa xn xc, .slice ya yn yc]] w fun e w1 => ∃ L' D', e = .returned (.agg #[kd (f.join t), L', D', .string (f.join t).key, .bool (f.join t).has]) ∧ w.grownBy w1 (rowOf f (L r.length) (D r.length)).ownBlock ∧ FRow B S w1 (f.join t) L' D' ∧ At w (rowOf f (L r.length) (D r.length)) (rowOf (f.join t) L' D') ∧ (∃ a n c, L' = .slice a n c) ∧ ∃ a n c, D' = .slice a n c := by
  obtain ⟨g1, g2, g3⟩ := h
  obtain ⟨t1, t2, t3⟩ := g2 r.length (by simp)
  simp only [getD_snoc_eq] at t1 t2 t3
  rcases t2 with ⟨e1, e2, e2', vs, e3, e4⟩ | ⟨e1, e2, e2', e2'', e2''', vs, e3, e4⟩
  · have hro : rowOf f (L r.length) (D r.length) = D r.length := by unfold rowOf; rw [if_pos e1]
    have hj : f.join t = { d := true, ps := f.ps ++ [(f.key, t)] } := by unfold Fr.join; rw [if_pos e1]
    rw [hro] at t3 ⊢
    rw [hj, e2, show kd f = .int .i64 4 from by unfold kd; rw [if_pos e1]]
    refine (joined39D f.key t.s f.has t.k t.n w none xa ya 0 0 xn xc yn yc B f.ps.length (D r.length) vs e3 hB h2).mono ?_
    rintro e w1 ⟨da, dc, rfl, q1, q2, q3⟩
    refine ⟨_, _, rfl, q2, .inl ⟨rfl, rfl, rfl, PRow.snoc e4 e3.1 q2 (fun x hx _ e => (t3 x e).2.1 hx) q1 hrv⟩, q3, ⟨_, _, _, rfl⟩, ⟨_, _, _, rfl⟩⟩
  · have hro : rowOf f (L r.length) (D r.length) = L r.length := by unfold rowOf; rw [if_neg (by rw [e1]; decide)]
    have hj : f.join t = { d := false, ls := f.ls ++ [t] } := by unfold Fr.join; rw [if_neg (by rw [e1]; decide)]
    rw [hro] at t3 ⊢
    rw [hj, e2, e2'', e2''', show kd f = .int .i64 3 from by unfold kd; rw [if_neg (by rw [e1]; decide)]]
    refine (joined39L ByteArray.empty t.s false t.k t.n w none xa ya 0 0 xn xc yn yc B f.ls.length (L r.length) vs e3 hB h1).mono ?_
    rintro e w1 ⟨da, dc, rfl, q1, q2, q3⟩
    refine ⟨_, _, rfl, q2, .inr ⟨rfl, rfl, rfl, rfl, rfl, VRow.snoc e4 e3.1 q2 (fun x hx _ e => (t3 x e).2.1 hx) q1 hrv⟩, q3, ⟨_, _, _, rfl⟩, ⟨_, _, _, rfl⟩⟩
/-- what the reference answers -/
def RQ (b : List UInt8) (w w' : World) (e : Ending) : Prop := Below w.heap.size w w' ∧ ((∃ t x y j, e = .returned (.tuple #[vv t x y, .int .i64 (j : Nat), .int .i64 0]) ∧ RV (fun x => w.heap.size ≤ x) w' t x y ∧ Run b (.go [] 0) (.val t j)) ∨
  ∃ (p : Nat) (er : Int), e = .returned (.tuple #[.agg #[.int .i64 0, .int .i64 0, .string { data := #[] }, .slice none 0 0, .slice none 0 0], .int .i64 p, .int .i64 er]) ∧ Run b (.go [] 0) (.bad p er))
theorem scal_rv {b : List UInt8} {i j : Nat} {t : T} (h : scP b i = .ok t j) (S : Nat → Prop) (w : World) : RV S w t (.slice none 0 0) (.slice none 0 0) := by
  unfold scP at h
  by_cases h105 : byt b i = 105
  · rw [if_pos h105] at h
    cases hn : numb b i with
    | bad p' e' => rw [hn] at h; cases h
    | ok n j => rw [hn] at h; cases h; exact ⟨⟨_, _, rfl, .inl rfl⟩, ⟨_, _, rfl, .inl rfl⟩⟩
  · rw [if_neg h105] at h
    cases hn : strg b i with
    | bad p' e' => rw [hn] at h; cases h
    | ok n j => rw [hn] at h; cases h; exact ⟨⟨_, _, rfl, .inl rfl⟩, ⟨_, _, rfl, .inl rfl⟩⟩
theorem scP_le {b : List UInt8} {i j : Nat} {t : T} (h : scP b i = .ok t j) : j ≤ b.length := by
  unfold scP at h
  by_cases h105 : byt b i = 105
  · rw [if_pos h105] at h
    cases hn : numb b i with
    | bad p' e' => rw [hn] at h; cases h
    | ok n j =>
      rw [hn] at h; cases h
      by_cases hl : i + 1 < b.length
      · rw [numb_sg hl] at hn
        generalize (if byt b (i + 1) = 45 then [45] else [] : List UInt8) = sg at hn
        cases hd : digs b 101 (i + 1 + sg.length) with
        | bad p e => rw [hd] at hn; cases hn
        | ok d k =>
          rw [hd] at hn
          dsimp only at hn
          obtain ⟨_, h2, _, h4, _⟩ := digs_ok hd
          cases ha : Lib.atoiAll (sg ++ d) with
          | ok v =>
            rw [ha] at hn
            dsimp only at hn
            by_cases hc : padd d = true ∨ sg ++ d = [45, 48]
            · rw [if_pos hc] at hn; cases hn
            · rw [if_neg hc] at hn; cases hn; omega
          | «syntax» => rw [ha] at hn; cases hn
          | range => rw [ha] at hn; cases hn
      · rw [numb, if_pos (by omega)] at hn; cases hn
  · rw [if_neg h105] at h
    cases hn : strg b i with
    | bad p' e' => rw [hn] at h; cases h
    | ok n j => rw [hn] at h; cases h; exact (strg_lt hn).2.2
/-- where the reference's reader stands -/
def RI (b : List UInt8) (w : World) (H : Nat) (wr : World) (sv : Value) (fs : List Fr) (S : Nat → Prop) (j : Nat) : Prop :=
  SI (H + 1) S wr sv fs ∧ Below H w wr ∧ obj wr H (.int .i64 0) (.int .i64 0) (.string { data := #[] }) (.slice none 0 0) (.slice none 0 0) ∧ j ≤ b.length ∧ Run b (.go [] 0) (.go fs.reverse j) ∧ (∀ f, f ∈ fs → f.ls.length ≤ j ∧ f.ps.length ≤ j) ∧ fs.length ≤ 32 ∧ H + 1 ≤ wr.heap.size
theorem RI.next {b : List UInt8} {w : World} {H : Nat} {wr w2 : World} {sv sv' : Value} {fs fs' : List Fr} {S S' : Nat → Prop} {j j' : Nat} (h : RI b w H wr sv fs S j) (hb : Below (H + 1) wr w2) (hsi : SI (H + 1) S' w2 sv' fs') (hrun : Run b (.go fs.reverse j) (.go fs'.reverse j')) (hj : j' ≤ b.length) (hlen : ∀ f, f ∈ fs' → f.ls.length ≤ j' ∧ f.ps.length ≤ j') (h32 : fs'.length ≤ 32) : RI b w H w2 sv' fs' S' j' :=
  ⟨hsi, h.2.1.trans (hb.mono (Nat.le_succ _)), h.2.2.1.keep (hb.block H (Nat.lt_succ_self _)), hj, h.2.2.2.2.1.trans hrun, hlen, h32, Nat.le_trans h.2.2.2.2.2.2.2 hb.size⟩
theorem RI.grow {b : List UInt8} {w : World} {H : Nat} {wr w2 : World} {sv : Value} {fs : List Fr} {S : Nat → Prop} {j : Nat} (h : RI b w H wr sv fs S j) (hb : Below wr.heap.size wr w2) : RI b w H w2 sv fs S j :=
  h.next (hb.mono h.2.2.2.2.2.2.2) (h.1.keep hb.size (fun x _ hx => hb.block x hx)) (.refl _) h.2.2.2.1 h.2.2.2.2.2.1 h.2.2.2.2.2.2.1
theorem info73 : (Tryd.prog.info? 109).map (fun i => (i.zero, i.size, i.bytes)) = some (some (.agg #[.int .i64 0, .slice none 0 0, .slice none 0 0, .string ByteArray.empty, .bool false]), 5, 80) := by kernel_rfl
theorem append_open {ops : Array Oper} {rest : List Oper} {o : Oper} {a : Act} {Q : Exit → Act → World → Prop} {w : World} {B : Nat} {S : Nat → Prop} {sv : Value} {fs : List Fr} {dd : Bool} (hgd : o.guard = none) (s x : Operand)
    (ho : o.op = .call { callee := .builtin .append, args := #[s, x], argTypes := #[107, 107] }) (hs : a.eval s = sv) (h : SI B S w sv fs) (b : Nat) (hx : a.eval x = .slice (some ⟨b, 0, none⟩) 1 1) (hc : blk w b 109 #[kd { d := dd }, .slice none 0 0, .slice none 0 0, .string ByteArray.empty, .bool false]) (hB : B ≤ w.heap.size) (hlim : fs.length ≤ 32)
    (hcont : ∀ sa sc w', SI B S w' (.slice sa (fs.length + 1) sc) (fs ++ [{ d := dd }]) → Below B w w' → wpList Tryd.prog ops Q rest (a.put o.dst (.slice sa (fs.length + 1) sc)) w') : wpList Tryd.prog ops Q (o :: rest) a w := by
  obtain ⟨i0, hi, hz0, hz1, hz2⟩ := info_parts info73
  obtain ⟨us, L, D, hsi⟩ := h
  obtain ⟨v', w', hr, hown', hgrow, _, hatb⟩ := run_append_own_at (P := Tryd.prog) w B 107 o.type 109 i0 _ 5 80 Tryd.underlying107 hi hz0 hz1 hz2 rfl (by omega) sv fs.length us hsi.1 ⟨b, 0, none⟩ 1 1 [kd { d := dd }, .slice none 0 0, .slice none 0 0, .string ByteArray.empty, .bool false] rfl
    (fun j u hu => by
      match j, hu with
      | 0, hu => simp at hu; subst hu; simpa [Addr.add] using hc.cell 0
      | 1, hu => simp at hu; subst hu; simpa [Addr.add] using hc.cell 1
      | 2, hu => simp at hu; subst hu; simpa [Addr.add] using hc.cell 2
      | 3, hu => simp at hu; subst hu; simpa [Addr.add] using hc.cell 3
      | 4, hu => simp at hu; subst hu; simpa [Addr.add] using hc.cell 4) (fun u hu => by simp at hu; rcases hu with rfl | rfl | rfl | rfl <;> rfl) (by unfold maxLen; omega) (by omega) hB
  obtain ⟨sa, sc, rfl⟩ := ownForm hown'
  refine Lib.wpList_append_run w hgd s x 107 107 ho sv _ hs hx _ w' hr (hcont sa sc w' (SI.push dd hsi hown' hgrow ?_) ((Below.refl B w).grown hgrow hB (fun k hk => (own_lt hsi.1 hk).1)))
  rcases hatb with h | h
  · exact .inl h
  · exact .inr ⟨_, h, Nat.le_refl _⟩
theorem scP_er {b : List UInt8} {i p : Nat} {e : Int} (h : scP b i = .bad p e) : (e != 0) = true := by
  unfold scP at h
  have : e = 21 ∨ e = 22 ∨ e = 23 := by
    by_cases h105 : byt b i = 105
    · rw [if_pos h105] at h
      cases hn : numb b i with
      | bad p' e' => rw [hn] at h; cases h; exact numb_er hn
      | ok n j => rw [hn] at h; cases h
    · rw [if_neg h105] at h
      cases hn : strg b i with
      | bad p' e' => rw [hn] at h; cases h; exact strg_er hn
      | ok n j => rw [hn] at h; cases h
  rcases this with h | h | h <;> subst h <;> rfl
theorem obj_set5 {W : World} {H v : Nat} {c0 c1 c2 c3 c4 b0 b1 b2 b3 b4 : Value} (hn : H ≠ v) (h : obj W H c0 c1 c2 c3 c4) : obj (((((W.setCell ⟨v, 0, none⟩ b0).setCell ⟨v, 1, none⟩ b1).setCell ⟨v, 2, none⟩ b2).setCell ⟨v, 3, none⟩ b3).setCell ⟨v, 4, none⟩ b4) H c0 c1 c2 c3 c4 :=
  h.keep (by rw [Below.heap_setCell _ _ _ _ hn, Below.heap_setCell _ _ _ _ hn, Below.heap_setCell _ _ _ _ hn, Below.heap_setCell _ _ _ _ hn, Below.heap_setCell _ _ _ _ hn])
theorem below_set5v {B v : Nat} {w w1 : World} {b0 b1 b2 b3 b4 : Value} (hv : B ≤ v) (h : Below B w w1) : Below B w (((((w1.setCell ⟨v, 0, none⟩ b0).setCell ⟨v, 1, none⟩ b1).setCell ⟨v, 2, none⟩ b2).setCell ⟨v, 3, none⟩ b3).setCell ⟨v, 4, none⟩ b4) :=
  ((((h.setCell hv _).setCell hv _).setCell hv _).setCell hv _).setCell hv _
theorem join_len {n : Nat} (f : Fr) (t : T) (h1 : f.ls.length < n) (h2 : f.ps.length < n) : (f.join t).ls.length ≤ n ∧ (f.join t).ps.length ≤ n := by
  unfold Fr.join
  split
  · simp; omega
  · simp; omega
theorem frow_L {B : Nat} {S : Nat → Prop} {w : World} {f : Fr} {L D : Value} (h : FRow B S w f L D) : ∃ a n c, L = .slice a n c := by
  rcases h with ⟨_, h, _⟩ | ⟨_, _, _, _, _, us, h, _⟩
  · exact ⟨_, _, _, h⟩
  · obtain ⟨a, c, e⟩ := ownForm h; exact ⟨a, _, c, e⟩
theorem frow_D {B : Nat} {S : Nat → Prop} {w : World} {f : Fr} {L D : Value} (h : FRow B S w f L D) : ∃ a n c, D = .slice a n c := by
  rcases h with ⟨_, _, _, us, h, _⟩ | ⟨_, h, _⟩
  · obtain ⟨a, c, e⟩ := ownForm h; exact ⟨a, _, c, e⟩
  · exact ⟨_, _, _, h⟩
theorem SI.S {B : Nat} {S : Nat → Prop} {w : World} {sv : Value} {fs : List Fr} (h : SI B S w sv fs) : ∀ x, S x → B ≤ x ∧ x < w.heap.size := by
  obtain ⟨_, _, _, _, _, h3⟩ := h
  exact fun x hx => ⟨(h3 x hx).1, (h3 x hx).2.1⟩
theorem PRow.last {B : Nat} {S : Nat → Prop} {w : World} {a : Option Addr} {n c : Nat} {l : List (ByteArray × T)} (h : PRow B S w (.slice a n c) l) (hn : l ≠ []) : ∃ gd, a = some ⟨gd, 0, none⟩ ∧ n = l.length ∧ B ≤ gd ∧ gd < w.heap.size ∧ w.cell? ⟨gd, (l.length - 1) * 6, none⟩ = some (.string (lastK l)) := by
  obtain ⟨us, q1, q2⟩ := h
  have hl : 0 < l.length := List.length_pos_iff.2 hn
  obtain ⟨gd, ha⟩ : ∃ gd, (Value.slice a n c).ownBlock = some gd := by
    rcases q1.2 with ⟨_, e⟩ | ⟨g, cap, cur, e, _⟩
    · omega
    · exact ⟨g, by rw [e]; rfl⟩
  obtain ⟨cap, e, hc⟩ := own_form q1 ha
  have hlt := own_lt q1 ha
  injection e with e1 e2 e3
  refine ⟨gd, e1, e2, hlt.1, hlt.2, ?_⟩
  obtain ⟨x, y, _, hu⟩ := q2 (l.length - 1) (by omega)
  have h0 := hu 0 (by omega)
  have := hc _ _ h0
  rw [Nat.add_zero] at this
  rw [this]
  unfold lastK
  rw [List.getLastD_eq_getLast?, List.getLast?_eq_getElem?]
  rfl
theorem RI.keyed {b : List UInt8} {w : World} {H : Nat} {wr : World} {gs sc : Nat} {r : List Fr} {f : Fr} {S : Nat → Prop} {j j2 : Nat} {us : List Value} {L D : Nat → Value} (h : RI b w H wr (.slice (some ⟨gs, 0, none⟩) (r.length + 1) sc) (r ++ [f]) S j) (hx : SIx (H + 1) S wr (.slice (some ⟨gs, 0, none⟩) (r.length + 1) sc) (r ++ [f]) us L D) (hd : f.d = true) (hg : H + 1 ≤ gs) (s : ByteArray) (A O : Obj) (hlt : j < j2) (hle : j2 ≤ b.length) (hs : step b (f :: r.reverse) j = .go ({ f with key := s, has := true } :: r.reverse) j2) :
    RI b w H ((((wr.setCell ⟨gs, r.length * 5 + 3, none⟩ (.string s)).setCell ⟨gs, r.length * 5 + 4, none⟩ (.bool true)).alloc A).alloc O) (.slice (some ⟨gs, 0, none⟩) (r.length + 1) sc) (r ++ [{ f with key := s, has := true }]) S j2 := by
  have hb : Below (H + 1) wr ((wr.setCell ⟨gs, r.length * 5 + 3, none⟩ (.string s)).setCell ⟨gs, r.length * 5 + 4, none⟩ (.bool true)) := ((Below.refl _ _).setCell hg _).setCell hg _
  refine RI.grow (h.next hb (hx.keyed hd s) (by simpa using Run.one hs) hle (fun f' hf' => ?_) (by have := h.2.2.2.2.2.2.1; simpa using this)) (((Below.refl _ _).alloc (Nat.le_refl _) _).alloc (by simp) _)
  rcases List.mem_append.1 hf' with q | q
  · have := h.2.2.2.2.2.1 f' (List.mem_append_left _ q); omega
  · simp at q
    subst q
    have := h.2.2.2.2.2.1 f (by simp)
    exact ⟨by dsimp only; omega, by dsimp only; omega⟩
theorem vv_close {t : T} {k : Int} {x y : Value} {j : Nat} (h : t.k = k ∧ t.n = 0 ∧ t.s = ByteArray.empty) : Ending.returned (.tuple #[.agg #[.int .i64 k, .int .i64 0, .string { data := #[] }, x, y], .int .i64 ((j : Int) + 1), .int .i64 0]) = .returned (.tuple #[vv t x y, .int .i64 ((j + 1 : Nat) : Int), .int .i64 0]) := by
  unfold vv
  rw [h.1, h.2.1, h.2.2]
  rfl
theorem rv_end {S : Nat → Prop} {wr w2 : World} {H VB : Nat} {t : T} {x y a0 a1 a2 a3 a4 b0 b1 b2 b3 b4 : Value} (h : RV S wr t x y) (hS : ∀ x, S x → H + 1 ≤ x ∧ x < wr.heap.size) (hb : Below VB wr w2) (hV : wr.heap.size = VB) :
    RV (fun x => H ≤ x) ((((((((((w2.setCell ⟨VB, 0, none⟩ a0).setCell ⟨VB, 1, none⟩ a1).setCell ⟨VB, 2, none⟩ a2).setCell ⟨VB, 3, none⟩ a3).setCell ⟨VB, 4, none⟩ a4).setCell ⟨H, 0, none⟩ b0).setCell ⟨H, 1, none⟩ b1).setCell ⟨H, 2, none⟩ b2).setCell ⟨H, 3, none⟩ b3).setCell ⟨H, 4, none⟩ b4) t x y := by
  refine RV.keep (w := wr) (fun x hx => by have := (hS x hx).1; show H ≤ x; omega) (by simpa using hb.size) (fun k hk hl => ?_) _ _ _ h
  have hn1 : k ≠ H := by have := (hS k hk).1; omega
  have hn2 : k ≠ VB := by omega
  rw [Below.heap_setCell _ _ _ _ hn1, Below.heap_setCell _ _ _ _ hn1, Below.heap_setCell _ _ _ _ hn1, Below.heap_setCell _ _ _ _ hn1, Below.heap_setCell _ _ _ _ hn1, Below.heap_setCell _ _ _ _ hn2, Below.heap_setCell _ _ _ _ hn2, Below.heap_setCell _ _ _ _ hn2, Below.heap_setCell _ _ _ _ hn2, Below.heap_setCell _ _ _ _ hn2]
  exact hb.block k (by omega)
theorem SIx.keep {B : Nat} {S : Nat → Prop} {w w' : World} {sv : Value} {fs : List Fr} {us : List Value} {L D : Nat → Value} (h : SIx B S w sv fs us L D) (hz : w.heap.size ≤ w'.heap.size) (hs : ∀ x, B ≤ x → x < w.heap.size → w'.heap[x]? = w.heap[x]?) : SIx B S w' sv fs us L D := by
  obtain ⟨h1, h2, h3⟩ := h
  refine ⟨own_keep h1 hs, fun k hk => ?_, fun x hx => ⟨(h3 x hx).1, Nat.lt_of_lt_of_le (h3 x hx).2.1 hz, (h3 x hx).2.2⟩⟩
  obtain ⟨q1, q2, q3⟩ := h2 k hk
  exact ⟨q1, q2.keep hz (fun g hg hl => hs g (q2.low hg).1 hl) (fun x hx hl => ⟨hx, hs x (h3 x hx).1 hl⟩), fun g hg => ⟨(q3 g hg).1, (q3 g hg).2.1, Nat.lt_of_lt_of_le (q3 g hg).2.2.1 hz, (q3 g hg).2.2.2⟩⟩
/-- what a store into the top frame and the value's box wants to know -/
def TCV (w : World) (gs n VB : Nat) (c0 c1 c2 c3 c4 v0 v1 v2 v3 v4 : Value) : Prop :=
  w.cell? ⟨gs, n * 5, none⟩ = some c0 ∧ w.cell? ⟨gs, n * 5 + 1, none⟩ = some c1 ∧ w.cell? ⟨gs, n * 5 + 2, none⟩ = some c2 ∧ w.cell? ⟨gs, n * 5 + 3, none⟩ = some c3 ∧ w.cell? ⟨gs, n * 5 + 4, none⟩ = some c4 ∧
  w.frozen? ⟨gs, n * 5, none⟩ = false ∧ w.frozen? ⟨gs, n * 5 + 1, none⟩ = false ∧ w.frozen? ⟨gs, n * 5 + 2, none⟩ = false ∧ w.frozen? ⟨gs, n * 5 + 3, none⟩ = false ∧ w.frozen? ⟨gs, n * 5 + 4, none⟩ = false ∧
  w.cell? ⟨VB, 0, none⟩ = some v0 ∧ w.cell? ⟨VB, 1, none⟩ = some v1 ∧ w.cell? ⟨VB, 2, none⟩ = some v2 ∧ w.cell? ⟨VB, 3, none⟩ = some v3 ∧ w.cell? ⟨VB, 4, none⟩ = some v4
theorem join_call {H : Nat} {S : Nat → Prop} {w3 : World} {gs sc VB : Nat} {r : List Fr} {f : Fr} {us : List Value} {L D : Nat → Value} {t : T} {xa ya : Option Addr} {xn xc yn yc : Nat} (h : SIx (H + 1) S w3 (.slice (some ⟨gs, 0, none⟩) (r.length + 1) sc) (r ++ [f]) us L D) (hv : obj w3 VB (.int .i64 t.k) (.int .i64 t.n) (.string t.s) (.slice xa xn xc) (.slice ya yn yc)) (hVB : ∀ g, (rowOf f (L r.length) (D r.length)).ownBlock = some g → g ≠ VB) (hB : H + 1 ≤ w3.heap.size) (h1 : f.ls.length ≤ 2097152) (h2 : f.ps.length ≤ 2097152) (hrv : RV S w3 t (.slice xa xn xc) (.slice ya yn yc)) :
    TCV w3 gs r.length VB (kd f) (L r.length) (D r.length) (.string f.key) (.bool f.has) (.int .i64 t.k) (.int .i64 t.n) (.string t.s) (.slice xa xn xc) (.slice ya yn yc) ∧
    Calls Tryd.prog 69 #[.agg #[kd f, L r.length, D r.length, .string f.key, .bool f.has], .agg #[.int .i64 t.k, .int .i64 t.n, .string t.s, .slice xa xn xc, .slice ya yn yc]] w3.drew fun e w4 => ∃ la ln lc da dn dc, e = .returned (.agg #[kd (f.join t), .slice la ln lc, .slice da dn dc, .string (f.join t).key, .bool (f.join t).has]) ∧
      TCV w4 gs r.length VB (kd f) (L r.length) (D r.length) (.string f.key) (.bool f.has) (.int .i64 t.k) (.int .i64 t.n) (.string t.s) (.slice xa xn xc) (.slice ya yn yc) ∧
      Hid (SI (H + 1) S (((((w4.setCell ⟨gs, r.length * 5, none⟩ (kd (f.join t))).setCell ⟨gs, r.length * 5 + 1, none⟩ (.slice la ln lc)).setCell ⟨gs, r.length * 5 + 2, none⟩ (.slice da dn dc)).setCell ⟨gs, r.length * 5 + 3, none⟩ (.string (f.join t).key)).setCell ⟨gs, r.length * 5 + 4, none⟩ (.bool (f.join t).has)) (.slice (some ⟨gs, 0, none⟩) (r.length + 1) sc) (r ++ [f.join t]) ∧
        Below (H + 1) w3 (((((w4.setCell ⟨gs, r.length * 5, none⟩ (kd (f.join t))).setCell ⟨gs, r.length * 5 + 1, none⟩ (.slice la ln lc)).setCell ⟨gs, r.length * 5 + 2, none⟩ (.slice da dn dc)).setCell ⟨gs, r.length * 5 + 3, none⟩ (.string (f.join t).key)).setCell ⟨gs, r.length * 5 + 4, none⟩ (.bool (f.join t).has))) := by
  obtain ⟨gs', cap, hsv, _, hgB, hgl, ⟨k0, k1, k2, k3, k4⟩, kfr, hF⟩ := h.top
  injection hsv with e1 e2 e3
  injection e1 with e1
  injection e1 with e1
  subst e1
  obtain ⟨v0, v1, v2, v3, v4⟩ := hv.cells
  have hgn : (rowOf f (L r.length) (D r.length)).ownBlock ≠ some gs := fun e => by
    have := (h.2.1 r.length (by simp)).2.2 gs (by simpa only [getD_snoc_eq] using e)
    exact this.1 rfl
  refine ⟨⟨k0, k1, k2, k3, k4, kfr _, kfr _, kfr _, kfr _, kfr _, v0, v1, v2, v3, v4⟩, ?_⟩
  have hd : SIx (H + 1) S w3.drew (.slice (some ⟨gs, 0, none⟩) (r.length + 1) sc) (r ++ [f]) us L D := h.keep (Nat.le_refl _) (fun _ _ _ => rfl)
  refine (joined39F hd hB h1 h2 t xa ya xn xc yn yc (RV.keep (w := w3) (w' := w3.drew) (fun _ h => h) (Nat.le_refl _) (fun _ _ _ => rfl) _ _ _ hrv)).mono ?_
  rintro e w4 ⟨L', D', rfl, q1, q2, q3, ⟨la, ln, lc, rfl⟩, ⟨da, dn, dc, rfl⟩⟩
  have kb : ∀ x, x < w3.heap.size → (rowOf f (L r.length) (D r.length)).ownBlock ≠ some x → w4.heap[x]? = w3.heap[x]? := fun x hx hn => q1.block x hx (fun e => hn e.symm)
  have c1 : ∀ i, w4.cell? ⟨gs, i, none⟩ = w3.cell? ⟨gs, i, none⟩ := fun i => World.cell?_of_block (w := w3) (kb gs hgl hgn)
  have c2 : ∀ i, w4.frozen? ⟨gs, i, none⟩ = w3.frozen? ⟨gs, i, none⟩ := fun i => World.frozen?_of_block (w := w3) (kb gs hgl hgn)
  have c3 : ∀ i, w4.cell? ⟨VB, i, none⟩ = w3.cell? ⟨VB, i, none⟩ := fun i => World.cell?_of_block (w := w3) (kb VB hv.lt (fun e => hVB VB e rfl))
  refine ⟨la, ln, lc, da, dn, dc, rfl, ⟨(c1 _).trans k0, (c1 _).trans k1, (c1 _).trans k2, (c1 _).trans k3, (c1 _).trans k4, (c2 _).trans (kfr _), (c2 _).trans (kfr _), (c2 _).trans (kfr _), (c2 _).trans (kfr _), (c2 _).trans (kfr _), (c3 _).trans v0, (c3 _).trans v1, (c3 _).trans v2, (c3 _).trans v3, (c3 _).trans v4⟩, SIx.joined hd q1 q2 q3, ?_⟩
  have hb : Below (H + 1) w3 w4 := ⟨q1.os, q1.tape, q1.output, q1.size, fun k hk => kb k (by omega) (fun e => by have := (hF.low e).1; omega)⟩
  exact ((((hb.setCell hgB _).setCell hgB _).setCell hgB _).setCell hgB _).setCell hgB _
theorem push_boxes (K0 : Value) (wr : World) (A : Obj) (O : Obj) (_hO : O = Obj.cells #[K0, .slice none 0 0, .slice none 0 0, .string ByteArray.empty, .bool false] 109) :
    Below wr.heap.size wr (((wr.alloc A).alloc O).alloc (Obj.cells #[K0, .slice none 0 0, .slice none 0 0, .string ByteArray.empty, .bool false] 109)) ∧ blk (((wr.alloc A).alloc O).alloc (Obj.cells #[K0, .slice none 0 0, .slice none 0 0, .string ByteArray.empty, .bool false] 109)) (wr.heap.size + 1 + 1) 109 #[K0, .slice none 0 0, .slice none 0 0, .string ByteArray.empty, .bool false] := by
  refine ⟨(((Below.refl _ _).alloc (Nat.le_refl _) _).alloc (by simp) _).alloc (by simp; omega) _, ?_⟩
  have := heap_new ((wr.alloc A).alloc O) (Obj.cells #[K0, .slice none 0 0, .slice none 0 0, .string ByteArray.empty, .bool false] 109)
  simpa [blk] using this
/-- the body of a function's first loop -/
def firstLoop : Code → Option Code
  | .loop c => some c
  | .seq a b => match firstLoop a with
    | some c => some c
    | none => firstLoop b
  | .block _ c => firstLoop c
  | .scope c => firstLoop c
  | .cond _ a b => match firstLoop a with
    | some c => some c
    | none => firstLoop b
  | _ => none
def loopOf (f : Func) : Code := (f.body.bind firstLoop).getD .skip
end Go.Proofs.YtdlnnnlmlaploaaDoor
