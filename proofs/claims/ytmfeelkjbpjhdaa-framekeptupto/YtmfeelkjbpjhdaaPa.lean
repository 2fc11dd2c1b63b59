import Derived.Test.YtmfeelkjbpjhdaaRdr
import Derived.Maps.AppendAt
namespace Go.Proofs.Ytmfeelkjbpjhdaa
open Go.RowKit
theorem infoB : (Try.prog.info? 28).map (fun i => (i.zero, i.size, i.bytes)) = some (some (.slice none 0 0), 1, 24) := by kernel_rfl
theorem infoH : (Try.prog.info? 25).map (fun i => (i.zero, i.size, i.bytes)) = some (some (.agg (bc (zr 48))), 48, 48) := by kernel_rfl
/-- a list that lies in a block of its own, without spare room -/
def BK (S : Nat → Prop) (w : World) (u : Value) (l : List UInt8) : Prop := ∃ g, S g ∧ u = .slice (some ⟨g, 0, none⟩) l.length l.length ∧ w.heap[g]? = some (.cells (bc l) 5 (0, 0))
/-- a list of such lists that the call owns -/
def OB (B : Nat) (S : Nat → Prop) (w : World) (v : Value) (bs : List (List UInt8)) : Prop := ∃ us : List Value, (us.length = bs.length ∧ us.Nodup) ∧ w.ownsRow B 28 1 v bs.length us ∧ ∀ i, i < bs.length → BK S w (us.getD i undef) (bs.getD i [])
/-- a list of handshakes that the call owns -/
def OM (B : Nat) (w : World) (v : Value) (met : List (List UInt8)) : Prop := w.ownsRow B 25 48 v met.length (Lib.byteCells met.flatten) ∧ ∀ h ∈ met, h.length = 48
theorem ownsRow_keep {w w' : World} {B e size n : Nat} {v : Value} {xs : List Value} (h : w.ownsRow B e size v n xs) (hk : ∀ k, B ≤ k → k < w.heap.size → w'.heap[k]? = w.heap[k]?) : w'.ownsRow B e size v n xs := by
  refine ⟨h.1, ?_⟩
  rcases h.2 with h1 | ⟨g, cap, cur, h1, h2, h3, h4⟩
  · exact .inl h1
  · exact .inr ⟨g, cap, cur, h1, h2, (hk g h2 (Array.getElem?_eq_some_iff.1 h3).1).trans h3, h4⟩
/-- a row of other cells than those of the block that has turned -/
theorem ownsRow_keep2 {w w' : World} {B e e2 size n : Nat} {v : Value} {xs : List Value} {row : Option Nat} (h : w.ownsRow B e size v n xs) (hg : w.grownBy w' row) (hr : ∀ k, row = some k → ∃ cs f, w.heap[k]? = some (.cells cs e2 f)) (hne : e ≠ e2) : w'.ownsRow B e size v n xs := by
  refine ⟨h.1, ?_⟩
  rcases h.2 with h1 | ⟨g, cap, cur, h1, h2, h3, h4⟩
  · exact .inl h1
  · refine .inr ⟨g, cap, cur, h1, h2, (hg.block g (Array.getElem?_eq_some_iff.1 h3).1 fun e' => ?_).trans h3, h4⟩
    obtain ⟨cs, f, hc⟩ := hr g e'.symm
    rw [h3] at hc
    simp at hc
    exact hne hc.2.1
theorem row_of {w : World} {B e size n : Nat} {v : Value} {xs : List Value} (h : w.ownsRow B e size v n xs) : ∀ k, v.ownBlock = some k → ∃ cs f, w.heap[k]? = some (.cells cs e f) := by
  intro k hk
  rcases h.2 with ⟨rfl, _⟩ | ⟨g, cap, cur, rfl, h2, h3, _⟩
  · simp [Value.ownBlock] at hk
  · simp [Value.ownBlock] at hk
    subst hk
    exact ⟨_, _, h3⟩
theorem BK.keep {S T : Nat → Prop} {w w' : World} {u : Value} {l : List UInt8} (h : BK S w u l) (hk : ∀ k, S k → k < w.heap.size → (∃ cs f, w.heap[k]? = some (.cells cs 5 f)) → w'.heap[k]? = w.heap[k]?) (hs : ∀ g, S g → g < w.heap.size → T g) : BK T w' u l := by
  obtain ⟨g, h1, h2, h3⟩ := h
  have hlt := (Array.getElem?_eq_some_iff.1 h3).1
  exact ⟨g, hs g h1 hlt, h2, (hk g h1 hlt ⟨_, _, h3⟩).trans h3⟩
theorem OB.keep {B : Nat} {S T : Nat → Prop} {w w' : World} {v : Value} {bs : List (List UInt8)} (h : OB B S w v bs) (hb : ∀ k, B ≤ k → k < w.heap.size → w'.heap[k]? = w.heap[k]?) (hS : ∀ k, S k → B ≤ k) (hs : ∀ g, S g → g < w.heap.size → T g) : OB B T w' v bs := by
  obtain ⟨us, h1, h2, h3⟩ := h
  exact ⟨us, h1, ownsRow_keep h2 hb, fun i hi => (h3 i hi).keep (fun k hk hl _ => hb k (hS k hk) hl) hs⟩
theorem OM.keep {B : Nat} {w w' : World} {v : Value} {met : List (List UInt8)} (h : OM B w v met) (hb : ∀ k, B ≤ k → k < w.heap.size → w'.heap[k]? = w.heap[k]?) : OM B w' v met := ⟨ownsRow_keep h.1 hb, h.2⟩
theorem OB.nil (B : Nat) (S : Nat → Prop) (w : World) : OB B S w (.slice none 0 0) [] := ⟨[], ⟨rfl, List.nodup_nil⟩, World.ownsRow_nil _ _ _ _, fun i h => by simp at h⟩
theorem OM.nil (B : Nat) (w : World) : OM B w (.slice none 0 0) [] := ⟨World.ownsRow_nil _ _ _ _, by simp⟩
theorem OB.form {B : Nat} {S : Nat → Prop} {w : World} {v : Value} {bs : List (List UInt8)} (h : OB B S w v bs) : ∃ a c, v = .slice a bs.length c := by
  obtain ⟨us, _, h2, _⟩ := h
  rcases h2.2 with ⟨rfl, h0⟩ | ⟨g, cap, _, rfl, _⟩
  · rw [h0]; exact ⟨none, 0, rfl⟩
  · exact ⟨_, cap, rfl⟩
theorem OM.form {B : Nat} {w : World} {v : Value} {bs : List (List UInt8)} (h : OM B w v bs) : ∃ a c, v = .slice a bs.length c := by
  rcases h.1.2 with ⟨rfl, h0⟩ | ⟨g, cap, _, rfl, _⟩
  · rw [h0]; exact ⟨none, 0, rfl⟩
  · exact ⟨_, cap, rfl⟩
theorem OB.mem {S : Nat → Prop} {w : World} {bs : List (List UInt8)} {us : List Value} (h1 : us.length = bs.length) (h3 : ∀ i, i < bs.length → BK S w (us.getD i undef) (bs.getD i [])) (u : Value) (hu : u ∈ us) : ∃ g n, S g ∧ u = .slice (some ⟨g, 0, none⟩) n n := by
  obtain ⟨i, hi, rfl⟩ := List.getElem_of_mem hu
  obtain ⟨g, h, e, _⟩ := h3 i (by omega)
  rw [List.getD_eq_getElem?_getD, List.getElem?_eq_getElem hi] at e
  simp at e
  exact ⟨g, _, h, e⟩
/-- bodies = append(bodies, body) -/
theorem append_body {ops : Array Oper} {rest : List Oper} {o : Oper} {a : Act} {Q : Exit → Act → World → Prop} {w : World} {B : Nat} {S S' : Nat → Prop} {sv : Value} {bs : List (List UInt8)} (hgd : o.guard = none) (s x : Operand)
    (ho : o.op = .call { callee := .builtin .append, args := #[s, x], argTypes := #[26, 26] }) (hs : a.eval s = sv) (hown : OB B S' w sv bs) (hsub : ∀ g, S' g → S g) (b : Nat) (u : Value) (hne : ∀ g n m, S' g → u ≠ .slice (some ⟨g, 0, none⟩) n m) (l : List UInt8) (hx : a.eval x = .slice (some ⟨b, 0, none⟩) 1 1)
    (hc : w.cell? ⟨b, 0, none⟩ = some u) (hu : BK S w u l) (hB : B ≤ w.heap.size) (hlim : bs.length < 1073741824)
    (h : ∀ v' w', OB B S w' v' (bs ++ [l]) → w.grownBy w' sv.ownBlock → wpList Try.prog ops Q rest (a.put o.dst v') w') : wpList Try.prog ops Q (o :: rest) a w := by
  obtain ⟨i0, hi, hz0, hz1, hz2⟩ := info_parts infoB
  obtain ⟨us, h1, h2, h3⟩ := hown
  refine wpList_append_own w hgd s x 26 ho B 28 i0 _ 1 24 Try.underlying26 hi hz0 hz1 hz2 rfl (by omega) sv bs.length us hs h2 ⟨b, 0, none⟩ 1 1 [u] hx rfl (fun j y hy => ?_) (fun y hy => ?_) (by unfold maxLen; omega) (by omega) hB (fun v' w' k1 k2 _ => ?_)
  · match j, hy with
    | 0, hy => simp at hy; subst hy; simpa [Addr.add] using hc
  · simp at hy; subst hy
    obtain ⟨g, _, e, _⟩ := hu
    rw [e]; rfl
  · have hnd : (us ++ [u]).Nodup := by
      rw [List.nodup_append]
      refine ⟨h1.2, by simp, fun x hx y hy e => ?_⟩
      simp at hy
      subst hy
      subst e
      obtain ⟨g, n, hg, e⟩ := OB.mem h1.1 h3 _ hx
      exact hne g n n hg e
    have h1 := h1.1
    refine h v' w' ⟨us ++ [u], ⟨by simp [h1], hnd⟩, by simpa using k1, fun i hi => ?_⟩ k2
    have kb : ∀ k, S k → k < w.heap.size → (∃ cs f, w.heap[k]? = some (.cells cs 5 f)) → w'.heap[k]? = w.heap[k]? := fun k _ hk hex => k2.block k hk fun e => by
      obtain ⟨cs, f, hr⟩ := row_of h2 k e.symm
      obtain ⟨cs', f', hr'⟩ := hex
      rw [hr] at hr'
      simp at hr'
    rw [List.length_append, List.length_singleton] at hi
    by_cases hlt : i < bs.length
    · have := (h3 i hlt).keep (T := S) (fun k hk => kb k (hsub k hk)) (fun g h _ => hsub g h)
      rw [List.getD_eq_getElem?_getD, List.getD_eq_getElem?_getD, List.getElem?_append_left (by omega), List.getElem?_append_left (by omega), ← List.getD_eq_getElem?_getD, ← List.getD_eq_getElem?_getD]
      exact this
    · have hi' : i = bs.length := by omega
      subst hi'
      have := hu.keep (T := S) kb (fun g h _ => h)
      rw [List.getD_eq_getElem?_getD, List.getD_eq_getElem?_getD, List.getElem?_append_right (by omega), List.getElem?_append_right (by omega)]
      simpa [h1] using this
/-- met = append(met, hello) -/
theorem append_hello {ops : Array Oper} {rest : List Oper} {o : Oper} {a : Act} {Q : Exit → Act → World → Prop} {w : World} {B : Nat} {sv : Value} {met : List (List UInt8)} (hgd : o.guard = none) (s x : Operand)
    (ho : o.op = .call { callee := .builtin .append, args := #[s, x], argTypes := #[39, 39] }) (hs : a.eval s = sv) (hown : OM B w sv met) (b : Nat) (hb : List UInt8) (hx : a.eval x = .slice (some ⟨b, 0, none⟩) 1 1)
    (hc : w.heap[b]? = some (.cells (bc hb) 25 (0, 0))) (hl : hb.length = 48) (hB : B ≤ w.heap.size) (hlim : met.length < 1073741824)
    (h : ∀ v' w', OM B w' v' (met ++ [hb]) → w.grownBy w' sv.ownBlock → wpList Try.prog ops Q rest (a.put o.dst v') w') : wpList Try.prog ops Q (o :: rest) a w := by
  obtain ⟨i0, hi, hz0, hz1, hz2⟩ := info_parts infoH
  refine wpList_append_own w hgd s x 39 ho B 25 i0 _ 48 48 Try.underlying39 hi hz0 hz1 hz2 (by rfl) (by omega) sv met.length (Lib.byteCells met.flatten) hs hown.1 ⟨b, 0, none⟩ 1 1 (Lib.byteCells hb) hx (by rw [bcl_len, hl]) (fun j y hy => ?_) (Lib.byteCells_one _) (by unfold maxLen; omega) (by omega) hB (fun v' w' k1 k2 _ => ?_)
  · have hj' : j < hb.length := by
      have := (List.getElem?_eq_some_iff.1 hy).1
      rwa [bcl_len] at this
    have hadd : (⟨b, 0, none⟩ : Addr).add j = ⟨b, j, none⟩ := by unfold Addr.add; split <;> simp_all
    rw [hadd, cell_bc hc j hj', getD_byt hb j hj']
    simpa [Lib.byteCells, List.getElem?_eq_getElem hj'] using hy
  · refine h v' w' ⟨?_, fun x hx => ?_⟩ k2
    · rw [← bcl_append] at k1
      simpa using k1
    · rcases List.mem_append.1 hx with hx | hx
      · exact hown.2 x hx
      · simp at hx; rw [hx]; exact hl
/-- append(held, b...): where it lies then -/
theorem append_held {ops : Array Oper} {rest : List Oper} {o : Oper} {a : Act} {Q : Exit → Act → World → Prop} {w : World} {B : Nat} {sv xv : Value} {l m : List UInt8} (hgd : o.guard = none) (s x : Operand)
    (ho : o.op = .call { callee := .builtin .append, args := #[s, x], argTypes := #[28, 28] }) (hs : a.eval s = sv) (hown : OW B w sv l) (hnil : l = [] → sv = .slice none 0 0) (hx : a.eval x = xv)
    (hr : RB w xv m) (hB : B ≤ w.heap.size) (hlim : l.length + m.length ≤ 140737488351232)
    (h : ∀ v' w', OW B w' v' (l ++ m) → (l ++ m = [] → v' = .slice none 0 0) → w.grownBy w' sv.ownBlock → (v'.ownBlock = sv.ownBlock ∨ v'.ownBlock = some w.heap.size) → wpList Try.prog ops Q rest (a.put o.dst v') w') : wpList Try.prog ops Q (o :: rest) a w := by
  obtain ⟨i0, hi, hz0, hz1, hz2⟩ := info_parts info5
  obtain ⟨ad, c, rfl, _, hr⟩ := hr
  rcases hr with rfl | ⟨b, off, rfl, _, hc⟩
  · cases ad with
    | none =>
      refine wpList_plain hgd fun K hK => ?_
      have hrun := append_nothing o.type c hown
      simp only [List.length_nil] at hx
      unfold Oper.wp
      simp [execOp, ho, resolve, invoke, builtin, hs, hx, hrun, Result.andThen]
      exact hK _ _ (h _ _ (by rw [List.append_nil]; exact hown) (by rw [List.append_nil]; exact hnil) ⟨rfl, rfl, rfl, Nat.le_refl _, fun _ _ _ => rfl⟩ (.inl rfl))
    | some ad =>
      refine wpList_append_own_at w hgd s x 28 ho B 5 i0 _ 1 1 Try.underlying28 hi hz0 hz1 hz2 rfl (by omega) sv l.length (Lib.byteCells l) hs hown ad 0 c [] hx (by simp) (fun j u hu => by simp at hu) (fun u hu => by cases hu) (by unfold maxLen; simp at hlim; omega) (by simp at hlim; omega) hB (fun v' w' h1 h2 h3 h4 => ?_)
      refine h v' w' ?_ (fun e => h3.2 ⟨hnil (by simpa using e), rfl⟩) h2 h4
      rw [List.append_nil] at h1 ⊢
      simpa [OW] using h1
  · refine wpList_append_own_at w hgd s x 28 ho B 5 i0 _ 1 1 Try.underlying28 hi hz0 hz1 hz2 rfl (by omega) sv l.length (Lib.byteCells l) hs hown ⟨b, off, none⟩ m.length c (Lib.byteCells m) hx (by rw [bcl_len, Nat.mul_one]) (fun j u hu => ?_) (Lib.byteCells_one _) (by unfold maxLen; omega) (by omega) hB (fun v' w' h1 h2 h3 h4 => ?_)
    · have hj' : j < m.length := by
        have := (List.getElem?_eq_some_iff.1 hu).1
        rwa [bcl_len] at this
      have hadd : (⟨b, off, none⟩ : Addr).add j = ⟨b, off + j, none⟩ := by unfold Addr.add; split <;> simp_all
      rw [hadd, hc j hj', getD_byt m j hj']
      simpa [Lib.byteCells, List.getElem?_eq_getElem hj'] using hu
    · refine h v' w' ?_ (fun e => ?_) h2 h4
      · rw [← bcl_append] at h1
        simpa [OW] using h1
      · obtain ⟨e1, e2⟩ := List.append_eq_nil_iff.1 e
        exact h3.2 ⟨hnil e1, by rw [e2]; rfl⟩
/-- the sign from a place on -/
theorem sokp (l : List UInt8) (p : Nat) : sok l p = true ↔ ∀ j, j < l.length → p + j < 20 → byt l j = byt sgn (p + j) := by
  have hs : sgn.length = 20 := rfl
  unfold sok
  rw [beq_iff_eq]
  constructor
  · intro h j h1 h2
    have := congrArg (fun x => x[j]?) h
    simp only [List.getElem?_take_of_lt (show j < 20 - p by omega), List.getElem?_take_of_lt h1, List.getElem?_drop] at this
    unfold byt
    rw [List.getD_eq_getElem?_getD, List.getD_eq_getElem?_getD, this]
  · intro h
    apply List.ext_getElem
    · rw [List.length_take, List.length_take, List.length_drop, hs, Nat.min_comm]
    · intro j h1 h2
      rw [List.length_take] at h1 h2
      rw [List.length_drop, hs] at h2
      have := h j (by omega) (by omega)
      rw [getD_byt l j (by omega), getD_byt sgn (p + j) (by omega)] at this
      simpa using this
theorem sok_split (a b : List UInt8) : sok (a ++ b) 0 = (sok a 0 && sok b a.length) := by
  rw [Bool.eq_iff_iff, Bool.and_eq_true, sokp, sokp, sokp]
  constructor
  · intro h
    refine ⟨fun j h1 h2 => ?_, fun j h1 h2 => ?_⟩
    · have := h j (by simp; omega) h2
      rwa [byt_left _ _ _ h1] at this
    · have := h (a.length + j) (by simp; omega) (by omega)
      rw [byt_right _ _ _ (by omega)] at this
      simpa using this
  · rintro ⟨h1, h2⟩ j hj h20
    by_cases hlt : j < a.length
    · rw [byt_left _ _ _ hlt]; exact h1 j hlt h20
    · rw [byt_right _ _ _ (by omega)]
      have := h2 (j - a.length) (by simp at hj; omega) (by omega)
      rw [this]
      congr 1
      omega
theorem hel_take (l : List UInt8) : hel (l.take 68) = hel l := by
  unfold hel
  rw [List.drop_take, List.take_take]
  rfl
/-- what was pushed and is not told yet -/
def tx (p s : Nat) (held : List UInt8) : List UInt8 := if p = 1 then be4 s ++ held else held
/-- a reader's state at rest -/
def St (p s : Nat) (held : List UInt8) : Prop := (p = 2 ∧ held.length < 68 ∧ sok held 0 = true) ∨ (p = 0 ∧ held.length < 4) ∨ (p = 1 ∧ s ≤ 32768 ∧ held.length < s)
end Go.Proofs.Ytmfeelkjbpjhdaa
