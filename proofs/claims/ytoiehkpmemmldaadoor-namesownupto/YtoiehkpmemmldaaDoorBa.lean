import Derived.Test.YtoiehkpmemmldaaDoorTw
import Derived.Test.YtoiehkpmemmldaaDoorCp
import Derived.Test.YtoiehkpmemmldaaDoorOr
import Derived.ArgAppend
import Derived.Laws.OwnMore
import Derived.Laws.AppendOwnNone
namespace Go.Proofs.YtoiehkpmemmldaaDoor
open Go.RowKit
theorem heapNew (w : World) (o : Obj) : (w.alloc o).heap[w.heap.size]? = some o := by show (w.heap.push o)[w.heap.size]? = some o; simp
theorem heapOld (w : World) (o : Obj) (i : Nat) (h : i < w.heap.size) : (w.alloc o).heap[i]? = w.heap[i]? := by show (w.heap.push o)[i]? = w.heap[i]?; simp [Array.getElem?_push, Nat.ne_of_lt h]
theorem addr0 (g j : Nat) : (⟨g, 0, none⟩ : Addr).add j = ⟨g, j, none⟩ := by
  have : (⟨g, 0, none⟩ : Addr).add j = ⟨g, 0 + j, none⟩ := by unfold Addr.add; split <;> simp_all
  simpa using this
theorem tag_ne {w : World} {g g' : Nat} {cs cs' : Array Value} {t t' : TypeId} (h : w.heap[g]? = some (.cells cs t (0, 0))) (h' : w.heap[g']? = some (.cells cs' t' (0, 0))) (ht : t ≠ t') : g ≠ g' := by
  rintro rfl
  rw [h] at h'
  simp only [Option.some.injEq, Obj.cells.injEq] at h'
  exact ht h'.2.1
theorem cellH {w : World} {g j : Nat} {cs : Array Value} {t : TypeId} (h : w.heap[g]? = some (.cells cs t (0, 0))) : w.cell? ⟨g, j, none⟩ = cs[j]? := by simp [World.cell?, h]
theorem cellNew (w : World) (v : Value) (t : TypeId) : (w.alloc (.cells #[v] t)).cell? ⟨w.heap.size, 0, none⟩ = some v := by
  rw [cellH (heapNew w (.cells #[v] t))]
  rfl
theorem al_bel (W : World) (o : Obj) : Below W.heap.size W (W.alloc o) := (Below.refl _ _).alloc (Nat.le_refl _) _
/-- nothing but some blocks has turned -/
structure Fr (S : Nat → Prop) (w w' : World) : Prop where
  os : w'.os = w.os
  tape : w'.tape = w.tape
  output : w'.output = w.output
  size : w.heap.size ≤ w'.heap.size
  block : ∀ k, k < w.heap.size → S k → w'.heap[k]? = w.heap[k]?
theorem Fr.refl (S : Nat → Prop) (w : World) : Fr S w w := ⟨rfl, rfl, rfl, Nat.le_refl _, fun _ _ _ => rfl⟩
theorem Fr.of_below {S : Nat → Prop} {w w' : World} (h : Below w.heap.size w w') : Fr S w w' := ⟨h.os, h.tape, h.output, h.size, fun k hk _ => h.block k hk⟩
theorem Fr.below {w w' : World} (h : Fr (fun _ => True) w w') : Below w.heap.size w w' := ⟨h.os, h.tape, h.output, h.size, fun k hk => h.block k hk trivial⟩
theorem Fr.trans {S T : Nat → Prop} {w w' w'' : World} (a : Fr S w w') (b : Fr T w' w'') (h : ∀ k, k < w.heap.size → S k → T k) : Fr S w w'' :=
  ⟨b.os.trans a.os, b.tape.trans a.tape, b.output.trans a.output, Nat.le_trans a.size b.size, fun k hk hs => (b.block k (Nat.lt_of_lt_of_le hk a.size) (h k hk hs)).trans (a.block k hk hs)⟩
theorem Fr.mono {S T : Nat → Prop} {w w' : World} (a : Fr S w w') (h : ∀ k, k < w.heap.size → T k → S k) : Fr T w w' := ⟨a.os, a.tape, a.output, a.size, fun k hk ht => a.block k hk (h k hk ht)⟩
theorem Fr.drew {S : Nat → Prop} {w w' : World} (a : Fr S w w') (n : Nat) : Fr S w (w'.drewN n) := ⟨a.os, a.tape, a.output, a.size, a.block⟩
theorem setCell_other {w : World} {R i k : Nat} {v : Value} (h : k ≠ R) : (w.setCell ⟨R, i, none⟩ v).heap[k]? = w.heap[k]? := Below.heap_setCell _ _ _ _ (fun e => h e)
theorem Fr.setCell {S : Nat → Prop} {w w' : World} (a : Fr S w w') (R i : Nat) (v : Value) (h : R < w.heap.size → ¬ S R) : Fr S w (w'.setCell ⟨R, i, none⟩ v) :=
  ⟨a.os, a.tape, a.output, by simpa using a.size, fun k hk hs => (setCell_other (fun e => by subst e; exact h hk hs)).trans (a.block k hk hs)⟩
theorem Fr.setRow {S : Nat → Prop} {w w' : World} (a : Fr S w w') (R : Nat) (cs : Array Value) (h : R < w.heap.size → ¬ S R) : Fr S w (w'.setRow R cs) :=
  ⟨a.os, a.tape, a.output, by simpa using a.size, fun k hk hs => (setRow_other _ _ _ _ (fun e => by subst e; exact h hk hs)).trans (a.block k hk hs)⟩
theorem Fr.alloc {S : Nat → Prop} {w w' : World} (a : Fr S w w') (o : Obj) : Fr S w (w'.alloc o) :=
  ⟨a.os, a.tape, a.output, by show _ ≤ (w'.heap.push o).size; rw [Array.size_push]; exact Nat.le_succ_of_le a.size, fun k hk hs => (heapOld _ _ _ (Nat.lt_of_lt_of_le hk a.size)).trans (a.block k hk hs)⟩
theorem Fr.grown {S : Nat → Prop} {w w' w'' : World} {row : Option Nat} (a : Fr S w w') (g : w'.grownBy w'' row) (h : ∀ k, row = some k → k < w.heap.size → ¬ S k) : Fr S w w'' :=
  ⟨g.os.trans a.os, g.tape.trans a.tape, g.output.trans a.output, Nat.le_trans a.size g.size, fun k hk hs => (g.block k (Nat.lt_of_lt_of_le hk a.size) (fun e => h k e.symm hk hs)).trans (a.block k hk hs)⟩
theorem ownsRow_fr {S : Nat → Prop} {w w' : World} {B e size n : Nat} {v : Value} {xs : List Value} (h : w.ownsRow B e size v n xs) (hf : Fr S w w') (hs : ∀ g, v.ownBlock = some g → S g) : w'.ownsRow B e size v n xs := by
  refine ⟨h.1, ?_⟩
  rcases h.2 with h1 | ⟨g, cap, cur, rfl, h2, h3, h4⟩
  · exact .inl h1
  · exact .inr ⟨g, cap, cur, rfl, h2, (hf.block g (Array.getElem?_eq_some_iff.1 h3).1 (hs g rfl)).trans h3, h4⟩
theorem ownsRow_lt {w : World} {B e size n : Nat} {v : Value} {xs : List Value} (h : w.ownsRow B e size v n xs) : ∀ g, v.ownBlock = some g → g < w.heap.size ∧ ∃ cs, w.heap[g]? = some (.cells cs e (0, 0)) := by
  intro g hg
  rcases h.2 with ⟨rfl, _⟩ | ⟨b, cap, cur, rfl, h2, h3, _⟩
  · simp [Value.ownBlock] at hg
  · simp [Value.ownBlock] at hg
    subst hg
    exact ⟨(Array.getElem?_eq_some_iff.1 h3).1, _, h3⟩
theorem ownsRow_form {w : World} {B e size n : Nat} {v : Value} {xs : List Value} (h : w.ownsRow B e size v n xs) : ∃ a c, v = .slice a n c := by
  rcases h.2 with ⟨rfl, h0⟩ | ⟨g, cap, _, rfl, _⟩
  · rw [h0]; exact ⟨none, 0, rfl⟩
  · exact ⟨_, cap, rfl⟩
theorem ownsRow_base {w : World} {B B' e size n : Nat} {v : Value} {xs : List Value} (h : w.ownsRow B e size v n xs) (hb : B' ≤ B) : w.ownsRow B' e size v n xs := by
  refine ⟨h.1, ?_⟩
  rcases h.2 with h1 | ⟨g, cap, cur, h1, h2, h3⟩
  · exact .inl h1
  · exact .inr ⟨g, cap, cur, h1, Nat.le_trans hb h2, h3⟩
/-- an array with a list laid from a place on -/
def setR : Array Value → Nat → List Value → Array Value
  | cur, _, [] => cur
  | cur, o, u :: us => setR (cur.setIfInBounds o u) (o + 1) us
theorem setR_size : ∀ (us : List Value) (cur : Array Value) (o : Nat), (setR cur o us).size = cur.size
  | [], _, _ => rfl
  | u :: us, cur, o => by unfold setR; rw [setR_size us, Array.size_setIfInBounds]
theorem setR_low : ∀ (us : List Value) (cur : Array Value) (o k : Nat), k ≤ o → (setR cur o us).toList.take k = cur.toList.take k
  | [], _, _, _, _ => rfl
  | u :: us, cur, o, k, h => by
    unfold setR
    rw [setR_low us _ (o + 1) k (by omega), Array.toList_setIfInBounds, List.take_set_of_le h]
theorem setR_high : ∀ (us : List Value) (cur : Array Value) (o : Nat), o + us.length ≤ cur.size → (setR cur o us).toList.take (o + us.length) = cur.toList.take o ++ us
  | [], _, _, _ => by simp [setR]
  | u :: us, cur, o, h => by
    rw [List.length_cons] at h
    unfold setR
    have := setR_high us (cur.setIfInBounds o u) (o + 1) (by rw [Array.size_setIfInBounds]; omega)
    rw [List.length_cons, show o + (us.length + 1) = o + 1 + us.length by omega, this, Array.toList_setIfInBounds, List.take_succ_eq_append_getElem (by simp; omega), List.take_set_of_le (Nat.le_refl _)]
    simp
theorem setCells_heap : ∀ (us : List Value) (w : World) (g o : Nat) (cur : Array Value) (t : TypeId), w.heap[g]? = some (.cells cur t (0, 0)) → (w.setCells g o us).heap[g]? = some (.cells (setR cur o us) t (0, 0))
  | [], _, _, _, _, _, h => h
  | u :: us, w, g, o, cur, t, h => by
    unfold World.setCells setR
    exact setCells_heap us _ g (o + 1) _ t (heap_setCell_same w g o cur t u h)
theorem setCells_other : ∀ (us : List Value) (w : World) (g o k : Nat), k ≠ g → (w.setCells g o us).heap[k]? = w.heap[k]?
  | [], _, _, _, _, _ => rfl
  | u :: us, w, g, o, k, h => by
    unfold World.setCells
    rw [setCells_other us _ g (o + 1) k h]
    exact Below.heap_setCell _ _ _ _ (fun e => h e)
theorem setCells_rest : ∀ (us : List Value) (w : World) (g o : Nat), (w.setCells g o us).os = w.os ∧ (w.setCells g o us).tape = w.tape ∧ (w.setCells g o us).output = w.output ∧ (w.setCells g o us).heap.size = w.heap.size
  | [], _, _, _ => ⟨rfl, rfl, rfl, rfl⟩
  | u :: us, w, g, o => by
    unfold World.setCells
    obtain ⟨h1, h2, h3, h4⟩ := setCells_rest us (w.setCell ⟨g, o, none⟩ u) g (o + 1)
    exact ⟨h1, h2, h3, by rw [h4]; simp⟩
theorem ownsRow_baseL {w : World} {B B' e size n : Nat} {v : Value} {xs : List Value} (h : w.ownsRow B e size v n xs) (hb : B' ≤ B) : w.ownsRow B' e size v n xs := by
  refine ⟨h.1, ?_⟩
  rcases h.2 with h1 | ⟨g, cap, cur, h1, h2, h3⟩
  · exact .inl h1
  · exact .inr ⟨g, cap, cur, h1, Nat.le_trans hb h2, h3⟩
/-- what an append keeps: every list of the same kind that ends no later -/
def KeepsL (e : TypeId) (sz : Nat) (sv : Value) (n : Nat) (w w' : World) : Prop := ∀ (B0 : Nat) (v0 : Value) (m : Nat) (xs0 : List Value), w.ownsRow B0 e sz v0 m xs0 → (v0.ownBlock = sv.ownBlock → m ≤ n) → w'.ownsRow B0 e sz v0 m xs0
theorem append_bothL {ops : Array Oper} {rest : List Oper} {o : Oper} {a : Act} {Q : Exit → Act → World → Prop} {w : World} {B : Nat} {e t : TypeId} {sv : Value} {n sz m : Nat} {xs us : List Value} (i0 : TypeInfo) (z : Value) (bytes : Nat) (hgd : o.guard = none) (s x : Operand)
    (ho : o.op = .call { callee := .builtin .append, args := #[s, x], argTypes := #[t, t] }) (h1 : Tryd.prog.underlying t = some (.slice e)) (h2 : Tryd.prog.info? e = some i0) (h3 : i0.zero = some z) (h4 : i0.size = sz) (h5 : i0.bytes = bytes) (h6 : z.cells.size = sz) (h7 : 0 < sz) (hm : 0 < m)
    (hs : a.eval s = sv) (hown : w.ownsRow B e sz sv n xs) (ad : Addr) (cx : Nat) (hx : a.eval x = .slice (some ad) m cx) (hul : us.length = m * sz) (hc : ∀ j u, us[j]? = some u → w.cell? (ad.add j) = some u) (h1c : ∀ u ∈ us, u.oneCell' = true) (hB : B ≤ w.heap.size) (b1 : n + m ≤ maxLen) (b2 : (n + m) * bytes ≤ 140737488355328)
    (h : ∀ v' w', w'.ownsRow B e sz v' (n + m) (xs ++ us) → KeepsL e sz sv n w w' → w.grownBy w' sv.ownBlock → (v'.ownBlock = sv.ownBlock ∨ ∀ g, v'.ownBlock = some g → w.heap.size ≤ g) → wpList Tryd.prog ops Q rest (a.put o.dst v') w') : wpList Tryd.prog ops Q (o :: rest) a w := by
  have hall : ∀ w', w.grownBy w' none → KeepsL e sz sv n w w' := fun w' r2 B0 v0 m xs0 ho' _ => by
    refine ⟨ho'.1, ?_⟩
    rcases ho'.2 with hh | ⟨g, cap, cur, e1, e2, e3, e4⟩
    · exact .inl hh
    · exact .inr ⟨g, cap, cur, e1, e2, (r2.block g (Array.getElem?_eq_some_iff.1 e3).1 (by simp)).trans e3, e4⟩
  rcases hown.2 with ⟨rfl, rfl⟩ | ⟨g, cap, cur, rfl, hBg, hg, hnc, hcm, hsz, htk⟩
  · obtain rfl : xs = [] := List.eq_nil_of_length_eq_zero (by simpa using hown.1)
    refine wpList_append_grows w hgd s x t ho e i0 z sz bytes h1 h2 h3 h4 h5 h6 h7 none 0 0 [] hs (fun _ => ⟨rfl, rfl⟩) (by simp) (fun b hb => by cases hb) ad m cx us hx hul hc h1c (by omega) b1 b2 (fun v' w' r1 r2 => ?_)
    exact h v' w' (ownsRow_baseL r1 hB) (hall w' r2) r2 (.inr (fun g hg => (World.ownsRow.lt r1 g hg).1))
  · refine wpList_append_arg w hgd s x t ho e i0 z sz bytes h1 h2 h3 h4 h5 h6 h7 g 0 n cap xs hs hown.1 (fun j u' hj => ?_) ad m cx us hx hul hc h1c (fun hr j hj => ?_) b1 b2 (fun hr => ?_) (fun hr v' w' r1 r2 => ?_)
    · have hj' : j < n * sz := by
        have := (List.getElem?_eq_some_iff.1 hj).1
        rwa [hown.1] at this
      rw [Nat.zero_add]
      rw [← htk, List.getElem?_take_of_lt hj', Array.getElem?_toList] at hj
      simpa [World.cell?, hg] using hj
    · have hle : n * sz + m * sz ≤ cur.size := by rw [← Nat.add_mul, hsz]; exact Nat.mul_le_mul_right _ hr
      have : n * sz + j < cur.size := by omega
      rw [Nat.zero_add]
      exact ⟨by simp [World.cell?, hg, this], by simp [World.frozen?, hg]⟩
    · have hle : n * sz + us.length ≤ cur.size := by rw [hul, ← Nat.add_mul, hsz]; exact Nat.mul_le_mul_right _ hr
      rw [Nat.zero_add]
      have hh := setCells_heap us w g (n * sz) cur e hg
      obtain ⟨k1, k2, k3, k4⟩ := setCells_rest us w g (n * sz)
      refine h _ _ ⟨by rw [List.length_append, hown.1, hul, Nat.add_mul], .inr ⟨g, cap, _, rfl, hBg, hh, hr, hcm, by rw [setR_size]; exact hsz, ?_⟩⟩ (fun B0 v0 m0 xs0 ho' hm0 => ?_) ⟨k1, k2, k3, by rw [k4]; exact Nat.le_refl _, fun k hk hne => setCells_other us w g _ k (fun e => hne (by rw [e]; rfl))⟩ (.inl rfl)
      · have := setR_high us cur (n * sz) hle
        rw [hul, ← Nat.add_mul] at this
        rw [this, htk]
      · refine ⟨ho'.1, ?_⟩
        rcases ho'.2 with hh' | ⟨g', cap', cur', e1, e2, e3, e4, e5, e6, e7⟩
        · exact .inl hh'
        · by_cases eg : g' = g
          · subst eg
            have hm' := hm0 (by rw [e1]; rfl)
            rw [hg] at e3
            simp only [Option.some.injEq, Obj.cells.injEq] at e3
            obtain ⟨rfl, _⟩ := e3
            refine .inr ⟨g', cap', _, e1, e2, hh, e4, e5, by rw [setR_size]; exact e6, ?_⟩
            rw [setR_low us cur _ _ (Nat.mul_le_mul_right _ hm')]
            exact e7
          · exact .inr ⟨g', cap', cur', e1, e2, (setCells_other us w g _ g' eg).trans e3, e4, e5, e6, e7⟩
    · exact h v' w' (ownsRow_baseL r1 hB) (hall w' r2) ⟨r2.os, r2.tape, r2.output, r2.size, fun k hk _ => r2.block k hk (by simp)⟩ (.inr (fun g hg => (World.ownsRow.lt r1 g hg).1))
/-- a list gone on with: the new one, and the old one as it was -/
structure GIL (w : World) (B : Nat) (e : TypeId) (sz : Nat) (v0 : Value) (n : Nat) (xs : List Value) (k : Nat) (ys : List Value) (v : Value) (wr : World) : Prop where
  new : wr.ownsRow B e sz v (n + k) (xs ++ ys)
  old : wr.ownsRow B e sz v0 n xs
  fr : Fr (fun k => v0.ownBlock ≠ some k) w wr
  at_ : v.ownBlock = v0.ownBlock ∨ ∀ g, v.ownBlock = some g → w.heap.size ≤ g
theorem GIL.start {w : World} {B : Nat} {e : TypeId} {sz : Nat} {v0 : Value} {n : Nat} {xs : List Value} (h : w.ownsRow B e sz v0 n xs) : GIL w B e sz v0 n xs 0 [] v0 w := ⟨by simpa using h, h, Fr.refl _ _, .inl rfl⟩
theorem ownsRow_oneL {w w' : World} {B e size n : Nat} {v : Value} {xs : List Value} (h : w.ownsRow B e size v n xs) (hk : ∀ k, v.ownBlock = some k → w'.heap[k]? = w.heap[k]?) : w'.ownsRow B e size v n xs := by
  refine ⟨h.1, ?_⟩
  rcases h.2 with h1 | ⟨g, cap, cur, h1, h2, h3, h4⟩
  · exact .inl h1
  · exact .inr ⟨g, cap, cur, h1, h2, (hk g (by rw [h1]; rfl)).trans h3, h4⟩
theorem GIL.keep {w : World} {B : Nat} {e : TypeId} {sz : Nat} {v0 v : Value} {n k : Nat} {xs ys : List Value} {wr w' : World} (h : GIL w B e sz v0 n xs k ys v wr) (hb : Below wr.heap.size wr w') : GIL w B e sz v0 n xs k ys v w' :=
  ⟨ownsRow_oneL h.new (fun k hk => hb.block k (World.ownsRow.lt h.new k hk).2), ownsRow_oneL h.old (fun k hk => hb.block k (World.ownsRow.lt h.old k hk).2), h.fr.trans (Fr.of_below hb) (fun _ _ x => x), h.at_⟩
theorem GIL.next {w : World} {B : Nat} {e : TypeId} {sz : Nat} {v0 v v' : Value} {n k m : Nat} {xs ys us : List Value} {wr w' : World} (h : GIL w B e sz v0 n xs k ys v wr) (h1 : w'.ownsRow B e sz v' (n + k + m) (xs ++ ys ++ us)) (h2 : KeepsL e sz v (n + k) wr w') (h3 : wr.grownBy w' v.ownBlock) (h4 : v'.ownBlock = v.ownBlock ∨ ∀ g, v'.ownBlock = some g → wr.heap.size ≤ g) : GIL w B e sz v0 n xs (k + m) (ys ++ us) v' w' := by
  refine ⟨by rw [← List.append_assoc, ← Nat.add_assoc]; exact h1, h2 B v0 n xs h.old (fun _ => by omega), ?_, ?_⟩
  · refine ⟨h3.os.trans h.fr.os, h3.tape.trans h.fr.tape, h3.output.trans h.fr.output, Nat.le_trans h.fr.size h3.size, fun k hk hs => (h3.block k (Nat.lt_of_lt_of_le hk h.fr.size) (fun e => ?_)).trans (h.fr.block k hk hs)⟩
    rcases h.at_ with e1 | e1
    · exact hs (by rw [← e1]; exact e.symm)
    · have := e1 k e.symm; omega
  · rcases h4 with e | e
    · rw [e]; exact h.at_
    · right
      intro g hg
      have := e g hg
      have := h.fr.size
      omega
theorem GIL.form {w : World} {B : Nat} {e : TypeId} {sz : Nat} {v0 v : Value} {n k : Nat} {xs ys : List Value} {wr : World} (h : GIL w B e sz v0 n xs k ys v wr) : ∃ a n c, v = .slice a n c := by
  rcases h.new.2 with ⟨e, _⟩ | ⟨g, cap, cur, e, _⟩
  · exact ⟨_, _, _, e⟩
  · exact ⟨_, _, _, e⟩
theorem grownFr {w w' : World} {row : Option Nat} (h : w.grownBy w' row) : Fr (fun k => some k ≠ row) w w' := ⟨h.os, h.tape, h.output, h.size, fun k hk hs => h.block k hk hs⟩
theorem own_setR {w : World} {B e s n g i cap : Nat} {u : Value} {us : List Value} (h : w.ownsRow B e s (.slice (some ⟨g, 0, none⟩) n cap) n us) : (w.setCell ⟨g, i, none⟩ u).ownsRow B e s (.slice (some ⟨g, 0, none⟩) n cap) n (us.set i u) := by
  refine ⟨by rw [List.length_set]; exact h.1, ?_⟩
  rcases h.2 with ⟨h', _⟩ | ⟨g', cap', cur, h', h2, h3, h4, h5, h6, h7⟩
  · simp at h'
  · simp only [Value.slice.injEq, Option.some.injEq, Addr.mk.injEq, and_true, true_and] at h'
    obtain ⟨rfl, rfl⟩ := h'
    refine .inr ⟨_, cap, cur.setIfInBounds i u, rfl, h2, by simp [World.setCell, Array.getElem?_modify, h3], h4, h5, by simpa using h6, ?_⟩
    rw [← h7]
    simp [List.take_set]
/-- something in memory: its blocks, what holds of it -/
structure Itm where
  S : Nat → Prop
  A : World → Prop
/-- it holds, in blocks of its own, and what happens elsewhere does not touch it -/
structure Itm.Ok (x : Itm) (B : Nat) (w : World) : Prop where
  a : x.A w
  lo : ∀ q, x.S q → B ≤ q
  hi : ∀ q, x.S q → q < w.heap.size
  loc : ∀ w', Fr x.S w w' → x.A w'
theorem Itm.Ok.fr {x : Itm} {B : Nat} {w w' : World} (h : x.Ok B w) (hf : Fr x.S w w') : x.Ok B w' :=
  ⟨h.loc w' hf, h.lo, fun q hq => Nat.lt_of_lt_of_le (h.hi q hq) hf.size, fun w'' hf' => h.loc w'' (hf.trans hf' (fun _ _ x => x))⟩
/-- all of them, in unlike blocks -/
structure Bag (w0 : World) (w : World) (xs : List Itm) : Prop where
  ok : ∀ x, x ∈ xs → x.Ok w0.heap.size w
  ap : xs.Pairwise fun x y => ∀ q, x.S q → ¬ y.S q
  bel : Below w0.heap.size w0 w
theorem Bag.nil (w : World) : Bag w w [] := ⟨fun x hx => (by cases hx), List.Pairwise.nil, Below.refl _ _⟩
theorem Bag.below {w0 w w' : World} {xs : List Itm} (h : Bag w0 w xs) (hb : Below w.heap.size w w') : Bag w0 w' xs :=
  ⟨fun x hx => (h.ok x hx).fr (Fr.of_below hb), h.ap, h.bel.trans (hb.mono h.bel.size)⟩
/-- one more -/
theorem Bag.add {w0 w w' : World} {xs : List Itm} (h : Bag w0 w xs) (hb : Below w.heap.size w w') (y : Itm) (hy : y.Ok w.heap.size w') : Bag w0 w' (y :: xs) := by
  have h' := h.below hb
  refine ⟨fun x hx => ?_, List.Pairwise.cons (fun x hx q hq hq' => ?_) h.ap, h'.bel⟩
  · rcases List.mem_cons.1 hx with rfl | hx
    · exact ⟨hy.a, fun q hq => Nat.le_trans h.bel.size (hy.lo q hq), hy.hi, hy.loc⟩
    · exact h'.ok x hx
  · have h1 := hy.lo q hq
    have h2 := (h.ok x hx).hi q hq'
    omega
/-- one of them is changed -/
theorem Bag.change {w0 w w' : World} {ls rs : List Itm} {x y : Itm} (h : Bag w0 w (ls ++ x :: rs)) (hf : Fr (fun q => ¬ x.S q) w w') (hy : y.Ok w0.heap.size w') (hs : ∀ q, y.S q → x.S q ∨ w.heap.size ≤ q) : Bag w0 w' (ls ++ y :: rs) := by
  obtain ⟨p1, p2, p3⟩ := List.pairwise_append.1 h.ap
  have p4 := List.pairwise_cons.1 p2
  have hx := h.ok x (by simp)
  have dl : ∀ z, z ∈ ls → ∀ q, z.S q → ¬ x.S q := fun z hz q hq => p3 z hz x (by simp) q hq
  have dr : ∀ z, z ∈ rs → ∀ q, z.S q → ¬ x.S q := fun z hz q hq hq' => p4.1 z hz q hq' hq
  have ol : ∀ z, z ∈ ls ++ x :: rs → ∀ q, z.S q → q < w.heap.size := fun z hz q hq => (h.ok z hz).hi q hq
  refine ⟨fun z hz => ?_, List.pairwise_append.2 ⟨p1, List.pairwise_cons.2 ⟨fun z hz q hq hq' => ?_, p4.2⟩, fun z hz z' hz' q hq hq' => ?_⟩, ?_⟩
  · rcases List.mem_append.1 hz with hz | hz
    · exact (h.ok z (by simp [hz])).fr (hf.mono (fun q _ hq => dl z hz q hq))
    · rcases List.mem_cons.1 hz with rfl | hz
      · exact hy
      · exact (h.ok z (by simp [hz])).fr (hf.mono (fun q _ hq => dr z hz q hq))
  · rcases hs q hq with e | e
    · exact dr z hz q hq' e
    · have := ol z (by simp [hz]) q hq'; omega
  · rcases List.mem_cons.1 hz' with rfl | hz'
    · rcases hs q hq' with e | e
      · exact dl z hz q hq e
      · have := ol z (by simp [hz]) q hq; omega
    · exact p3 z hz z' (by simp [hz']) q hq hq'
  · exact ⟨hf.os.trans h.bel.os, hf.tape.trans h.bel.tape, hf.output.trans h.bel.output, Nat.le_trans h.bel.size hf.size, fun k hk => (hf.block k (Nat.lt_of_lt_of_le hk h.bel.size) (fun e => by have := hx.lo k e; omega)).trans (h.bel.block k hk)⟩
/-- a list -/
def LIt (B e : Nat) (v : Value) (n : Nat) (xs : List Value) : Itm := ⟨fun q => v.ownBlock = some q, fun w => w.ownsRow B e 1 v n xs⟩
theorem LIt.ok {B B' e : Nat} {v : Value} {n : Nat} {xs : List Value} {w : World} (h : w.ownsRow B' e 1 v n xs) (hB : B ≤ B') : (LIt B e v n xs).Ok B w :=
  ⟨ownsRow_base h hB, fun q hq => Nat.le_trans hB (World.ownsRow.lt h q hq).1, fun q hq => (World.ownsRow.lt h q hq).2, fun _ hf => ownsRow_fr (ownsRow_base h hB) hf (fun _ hg => hg)⟩
/-- a list, and another one that goes on with it, whose beginning may be anything -/
def PI (B e : Nat) (v0 : Value) (n : Nat) (xs : List Value) (v : Value) (k : Nat) (ys : List Value) : Itm :=
  ⟨fun q => v0.ownBlock = some q ∨ v.ownBlock = some q, fun w => w.ownsRow B e 1 v0 n xs ∧ ∃ zs, zs.length = n ∧ w.ownsRow B e 1 v (n + k) (zs ++ ys)⟩
theorem PI.ok {B e : Nat} {v0 : Value} {n : Nat} {xs : List Value} {v : Value} {k : Nat} {ys : List Value} {w : World} (h : (PI B e v0 n xs v k ys).A w) : (PI B e v0 n xs v k ys).Ok B w := by
  have h' := h
  obtain ⟨h1, zs, h2, h3⟩ := h
  refine ⟨h', fun q hq => ?_, fun q hq => ?_, fun w' hf => ⟨ownsRow_fr h1 hf (fun _ hg => .inl hg), zs, h2, ownsRow_fr h3 hf (fun _ hg => .inr hg)⟩⟩
  · rcases hq with hq | hq
    · exact (World.ownsRow.lt h1 q hq).1
    · exact (World.ownsRow.lt h3 q hq).1
  · rcases hq with hq | hq
    · exact (World.ownsRow.lt h1 q hq).2
    · exact (World.ownsRow.lt h3 q hq).2
theorem PI.start {B e : Nat} {v : Value} {n : Nat} {xs : List Value} {w : World} (h : w.ownsRow B e 1 v n xs) : (PI B e v n xs v 0 []).Ok B w :=
  PI.ok ⟨h, xs, by have := h.1; omega, by simpa using h⟩
/-- gone on with -/
theorem PI.app {w0 w w' : World} {ls rs : List Itm} {e : Nat} {v0 : Value} {n : Nat} {xs : List Value} {v v' : Value} {k m : Nat} {zs ys us : List Value} (h : Bag w0 w (ls ++ PI w0.heap.size e v0 n xs v k ys :: rs)) (hz : zs.length = n)
    (h1 : w'.ownsRow w0.heap.size e 1 v' (n + k + m) (zs ++ ys ++ us)) (h2 : KeepsL e 1 v (n + k) w w') (h3 : w.grownBy w' v.ownBlock) (h4 : v'.ownBlock = v.ownBlock ∨ ∀ g, v'.ownBlock = some g → w.heap.size ≤ g) :
    Bag w0 w' (ls ++ PI w0.heap.size e v0 n xs v' (k + m) (ys ++ us) :: rs) := by
  have hx := (h.ok (PI w0.heap.size e v0 n xs v k ys) (by simp)).a
  refine h.change ((grownFr h3).mono (fun q _ hq he => hq (.inr he.symm))) (PI.ok ⟨h2 _ _ _ _ hx.1 (fun _ => by omega), zs, hz, by rw [← List.append_assoc, ← Nat.add_assoc]; exact h1⟩) (fun q hq => ?_)
  rcases hq with hq | hq
  · exact .inl (.inl hq)
  · rcases h4 with e | e
    · exact .inl (.inr (by rw [← e]; exact hq))
    · exact .inr (e q hq)
/-- written over -/
theorem PI.set {w0 w : World} {ls rs : List Itm} {e : Nat} {a : Option Addr} {n c : Nat} {xs : List Value} {v : Value} {k : Nat} {ys : List Value} (h : Bag w0 w (ls ++ PI w0.heap.size e (.slice a n c) n xs v k ys :: rs)) (i : Nat) (hi : i < n) :
    ∃ g x, a = some ⟨g, 0, none⟩ ∧ w.cell? ⟨g, i, none⟩ = some x ∧ w.frozen? ⟨g, i, none⟩ = false ∧ ∀ y : Value, Bag w0 (w.setCell ⟨g, i, none⟩ y) (ls ++ PI w0.heap.size e (.slice a n c) n (xs.set i y) v k ys :: rs) := by
  obtain ⟨h1, zs, h2, h3⟩ := (h.ok (PI w0.heap.size e (.slice a n c) n xs v k ys) (by simp)).a
  rcases h1.2 with ⟨_, h0⟩ | ⟨g, cap, cur, e1, hg, hcur, _⟩
  · omega
  simp only [Value.slice.injEq] at e1
  obtain ⟨rfl, _, rfl⟩ := e1
  have hlen : i < xs.length := by rw [h1.1]; omega
  have hc := World.ownsRow.cellAt h1 i (by omega)
  refine ⟨g, xs[i], rfl, by rw [hc]; simp [hlen], World.ownsRow.frozenAt h1 i, fun y => h.change ((Fr.refl _ _).setCell g i y (fun _ x => x (.inl rfl))) (PI.ok ⟨own_setR h1, ?_⟩) (fun q hq => .inl hq)⟩
  by_cases hv : v.ownBlock = some g
  · rcases h3.2 with ⟨rfl, _⟩ | ⟨g', cap', cur', e2, _⟩
    · simp [Value.ownBlock] at hv
    · subst e2
      simp only [Value.ownBlock, Option.some.injEq] at hv
      subst hv
      refine ⟨zs.set i y, by rw [List.length_set]; exact h2, ?_⟩
      have := own_setR (i := i) (u := y) h3
      rw [List.set_append_left _ _ (by omega)] at this
      exact this
  · exact ⟨zs, h2, ownsRow_fr (S := fun q => q ≠ g) h3 ((Fr.refl _ _).setCell g i y (fun _ x => x rfl)) (fun q hq hqg => hv (by rw [← hqg]; exact hq))⟩
end Go.Proofs.YtoiehkpmemmldaaDoor
