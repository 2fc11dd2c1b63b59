import Derived.Test.YtdchckelnccepaaDoorZ5
import Derived.Laws.AppendOwnNone
import Derived.OwnWalk
namespace Go.Proofs.YtdchckelnccepaaDoor
open Go.RowKit Go.Deep
theorem nsC_app (a b : List (ByteArray × Int)) : nsC (a ++ b) = nsC a ++ nsC b := by simp [nsC]
/-- two rising lists put together, with the later one's element where both have a name -/
def mg {α : Type} (lt eq : α → α → Bool) : List α → List α → List α
  | old, [] => old
  | [], x :: xs => x :: xs
  | a :: rest, x :: xs => if lt a x then a :: mg lt eq rest (x :: xs) else if eq a x then x :: mg lt eq rest xs else x :: mg lt eq (a :: rest) xs
termination_by old later => old.length + later.length
theorem mg_nil {α : Type} (lt eq : α → α → Bool) (old : List α) : mg lt eq old [] = old := by unfold mg; cases old <;> rfl
theorem mg_none {α : Type} (lt eq : α → α → Bool) (l : List α) : mg lt eq [] l = l := by cases l with
  | nil => exact mg_nil _ _ _
  | cons x xs => unfold mg; rfl
theorem mg_lt {α : Type} {lt eq : α → α → Bool} {a x : α} (rest xs : List α) (h : lt a x = true) : mg lt eq (a :: rest) (x :: xs) = a :: mg lt eq rest (x :: xs) := by
  rw [mg, if_pos h]
theorem mg_eq {α : Type} {lt eq : α → α → Bool} {a x : α} (rest xs : List α) (h : lt a x = false) (h2 : eq a x = true) : mg lt eq (a :: rest) (x :: xs) = x :: mg lt eq rest xs := by
  rw [mg, if_neg (by rw [h]; decide), if_pos h2]
theorem mg_gt {α : Type} {lt eq : α → α → Bool} {a x : α} (rest xs : List α) (h : lt a x = false) (h2 : eq a x = false) : mg lt eq (a :: rest) (x :: xs) = x :: mg lt eq (a :: rest) xs := by
  rw [mg, if_neg (by rw [h]; decide), if_neg (by rw [h2]; decide)]
theorem mg_len {α : Type} (lt eq : α → α → Bool) : ∀ (old later : List α), (mg lt eq old later).length ≤ old.length + later.length
  | old, [] => by rw [mg_nil]; simp
  | [], x :: xs => by rw [mg_none]; simp
  | a :: rest, x :: xs => by
    cases h : lt a x with
    | true => rw [mg_lt _ _ h]; have := mg_len lt eq rest (x :: xs); simp at this ⊢; omega
    | false =>
      cases h2 : eq a x with
      | true => rw [mg_eq _ _ h h2]; have := mg_len lt eq rest xs; simp at this ⊢; omega
      | false => rw [mg_gt _ _ h h2]; have := mg_len lt eq (a :: rest) xs; simp at this ⊢; omega
termination_by old later => old.length + later.length
theorem mg_mem {α : Type} (lt eq : α → α → Bool) : ∀ (old later : List α) (e : α), e ∈ mg lt eq old later → e ∈ old ∨ e ∈ later
  | old, [], e, h => by rw [mg_nil] at h; exact .inl h
  | [], x :: xs, e, h => by rw [mg_none] at h; exact .inr h
  | a :: rest, x :: xs, e, h => by
    cases h1 : lt a x with
    | true =>
      rw [mg_lt _ _ h1] at h
      rcases List.mem_cons.1 h with rfl | h
      · exact .inl (by simp)
      · exact (mg_mem lt eq rest (x :: xs) e h).imp_left (List.mem_cons_of_mem _)
    | false =>
      cases h2 : eq a x with
      | true =>
        rw [mg_eq _ _ h1 h2] at h
        rcases List.mem_cons.1 h with rfl | h
        · exact .inr (by simp)
        · exact (mg_mem lt eq rest xs e h).imp (List.mem_cons_of_mem _) (List.mem_cons_of_mem _)
      | false =>
        rw [mg_gt _ _ h1 h2] at h
        rcases List.mem_cons.1 h with rfl | h
        · exact .inr (by simp)
        · exact (mg_mem lt eq (a :: rest) xs e h).imp_right (List.mem_cons_of_mem _)
termination_by old later => old.length + later.length
theorem nsC_one (ns : List (ByteArray × Int)) : ∀ u ∈ nsC ns, u.oneCell' = true := fun u hu => by
  simp only [nsC, List.mem_flatMap] at hu
  obtain ⟨x, _, hx⟩ := hu
  simp at hx
  rcases hx with rfl | rfl <;> rfl
/-- names behind an own row of names -/
theorem append_ns {ops : Array Oper} {rest : List Oper} {o : Oper} {a : Act} {Q : Exit → Act → World → Prop} {w : World} {B : Nat} {v xv : Value} {ns ms : List (ByteArray × Int)} (hgd : o.guard = none) (s x : Operand)
    (ho : o.op = .call { callee := .builtin .append, args := #[s, x], argTypes := #[22, 22] }) (hs : a.eval s = v) (hx : a.eval x = xv)
    (hown : w.ownsRow B 50 2 v ns.length (nsC ns)) (hr : RNs w xv ms) (hB : B ≤ w.heap.size) (hlim : (ns.length + ms.length) * 24 ≤ 140737488351232) (hcap : capped xv)
    (h : ∀ a' c' w', w'.ownsRow B 50 2 (.slice a' (ns.length + ms.length) c') (ns.length + ms.length) (nsC (ns ++ ms)) → Below B w w' → wpList Tryd.prog ops Q rest (a.put o.dst (.slice a' (ns.length + ms.length) c')) w') : wpList Tryd.prog ops Q (o :: rest) a w := by
  obtain ⟨i0, hi, hz0, hz1, hz2⟩ := info_parts info46
  obtain ⟨ad, c, rfl, hr⟩ := hr
  have fin : ∀ v' w', w'.ownsRow B 50 2 v' (ns.length + ms.length) (nsC ns ++ nsC ms) → w.grownBy w' v.ownBlock → wpList Tryd.prog ops Q rest (a.put o.dst v') w' := fun v' w' h1 h2 => by
    obtain ⟨a', c', rfl⟩ := ownForm h1
    exact h a' c' w' (by rw [nsC_app]; exact h1) ((Below.refl B w).grown h2 hB (fun k hk => (World.ownsRow.lt hown k hk).1))
  have main : ∀ b off, ad = some ⟨b, off, none⟩ → (∀ i x, ms[i]? = some x → w.cell? ⟨b, off + i * 2, none⟩ = some (.string x.1) ∧ w.cell? ⟨b, off + i * 2 + 1, none⟩ = some (.int .i64 x.2)) → wpList Tryd.prog ops Q (o :: rest) a w := fun b off e hc => by
    subst e
    refine wpList_append_own w hgd s x 22 ho B 50 i0 _ 2 24 Tryd.underlying22 hi hz0 hz1 hz2 rfl (by omega) v ns.length (nsC ns) hs hown ⟨b, off, none⟩ ms.length c (nsC ms) hx (nsC_len ms) (fun j u hu => ?_) (nsC_one ms) (by unfold maxLen; omega) (by omega) hB (fun v' w' h1 h2 _ => fin v' w' h1 h2)
    have hj := (List.getElem?_eq_some_iff.1 hu).1
    rw [nsC_len] at hj
    have hadd : (⟨b, off, none⟩ : Addr).add j = ⟨b, off + j, none⟩ := by unfold Addr.add; split <;> simp_all
    obtain ⟨x, hx⟩ : ∃ x, ms[j / 2]? = some x := ⟨_, List.getElem?_eq_getElem (by omega)⟩
    have h1 := hc _ x hx
    have h2 := nsC_get ms _ x hx
    rw [hadd]
    rcases Nat.mod_two_eq_zero_or_one j with e | e
    · have e' : j / 2 * 2 = j := by omega
      rw [e'] at h1 h2
      rw [h1.1, ← h2.1]; exact hu
    · have e' : j / 2 * 2 + 1 = j := by omega
      rw [Nat.add_assoc, e'] at h1
      rw [e'] at h2
      rw [h1.2, ← h2.2]; exact hu
  rcases hr with rfl | ⟨b, off, rfl, _, hc⟩
  · cases ad with
    | none =>
      refine wpList_plain hgd fun K hK => ?_
      have hrun : (Builtin.append_ #[22, 22] o.type #[v, .slice none 0 c]).run Tryd.prog w = .ok v w := by
        rcases hown.2 with ⟨rfl, _⟩ | ⟨g, cap, cur, rfl, _, _, hnc, _⟩
        · simp [Builtin.append_, run_underlying Tryd.underlying22, sizeOf, typeInfo, hi, Builtin.lenOf, Builtin.firstCells]
        · simp [Builtin.append_, run_underlying Tryd.underlying22, sizeOf, typeInfo, hi, Builtin.lenOf, Builtin.firstCells, hnc, storeCells]
      have hfin := fin v w (by simpa [nsC] using hown) ⟨rfl, rfl, rfl, Nat.le_refl _, fun _ _ _ => rfl⟩
      unfold Oper.wp
      simp only [List.length_nil] at hx
      simp [execOp, ho, resolve, invoke, builtin, hs, hx, hrun, Result.andThen]
      exact hK _ _ hfin
    | some ad =>
      refine wpList_append_own w hgd s x 22 ho B 50 i0 _ 2 24 Tryd.underlying22 hi hz0 hz1 hz2 rfl (by omega) v ns.length (nsC ns) hs hown ad 0 c [] hx (by simp) (fun j u hu => by simp at hu) (fun u hu => by cases hu) (by unfold maxLen; omega) (by omega) hB (fun v' w' h1 h2 _ => fin v' w' (by simpa [nsC] using h1) h2)
  · exact main b off rfl hc
end Go.Proofs.YtdchckelnccepaaDoor
namespace Go.Proofs.YtdchckelnccepaaDoor
open Go.RowKit Go.Deep
def ltN (a x : ByteArray × Int) : Bool := Op.bytesLess a.1.toList x.1.toList
def eqN (a x : ByteArray × Int) : Bool := a.1.toList == x.1.toList
def mgN (ns ms : List (ByteArray × Int)) : List (ByteArray × Int) := mg ltN eqN ns ms
/-- names as they lie, in a slice that may be cut -/
def SN (w : World) (v : Value) (os : List (ByteArray × Int)) : Prop :=
  ∃ a c, v = .slice a os.length c ∧ os.length ≤ c ∧ (a = none → c = 0) ∧ (os = [] ∨ ∃ g o, a = some ⟨g, o, none⟩ ∧ g < w.heap.size ∧ ∀ i x, os[i]? = some x → w.cell? ⟨g, o + i * 2, none⟩ = some (.string x.1) ∧ w.cell? ⟨g, o + i * 2 + 1, none⟩ = some (.int .i64 x.2))
theorem sn_of {w : World} {v : Value} {os : List (ByteArray × Int)} (h : RNs w v os) (hc : capped v) : SN w v os := by
  obtain ⟨a, c, rfl, hx⟩ := h
  exact ⟨a, c, rfl, (hc _ _ _ rfl).1, (hc _ _ _ rfl).2, hx⟩
/-- the state of the laying over -/
def ST (B C : Nat) (w : World) (ns ms : List (ByteArray × Int)) (k : Nat) (ov av : Value) (wr : World) : Prop :=
  ∃ os acc, SN w ov os ∧ av = .slice (some ⟨B, 0, none⟩) acc.length C ∧ wr.ownsRow B 50 2 av acc.length (nsC acc) ∧ Below B w wr ∧ acc ++ mgN os (ms.drop k) = mgN ns ms ∧ acc.length + os.length + (ms.length - k) ≤ C
def lenOf : Value → Nat
  | .slice _ n _ => n
  | _ => 0
theorem below_grown {B : Nat} {w w1 w2 : World} (h : Below B w w1) (hg : w1.grownBy w2 (some B)) (hB : B ≤ w1.heap.size) : Below B w w2 := h.grown hg hB (fun k hk => by cases hk; exact Nat.le_refl _)
theorem drop_at {α : Type} {l : List α} {k : Nat} {x : α} (h : l[k]? = some x) : l.drop k = x :: l.drop (k + 1) := by
  obtain ⟨hk, rfl⟩ := List.getElem?_eq_some_iff.1 h
  exact (List.getElem_cons_drop (h := hk)).symm
/-- the same within a round, with the box of the later element -/
def IX (B C bx : Nat) (w : World) (ns ms : List (ByteArray × Int)) (k : Nat) (xs : ByteArray) (xi : Int) (os acc : List (ByteArray × Int)) (ov : Value) (wq : World) : Prop :=
  SN w ov os ∧ wq.ownsRow B 50 2 (.slice (some ⟨B, 0, none⟩) acc.length C) acc.length (nsC acc) ∧ Below B w wq ∧ acc ++ mgN os (ms.drop k) = mgN ns ms ∧ acc.length + os.length + (ms.length - k) ≤ C ∧ wq.heap[bx]? = some (.cells #[.string xs, .int .i64 xi] 50 (0, 0)) ∧ B < bx
def IN (B C bx : Nat) (w : World) (ns ms : List (ByteArray × Int)) (k : Nat) (xs : ByteArray) (xi : Int) (ov av : Value) (wq : World) : Prop :=
  ∃ os acc, av = .slice (some ⟨B, 0, none⟩) acc.length C ∧ IX B C bx w ns ms k xs xi os acc ov wq
/-- what a round reads -/
def SB (bx g o : Nat) (xs ah : ByteArray) (xi ai : Int) (x : World) : Prop :=
  x.cell? ⟨bx, 0, none⟩ = some (.string xs) ∧ x.cell? ⟨bx, 1, none⟩ = some (.int .i64 xi) ∧ x.cell? ⟨g, o, none⟩ = some (.string ah) ∧ x.cell? ⟨g, o + 1, none⟩ = some (.int .i64 ai)
theorem SB.keep {bx g o : Nat} {xs ah : ByteArray} {xi ai : Int} {x y : World} (h : SB bx g o xs ah xi ai x) (hb : Below x.heap.size x y) : SB bx g o xs ah xi ai y :=
  ⟨Below.cellS hb (Nat.le_refl _) h.1, Below.cellS hb (Nat.le_refl _) h.2.1, Below.cellS hb (Nat.le_refl _) h.2.2.1, Below.cellS hb (Nat.le_refl _) h.2.2.2⟩
section
variable {B C bx : Nat} {w : World} {ns ms : List (ByteArray × Int)} {k : Nat} {xs : ByteArray} {xi : Int} {os acc : List (ByteArray × Int)} {ov : Value} {x y z : World}
theorem IX.keep (h : IX B C bx w ns ms k xs xi os acc ov x) (hb : Below x.heap.size x y) : IX B C bx w ns ms k xs xi os acc ov y := by
  obtain ⟨h1, h3, h4, h5, h6, h7, h8⟩ := h
  have h9 := (Array.getElem?_eq_some_iff.1 h7).1
  exact ⟨h1, h3.kept (grown_of_below hb) (.inr (by simp [Value.ownBlock])), h4.trans (hb.mono (by omega)), h5, h6, (hb.block _ h9).trans h7, h8⟩
theorem IX.cells (h : IX B C bx w ns ms k xs xi os acc ov x) : x.cell? ⟨bx, 0, none⟩ = some (.string xs) ∧ x.cell? ⟨bx, 1, none⟩ = some (.int .i64 xi) := by
  have h7 := h.2.2.2.2.2.1
  exact ⟨by simp [World.cell?, h7], by simp [World.cell?, h7]⟩
theorem IX.put {a : ByteArray × Int} {ov' : Value} (h : IX B C bx w ns ms k xs xi (a :: os) acc ov x) (hlt : ltN a (xs, xi) = true) (hx : ms.drop k = (xs, xi) :: ms.drop (k + 1)) (hb : Below x.heap.size x y)
    (ho : z.ownsRow B 50 2 (.slice (some ⟨B, 0, none⟩) (acc.length + 1) C) (acc.length + 1) (nsC acc ++ nsC [a])) (hg : y.grownBy z (some B)) (hsn : SN w ov' os) : IX B C bx w ns ms k xs xi os (acc ++ [a]) ov' z := by
  obtain ⟨_, _, h4, h5, h6, h7, h8⟩ := h.keep hb
  have h9 := (Array.getElem?_eq_some_iff.1 h7).1
  refine ⟨hsn, ?_, below_grown h4 hg (by omega), ?_, by simp at h6 ⊢; omega, (hg.block _ h9 (by simp; omega)).trans h7, h8⟩
  · rw [nsC_app]; simpa using ho
  · rw [hx] at h5 ⊢
    rw [← h5, mgN, mgN, mg_lt _ _ hlt, List.append_assoc]; rfl
theorem IX.next {os2 : List (ByteArray × Int)} {ov' : Value} (h : IX B C bx w ns ms k xs xi os acc ov x) (hx : ms.drop k = (xs, xi) :: ms.drop (k + 1)) (hm : mgN os ((xs, xi) :: ms.drop (k + 1)) = (xs, xi) :: mgN os2 (ms.drop (k + 1))) (hl : os2.length ≤ os.length) (hk : k < ms.length) (hb : Below x.heap.size x y)
    (ho : z.ownsRow B 50 2 (.slice (some ⟨B, 0, none⟩) (acc.length + 1) C) (acc.length + 1) (nsC acc ++ nsC [(xs, xi)])) (hg : y.grownBy z (some B)) (hsn : SN w ov' os2) : ST B C w ns ms (k + 1) ov' (.slice (some ⟨B, 0, none⟩) (acc.length + 1) C) z := by
  obtain ⟨_, _, h4, h5, h6, h7, h8⟩ := h.keep hb
  have h9 := (Array.getElem?_eq_some_iff.1 h7).1
  refine ⟨os2, acc ++ [(xs, xi)], hsn, by simp, ?_, below_grown h4 hg (by omega), ?_, by simp; omega⟩
  · rw [nsC_app]; simpa using ho
  · rw [← h5, hx, hm, List.append_assoc]; rfl
end
/-- the rest of a list behind its first name -/
theorem SN.tl {w : World} {a : ByteArray × Int} {os : List (ByteArray × Int)} {g o c ol : Nat} (h : SN w (.slice (some ⟨g, o, none⟩) ol c) (a :: os)) : SN w (.slice (if c = 1 then some ⟨g, o, none⟩ else some ⟨g, o + 2, none⟩) (ol - 1) (c - 1)) os := by
  obtain ⟨a', c', e, hc, hn, hx⟩ := h
  cases e
  refine ⟨_, _, rfl, by simp at hc; omega, (fun e => by split at e <;> cases e), ?_⟩
  cases os with
  | nil => exact .inl rfl
  | cons b os =>
    rcases hx with hx | ⟨g', o', e, hg, hx⟩
    · cases hx
    · cases e
      rw [if_neg (by simp at hc; omega)]
      exact .inr ⟨g, o + 2, rfl, hg, fun i y hy => by
        have h9 := hx (i + 1) y (by simpa using hy)
        rw [show o + 2 + i * 2 = o + (i + 1) * 2 by omega]
        exact h9⟩
end Go.Proofs.YtdchckelnccepaaDoor
namespace Go.Proofs.YtdchckelnccepaaDoor
open Go.RowKit Go.Deep
def ltP (a x : PE) : Bool := Op.bytesLess a.key.toList x.key.toList
def eqP (a x : PE) : Bool := a.key.toList == x.key.toList
def mgP (ns ms : List PE) : List PE := mg ltP eqP ns ms
/-- the two lists of a value are slices -/
def slx (e : PE) : Prop := (∃ a n c, e.x = .slice a n c) ∧ (∃ a n c, e.y = .slice a n c)
theorem gCs_one {es : List PE} (h : ∀ e ∈ es, slx e) : ∀ u ∈ gCs es, u.oneCell' = true := fun u hu => by
  simp only [gCs, List.mem_flatMap] at hu
  obtain ⟨e, he, hu⟩ := hu
  obtain ⟨⟨_, _, _, h1⟩, ⟨_, _, _, h2⟩⟩ := h e he
  simp [gC, cv] at hu
  rcases hu with rfl | rfl | rfl | rfl | rfl | rfl
  · rfl
  · rfl
  · rfl
  · rfl
  · rw [h1]; rfl
  · rw [h2]; rfl
/-- pairs as they lie, in a slice that may be cut -/
def SP (w : World) (v : Value) (os : List PE) : Prop :=
  ∃ a c, v = .slice a os.length c ∧ os.length ≤ c ∧ (a = none → c = 0) ∧ (os = [] ∨ ∃ g o, a = some ⟨g, o, none⟩ ∧ g < w.heap.size ∧ ∀ i e, os[i]? = some e → slx e ∧ ∀ r, r < 6 → w.cell? ⟨g, o + i * 6 + r, none⟩ = (gC e)[r]?)
theorem sp_of {A : Nat} {w : World} {v : Value} {os : List PE} (h : RG A w v os) (hc : capped v) : SP w v os := by
  obtain ⟨a, c, rfl, hle, hx⟩ := h
  refine ⟨a, c, rfl, hle, (hc _ _ _ rfl).2, ?_⟩
  rcases hx with hx | ⟨g, o, h1, h2, h3⟩
  · exact .inl hx
  · exact .inr ⟨g, o, h1, h2, fun i e he => ⟨(h3 i e he).1.slices, (h3 i e he).2⟩⟩
theorem SP.slx {w : World} {v : Value} {os : List PE} (h : SP w v os) : ∀ e ∈ os, slx e := fun e he => by
  obtain ⟨a, c, rfl, _, _, hx⟩ := h
  rcases hx with rfl | ⟨g, o, h1, h2, h3⟩
  · cases he
  · obtain ⟨i, hi, rfl⟩ := List.getElem_of_mem he
    exact (h3 i _ (List.getElem?_eq_getElem hi)).1
/-- the state of the laying over -/
def STp (B C : Nat) (w : World) (ns ms : List PE) (k : Nat) (ov av : Value) (wr : World) : Prop :=
  ∃ os acc, SP w ov os ∧ av = .slice (some ⟨B, 0, none⟩) acc.length C ∧ wr.ownsRow B 44 6 av acc.length (gCs acc) ∧ Below B w wr ∧ acc ++ mgP os (ms.drop k) = mgP ns ms ∧ acc.length + os.length + (ms.length - k) ≤ C
def IXp (B C bx : Nat) (w : World) (ns ms : List PE) (k : Nat) (f : PE) (os acc : List PE) (ov : Value) (wq : World) : Prop :=
  SP w ov os ∧ wq.ownsRow B 44 6 (.slice (some ⟨B, 0, none⟩) acc.length C) acc.length (gCs acc) ∧ Below B w wq ∧ acc ++ mgP os (ms.drop k) = mgP ns ms ∧ acc.length + os.length + (ms.length - k) ≤ C ∧ wq.heap[bx]? = some (.cells (gC f).toArray 44 (0, 0)) ∧ B < bx
def INp (B C bx : Nat) (w : World) (ns ms : List PE) (k : Nat) (f : PE) (ov av : Value) (wq : World) : Prop :=
  ∃ os acc, av = .slice (some ⟨B, 0, none⟩) acc.length C ∧ IXp B C bx w ns ms k f os acc ov wq
/-- what a round reads -/
def SBp (bx g o : Nat) (f e : PE) (x : World) : Prop :=
  (x.cell? ⟨bx, 0, none⟩ = some (.string f.key) ∧ x.cell? ⟨bx, 1, none⟩ = some (.int .i64 f.t.k) ∧ x.cell? ⟨bx, 2, none⟩ = some (.int .i64 f.t.n) ∧ x.cell? ⟨bx, 3, none⟩ = some (.string f.t.s) ∧ x.cell? ⟨bx, 4, none⟩ = some f.x ∧ x.cell? ⟨bx, 5, none⟩ = some f.y) ∧
  x.cell? ⟨g, o, none⟩ = some (.string e.key) ∧ x.cell? ⟨g, o + 1, none⟩ = some (.int .i64 e.t.k) ∧ x.cell? ⟨g, o + 2, none⟩ = some (.int .i64 e.t.n) ∧ x.cell? ⟨g, o + 3, none⟩ = some (.string e.t.s) ∧ x.cell? ⟨g, o + 4, none⟩ = some e.x ∧ x.cell? ⟨g, o + 5, none⟩ = some e.y
theorem SBp.keep {bx g o : Nat} {f e : PE} {x y : World} (h : SBp bx g o f e x) (hb : Below x.heap.size x y) : SBp bx g o f e y := by
  have c : ∀ {p : Addr} {v : Value}, x.cell? p = some v → y.cell? p = some v := fun h => Below.cellS hb (Nat.le_refl _) h
  obtain ⟨⟨f0, f1, f2, f3, f4, f5⟩, e0, e1, e2, e3, e4, e5⟩ := h
  exact ⟨⟨c f0, c f1, c f2, c f3, c f4, c f5⟩, c e0, c e1, c e2, c e3, c e4, c e5⟩
section
variable {B C bx : Nat} {w : World} {ns ms : List PE} {k : Nat} {f : PE} {os acc : List PE} {ov : Value} {x y z : World}
theorem IXp.keep (h : IXp B C bx w ns ms k f os acc ov x) (hb : Below x.heap.size x y) : IXp B C bx w ns ms k f os acc ov y := by
  obtain ⟨h1, h3, h4, h5, h6, h7, h8⟩ := h
  have h9 := (Array.getElem?_eq_some_iff.1 h7).1
  exact ⟨h1, h3.kept (grown_of_below hb) (.inr (by simp [Value.ownBlock])), h4.trans (hb.mono (by omega)), h5, h6, (hb.block _ h9).trans h7, h8⟩
theorem IXp.cells (h : IXp B C bx w ns ms k f os acc ov x) : x.cell? ⟨bx, 0, none⟩ = some (.string f.key) ∧ x.cell? ⟨bx, 1, none⟩ = some (.int .i64 f.t.k) ∧ x.cell? ⟨bx, 2, none⟩ = some (.int .i64 f.t.n) ∧ x.cell? ⟨bx, 3, none⟩ = some (.string f.t.s) ∧ x.cell? ⟨bx, 4, none⟩ = some f.x ∧ x.cell? ⟨bx, 5, none⟩ = some f.y := by
  have h7 := h.2.2.2.2.2.1
  refine ⟨?_, ?_, ?_, ?_, ?_, ?_⟩ <;> simp [World.cell?, h7, gC, cv]
theorem IXp.put {a : PE} {ov' : Value} (h : IXp B C bx w ns ms k f (a :: os) acc ov x) (hlt : ltP a f = true) (hx : ms.drop k = f :: ms.drop (k + 1)) (hb : Below x.heap.size x y)
    (ho : z.ownsRow B 44 6 (.slice (some ⟨B, 0, none⟩) (acc.length + 1) C) (acc.length + 1) (gCs acc ++ gCs [a])) (hg : y.grownBy z (some B)) (hsn : SP w ov' os) : IXp B C bx w ns ms k f os (acc ++ [a]) ov' z := by
  obtain ⟨_, _, h4, h5, h6, h7, h8⟩ := h.keep hb
  have h9 := (Array.getElem?_eq_some_iff.1 h7).1
  refine ⟨hsn, ?_, below_grown h4 hg (by omega), ?_, by simp at h6 ⊢; omega, (hg.block _ h9 (by simp; omega)).trans h7, h8⟩
  · rw [gCs_app]; simpa using ho
  · rw [hx] at h5 ⊢
    rw [← h5, mgP, mgP, mg_lt _ _ hlt, List.append_assoc]; rfl
theorem IXp.next {os2 : List PE} {ov' : Value} (h : IXp B C bx w ns ms k f os acc ov x) (hx : ms.drop k = f :: ms.drop (k + 1)) (hm : mgP os (f :: ms.drop (k + 1)) = f :: mgP os2 (ms.drop (k + 1))) (hl : os2.length ≤ os.length) (hk : k < ms.length) (hb : Below x.heap.size x y)
    (ho : z.ownsRow B 44 6 (.slice (some ⟨B, 0, none⟩) (acc.length + 1) C) (acc.length + 1) (gCs acc ++ gCs [f])) (hg : y.grownBy z (some B)) (hsn : SP w ov' os2) : STp B C w ns ms (k + 1) ov' (.slice (some ⟨B, 0, none⟩) (acc.length + 1) C) z := by
  obtain ⟨_, _, h4, h5, h6, h7, h8⟩ := h.keep hb
  have h9 := (Array.getElem?_eq_some_iff.1 h7).1
  refine ⟨os2, acc ++ [f], hsn, by simp, ?_, below_grown h4 hg (by omega), ?_, by simp; omega⟩
  · rw [gCs_app]; simpa using ho
  · rw [← h5, hx, hm, List.append_assoc]; rfl
end
/-- the rest of a list behind its first pair -/
theorem SP.tl {w : World} {a : PE} {os : List PE} {g o c ol : Nat} (h : SP w (.slice (some ⟨g, o, none⟩) ol c) (a :: os)) : SP w (.slice (if c = 1 then some ⟨g, o, none⟩ else some ⟨g, o + 6, none⟩) (ol - 1) (c - 1)) os := by
  obtain ⟨a', c', e, hc, hn, hx⟩ := h
  cases e
  refine ⟨_, _, rfl, by simp at hc; omega, (fun e => by split at e <;> cases e), ?_⟩
  cases os with
  | nil => exact .inl rfl
  | cons b os =>
    rcases hx with hx | ⟨g', o', e, hg, hx⟩
    · cases hx
    · cases e
      rw [if_neg (by simp at hc; omega)]
      exact .inr ⟨g, o + 6, rfl, hg, fun i y hy => by
        have h9 := hx (i + 1) y (by simpa using hy)
        refine ⟨h9.1, fun r hr => ?_⟩
        rw [show o + 6 + i * 6 + r = o + (i + 1) * 6 + r by omega]
        exact h9.2 r hr⟩
theorem info59s : (Tryd.prog.info? 44).map (fun i => (i.zero, i.size, i.bytes)) = some (some (.agg #[.string ByteArray.empty, .int .i64 0, .int .i64 0, .string ByteArray.empty, .slice none 0 0, .slice none 0 0]), 6, 96) := by kernel_rfl
end Go.Proofs.YtdchckelnccepaaDoor
namespace Go.Proofs.YtdchckelnccepaaDoor
open Go.RowKit Go.Deep
def lsK (key : ByteArray) (e : PE) : Bool := Op.bytesLess e.key.toList key.toList
/-- a list with one more pair, behind all that are less -/
def wtP (es : List PE) (p : PE) : List PE := es.filter (lsK p.key) ++ p :: es.filter (fun e => !lsK p.key e)
theorem filter_snoc {α : Type} (q : α → Bool) {l : List α} {i : Nat} {e : α} (h : l[i]? = some e) : (l.take (i + 1)).filter q = (l.take i).filter q ++ (if q e then [e] else []) := by
  rw [List.take_add_one, h]
  simp [List.filter_append, List.filter_cons]
theorem filter_len {α : Type} (q : α → Bool) (l : List α) (i : Nat) : ((l.take i).filter q).length ≤ i := Nat.le_trans (List.length_filter_le _ _) (by rw [List.length_take]; omega)
/-- the row that is being laid -/
def RW (B : Nat) (w0 : World) (acc : List PE) (v : Value) (wr : World) : Prop := wr.ownsRow B 44 6 v acc.length (gCs acc) ∧ Below B w0 wr
theorem RW.put {B : Nat} {w0 wr wb wa : World} {acc : List PE} {e : PE} {v v' : Value} {n : Nat} (h : RW B w0 acc v wr) (hn : n = acc.length + 1) (hB : B ≤ wr.heap.size) (hb : Below wr.heap.size wr wb) (ho : wa.ownsRow B 44 6 v' n (gCs acc ++ gCs [e])) (hg : wb.grownBy wa v.ownBlock) : RW B w0 (acc ++ [e]) v' wa := by
  refine ⟨by rw [gCs_app]; subst hn; simpa using ho, (h.2.trans (hb.mono hB)).grown hg (Nat.le_trans hB hb.size) (fun k hk => (World.ownsRow.lt h.1 k hk).1)⟩
theorem RW.keep {B : Nat} {w0 wr wb : World} {acc : List PE} {v : Value} (h : RW B w0 acc v wr) (hB : B ≤ wr.heap.size) (hb : Below wr.heap.size wr wb) : RW B w0 acc v wb :=
  ⟨h.1.kept (grown_of_below hb) (by cases hv : v.ownBlock with | none => exact .inl rfl | some q => exact .inr (by simp)), h.2.trans (hb.mono hB)⟩
set_option maxHeartbeats 8000000 in
set_option maxRecDepth 100000 in
theorem with68 (v1 : Value) (es : List PE) (key : ByteArray) (t : T) (x y : Value) (w : World) (h1 : RG w.heap.size w v1 es) (ht : RV (fun b => b < w.heap.size) w t x y) (hl : es.length ≤ 2147483000) :
    Calls Tryd.prog 34 #[v1, .string key, .agg #[.int .i64 t.k, .int .i64 t.n, .string t.s, x, y]] w fun e w' => ∃ v', e = .returned v' ∧ GR (w.heap.size + 1) w.heap.size w' v' (wtP es ⟨key, t, x, y⟩) ∧ Below w.heap.size w w' := by
  have HRV : Hid (RV (fun b => b < w.heap.size) w t x y ∧ ∀ e ∈ es, RV (fun b => b < w.heap.size) w e.t e.x e.y) := ⟨ht, h1.rv⟩
  obtain ⟨⟨ta, tn, tc, rfl⟩, ⟨sa, sn, sc, rfl⟩⟩ := ht.slices
  obtain ⟨a1, c1, rfl, hc1, hx1⟩ := h1
  have HX := Lib.hid hx1
  obtain ⟨i0, hi, hz0, hz1, hz2⟩ := info_parts info59s
  have b0 : Below w.heap.size w (w.alloc (.cells #[.int .i64 t.k, .int .i64 t.n, .string t.s, .slice ta tn tc, .slice sa sn sc] 41)) := (Below.refl _ _).alloc (Nat.le_refl _) _
  have HB0 : Hid (Below w.heap.size w (w.alloc (.cells #[.int .i64 t.k, .int .i64 t.n, .string t.s, .slice ta tn tc, .slice sa sn sc] 41)) ∧ (w.alloc (.cells #[.int .i64 t.k, .int .i64 t.n, .string t.s, .slice ta tn tc, .slice sa sn sc] 41)).heap[w.heap.size]? = some (.cells #[.int .i64 t.k, .int .i64 t.n, .string t.s, .slice ta tn tc, .slice sa sn sc] 41 (0, 0)) ∧ (w.alloc (.cells #[.int .i64 t.k, .int .i64 t.n, .string t.s, .slice ta tn tc, .slice sa sn sc] 41)).heap.size = w.heap.size + 1) := ⟨b0, heap_new _ _, by simp⟩
  generalize hnn : es.length = n at *
  have HNN := Lib.hid hnn
  clear hnn hx1 ht b0
  go_enter Tryd.func34, Tryd.ntmps34
  go_upto_region 1 with fail
  generalize (w.alloc (.cells #[.int .i64 t.k, .int .i64 t.n, .string t.s, .slice ta tn tc, .slice sa sn sc] 41)) = w0 at *
  have HRW0 : Hid (RW (w.heap.size + 1) w0 [] (.slice none 0 0) w0) := ⟨World.ownsRow_nil _ _ _ _, Below.refl _ _⟩
  have HSZ0 : Hid (w.heap.size + 1 ≤ w0.heap.size) := by have := HB0.out.2.2; show _ ≤ _; omega
  go_wp2_with fail
  go_loopw [7, 8] (fun lv ti wr => ∃ i : Nat, i ≤ n ∧ ti = .int .i64 i ∧ Hid (RW (w.heap.size + 1) w0 ((es.take i).filter (lsK key)) lv wr)) (fun _ ti _ => n - (intOf ti).toNat)
  case atStart => exact ⟨0, Nat.zero_le _, rfl, HRW0.out⟩
  case round =>
    obtain ⟨i, hin, rfl, HI⟩ := hrel
    clear HRW0
    have HSZ : Hid (w.heap.size + 1 ≤ wr.heap.size) := Nat.le_trans HSZ0.out (Nat.le_trans HI.out.2.size (Nat.le_refl _))
    by_cases hlt : i < n
    · obtain ⟨e, he⟩ : ∃ e, es[i]? = some e := ⟨_, List.getElem?_eq_getElem (by have := HNN.out; omega)⟩
      obtain ⟨g, o, rfl, hg, hcc⟩ := HX.out.resolve_left (fun e => by rw [e] at he; simp at he)
      have hfl := filter_len (lsK key) es i
      obtain ⟨ek, et, ex, ey⟩ := e
      obtain ⟨hrv, hc6⟩ := hcc i _ he
      obtain ⟨⟨xa, xn, xc, hex⟩, ⟨ya, yn, yc, hey⟩⟩ := hrv.slices
      simp only at hex hey
      subst hex hey
      have HBW : Hid (Below w.heap.size w wr) := HB0.out.1.trans (HI.out.2.mono (Nat.le_succ _))
      have cw : ∀ r v, r < 6 → (gC (⟨ek, et, .slice xa xn xc, .slice ya yn yc⟩ : PE))[r]? = some v → wr.cell? ⟨g, o + i * 6 + r, none⟩ = some v := fun r v hr hv => Below.cellS HBW.out (Nat.le_refl _) ((hc6 r hr).trans hv)
      have g0 : wr.cell? ⟨g, o + i * 6, none⟩ = some (.string ek) := cw 0 _ (by omega) rfl
      have g1 := cw 1 _ (by omega) rfl
      have g2 := cw 2 _ (by omega) rfl
      have g3 := cw 3 _ (by omega) rfl
      have g4 := cw 4 _ (by omega) rfl
      have g5 := cw 5 _ (by omega) rfl
      have HXI := Lib.hid he
      clear hrv hc6 hcc he cw HBW
      cases hll : Op.bytesLess ek.toList key.toList with
      | true =>
        have HLT : Hid (lsK key (⟨ek, et, .slice xa xn xc, .slice ya yn yc⟩ : PE) = true) := hll
        have HOW := Lib.hid HI.out.1
        obtain ⟨la, lc, rfl⟩ := ownForm HI.out.1
        generalize hal : ((es.take i).filter (lsK key)).length = al at *
        have HAL := Lib.hid hal
        clear hal
        go_wp2_with (at_builtin; refine wpList_append_own _ rfl _ _ 23 rfl (w.heap.size + 1) 44 i0 _ 6 96 Tryd.underlying23 hi hz0 hz1 hz2 rfl (by omega) _ al (gCs ((es.take i).filter (lsK key))) rfl (by exact (HOW.out.alloc _)) ⟨_, 0, none⟩ 1 1 (gCs [(⟨ek, et, .slice xa xn xc, .slice ya yn yc⟩ : PE)]) rfl rfl (by exact World.news_of_block (heap_new _ _)) (gCs_one (by intro e he; simp at he; subst he; exact ⟨⟨_, _, _, rfl⟩, ⟨_, _, _, rfl⟩⟩)) (by unfold maxLen; omega) (by omega) (by have := HSZ.out; simp; omega) ?_; intro v' wa hoa hga _; obtain ⟨a', c', rfl⟩ := ownForm hoa)
        have HR2 : Hid (RW (w.heap.size + 1) w0 ((es.take (i + 1)).filter (lsK key)) (.slice a' (al + 1) c') wa) := by
          rw [filter_snoc _ HXI.out, if_pos HLT.out]
          exact HI.out.put (by rw [HAL.out]) (Nat.le_trans HSZ.out (Nat.le_refl _)) ((Below.refl _ _).alloc (Nat.le_refl _) _) hoa hga
        clear hoa hga HOW HI g0 g1 g2 g3 g4 g5
        go_wp2
        exact ⟨⟨i + 1, by omega, by go_num, HR2⟩, by simp [intOf]; omega⟩
      | false =>
        have HR2 : Hid (RW (w.heap.size + 1) w0 ((es.take (i + 1)).filter (lsK key)) u7 wr) := by
          rw [filter_snoc _ HXI.out, if_neg (by show ¬ Op.bytesLess ek.toList key.toList = true; rw [hll]; decide), List.append_nil]
          exact HI.out
        clear HI
        go_wp2
        exact ⟨⟨i + 1, by omega, by go_num, HR2⟩, by simp [intOf]; omega⟩
    · obtain rfl : i = n := by omega
      have hfl := filter_len (lsK key) es i
      have HOW := Lib.hid HI.out.1
      obtain ⟨la, lc, rfl⟩ := ownForm HI.out.1
      generalize hal : ((es.take i).filter (lsK key)).length = al at *
      have HAL := Lib.hid hal
      clear hal
      have hz : wr.heap[w.heap.size]? = some (.cells #[.int .i64 t.k, .int .i64 t.n, .string t.s, .slice ta tn tc, .slice sa sn sc] 41 (0, 0)) := (HI.out.2.block _ (Nat.lt_succ_self _)).trans HB0.out.2.1
      have z0 : wr.cell? ⟨w.heap.size, 0, none⟩ = some (.int .i64 t.k) := by simp [World.cell?, hz]
      have z1 : wr.cell? ⟨w.heap.size, 1, none⟩ = some (.int .i64 t.n) := by simp [World.cell?, hz]
      have z2 : wr.cell? ⟨w.heap.size, 2, none⟩ = some (.string t.s) := by simp [World.cell?, hz]
      have z3 : wr.cell? ⟨w.heap.size, 3, none⟩ = some (.slice ta tn tc) := by simp [World.cell?, hz]
      have z4 : wr.cell? ⟨w.heap.size, 4, none⟩ = some (.slice sa sn sc) := by simp [World.cell?, hz]
      clear hz
      go_wp2_with (at_builtin; refine wpList_append_own _ rfl _ _ 23 rfl (w.heap.size + 1) 44 i0 _ 6 96 Tryd.underlying23 hi hz0 hz1 hz2 rfl (by omega) _ al (gCs ((es.take i).filter (lsK key))) rfl (by exact (HOW.out.alloc _)) ⟨_, 0, none⟩ 1 1 (gCs [(⟨key, t, .slice ta tn tc, .slice sa sn sc⟩ : PE)]) rfl rfl (by exact World.news_of_block (heap_new _ _)) (gCs_one (by intro e he; simp at he; subst he; exact ⟨⟨_, _, _, rfl⟩, ⟨_, _, _, rfl⟩⟩)) (by unfold maxLen; omega) (by omega) (by have := HSZ.out; simp; omega) ?_; intro v' wa hoa hga _; obtain ⟨a', c', rfl⟩ := ownForm hoa)
      have HR1 : Hid (RW (w.heap.size + 1) w0 ((es.filter (lsK key)) ++ [(⟨key, t, .slice ta tn tc, .slice sa sn sc⟩ : PE)]) (.slice a' (al + 1) c') wa ∧ ((es.filter (lsK key)) ++ [(⟨key, t, .slice ta tn tc, .slice sa sn sc⟩ : PE)]).length = al + 1) := by
        have h9 := HI.out.put (e := (⟨key, t, .slice ta tn tc, .slice sa sn sc⟩ : PE)) (by rw [HAL.out]) (Nat.le_trans HSZ.out (Nat.le_refl _)) ((Below.refl _ _).alloc (Nat.le_refl _) _) hoa hga
        have h8 := HAL.out
        rw [List.take_of_length_le (by have := HNN.out; omega)] at h9 h8
        exact ⟨h9, by rw [List.length_append, h8]; rfl⟩
      clear hoa hga HOW HI z0 z1 z2 z3 z4 HSZ HAL
      have HAL2 : Hid (al ≤ i) := hfl
      clear hfl
      go_wp2_with fail
      go_loopw [7, 9] (fun lv ti wr => ∃ j : Nat, j ≤ i ∧ ti = .int .i64 j ∧ Hid (RW (w.heap.size + 1) w0 ((es.filter (lsK key)) ++ [(⟨key, t, .slice ta tn tc, .slice sa sn sc⟩ : PE)] ++ (es.take j).filter (fun e => !lsK key e)) lv wr)) (fun _ ti _ => i - (intOf ti).toNat)
      case atStart => exact ⟨0, Nat.zero_le _, rfl, by rw [List.take_zero, List.filter_nil, List.append_nil]; exact HR1.out.1⟩
      case round =>
        obtain ⟨j, hjn, rfl, HI⟩ := hrel
        have HSZ : Hid (w.heap.size + 1 ≤ wr.heap.size) := Nat.le_trans HSZ0.out (Nat.le_trans HI.out.2.size (Nat.le_refl _))
        have hfl2 : ((es.filter (lsK key)) ++ [(⟨key, t, .slice ta tn tc, .slice sa sn sc⟩ : PE)] ++ (es.take j).filter (fun e => !lsK key e)).length ≤ i + 1 + j := by
          have h1 := filter_len (fun e => !lsK key e) es j
          have h2 := HR1.out.2
          have h3 := HAL2.out
          rw [List.length_append, h2]
          omega
        by_cases hlt : j < i
        · obtain ⟨e, he⟩ : ∃ e, es[j]? = some e := ⟨_, List.getElem?_eq_getElem (by have := HNN.out; omega)⟩
          obtain ⟨g, o, rfl, hg, hcc⟩ := HX.out.resolve_left (fun e => by rw [e] at he; simp at he)
          obtain ⟨ek, et, ex, ey⟩ := e
          obtain ⟨hrv, hc6⟩ := hcc j _ he
          obtain ⟨⟨xa, xn, xc, hex⟩, ⟨ya, yn, yc, hey⟩⟩ := hrv.slices
          simp only at hex hey
          subst hex hey
          have HBW : Hid (Below w.heap.size w wr) := HB0.out.1.trans (HI.out.2.mono (Nat.le_succ _))
          have cw : ∀ r v, r < 6 → (gC (⟨ek, et, .slice xa xn xc, .slice ya yn yc⟩ : PE))[r]? = some v → wr.cell? ⟨g, o + j * 6 + r, none⟩ = some v := fun r v hr hv => Below.cellS HBW.out (Nat.le_refl _) ((hc6 r hr).trans hv)
          have g0 : wr.cell? ⟨g, o + j * 6, none⟩ = some (.string ek) := cw 0 _ (by omega) rfl
          have g1 := cw 1 _ (by omega) rfl
          have g2 := cw 2 _ (by omega) rfl
          have g3 := cw 3 _ (by omega) rfl
          have g4 := cw 4 _ (by omega) rfl
          have g5 := cw 5 _ (by omega) rfl
          have HXI := Lib.hid he
          clear hrv hc6 hcc he cw HBW
          cases hll : Op.bytesLess ek.toList key.toList with
          | false =>
            have HLT : Hid ((fun e => !lsK key e) (⟨ek, et, .slice xa xn xc, .slice ya yn yc⟩ : PE) = true) := by show (!Op.bytesLess ek.toList key.toList) = true; rw [hll]; rfl
            have HOW := Lib.hid HI.out.1
            obtain ⟨la, lc, rfl⟩ := ownForm HI.out.1
            generalize hal : ((es.filter (lsK key)) ++ [(⟨key, t, .slice ta tn tc, .slice sa sn sc⟩ : PE)] ++ (es.take j).filter (fun e => !lsK key e)).length = al at *
            have HAL := Lib.hid hal
            clear hal
            go_wp2_with (at_builtin; refine wpList_append_own _ rfl _ _ 23 rfl (w.heap.size + 1) 44 i0 _ 6 96 Tryd.underlying23 hi hz0 hz1 hz2 rfl (by omega) _ al (gCs ((es.filter (lsK key)) ++ [(⟨key, t, .slice ta tn tc, .slice sa sn sc⟩ : PE)] ++ (es.take j).filter (fun e => !lsK key e))) rfl (by exact (HOW.out.alloc _)) ⟨_, 0, none⟩ 1 1 (gCs [(⟨ek, et, .slice xa xn xc, .slice ya yn yc⟩ : PE)]) rfl rfl (by exact World.news_of_block (heap_new _ _)) (gCs_one (by intro e he; simp at he; subst he; exact ⟨⟨_, _, _, rfl⟩, ⟨_, _, _, rfl⟩⟩)) (by unfold maxLen; omega) (by omega) (by have := HSZ.out; simp; omega) ?_; intro v' wa hoa hga _; obtain ⟨a', c', rfl⟩ := ownForm hoa)
            have HR2 : Hid (RW (w.heap.size + 1) w0 ((es.filter (lsK key)) ++ [(⟨key, t, .slice ta tn tc, .slice sa sn sc⟩ : PE)] ++ (es.take (j + 1)).filter (fun e => !lsK key e)) (.slice a' (al + 1) c') wa) := by
              rw [filter_snoc _ HXI.out, if_pos HLT.out, ← List.append_assoc]
              exact HI.out.put (by rw [HAL.out]) (Nat.le_trans HSZ.out (Nat.le_refl _)) ((Below.refl _ _).alloc (Nat.le_refl _) _) hoa hga
            clear hoa hga HOW HI g0 g1 g2 g3 g4 g5
            go_wp2
            exact ⟨⟨j + 1, by omega, by go_num, HR2⟩, by simp [intOf]; omega⟩
          | true =>
            have HR2 : Hid (RW (w.heap.size + 1) w0 ((es.filter (lsK key)) ++ [(⟨key, t, .slice ta tn tc, .slice sa sn sc⟩ : PE)] ++ (es.take (j + 1)).filter (fun e => !lsK key e)) u7 wr) := by
              rw [filter_snoc _ HXI.out, if_neg (by show ¬ (!Op.bytesLess ek.toList key.toList) = true; rw [hll]; decide), List.append_nil]
              exact HI.out
            clear HI
            go_wp2
            exact ⟨⟨j + 1, by omega, by go_num, HR2⟩, by simp [intOf]; omega⟩
        · obtain rfl : j = i := by omega
          have HE : Hid (GR (w.heap.size + 1) w.heap.size wr u7 (wtP es (⟨key, t, .slice ta tn tc, .slice sa sn sc⟩ : PE)) ∧ Below w.heap.size w wr) := by
            have h9 := HI.out
            rw [List.take_of_length_le (by have := HNN.out; omega), List.append_assoc, List.singleton_append] at h9
            have hb : Below w.heap.size w wr := HB0.out.1.trans (h9.2.mono (Nat.le_succ _))
            have rvk : ∀ t x y, RV (fun b => b < w.heap.size) w t x y → RV (fun b => b < w.heap.size) wr t x y := fun t x y h => RV.keep (fun _ h => h) hb.size (fun b hb' _ => hb.block b hb') _ _ _ h
            refine ⟨⟨h9.1, fun e he => ?_⟩, hb⟩
            rcases List.mem_append.1 he with he | he
            · exact rvk _ _ _ (HRV.out.2 e (List.mem_filter.1 he).1)
            · rcases List.mem_cons.1 he with rfl | he
              · exact rvk _ _ _ HRV.out.1
              · exact rvk _ _ _ (HRV.out.2 e (List.mem_filter.1 he).1)
          obtain ⟨la, lc, hlv⟩ := ownForm HE.out.1.1
          subst hlv
          clear HI
          go_wp2
          go_ret
          exact ⟨_, rfl, HE.out.1, HE.out.2⟩
end Go.Proofs.YtdchckelnccepaaDoor
