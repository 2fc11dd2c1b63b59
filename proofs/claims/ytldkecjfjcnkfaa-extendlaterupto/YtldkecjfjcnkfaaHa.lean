import Derived.Test.YtldkecjfjcnkfaaGj
import Derived.Laws.AppendOwnNone
namespace Go.Proofs.Ytldkecjfjcnkfaa
open Go.RowKit Go.Deep
theorem nsC_app (a b : List (ByteArray × Int)) : nsC (a ++ b) = nsC a ++ nsC b := by simp [nsC]
/-- two rising lists put together, with the later one's element where both have a name -/
def mg {α : Type} (lt eq : α → α → Bool) : List α → List α → List α
  | old, [] => old
  | [], x :: xs => x :: xs
  | a :: rest, x :: xs => if lt a x then a :: mg lt eq rest (x :: xs) else if eq a x then x :: mg lt eq rest xs else x :: mg lt eq (a :: rest) xs
termination_by old later => old.length + later.length
theorem mg_nil {α : Type} (lt eq : α → α → Bool) (old : List α) : mg lt eq old [] = old := by unfold mg; cases old <;> rfl
theorem mg_none {α : Type} (lt eq : α → α → Bool) (l : List α) : mg lt eq [] l = l := by cases l with
  | nil => exact mg_nil _ _ _
  | cons x xs => unfold mg; rfl
theorem mg_lt {α : Type} {lt eq : α → α → Bool} {a x : α} (rest xs : List α) (h : lt a x = true) : mg lt eq (a :: rest) (x :: xs) = a :: mg lt eq rest (x :: xs) := by
  rw [mg, if_pos h]
theorem mg_eq {α : Type} {lt eq : α → α → Bool} {a x : α} (rest xs : List α) (h : lt a x = false) (h2 : eq a x = true) : mg lt eq (a :: rest) (x :: xs) = x :: mg lt eq rest xs := by
  rw [mg, if_neg (by rw [h]; decide), if_pos h2]
theorem mg_gt {α : Type} {lt eq : α → α → Bool} {a x : α} (rest xs : List α) (h : lt a x = false) (h2 : eq a x = false) : mg lt eq (a :: rest) (x :: xs) = x :: mg lt eq (a :: rest) xs := by
  rw [mg, if_neg (by rw [h]; decide), if_neg (by rw [h2]; decide)]
theorem mg_len {α : Type} (lt eq : α → α → Bool) : ∀ (old later : List α), (mg lt eq old later).length ≤ old.length + later.length
  | old, [] => by rw [mg_nil]; simp
  | [], x :: xs => by rw [mg_none]; simp
  | a :: rest, x :: xs => by
    cases h : lt a x with
    | true => rw [mg_lt _ _ h]; have := mg_len lt eq rest (x :: xs); simp at this ⊢; omega
    | false =>
      cases h2 : eq a x with
      | true => rw [mg_eq _ _ h h2]; have := mg_len lt eq rest xs; simp at this ⊢; omega
      | false => rw [mg_gt _ _ h h2]; have := mg_len lt eq (a :: rest) xs; simp at this ⊢; omega
termination_by old later => old.length + later.length
theorem mg_mem {α : Type} (lt eq : α → α → Bool) : ∀ (old later : List α) (e : α), e ∈ mg lt eq old later → e ∈ old ∨ e ∈ later
  | old, [], e, h => by rw [mg_nil] at h; exact .inl h
  | [], x :: xs, e, h => by rw [mg_none] at h; exact .inr h
  | a :: rest, x :: xs, e, h => by
    cases h1 : lt a x with
    | true =>
      rw [mg_lt _ _ h1] at h
      rcases List.mem_cons.1 h with rfl | h
      · exact .inl (by simp)
      · exact (mg_mem lt eq rest (x :: xs) e h).imp_left (List.mem_cons_of_mem _)
    | false =>
      cases h2 : eq a x with
      | true =>
        rw [mg_eq _ _ h1 h2] at h
        rcases List.mem_cons.1 h with rfl | h
        · exact .inr (by simp)
        · exact (mg_mem lt eq rest xs e h).imp (List.mem_cons_of_mem _) (List.mem_cons_of_mem _)
      | false =>
        rw [mg_gt _ _ h1 h2] at h
        rcases List.mem_cons.1 h with rfl | h
        · exact .inr (by simp)
        · exact (mg_mem lt eq (a :: rest) xs e h).imp_right (List.mem_cons_of_mem _)
termination_by old later => old.length + later.length
theorem nsC_one (ns : List (ByteArray × Int)) : ∀ u ∈ nsC ns, u.oneCell' = true := fun u hu => by
  simp only [nsC, List.mem_flatMap] at hu
  obtain ⟨x, _, hx⟩ := hu
  simp at hx
  rcases hx with rfl | rfl <;> rfl
/-- names behind an own row of names -/
theorem append_ns {ops : Array Oper} {rest : List Oper} {o : Oper} {a : Act} {Q : Exit → Act → World → Prop} {w : World} {B : Nat} {v xv : Value} {ns ms : List (ByteArray × Int)} (hgd : o.guard = none) (s x : Operand)
    (ho : o.op = .call { callee := .builtin .append, args := #[s, x], argTypes := #[32, 32] }) (hs : a.eval s = v) (hx : a.eval x = xv)
    (hown : w.ownsRow B 46 2 v ns.length (nsC ns)) (hr : RNs w xv ms) (hB : B ≤ w.heap.size) (hlim : (ns.length + ms.length) * 24 ≤ 140737488351232) (hcap : capped xv)
    (h : ∀ a' c' w', w'.ownsRow B 46 2 (.slice a' (ns.length + ms.length) c') (ns.length + ms.length) (nsC (ns ++ ms)) → Below B w w' → wpList Try.prog ops Q rest (a.put o.dst (.slice a' (ns.length + ms.length) c')) w') : wpList Try.prog ops Q (o :: rest) a w := by
  obtain ⟨i0, hi, hz0, hz1, hz2⟩ := info_parts info46
  obtain ⟨ad, c, rfl, hr⟩ := hr
  have fin : ∀ v' w', w'.ownsRow B 46 2 v' (ns.length + ms.length) (nsC ns ++ nsC ms) → w.grownBy w' v.ownBlock → wpList Try.prog ops Q rest (a.put o.dst v') w' := fun v' w' h1 h2 => by
    obtain ⟨a', c', rfl⟩ := ownForm h1
    exact h a' c' w' (by rw [nsC_app]; exact h1) ((Below.refl B w).grown h2 hB (fun k hk => (World.ownsRow.lt hown k hk).1))
  have main : ∀ b off, ad = some ⟨b, off, none⟩ → (∀ i x, ms[i]? = some x → w.cell? ⟨b, off + i * 2, none⟩ = some (.string x.1) ∧ w.cell? ⟨b, off + i * 2 + 1, none⟩ = some (.int .i64 x.2)) → wpList Try.prog ops Q (o :: rest) a w := fun b off e hc => by
    subst e
    refine wpList_append_own w hgd s x 32 ho B 46 i0 _ 2 24 Try.underlying32 hi hz0 hz1 hz2 rfl (by omega) v ns.length (nsC ns) hs hown ⟨b, off, none⟩ ms.length c (nsC ms) hx (nsC_len ms) (fun j u hu => ?_) (nsC_one ms) (by unfold maxLen; omega) (by omega) hB (fun v' w' h1 h2 _ => fin v' w' h1 h2)
    have hj := (List.getElem?_eq_some_iff.1 hu).1
    rw [nsC_len] at hj
    have hadd : (⟨b, off, none⟩ : Addr).add j = ⟨b, off + j, none⟩ := by unfold Addr.add; split <;> simp_all
    obtain ⟨x, hx⟩ : ∃ x, ms[j / 2]? = some x := ⟨_, List.getElem?_eq_getElem (by omega)⟩
    have h1 := hc _ x hx
    have h2 := nsC_get ms _ x hx
    rw [hadd]
    rcases Nat.mod_two_eq_zero_or_one j with e | e
    · have e' : j / 2 * 2 = j := by omega
      rw [e'] at h1 h2
      rw [h1.1, ← h2.1]; exact hu
    · have e' : j / 2 * 2 + 1 = j := by omega
      rw [Nat.add_assoc, e'] at h1
      rw [e'] at h2
      rw [h1.2, ← h2.2]; exact hu
  rcases hr with rfl | ⟨b, off, rfl, _, hc⟩
  · cases ad with
    | none =>
      refine wpList_plain hgd fun K hK => ?_
      have hrun : (Builtin.append_ #[32, 32] o.type #[v, .slice none 0 c]).run Try.prog w = .ok v w := by
        rcases hown.2 with ⟨rfl, _⟩ | ⟨g, cap, cur, rfl, _, _, hnc, _⟩
        · simp [Builtin.append_, run_underlying Try.underlying32, sizeOf, typeInfo, hi, Builtin.lenOf, Builtin.firstCells]
        · simp [Builtin.append_, run_underlying Try.underlying32, sizeOf, typeInfo, hi, Builtin.lenOf, Builtin.firstCells, hnc, storeCells]
      have hfin := fin v w (by simpa [nsC] using hown) ⟨rfl, rfl, rfl, Nat.le_refl _, fun _ _ _ => rfl⟩
      unfold Oper.wp
      simp only [List.length_nil] at hx
      simp [execOp, ho, resolve, invoke, builtin, hs, hx, hrun, Result.andThen]
      exact hK _ _ hfin
    | some ad =>
      refine wpList_append_own w hgd s x 32 ho B 46 i0 _ 2 24 Try.underlying32 hi hz0 hz1 hz2 rfl (by omega) v ns.length (nsC ns) hs hown ad 0 c [] hx (by simp) (fun j u hu => by simp at hu) (fun u hu => by cases hu) (by unfold maxLen; omega) (by omega) hB (fun v' w' h1 h2 _ => fin v' w' (by simpa [nsC] using h1) h2)
  · exact main b off rfl hc
end Go.Proofs.Ytldkecjfjcnkfaa
