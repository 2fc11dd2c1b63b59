import Derived.Test.YtjfgpplomldeiaaGreatDoorWf
namespace Go.Proofs.YtjfgpplomldeiaaGreatDoor
open Go.RowKit Go.Deep
def tsC (ts : List ByteArray) : List Value := ts.map Value.string
def rsC (rs : List (Int × Int)) : List Value := rs.flatMap fun x => [.int .i64 x.1, .int .i64 x.2]
theorem rsC_len (rs : List (Int × Int)) : (rsC rs).length = rs.length * 2 := by
  induction rs with
  | nil => rfl
  | cons x rs ih =>
    have : rsC (x :: rs) = [.int .i64 x.1, .int .i64 x.2] ++ rsC rs := by simp [rsC]
    rw [this, List.length_append, ih]
    simp
    omega
theorem rsC_get : ∀ (rs : List (Int × Int)) (i : Nat) (x : Int × Int), rs[i]? = some x → (rsC rs)[i * 2]? = some (.int .i64 x.1) ∧ (rsC rs)[i * 2 + 1]? = some (.int .i64 x.2)
  | [], i, x, h => by simp at h
  | y :: rs, 0, x, h => by
    simp at h
    subst h
    simp [rsC]
  | y :: rs, i + 1, x, h => by
    have e : rsC (y :: rs) = [.int .i64 y.1, .int .i64 y.2] ++ rsC rs := by simp [rsC]
    have := rsC_get rs i x (by simpa using h)
    rw [e, List.getElem?_append_right (by simp; omega), List.getElem?_append_right (by simp; omega)]
    have e1 : (i + 1) * 2 - [Value.int .i64 y.1, Value.int .i64 y.2].length = i * 2 := by simp; omega
    have e2 : (i + 1) * 2 + 1 - [Value.int .i64 y.1, Value.int .i64 y.2].length = i * 2 + 1 := by simp; omega
    rw [e1, e2]
    exact this
theorem info9 : (Tryz.prog.info? 9).map (fun i => (i.zero, i.size, i.bytes)) = some (some (.string ByteArray.empty), 1, 16) := by kernel_rfl
theorem infoRng : (Tryz.prog.info? 53).map (fun i => (i.zero, i.size, i.bytes)) = some (some (.agg #[.int .i64 0, .int .i64 0]), 2, 16) := by kernel_rfl
theorem texts_of {w : World} {B : Nat} {v : Value} {ts : List ByteArray} (h : w.ownsRow B 9 1 v ts.length (tsC ts)) : RS (fun b => B ≤ b) w v ts := by
  rcases h.2 with ⟨rfl, h0⟩ | ⟨g, cap, cur, rfl, hB, hg, _, _, hsz, hx⟩
  · exact ⟨none, 0, by rw [h0], .inl h0⟩
  · refine ⟨_, _, rfl, .inr ⟨g, 0, rfl, hB, (Array.getElem?_eq_some_iff.1 hg).1, fun i x hi => ?_⟩⟩
    have hlt := (List.getElem?_eq_some_iff.1 hi).1
    have h2 : (tsC ts)[i]? = some (.string x) := by simp [tsC, hi]
    rw [← hx, List.getElem?_take_of_lt (by omega)] at h2
    simp only [Array.getElem?_toList] at h2
    simp only [World.cell?, hg]; simpa using h2
theorem runs_of {w : World} {B : Nat} {v : Value} {rs : List (Int × Int)} (h : w.ownsRow B 53 2 v rs.length (rsC rs)) : RR (fun b => B ≤ b) w v rs := by
  rcases h.2 with ⟨rfl, h0⟩ | ⟨g, cap, cur, rfl, hB, hg, _, _, hsz, hx⟩
  · exact ⟨none, 0, by rw [h0], .inl h0⟩
  · refine ⟨_, _, rfl, .inr ⟨g, 0, rfl, hB, (Array.getElem?_eq_some_iff.1 hg).1, fun i x hi => ?_⟩⟩
    have hlt := (List.getElem?_eq_some_iff.1 hi).1
    have h2 := rsC_get rs i x hi
    rw [← hx, List.getElem?_take_of_lt (by omega), List.getElem?_take_of_lt (by omega)] at h2
    simp only [Array.getElem?_toList] at h2
    constructor
    · simp only [World.cell?, hg]; simpa using h2.1
    · simp only [World.cell?, hg]; simpa using h2.2
theorem own_le {w : World} {B e sz n m c : Nat} {a : Option Addr} {xs : List Value} (h : w.ownsRow B e sz (.slice a m c) n xs) : m ≤ c := by
  rcases h.2 with ⟨e, h1⟩ | ⟨g, cap, cur, e, _, _, h2, _⟩
  · cases e; omega
  · cases e; exact h2
theorem addAt (b off j : Nat) : (⟨b, off, none⟩ : Addr).add j = ⟨b, off + j, none⟩ := by unfold Addr.add; split <;> simp_all
/-- append(none, texts...) -/
theorem append_texts {ops : Array Oper} {rest : List Oper} {o : Oper} {a : Act} {Q : Exit → Act → World → Prop} {w : World} {xv : Value} {ts : List ByteArray} {S : Nat → Prop} (hgd : o.guard = none) (s x : Operand)
    (ho : o.op = .call { callee := .builtin .append, args := #[s, x], argTypes := #[24, 24] }) (hs : a.eval s = .slice none 0 0) (hx : a.eval x = xv)
    (hr : RS S w xv ts) (hlim : ts.length ≤ 2147483647)
    (h : ∀ a' c' w', RS (fun b => w.heap.size ≤ b) w' (.slice a' ts.length c') ts → Below w.heap.size w w' → Hid (ts.length ≤ c') → wpList Tryz.prog ops Q rest (a.put o.dst (.slice a' ts.length c')) w') : wpList Tryz.prog ops Q (o :: rest) a w := by
  obtain ⟨i0, hi, hz0, hz1, hz2⟩ := info_parts info9
  obtain ⟨ad, c, rfl, hr⟩ := hr
  have fin : ∀ v' w', w'.ownsRow w.heap.size 9 1 v' ts.length (tsC ts) → w.grownBy w' (Value.slice none 0 0).ownBlock → wpList Tryz.prog ops Q rest (a.put o.dst v') w' := fun v' w' h1 h2 => by
    obtain ⟨a', c', rfl⟩ := ownForm h1
    exact h a' c' w' (texts_of h1) ((Below.refl _ w).grown h2 (Nat.le_refl _) (fun k hk => by simp [Value.ownBlock] at hk)) (own_le h1)
  rcases hr with h0 | ⟨b, off, rfl, _, _, hc⟩
  · obtain rfl : ts = [] := List.length_eq_zero_iff.1 h0
    cases ad with
    | none =>
      refine wpList_plain hgd fun K hK => ?_
      have hrun : (Builtin.append_ #[24, 24] o.type #[.slice none 0 0, .slice none 0 c]).run Tryz.prog w = .ok (.slice none 0 0) w := by
        simp [Builtin.append_, run_underlying Tryz.underlying24, sizeOf, typeInfo, hi, Builtin.lenOf, Builtin.firstCells]
      simp only [List.length_nil] at hx
      unfold Oper.wp
      simp [execOp, ho, resolve, invoke, builtin, hs, hx, hrun, Result.andThen]
      exact hK _ _ (h none 0 w ⟨none, 0, rfl, .inl rfl⟩ (Below.refl _ _) (Nat.le_refl 0))
    | some ad =>
      refine wpList_append_own w hgd s x 24 ho w.heap.size 9 i0 _ 1 16 Tryz.underlying24 hi hz0 hz1 hz2 rfl (by omega) (.slice none 0 0) 0 [] hs (World.ownsRow_nil _ _ _ _) ad 0 c [] hx (by simp) (fun j u hu => by simp at hu) (fun u hu => by cases hu) (by unfold maxLen; omega) (by omega) (Nat.le_refl _) (fun v' w' h1 h2 _ => ?_)
      exact fin v' w' (by simpa [tsC] using h1) h2
  · refine wpList_append_own w hgd s x 24 ho w.heap.size 9 i0 _ 1 16 Tryz.underlying24 hi hz0 hz1 hz2 rfl (by omega) (.slice none 0 0) 0 [] hs (World.ownsRow_nil _ _ _ _) ⟨b, off, none⟩ ts.length c (tsC ts) hx (by simp [tsC]) (fun j u hu => ?_) (fun u hu => ?_) (by unfold maxLen; omega) (by omega) (Nat.le_refl _) (fun v' w' h1 h2 _ => fin v' w' (by simpa using h1) h2)
    · simp only [tsC, List.getElem?_map, Option.map_eq_some_iff] at hu
      obtain ⟨x, hx, rfl⟩ := hu
      rw [addAt]; exact hc j x hx
    · simp only [tsC, List.mem_map] at hu
      obtain ⟨x, _, rfl⟩ := hu
      rfl
/-- append(none, runs...) -/
theorem append_runs {ops : Array Oper} {rest : List Oper} {o : Oper} {a : Act} {Q : Exit → Act → World → Prop} {w : World} {xv : Value} {rs : List (Int × Int)} {S : Nat → Prop} (hgd : o.guard = none) (s x : Operand)
    (ho : o.op = .call { callee := .builtin .append, args := #[s, x], argTypes := #[25, 25] }) (hs : a.eval s = .slice none 0 0) (hx : a.eval x = xv)
    (hr : RR S w xv rs) (hlim : rs.length ≤ 2147483647)
    (h : ∀ a' c' w', RR (fun b => w.heap.size ≤ b) w' (.slice a' rs.length c') rs → Below w.heap.size w w' → wpList Tryz.prog ops Q rest (a.put o.dst (.slice a' rs.length c')) w') : wpList Tryz.prog ops Q (o :: rest) a w := by
  obtain ⟨i0, hi, hz0, hz1, hz2⟩ := info_parts infoRng
  obtain ⟨ad, c, rfl, hr⟩ := hr
  have fin : ∀ v' w', w'.ownsRow w.heap.size 53 2 v' rs.length (rsC rs) → w.grownBy w' (Value.slice none 0 0).ownBlock → wpList Tryz.prog ops Q rest (a.put o.dst v') w' := fun v' w' h1 h2 => by
    obtain ⟨a', c', rfl⟩ := ownForm h1
    exact h a' c' w' (runs_of h1) ((Below.refl _ w).grown h2 (Nat.le_refl _) (fun k hk => by simp [Value.ownBlock] at hk))
  rcases hr with h0 | ⟨b, off, rfl, _, _, hc⟩
  · obtain rfl : rs = [] := List.length_eq_zero_iff.1 h0
    cases ad with
    | none =>
      refine wpList_plain hgd fun K hK => ?_
      have hrun : (Builtin.append_ #[25, 25] o.type #[.slice none 0 0, .slice none 0 c]).run Tryz.prog w = .ok (.slice none 0 0) w := by
        simp [Builtin.append_, run_underlying Tryz.underlying25, sizeOf, typeInfo, hi, Builtin.lenOf, Builtin.firstCells]
      simp only [List.length_nil] at hx
      unfold Oper.wp
      simp [execOp, ho, resolve, invoke, builtin, hs, hx, hrun, Result.andThen]
      exact hK _ _ (h none 0 w ⟨none, 0, rfl, .inl rfl⟩ (Below.refl _ _))
    | some ad =>
      refine wpList_append_own w hgd s x 25 ho w.heap.size 53 i0 _ 2 16 Tryz.underlying25 hi hz0 hz1 hz2 rfl (by omega) (.slice none 0 0) 0 [] hs (World.ownsRow_nil _ _ _ _) ad 0 c [] hx (by simp) (fun j u hu => by simp at hu) (fun u hu => by cases hu) (by unfold maxLen; omega) (by omega) (Nat.le_refl _) (fun v' w' h1 h2 _ => ?_)
      exact fin v' w' (by simpa [rsC] using h1) h2
  · refine wpList_append_own w hgd s x 25 ho w.heap.size 53 i0 _ 2 16 Tryz.underlying25 hi hz0 hz1 hz2 rfl (by omega) (.slice none 0 0) 0 [] hs (World.ownsRow_nil _ _ _ _) ⟨b, off, none⟩ rs.length c (rsC rs) hx (rsC_len rs) (fun j u hu => ?_) (fun u hu => ?_) (by unfold maxLen; omega) (by omega) (Nat.le_refl _) (fun v' w' h1 h2 _ => fin v' w' (by simpa using h1) h2)
    · have hj := (List.getElem?_eq_some_iff.1 hu).1
      rw [rsC_len] at hj
      obtain ⟨x, hx⟩ : ∃ x, rs[j / 2]? = some x := ⟨_, List.getElem?_eq_getElem (by omega)⟩
      have h1 := hc _ x hx
      have h2 := rsC_get rs _ x hx
      rw [addAt]
      rcases Nat.mod_two_eq_zero_or_one j with e | e
      · have e' : j / 2 * 2 = j := by omega
        rw [e'] at h1 h2
        rw [h1.1, ← h2.1]; exact hu
      · have e' : j / 2 * 2 + 1 = j := by omega
        rw [Nat.add_assoc, e'] at h1
        rw [e'] at h2
        rw [h1.2, ← h2.2]; exact hu
    · simp only [rsC, List.mem_flatMap] at hu
      obtain ⟨x, _, hx⟩ := hu
      simp at hx
      rcases hx with rfl | rfl <;> rfl
end Go.Proofs.YtjfgpplomldeiaaGreatDoor
