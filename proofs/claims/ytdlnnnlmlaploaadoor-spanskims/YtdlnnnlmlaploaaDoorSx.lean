import Derived.Test.YtdlnnnlmlaploaaDoorSw
namespace Go.Proofs.YtdlnnnlmlaploaaDoor
/-! ### Reading on in a text is reading its rest from the beginning -/
def Pc.up {α : Type} (i : Nat) : Pc α → Pc α
  | .ok a j => .ok a (i + j)
  | .bad p e => .bad (i + p) e
theorem run_drop (b : List UInt8) (i k : Nat) : run (b.drop i) k = run b (i + k) := by unfold run; rw [List.drop_drop]
theorem bytDrop (b : List UInt8) (i k : Nat) : byt (b.drop i) k = byt b (i + k) := by
  unfold byt; simp [List.getD, List.getElem?_drop]
theorem cut_drop (b : List UInt8) (i j k : Nat) : cut (b.drop i) j k = cut b (i + j) (i + k) := by
  unfold cut; rw [List.drop_drop, show i + k - (i + j) = k - j by omega]
theorem digs_drop {b : List UInt8} {i : Nat} (h : i ≤ b.length) (en : UInt8) (k : Nat) : digs b en (i + k) = (digs (b.drop i) en k).up i := by
  unfold digs
  rw [run_drop, bytDrop, cut_drop, List.length_drop]
  by_cases h1 : b.length ≤ i + k + run b (i + k)
  · rw [if_pos h1, if_pos (show b.length - i ≤ k + run b (i + k) by omega)]
    show _ = Pc.bad _ _
    rw [show i + (b.length - i) = b.length by omega]
  · rw [if_neg h1, if_neg (show ¬ b.length - i ≤ k + run b (i + k) by omega), show i + (k + run b (i + k)) = i + k + run b (i + k) by omega]
    split
    · show _ = Pc.bad _ _
      rw [show i + (k + run b (i + k)) = i + k + run b (i + k) by omega]
    · show _ = Pc.ok _ _
      rw [show i + (k + run b (i + k) + 1) = i + k + run b (i + k) + 1 by omega]
theorem strg_drop {b : List UInt8} {i : Nat} (h : i ≤ b.length) (k : Nat) : strg b (i + k) = (strg (b.drop i) k).up i := by
  unfold strg
  rw [digs_drop h]
  cases hd : digs (b.drop i) 58 k with
  | bad p e => rfl
  | ok d j =>
    show (if padd d = true then Pc.bad (i + k) 23 else _) = Pc.up i (if padd d = true then _ else _)
    split
    · rfl
    · cases hn : Lib.atoiAll d with
      | ok n =>
        dsimp only
        rw [List.length_drop, cut_drop]
        have e1 : ((b.length - i : Nat) : Int) - (j : Int) = (b.length : Int) - ((i + j : Nat) : Int) := by omega
        rw [e1, Nat.add_assoc]
        split
        · show _ = Pc.bad _ _
          rw [show i + (b.length - i) = b.length by omega]
        · rfl
      | _ =>
        show _ = Pc.bad _ _
        rw [List.length_drop, show i + (b.length - i) = b.length by omega]
theorem numb_drop {b : List UInt8} {i : Nat} (h : i ≤ b.length) (k : Nat) : numb b (i + k) = (numb (b.drop i) k).up i := by
  unfold numb
  rw [List.length_drop]
  by_cases h1 : b.length ≤ i + k + 1
  · rw [if_pos h1, if_pos (show b.length - i ≤ k + 1 by omega)]
    show _ = Pc.bad _ _
    rw [show i + (b.length - i) = b.length by omega]
  · rw [if_neg h1, if_neg (show ¬ b.length - i ≤ k + 1 by omega), bytDrop, Nat.add_assoc i k 1]
    generalize (if byt b (i + (k + 1)) = 45 then [45] else ([] : List UInt8)) = sg
    dsimp only
    rw [Nat.add_assoc i (k + 1), digs_drop h]
    cases hd : digs (b.drop i) 101 (k + 1 + sg.length) with
    | bad p e => rfl
    | ok d j =>
      show (match Lib.atoiAll (sg ++ d) with | .ok n => _ | _ => _) = Pc.up i (match Lib.atoiAll (sg ++ d) with | .ok n => _ | _ => _)
      cases hn : Lib.atoiAll (sg ++ d) with
      | ok n =>
        dsimp only
        split <;> rfl
      | _ => rfl
/-- a leaf begins at i: what the rest of the text is read as by itself -/
def leafO (b : List UInt8) (i : Nat) : Out := step (b.drop i) [] 0
theorem byt_end {b : List UInt8} {i : Nat} (h : b.length ≤ i) : byt b i = 0 := by
  unfold byt; rw [List.getD, List.getElem?_eq_none h]; rfl
theorem leaf_eq {b : List UInt8} {i : Nat} (hi : i < b.length) (h1 : byt b i ≠ 108) (h2 : byt b i ≠ 100) : leafO b i = scal (b.drop i) [] 0 := by
  unfold leafO step
  rw [List.length_drop, if_neg (by omega)]
  show opn (b.drop i) [] 0 = _
  unfold opn
  rw [bytDrop, Nat.add_zero, if_neg h1, if_neg h2]
theorem leaf_end {b : List UInt8} {i : Nat} (hi : b.length ≤ i) : leafO b i = .bad 0 21 := by
  unfold leafO step
  rw [List.length_drop, if_pos (by omega), show b.length - i = 0 by omega]
theorem scal_drop {b : List UInt8} {i : Nat} (h : i ≤ b.length) (st : List Fr) :
    scal b st i = match scal (b.drop i) [] 0 with | .val t j => deliver st t (i + j) | .bad p e => .bad (i + p) e | .go _ _ => .go [] 0 := by
  unfold scal
  rw [bytDrop, Nat.add_zero]
  have hn := numb_drop h 0
  have hs := strg_drop h 0
  rw [Nat.add_zero] at hn hs
  rw [hn, hs]
  split
  · cases numb (b.drop i) 0 <;> rfl
  · split
    · cases strg (b.drop i) 0 <;> rfl
    · rfl
theorem scal_fin (b : List UInt8) : (scal b [] 0).fin := by
  unfold scal
  split
  · cases numb b 0 <;> trivial
  · split
    · cases strg b 0 <;> trivial
    · trivial
theorem leaf_fin {b : List UInt8} {i : Nat} (h1 : byt b i ≠ 108) (h2 : byt b i ≠ 100) : (leafO b i).fin := by
  by_cases hi : i < b.length
  · rw [leaf_eq hi h1 h2]; exact scal_fin _
  · rw [leaf_end (by omega)]; trivial
/-- what a run over the rest ends in -/
theorem leaf_run {b : List UInt8} {i : Nat} (h1 : byt b i ≠ 108) (h2 : byt b i ≠ 100) {o : Out} (h : Run (b.drop i) (.go [] 0) o) (ho : o.fin) : o = leafO b i :=
  Run.unique h (Run.one rfl) ho (leaf_fin h1 h2)
/-- the stack waits for a value, and at i stands what ends nothing -/
def Waits (b : List UInt8) (st : List Fr) (i : Nat) : Prop := ∀ f r, st = f :: r → (f.d = true → f.has = true) ∧ (f.d = false → byt b i ≠ 101)
theorem waits_nil (b : List UInt8) (i : Nat) : Waits b [] i := fun _ _ e => by cases e
theorem step_waits {b : List UInt8} {st : List Fr} {i : Nat} (hi : i < b.length) (h : Waits b st i) : step b st i = opn b st i := by
  unfold step
  rw [if_neg (by omega)]
  match st, h with
  | [], _ => rfl
  | f :: r, h =>
    obtain ⟨h1, h2⟩ := h f r rfl
    dsimp only
    rw [if_neg (fun e => by rw [h1 e.1] at e; cases e.2), if_neg (fun e => h2 e.1 e.2)]
theorem step_leaf {b : List UInt8} {st : List Fr} {i : Nat} (hi : i ≤ b.length) (h : Waits b st i) (h1 : byt b i ≠ 108) (h2 : byt b i ≠ 100) :
    step b st i = match leafO b i with | .val t j => deliver st t (i + j) | .bad p e => .bad (i + p) e | .go _ _ => .go [] 0 := by
  by_cases hl : i < b.length
  · rw [leaf_eq hl h1 h2, step_waits hl h]
    unfold opn
    rw [if_neg h1, if_neg h2]
    exact scal_drop hi st
  · rw [leaf_end (by omega)]
    unfold step
    rw [if_pos (by omega)]
    show _ = Out.bad (i + 0) 21
    rw [show i + 0 = b.length by omega]
theorem sx_list {b : List UInt8} {st : List Fr} {i : Nat} (hi : i < b.length) (h : Waits b st i) (h1 : byt b i = 108) :
    step b st i = if 32 ≤ st.length then .bad i 24 else .go ({ d := false } :: st) (i + 1) := by
  rw [step_waits hi h]; unfold opn; rw [if_pos h1]
theorem sx_dict {b : List UInt8} {st : List Fr} {i : Nat} (hi : i < b.length) (h : Waits b st i) (h1 : byt b i = 100) :
    step b st i = if 32 ≤ st.length then .bad i 24 else .go ({ d := true } :: st) (i + 1) := by
  rw [step_waits hi h]; unfold opn; rw [if_neg (by rw [h1]; decide), if_pos h1]
/-- a list or a dictionary ends -/
theorem sx_end {b : List UInt8} {f : Fr} {r : List Fr} {i : Nat} (hi : i < b.length) (h : f.d = true → f.has = false) (h1 : byt b i = 101) :
    step b (f :: r) i = deliver r f.close (i + 1) := by
  unfold step
  rw [if_neg (by omega)]
  dsimp only
  cases hd : f.d with
  | true => rw [if_pos ⟨rfl, h hd⟩, if_pos h1]
  | false => rw [if_neg (fun e => by cases e.1), if_pos ⟨rfl, h1⟩]
/-- a key begins -/
theorem sx_key {b : List UInt8} {f : Fr} {r : List Fr} {i : Nat} (hi : i ≤ b.length) (hd : f.d = true) (hh : f.has = false) (h0 : byt b i ≠ 101) (h1 : byt b i ≠ 108) (h2 : byt b i ≠ 100) (h3 : byt b i ≠ 105) :
    step b (f :: r) i = match leafO b i with
      | .val t j => if f.ps ≠ [] ∧ leB t.s (f.ps.getLastD (ByteArray.empty, .no)).1 = true then .bad i 25 else .go ({ f with key := t.s, has := true } :: r) (i + j)
      | .bad p e => .bad (i + p) e | .go _ _ => .go [] 0 := by
  by_cases hl : i < b.length
  · rw [leaf_eq hl h1 h2]
    unfold step
    rw [if_neg (by omega)]
    dsimp only
    rw [if_pos ⟨hd, hh⟩, if_neg h0]
    unfold keyy scal
    rw [bytDrop, Nat.add_zero, if_neg h3]
    have hs := strg_drop hi 0
    rw [Nat.add_zero] at hs
    rw [hs]
    cases dig (byt b i) with
    | false => rfl
    | true =>
      cases strg (b.drop i) 0 <;> rfl
  · rw [leaf_end (by omega)]
    unfold step
    rw [if_pos (by omega)]
    show _ = Out.bad (i + 0) 21
    rw [show i + 0 = b.length by omega]
/-- a key's leaf is a string -/
theorem leaf_key {b : List UInt8} {i : Nat} (h1 : byt b i ≠ 108) (h2 : byt b i ≠ 100) (h3 : byt b i ≠ 105) {t : T} {j : Nat} (h : leafO b i = .val t j) : t = tStr t.s := by
  by_cases hl : i < b.length
  · rw [leaf_eq hl h1 h2] at h
    unfold scal at h
    rw [bytDrop, Nat.add_zero, if_neg h3] at h
    split at h
    · cases hs : strg (b.drop i) 0 with
      | bad p e => rw [hs] at h; cases h
      | ok s j => rw [hs] at h; injection h with h; subst h; rfl
    · cases h
  · rw [leaf_end (by omega)] at h; cases h
end Go.Proofs.YtdlnnnlmlaploaaDoor
