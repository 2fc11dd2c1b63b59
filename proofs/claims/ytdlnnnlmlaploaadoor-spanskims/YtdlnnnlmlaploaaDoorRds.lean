import Derived.Test.YtdlnnnlmlaploaaDoorRdj
namespace Go.Proofs.YtdlnnnlmlaploaaDoor
open Go.RowKit Go.Deep
/-! ### The reference's stack in memory -/
instance : Inhabited Fr := ⟨{ d := false }⟩
/-- a row of values -/
def VRow (B : Nat) (S : Nat → Prop) (w : World) (v : Value) (l : List T) : Prop := ∃ us, w.ownsRow B 60 5 v l.length us ∧ ∀ k, k < l.length → ∃ x y, RV S w (l.getD k .no) x y ∧ ∀ r, r < 5 → us[k * 5 + r]? = (cv (l.getD k .no) x y)[r]?
/-- a row of pairs -/
def PRow (B : Nat) (S : Nat → Prop) (w : World) (v : Value) (l : List (ByteArray × T)) : Prop := ∃ us, w.ownsRow B 84 6 v l.length us ∧ ∀ k, k < l.length → ∃ x y, RV S w (l.getD k (ByteArray.empty, .no)).2 x y ∧ ∀ r, r < 6 → us[k * 6 + r]? = (.string (l.getD k (ByteArray.empty, .no)).1 :: cv (l.getD k (ByteArray.empty, .no)).2 x y)[r]?
/-- a frame's two rows -/
def FRow (B : Nat) (S : Nat → Prop) (w : World) (f : Fr) (L D : Value) : Prop :=
  (f.d = true ∧ L = .slice none 0 0 ∧ f.ls = [] ∧ PRow B S w D f.ps) ∨ (f.d = false ∧ D = .slice none 0 0 ∧ f.ps = [] ∧ f.key = ByteArray.empty ∧ f.has = false ∧ VRow B S w L f.ls)
def rowOf (f : Fr) (L D : Value) : Value := if f.d = true then D else L
/-- the blocks that matter to a row -/
theorem VRow.keep {B : Nat} {S S' : Nat → Prop} {w w' : World} {v : Value} {l : List T} (h : VRow B S w v l) (hz : w.heap.size ≤ w'.heap.size) (hv : ∀ g, v.ownBlock = some g → g < w.heap.size → w'.heap[g]? = w.heap[g]?) (hS : ∀ x, S x → x < w.heap.size → S' x ∧ w'.heap[x]? = w.heap[x]?) : VRow B S' w' v l := by
  obtain ⟨us, h1, h2⟩ := h
  refine ⟨us, ⟨h1.1, ?_⟩, fun k hk => ?_⟩
  · rcases h1.2 with h | ⟨g, cap, cur, q1, q2, q3, q4⟩
    · exact .inl h
    · exact .inr ⟨g, cap, cur, q1, q2, (hv g (by rw [q1]; rfl) (Array.getElem?_eq_some_iff.1 q3).1).trans q3, q4⟩
  · obtain ⟨x, y, q1, q2⟩ := h2 k hk
    exact ⟨x, y, RV.move (fun b hb hl => (hS b hb hl).1) hz (fun b hb hl => (hS b hb hl).2) _ _ _ q1, q2⟩
theorem PRow.keep {B : Nat} {S S' : Nat → Prop} {w w' : World} {v : Value} {l : List (ByteArray × T)} (h : PRow B S w v l) (hz : w.heap.size ≤ w'.heap.size) (hv : ∀ g, v.ownBlock = some g → g < w.heap.size → w'.heap[g]? = w.heap[g]?) (hS : ∀ x, S x → x < w.heap.size → S' x ∧ w'.heap[x]? = w.heap[x]?) : PRow B S' w' v l := by
  obtain ⟨us, h1, h2⟩ := h
  refine ⟨us, ⟨h1.1, ?_⟩, fun k hk => ?_⟩
  · rcases h1.2 with h | ⟨g, cap, cur, q1, q2, q3, q4⟩
    · exact .inl h
    · exact .inr ⟨g, cap, cur, q1, q2, (hv g (by rw [q1]; rfl) (Array.getElem?_eq_some_iff.1 q3).1).trans q3, q4⟩
  · obtain ⟨x, y, q1, q2⟩ := h2 k hk
    exact ⟨x, y, RV.move (fun b hb hl => (hS b hb hl).1) hz (fun b hb hl => (hS b hb hl).2) _ _ _ q1, q2⟩
theorem FRow.keep {B : Nat} {S S' : Nat → Prop} {w w' : World} {f : Fr} {L D : Value} (h : FRow B S w f L D) (hz : w.heap.size ≤ w'.heap.size) (hv : ∀ g, (rowOf f L D).ownBlock = some g → g < w.heap.size → w'.heap[g]? = w.heap[g]?) (hS : ∀ x, S x → x < w.heap.size → S' x ∧ w'.heap[x]? = w.heap[x]?) : FRow B S' w' f L D := by
  unfold rowOf at hv
  rcases h with ⟨h1, h2, h2', h3⟩ | ⟨h1, h2, h2', h2'', h2''', h3⟩
  · rw [if_pos h1] at hv
    exact .inl ⟨h1, h2, h2', h3.keep hz hv hS⟩
  · rw [if_neg (by rw [h1]; decide)] at hv
    exact .inr ⟨h1, h2, h2', h2'', h2''', h3.keep hz hv hS⟩
def kd (f : Fr) : Value := .int .i64 (if f.d = true then 4 else 3)
/-- one frame of the stack, in the row and in its own rows -/
def One (B : Nat) (S : Nat → Prop) (w : World) (sv : Value) (n : Nat) (us : List Value) (L D : Nat → Value) (F : Nat → Fr) (k : Nat) : Prop :=
  (us[k * 5]? = some (kd (F k)) ∧ us[k * 5 + 1]? = some (L k) ∧ us[k * 5 + 2]? = some (D k) ∧ us[k * 5 + 3]? = some (.string (F k).key) ∧ us[k * 5 + 4]? = some (.bool (F k).has)) ∧ FRow B S w (F k) (L k) (D k) ∧
  ∀ g, (rowOf (F k) (L k) (D k)).ownBlock = some g → sv.ownBlock ≠ some g ∧ ¬ S g ∧ g < w.heap.size ∧ ∀ k', k' < n → k' ≠ k → (rowOf (F k') (L k') (D k')).ownBlock ≠ some g
/-- the stack -/
def SIx (B : Nat) (S : Nat → Prop) (w : World) (sv : Value) (fs : List Fr) (us : List Value) (L D : Nat → Value) : Prop :=
  w.ownsRow B 109 5 sv fs.length us ∧ (∀ k, k < fs.length → One B S w sv fs.length us L D (fun k => fs.getD k default) k) ∧ ∀ x, S x → B ≤ x ∧ x < w.heap.size ∧ sv.ownBlock ≠ some x
def SI (B : Nat) (S : Nat → Prop) (w : World) (sv : Value) (fs : List Fr) : Prop := ∃ us L D, SIx B S w sv fs us L D
theorem FRow.low {B : Nat} {S : Nat → Prop} {w : World} {f : Fr} {L D : Value} (h : FRow B S w f L D) {g : Nat} (hg : (rowOf f L D).ownBlock = some g) : B ≤ g ∧ g < w.heap.size := by
  unfold rowOf at hg
  rcases h with ⟨h1, h2, h2', us, h3, _⟩ | ⟨h1, h2, h2', _, _, us, h3, _⟩
  · rw [if_pos h1] at hg; exact own_lt h3 hg
  · rw [if_neg (by rw [h1]; decide)] at hg; exact own_lt h3 hg
theorem SI.keep {B : Nat} {S : Nat → Prop} {w w' : World} {sv : Value} {fs : List Fr} (h : SI B S w sv fs) (hz : w.heap.size ≤ w'.heap.size) (hs : ∀ x, B ≤ x → x < w.heap.size → w'.heap[x]? = w.heap[x]?) : SI B S w' sv fs := by
  obtain ⟨us, L, D, h1, h2, h3⟩ := h
  refine ⟨us, L, D, own_keep h1 hs, fun k hk => ?_, fun x hx => ⟨(h3 x hx).1, Nat.lt_of_lt_of_le (h3 x hx).2.1 hz, (h3 x hx).2.2⟩⟩
  obtain ⟨q1, q2, q3⟩ := h2 k hk
  exact ⟨q1, q2.keep hz (fun g hg hl => hs g (q2.low hg).1 hl) (fun x hx hl => ⟨hx, hs x (h3 x hx).1 hl⟩), fun g hg => ⟨(q3 g hg).1, (q3 g hg).2.1, Nat.lt_of_lt_of_le (q3 g hg).2.2.1 hz, (q3 g hg).2.2.2⟩⟩
theorem SI.nil (B : Nat) (w : World) : SI B (fun _ => False) w (.slice none 0 0) [] := ⟨[], fun _ => .nilIface, fun _ => .nilIface, ⟨rfl, .inl ⟨rfl, rfl⟩⟩, fun _k hk => absurd hk (Nat.not_lt_zero _), fun _x hx => hx.elim⟩
theorem own_set {w : World} {B e s n g i : Nat} {v u : Value} {us : List Value} (h : w.ownsRow B e s v n us) (hg : v.ownBlock = some g) (_hi : i < n * s) : (w.setCell ⟨g, i, none⟩ u).ownsRow B e s v n (us.set i u) := by
  refine ⟨by rw [List.length_set]; exact h.1, ?_⟩
  rcases h.2 with ⟨rfl, _⟩ | ⟨g', cap, cur, rfl, h2, h3, h4, h5, h6, h7⟩
  · cases hg
  · cases hg
    refine .inr ⟨_, cap, cur.setIfInBounds i u, rfl, h2, blk.set (show blk w _ e cur from h3) i u, h4, h5, by simpa using h6, ?_⟩
    rw [← h7]
    simp [List.take_set]
/-- the stack with another frame on top -/
theorem SIx.retop {B : Nat} {S : Nat → Prop} {w w2 : World} {sv : Value} {r : List Fr} {f f' : Fr} {us us2 : List Value} {L D : Nat → Value} {L' D' : Value} (h : SIx B S w sv (r ++ [f]) us L D) (hown2 : w2.ownsRow B 109 5 sv (r.length + 1) us2) (hlow : ∀ j, j < r.length * 5 → us2[j]? = us[j]?)
    (htop : us2[r.length * 5]? = some (kd f') ∧ us2[r.length * 5 + 1]? = some L' ∧ us2[r.length * 5 + 2]? = some D' ∧ us2[r.length * 5 + 3]? = some (.string f'.key) ∧ us2[r.length * 5 + 4]? = some (.bool f'.has)) (hF : FRow B S w2 f' L' D') (hz : w.heap.size ≤ w2.heap.size)
    (hk : ∀ x, B ≤ x → x < w.heap.size → sv.ownBlock ≠ some x → (rowOf f (L r.length) (D r.length)).ownBlock ≠ some x → w2.heap[x]? = w.heap[x]?) (hrow : ∀ g, (rowOf f' L' D').ownBlock = some g → (rowOf f (L r.length) (D r.length)).ownBlock = some g ∨ w.heap.size ≤ g) (hsv : ∀ g, sv.ownBlock = some g → g < w.heap.size) :
    SIx B S w2 sv (r ++ [f']) us2 (upd L r.length L') (upd D r.length D') := by
  obtain ⟨h1, h2, h3⟩ := h
  have hlen : (r ++ [f]).length = r.length + 1 := by simp
  have htf : (r ++ [f]).getD r.length default = f := getD_snoc_eq r f default
  obtain ⟨t1, t2, t3⟩ := h2 r.length (by simp)
  simp only [htf] at t1 t2 t3
  refine ⟨by simpa using hown2, fun k hkl => ?_, fun x hx => ⟨(h3 x hx).1, Nat.lt_of_lt_of_le (h3 x hx).2.1 hz, (h3 x hx).2.2⟩⟩
  have hr' : ∀ k', k' < r.length → rowOf ((r ++ [f']).getD k' default) (upd L r.length L' k') (upd D r.length D' k') = rowOf ((r ++ [f]).getD k' default) (L k') (D k') := fun k' hk' => by
    rw [getD_snoc_lt _ _ _ hk', getD_snoc_lt _ _ _ hk', upd_lt hk', upd_lt hk']
  by_cases hkr : k < r.length
  · obtain ⟨q1, q2, q3⟩ := h2 k (by simp; omega)
    have e1 : (r ++ [f']).getD k default = (r ++ [f]).getD k default := by rw [getD_snoc_lt _ _ _ hkr, getD_snoc_lt _ _ _ hkr]
    have nb : ∀ g, (rowOf ((r ++ [f]).getD k default) (L k) (D k)).ownBlock = some g → g < w.heap.size → w2.heap[g]? = w.heap[g]? := fun g hg hl => hk g (q2.low hg).1 hl (q3 g hg).1 (fun e => by
      have := (q3 g hg).2.2.2 r.length (by simp) (by omega)
      simp only [htf] at this
      exact this e)
    have nS : ∀ x, S x → x < w.heap.size → S x ∧ w2.heap[x]? = w.heap[x]? := fun x hx hl => ⟨hx, hk x (h3 x hx).1 hl (h3 x hx).2.2 (fun e => (t3 x e).2.1 hx)⟩
    refine ⟨?_, ?_, ?_⟩
    · simp only [e1, upd_lt hkr]
      exact ⟨(hlow _ (by omega)).trans q1.1, (hlow _ (by omega)).trans q1.2.1, (hlow _ (by omega)).trans q1.2.2.1, (hlow _ (by omega)).trans q1.2.2.2.1, (hlow _ (by omega)).trans q1.2.2.2.2⟩
    · simp only [e1, upd_lt hkr]
      exact q2.keep hz nb nS
    · intro g hg
      simp only [hr' k hkr] at hg
      obtain ⟨p1, p2, p3, p4⟩ := q3 g hg
      refine ⟨p1, p2, Nat.lt_of_lt_of_le p3 hz, fun k' hk' hne => ?_⟩
      by_cases hk'r : k' < r.length
      · simp only [hr' k' hk'r]; exact p4 k' (by simp; omega) hne
      · obtain rfl : k' = r.length := by simp at hk'; omega
        simp only [getD_snoc_eq, upd_eq]
        intro e
        rcases hrow g e with e' | e'
        · have := p4 r.length (by simp) hne
          simp only [htf] at this
          exact this e'
        · omega
  · obtain rfl : k = r.length := by simp at hkl; omega
    refine ⟨?_, ?_, ?_⟩
    · simp only [getD_snoc_eq, upd_eq]; exact htop
    · simp only [getD_snoc_eq, upd_eq]; exact hF
    · intro g hg
      simp only [getD_snoc_eq, upd_eq] at hg
      have hlt := (hF.low hg).2
      rcases hrow g hg with e' | e'
      · obtain ⟨p1, p2, p3, p4⟩ := t3 g e'
        refine ⟨p1, p2, hlt, fun k' hk' hne => ?_⟩
        have hk'r : k' < r.length := by simp at hk'; omega
        simp only [hr' k' hk'r]; exact p4 k' (by simp; omega) hne
      · refine ⟨fun e => by have := hsv g e; omega, fun hx => by have := (h3 g hx).2.1; omega, hlt, fun k' hk' hne => ?_⟩
        have hk'r : k' < r.length := by simp at hk'; omega
        simp only [hr' k' hk'r]
        intro e
        have := ((h2 k' (by simp; omega)).2.1.low e).2
        omega
theorem SIx.top {B : Nat} {S : Nat → Prop} {w : World} {sv : Value} {r : List Fr} {f : Fr} {us : List Value} {L D : Nat → Value} (h : SIx B S w sv (r ++ [f]) us L D) : ∃ g cap, sv = .slice (some ⟨g, 0, none⟩) (r.length + 1) cap ∧ r.length + 1 ≤ cap ∧ B ≤ g ∧ g < w.heap.size ∧
    (w.cell? ⟨g, r.length * 5, none⟩ = some (kd f) ∧ w.cell? ⟨g, r.length * 5 + 1, none⟩ = some (L r.length) ∧ w.cell? ⟨g, r.length * 5 + 2, none⟩ = some (D r.length) ∧ w.cell? ⟨g, r.length * 5 + 3, none⟩ = some (.string f.key) ∧ w.cell? ⟨g, r.length * 5 + 4, none⟩ = some (.bool f.has)) ∧ (∀ i, w.frozen? ⟨g, i, none⟩ = false) ∧ FRow B S w f (L r.length) (D r.length) := by
  obtain ⟨h1, h2, h3⟩ := h
  obtain ⟨t1, t2, t3⟩ := h2 r.length (by simp)
  simp only [getD_snoc_eq] at t1 t2 t3
  rcases h1.2 with ⟨_, h0⟩ | ⟨g, cap, cur, e1, e2, e3, e4, _⟩
  · simp at h0
  · have hg : sv.ownBlock = some g := by rw [e1]; rfl
    obtain ⟨cap', e5, hc⟩ := own_form h1 hg
    exact ⟨g, cap, by simpa using e1, by simpa using e4, e2, (own_lt h1 hg).2, ⟨hc _ _ t1.1, hc _ _ t1.2.1, hc _ _ t1.2.2.1, hc _ _ t1.2.2.2.1, hc _ _ t1.2.2.2.2⟩, fun i => blk.frozen (show blk w g 109 cur from e3) i, t2⟩
theorem VRow.nil (B : Nat) (S : Nat → Prop) (w : World) : VRow B S w (.slice none 0 0) [] := ⟨[], ⟨rfl, .inl ⟨rfl, rfl⟩⟩, fun _k hk => absurd hk (Nat.not_lt_zero _)⟩
theorem PRow.nil (B : Nat) (S : Nat → Prop) (w : World) : PRow B S w (.slice none 0 0) [] := ⟨[], ⟨rfl, .inl ⟨rfl, rfl⟩⟩, fun _k hk => absurd hk (Nat.not_lt_zero _)⟩
theorem SI.push {B : Nat} {S : Nat → Prop} {w w2 : World} {sv sv' : Value} {fs : List Fr} {us : List Value} {L D : Nat → Value} (dd : Bool) (h : SIx B S w sv fs us L D) (hown2 : w2.ownsRow B 109 5 sv' (fs.length + 1) (us ++ [kd { d := dd }, .slice none 0 0, .slice none 0 0, .string ByteArray.empty, .bool false])) (hg : w.grownBy w2 sv.ownBlock) (hat : At w sv sv') : SI B S w2 sv' (fs ++ [{ d := dd }]) := by
  obtain ⟨h1, h2, h3⟩ := h
  have hul : us.length = fs.length * 5 := h1.1
  have hsv : ∀ g, g < w.heap.size → sv.ownBlock ≠ some g → sv'.ownBlock ≠ some g := fun g hl hn e => by
    rcases hat with h | ⟨g', h, h'⟩
    · exact hn (h ▸ e)
    · rw [h] at e; cases e; omega
  refine ⟨_, upd L fs.length (.slice none 0 0), upd D fs.length (.slice none 0 0), by simpa using hown2, fun k hkl => ?_, fun x hx => ⟨(h3 x hx).1, Nat.lt_of_lt_of_le (h3 x hx).2.1 hg.size, hsv x (h3 x hx).2.1 (h3 x hx).2.2⟩⟩
  have hr' : ∀ k', k' < fs.length → rowOf ((fs ++ [({ d := dd } : Fr)]).getD k' default) (upd L fs.length (.slice none 0 0) k') (upd D fs.length (.slice none 0 0) k') = rowOf (fs.getD k' default) (L k') (D k') := fun k' hk' => by
    rw [getD_snoc_lt _ _ _ hk', upd_lt hk', upd_lt hk']
  have ht : (rowOf ({ d := dd } : Fr) (.slice none 0 0) (.slice none 0 0)).ownBlock = none := by unfold rowOf; split <;> rfl
  by_cases hkr : k < fs.length
  · obtain ⟨q1, q2, q3⟩ := h2 k hkr
    have hm : ∀ j v, j < fs.length * 5 → us[j]? = some v → (us ++ [kd { d := dd }, .slice none 0 0, .slice none 0 0, .string ByteArray.empty, .bool false])[j]? = some v := fun j v hj e => by rw [List.getElem?_append_left (by omega)]; exact e
    refine ⟨?_, ?_, ?_⟩
    · simp only [getD_snoc_lt _ _ _ hkr, upd_lt hkr]
      exact ⟨hm _ _ (by omega) q1.1, hm _ _ (by omega) q1.2.1, hm _ _ (by omega) q1.2.2.1, hm _ _ (by omega) q1.2.2.2.1, hm _ _ (by omega) q1.2.2.2.2⟩
    · simp only [getD_snoc_lt _ _ _ hkr, upd_lt hkr]
      exact q2.keep hg.size (fun g hg' hl => hg.block g hl (fun e => (q3 g hg').1 e.symm)) (fun x hx hl => ⟨hx, hg.block x hl (fun e => (h3 x hx).2.2 e.symm)⟩)
    · intro g hg'
      simp only [hr' k hkr] at hg'
      obtain ⟨p1, p2, p3, p4⟩ := q3 g hg'
      refine ⟨hsv g p3 p1, p2, Nat.lt_of_lt_of_le p3 hg.size, fun k' hk' hne => ?_⟩
      by_cases hk'r : k' < fs.length
      · simp only [hr' k' hk'r]; exact p4 k' hk'r hne
      · obtain rfl : k' = fs.length := by simp at hk'; omega
        simp only [getD_snoc_eq, upd_eq, ht]
        intro e; cases e
  · obtain rfl : k = fs.length := by simp at hkl; omega
    refine ⟨?_, ?_, ?_⟩
    · simp only [getD_snoc_eq, upd_eq]
      have hm : ∀ j, j < 5 → (us ++ [kd { d := dd }, .slice none 0 0, .slice none 0 0, .string ByteArray.empty, .bool false])[fs.length * 5 + j]? = [kd { d := dd }, .slice none 0 0, .slice none 0 0, .string ByteArray.empty, .bool false][j]? := fun j hj => by
        rw [List.getElem?_append_right (by omega), hul, Nat.add_sub_cancel_left]
      exact ⟨hm 0 (by omega), hm 1 (by omega), hm 2 (by omega), hm 3 (by omega), hm 4 (by omega)⟩
    · simp only [getD_snoc_eq, upd_eq]
      cases dd with
      | true => exact .inl ⟨rfl, rfl, rfl, PRow.nil B S w2⟩
      | false => exact .inr ⟨rfl, rfl, rfl, rfl, rfl, VRow.nil B S w2⟩
    · intro g hg'
      simp only [getD_snoc_eq, upd_eq, ht] at hg'
      cases hg'
theorem VRow.rl {B : Nat} {S S' : Nat → Prop} {w : World} {v : Value} {l : List T} (h : VRow B S w v l) (hS : ∀ x, S x → S' x) (hv : ∀ g, v.ownBlock = some g → S' g) : RL S' w l.length (fun i => l.getD i .no) v := by
  obtain ⟨us, h1, h2⟩ := h
  rcases h1.2 with ⟨rfl, h0⟩ | ⟨g, cap, cur, rfl, q2, q3, _⟩
  · exact ⟨none, 0, by rw [h0], .inl h0⟩
  · obtain ⟨cap', e5, hc⟩ := own_form h1 (g := g) rfl
    refine ⟨_, cap, rfl, .inr ⟨g, 0, rfl, hv g rfl, (own_lt h1 (g := g) rfl).2, fun i hi => ?_⟩⟩
    obtain ⟨x, y, g1, g2⟩ := h2 i hi
    rw [Nat.zero_add]
    exact ⟨x, y, RV.keep hS (Nat.le_refl _) (fun _ _ _ => rfl) _ _ _ g1, hc _ _ (g2 0 (by omega)), hc _ _ (g2 1 (by omega)), hc _ _ (g2 2 (by omega)), hc _ _ (g2 3 (by omega)), hc _ _ (g2 4 (by omega))⟩
theorem PRow.rd {B : Nat} {S S' : Nat → Prop} {w : World} {v : Value} {l : List (ByteArray × T)} (h : PRow B S w v l) (hS : ∀ x, S x → S' x) (hv : ∀ g, v.ownBlock = some g → S' g) : RD S' w l.length (fun i => (l.getD i (ByteArray.empty, .no)).1) (fun i => (l.getD i (ByteArray.empty, .no)).2) v := by
  obtain ⟨us, h1, h2⟩ := h
  rcases h1.2 with ⟨rfl, h0⟩ | ⟨g, cap, cur, rfl, q2, q3, _⟩
  · exact ⟨none, 0, by rw [h0], .inl h0⟩
  · obtain ⟨cap', e5, hc⟩ := own_form h1 (g := g) rfl
    refine ⟨_, cap, rfl, .inr ⟨g, 0, rfl, hv g rfl, (own_lt h1 (g := g) rfl).2, fun i hi => ?_⟩⟩
    obtain ⟨x, y, g1, g2⟩ := h2 i hi
    rw [Nat.zero_add]
    exact ⟨x, y, RV.keep hS (Nat.le_refl _) (fun _ _ _ => rfl) _ _ _ g1, hc _ _ (g2 0 (by omega)), hc _ _ (g2 1 (by omega)), hc _ _ (g2 2 (by omega)), hc _ _ (g2 3 (by omega)), hc _ _ (g2 4 (by omega)), hc _ _ (g2 5 (by omega))⟩
theorem SIx.pop {B : Nat} {S : Nat → Prop} {w : World} {g cap : Nat} {r : List Fr} {f : Fr} {us : List Value} {L D : Nat → Value} (h : SIx B S w (.slice (some ⟨g, 0, none⟩) (r.length + 1) cap) (r ++ [f]) us L D) :
    ∃ S', SI B S' w (.slice (some ⟨g, 0, none⟩) r.length cap) r ∧ (f.d = true → L r.length = .slice none 0 0 ∧ RV S' w (tDict f.ps) (.slice none 0 0) (D r.length)) ∧ (f.d = false → D r.length = .slice none 0 0 ∧ RV S' w (tList f.ls) (L r.length) (.slice none 0 0)) := by
  obtain ⟨h1, h2, h3⟩ := h
  obtain ⟨t1, t2, t3⟩ := h2 r.length (by simp)
  simp only [getD_snoc_eq] at t1 t2 t3
  refine ⟨fun x => S x ∨ (rowOf f (L r.length) (D r.length)).ownBlock = some x, ⟨us.take (r.length * 5), L, D, ?_, fun k hk => ?_, fun x hx => ?_⟩, fun hd => ?_, fun hd => ?_⟩
  · have hul := h1.1
    refine ⟨by rw [List.length_take, hul]; simp, ?_⟩
    rcases h1.2 with ⟨e, _⟩ | ⟨g', cap', cur, e1, q2, q3, q4, q5, q6, q7⟩
    · cases e
    · rw [show (r ++ [f]).length = r.length + 1 from by simp] at e1 q4 q7
      cases e1
      refine .inr ⟨_, _, cur, rfl, q2, q3, by omega, q5, q6, ?_⟩
      rw [← q7, List.take_take, Nat.min_eq_left (by omega)]
  · obtain ⟨q1, q2, q3⟩ := h2 k (by simp; omega)
    simp only [getD_snoc_lt _ _ _ hk] at q1 q2 q3
    have hm : ∀ j v, j < r.length * 5 → us[j]? = some v → (us.take (r.length * 5))[j]? = some v := fun j v hj e => by rw [List.getElem?_take_of_lt hj]; exact e
    refine ⟨⟨hm _ _ (by omega) q1.1, hm _ _ (by omega) q1.2.1, hm _ _ (by omega) q1.2.2.1, hm _ _ (by omega) q1.2.2.2.1, hm _ _ (by omega) q1.2.2.2.2⟩, q2.keep (Nat.le_refl _) (fun _ _ _ => rfl) (fun x hx _ => ⟨.inl hx, rfl⟩), fun g' hg' => ?_⟩
    obtain ⟨p1, p2, p3, p4⟩ := q3 g' hg'
    refine ⟨p1, fun hx => ?_, p3, fun k' hk' hne => ?_⟩
    · rcases hx with hx | hx
      · exact p2 hx
      · have := p4 r.length (by simp) (by omega)
        simp only [getD_snoc_eq] at this
        exact this hx
    · have := p4 k' (by simp; omega) hne
      simp only [getD_snoc_lt _ _ _ hk'] at this
      exact this
  · rcases hx with hx | hx
    · exact h3 x hx
    · exact ⟨(t2.low hx).1, (t2.low hx).2, (t3 x hx).1⟩
  · rcases t2 with ⟨e1, e2, e2', e3⟩ | ⟨e1, _⟩
    · exact ⟨e2, ⟨_, _, rfl, .inl rfl⟩, e3.rd (fun x hx => .inl hx) (fun g' hg' => .inr (by unfold rowOf; rw [if_pos hd]; exact hg'))⟩
    · rw [hd] at e1; cases e1
  · rcases t2 with ⟨e1, _⟩ | ⟨e1, e2, e2', _, _, e3⟩
    · rw [hd] at e1; cases e1
    · exact ⟨e2, e3.rl (fun x hx => .inl hx) (fun g' hg' => .inr (by unfold rowOf; rw [if_neg (by rw [hd]; decide)]; exact hg')), ⟨_, _, rfl, .inl rfl⟩⟩
theorem set_ne {us : List Value} {i j : Nat} {v : Value} (h : i ≠ j) : (us.set i v)[j]? = us[j]? := List.getElem?_set_ne h
theorem set_at {us : List Value} {i : Nat} {v : Value} (h : i < us.length) : (us.set i v)[i]? = some v := by simp [h]
theorem SIx.keyed {B : Nat} {S : Nat → Prop} {w : World} {g cap : Nat} {r : List Fr} {f : Fr} {us : List Value} {L D : Nat → Value} (h : SIx B S w (.slice (some ⟨g, 0, none⟩) (r.length + 1) cap) (r ++ [f]) us L D) (hd : f.d = true) (s : ByteArray) :
    SI B S ((w.setCell ⟨g, r.length * 5 + 3, none⟩ (.string s)).setCell ⟨g, r.length * 5 + 4, none⟩ (.bool true)) (.slice (some ⟨g, 0, none⟩) (r.length + 1) cap) (r ++ [{ f with key := s, has := true }]) := by
  have h0 := h
  obtain ⟨h1, h2, h3⟩ := h
  obtain ⟨t1, t2, t3⟩ := h2 r.length (by simp)
  simp only [getD_snoc_eq] at t1 t2 t3
  rw [show (r ++ [f]).length = r.length + 1 from by simp] at h1
  have hul : us.length = (r.length + 1) * 5 := h1.1
  have o2 := own_set (i := r.length * 5 + 4) (u := .bool true) (own_set (i := r.length * 5 + 3) (u := .string s) h1 (g := g) rfl (by omega)) (g := g) rfl (by omega)
  have hkeep : ∀ x, x ≠ g → ((w.setCell ⟨g, r.length * 5 + 3, none⟩ (.string s)).setCell ⟨g, r.length * 5 + 4, none⟩ (.bool true)).heap[x]? = w.heap[x]? := fun x hx => by rw [Below.heap_setCell _ _ _ _ hx, Below.heap_setCell _ _ _ _ hx]
  have hz : w.heap.size ≤ ((w.setCell ⟨g, r.length * 5 + 3, none⟩ (.string s)).setCell ⟨g, r.length * 5 + 4, none⟩ (.bool true)).heap.size := by simp [World.setCell]
  refine ⟨_, _, _, SIx.retop (L' := L r.length) (D' := D r.length) h0 o2 (fun j hj => by rw [set_ne (by omega), set_ne (by omega)]) ⟨?_, ?_, ?_, ?_, ?_⟩ ?_ hz (fun x _ _ hx _ => hkeep x (fun e => hx (by rw [e]; rfl))) (fun g' hg' => ?_) (fun g' hg' => (own_lt h1 hg').2)⟩
  · rw [set_ne (by omega), set_ne (by omega)]; exact t1.1
  · rw [set_ne (by omega), set_ne (by omega)]; exact t1.2.1
  · rw [set_ne (by omega), set_ne (by omega)]; exact t1.2.2.1
  · rw [set_ne (by omega), set_at (by omega)]
  · rw [set_at (by rw [List.length_set]; omega)]
  · have hF : FRow B S ((w.setCell ⟨g, r.length * 5 + 3, none⟩ (.string s)).setCell ⟨g, r.length * 5 + 4, none⟩ (.bool true)) f (L r.length) (D r.length) := t2.keep hz (fun g' hg' _ => hkeep g' (fun e => (t3 g' hg').1 (by rw [e]; rfl))) (fun x hx _ => ⟨hx, hkeep x (fun e => (h3 x hx).2.2 (by rw [e]; rfl))⟩)
    rcases hF with ⟨e1, e2, e3, e4⟩ | ⟨e1, _⟩
    · exact .inl ⟨e1, e2, e3, e4⟩
    · rw [hd] at e1; cases e1
  · exact .inl hg'
theorem SIx.joined {B : Nat} {S : Nat → Prop} {w w1 : World} {g cap : Nat} {r : List Fr} {f f' : Fr} {us : List Value} {L D : Nat → Value} {L' D' : Value} (h : SIx B S w (.slice (some ⟨g, 0, none⟩) (r.length + 1) cap) (r ++ [f]) us L D) (hg : w.grownBy w1 (rowOf f (L r.length) (D r.length)).ownBlock) (hF : FRow B S w1 f' L' D') (hat : At w (rowOf f (L r.length) (D r.length)) (rowOf f' L' D')) :
    SI B S (((((w1.setCell ⟨g, r.length * 5, none⟩ (kd f')).setCell ⟨g, r.length * 5 + 1, none⟩ L').setCell ⟨g, r.length * 5 + 2, none⟩ D').setCell ⟨g, r.length * 5 + 3, none⟩ (.string f'.key)).setCell ⟨g, r.length * 5 + 4, none⟩ (.bool f'.has)) (.slice (some ⟨g, 0, none⟩) (r.length + 1) cap) (r ++ [f']) := by
  have h0 := h
  obtain ⟨h1, h2, h3⟩ := h
  obtain ⟨t1, t2, t3⟩ := h2 r.length (by simp)
  simp only [getD_snoc_eq] at t1 t2 t3
  rw [show (r ++ [f]).length = r.length + 1 from by simp] at h1
  have hul : us.length = (r.length + 1) * 5 := h1.1
  have hgl := (own_lt h1 (g := g) rfl).2
  have hgn : (rowOf f (L r.length) (D r.length)).ownBlock ≠ some g := fun e => (t3 g e).1 rfl
  have h1' : w1.ownsRow B 109 5 (.slice (some ⟨g, 0, none⟩) (r.length + 1) cap) (r.length + 1) us := by
    refine ⟨h1.1, ?_⟩
    rcases h1.2 with h | ⟨g', cap', cur, q1, q2, q3, q4⟩
    · exact .inl h
    · cases q1
      exact .inr ⟨_, _, cur, rfl, q2, (hg.block _ hgl (fun e => hgn e.symm)).trans q3, q4⟩
  have o2 := own_set (i := r.length * 5 + 4) (u := .bool f'.has) (own_set (i := r.length * 5 + 3) (u := .string f'.key) (own_set (i := r.length * 5 + 2) (u := D') (own_set (i := r.length * 5 + 1) (u := L') (own_set (i := r.length * 5) (u := kd f') h1' (g := g) rfl (by omega)) (g := g) rfl (by omega)) (g := g) rfl (by omega)) (g := g) rfl (by omega)) (g := g) rfl (by omega)
  have hkeep : ∀ x, x ≠ g → (((((w1.setCell ⟨g, r.length * 5, none⟩ (kd f')).setCell ⟨g, r.length * 5 + 1, none⟩ L').setCell ⟨g, r.length * 5 + 2, none⟩ D').setCell ⟨g, r.length * 5 + 3, none⟩ (.string f'.key)).setCell ⟨g, r.length * 5 + 4, none⟩ (.bool f'.has)).heap[x]? = w1.heap[x]? := fun x hx => by
    rw [Below.heap_setCell _ _ _ _ hx, Below.heap_setCell _ _ _ _ hx, Below.heap_setCell _ _ _ _ hx, Below.heap_setCell _ _ _ _ hx, Below.heap_setCell _ _ _ _ hx]
  have hz : w1.heap.size ≤ (((((w1.setCell ⟨g, r.length * 5, none⟩ (kd f')).setCell ⟨g, r.length * 5 + 1, none⟩ L').setCell ⟨g, r.length * 5 + 2, none⟩ D').setCell ⟨g, r.length * 5 + 3, none⟩ (.string f'.key)).setCell ⟨g, r.length * 5 + 4, none⟩ (.bool f'.has)).heap.size := by simp [World.setCell]
  have hrow : ∀ g', (rowOf f' L' D').ownBlock = some g' → (rowOf f (L r.length) (D r.length)).ownBlock = some g' ∨ w.heap.size ≤ g' := fun g' hg' => by
    rcases hat with h | ⟨g2, h, h'⟩
    · exact .inl (h ▸ hg')
    · rw [h] at hg'; cases hg'; exact .inr h'
  refine ⟨_, _, _, SIx.retop (L' := L') (D' := D') h0 o2 (fun j hj => by rw [set_ne (by omega), set_ne (by omega), set_ne (by omega), set_ne (by omega), set_ne (by omega)]) ⟨?_, ?_, ?_, ?_, ?_⟩ ?_ (Nat.le_trans hg.size hz) (fun x _ hl hx hx2 => (hkeep x (fun e => hx (by rw [e]; rfl))).trans (hg.block x hl (fun e => hx2 e.symm))) hrow (fun g' hg' => (own_lt h1 hg').2)⟩
  · rw [set_ne (by omega), set_ne (by omega), set_ne (by omega), set_ne (by omega), set_at (by omega)]
  · rw [set_ne (by omega), set_ne (by omega), set_ne (by omega), set_at (by rw [List.length_set]; omega)]
  · rw [set_ne (by omega), set_ne (by omega), set_at (by rw [List.length_set, List.length_set]; omega)]
  · rw [set_ne (by omega), set_at (by rw [List.length_set, List.length_set, List.length_set]; omega)]
  · rw [set_at (by rw [List.length_set, List.length_set, List.length_set, List.length_set]; omega)]
  · refine hF.keep hz (fun g' hg' _ => hkeep g' (fun e => ?_)) (fun x hx _ => ⟨hx, hkeep x (fun e => (h3 x hx).2.2 (by rw [e]; rfl))⟩)
    subst e
    rcases hrow _ hg' with h | h
    · exact hgn h
    · omega
theorem VRow.snoc {B : Nat} {S : Nat → Prop} {w w1 : World} {v v' : Value} {l : List T} {us : List Value} {t : T} {x y : Value} (h2 : ∀ k, k < l.length → ∃ x y, RV S w (l.getD k .no) x y ∧ ∀ r, r < 5 → us[k * 5 + r]? = (cv (l.getD k .no) x y)[r]?) (hl : us.length = l.length * 5) (hg : w.grownBy w1 v.ownBlock)
    (hS : ∀ x, S x → x < w.heap.size → v.ownBlock ≠ some x) (h3 : w1.ownsRow B 60 5 v' (l.length + 1) (us ++ [.int .i64 t.k, .int .i64 t.n, .string t.s, x, y])) (hrv : RV S w t x y) : VRow B S w1 v' (l ++ [t]) := by
  have mv : ∀ t x y, RV S w t x y → RV S w1 t x y := RV.keep (fun _ h => h) hg.size (fun b hb hl => hg.block b hl (fun e => hS b hb hl e.symm))
  refine ⟨_, by simpa using h3, fun k hk => ?_⟩
  by_cases e : k < l.length
  · obtain ⟨x', y', q1, q2⟩ := h2 k e
    rw [getD_snoc_lt _ _ _ e]
    exact ⟨x', y', mv _ _ _ q1, fun r hr => by rw [List.getElem?_append_left (by omega)]; exact q2 r hr⟩
  · obtain rfl : k = l.length := by simp at hk; omega
    rw [getD_snoc_eq]
    refine ⟨x, y, mv _ _ _ hrv, fun r hr => ?_⟩
    rw [List.getElem?_append_right (by omega), hl, Nat.add_sub_cancel_left]
    rfl
theorem PRow.snoc {B : Nat} {S : Nat → Prop} {w w1 : World} {v v' : Value} {l : List (ByteArray × T)} {us : List Value} {t : T} {key : ByteArray} {x y : Value} (h2 : ∀ k, k < l.length → ∃ x y, RV S w (l.getD k (ByteArray.empty, .no)).2 x y ∧ ∀ r, r < 6 → us[k * 6 + r]? = (.string (l.getD k (ByteArray.empty, .no)).1 :: cv (l.getD k (ByteArray.empty, .no)).2 x y)[r]?) (hl : us.length = l.length * 6) (hg : w.grownBy w1 v.ownBlock)
    (hS : ∀ x, S x → x < w.heap.size → v.ownBlock ≠ some x) (h3 : w1.ownsRow B 84 6 v' (l.length + 1) (us ++ [.string key, .int .i64 t.k, .int .i64 t.n, .string t.s, x, y])) (hrv : RV S w t x y) : PRow B S w1 v' (l ++ [(key, t)]) := by
  have mv : ∀ t x y, RV S w t x y → RV S w1 t x y := RV.keep (fun _ h => h) hg.size (fun b hb hl => hg.block b hl (fun e => hS b hb hl e.symm))
  refine ⟨_, by simpa using h3, fun k hk => ?_⟩
  by_cases e : k < l.length
  · obtain ⟨x', y', q1, q2⟩ := h2 k e
    rw [getD_snoc_lt _ _ _ e]
    exact ⟨x', y', mv _ _ _ q1, fun r hr => by rw [List.getElem?_append_left (by omega)]; exact q2 r hr⟩
  · obtain rfl : k = l.length := by simp at hk; omega
    rw [getD_snoc_eq]
    refine ⟨x, y, mv _ _ _ hrv, fun r hr => ?_⟩
    rw [List.getElem?_append_right (by omega), hl, Nat.add_sub_cancel_left]
    rfl
end Go.Proofs.YtdlnnnlmlaploaaDoor
