import Derived.Test.YtpembmfpgolniaaDoorFc
import Derived.Shelf.Abstract
namespace Go.Proofs.YtpembmfpgolniaaDoor
open Go.RowKit
/-- a function without anything captured -/
abbrev fnv (f : Nat) : Value := .func (.func f) #[] #[]
/-- a function with what it captured -/
abbrev clo (f : Nat) (c : Array Value) : Value := .func (.func f) #[] c
def numVs (p q s : Nat) : List Value := [fnv 59, clo 60 #[ptr p], clo 62 #[ptr p], clo 64 #[ptr p, ptr q, ptr s], clo 65 #[ptr p]]
/-- the row of a number: f tells where it lies, it is from lo to hi -/
def NUM (w : World) (f : Nat) (lo hi : Int) (vs : List Value) : Prop :=
  ∃ p q s, vs = numVs p q s ∧ w.heap[p]? = some (.cells #[fnv f] 85 (0, 0)) ∧ w.heap[q]? = some (.cells #[.int .i64 lo] 2 (0, 0)) ∧ w.heap[s]? = some (.cells #[.int .i64 hi] 2 (0, 0))
/-- the row of field c -/
def FLD (w : World) (c : Nat) (vs : List Value) : Prop :=
  match c with
  | 1 => vs = [fnv 49, fnv 50, fnv 51, fnv 52, fnv 53]
  | 2 => vs = [fnv 54, fnv 55, fnv 56, fnv 57, fnv 58]
  | 3 => NUM w 34 0 4294967295 vs
  | 4 => NUM w 35 0 4294967295 vs
  | 5 => NUM w 36 0 4294967295 vs
  | 6 => NUM w 37 1 16384 vs
  | 7 => vs = [fnv 66, fnv 67, fnv 68, fnv 52, fnv 69]
  | 8 => NUM w 39 0 4294967295 vs
  | 9 => NUM w 40 0 4294967295 vs
  | 10 => vs = [fnv 70, fnv 71, fnv 72, fnv 52, fnv 73]
  | 11 => vs = [fnv 74, fnv 75, fnv 76, fnv 52, fnv 77]
  | _ => False
theorem NUM.keep {w w' : World} {cb f : Nat} {lo hi : Int} {vs : List Value} (h : NUM w f lo hi vs) (hb : Besides cb w w') {cs : Array Value} {t : TypeId} (hc : w.heap[cb]? = some (.cells cs t (0, 0))) (ht : t ≠ 85 ∧ t ≠ 2) : NUM w' f lo hi vs := by
  obtain ⟨p, q, s, rfl, hp, hq, hs⟩ := h
  have key : ∀ (k : Nat) (x : Array Value) (u : TypeId), w.heap[k]? = some (.cells x u (0, 0)) → t ≠ u → w'.heap[k]? = some (.cells x u (0, 0)) := by
    intro k x u hk hu
    rw [← hk]
    refine hb.block k (Array.getElem?_eq_some_iff.1 hk).1 ?_
    rintro rfl
    rw [hc] at hk
    simp at hk
    exact hu hk.2
  exact ⟨p, q, s, rfl, key _ _ _ hp ht.1, key _ _ _ hq ht.2, key _ _ _ hs ht.2⟩
theorem NUM.below {w w' : World} {f : Nat} {lo hi : Int} {vs : List Value} (h : NUM w f lo hi vs) (hb : Below w.heap.size w w') : NUM w' f lo hi vs := by
  obtain ⟨p, q, s, rfl, hp, hq, hs⟩ := h
  exact ⟨p, q, s, rfl, (hb.block _ (Array.getElem?_eq_some_iff.1 hp).1).trans hp, (hb.block _ (Array.getElem?_eq_some_iff.1 hq).1).trans hq, (hb.block _ (Array.getElem?_eq_some_iff.1 hs).1).trans hs⟩
theorem FLD.below {w w' : World} {c : Nat} {vs : List Value} (h : FLD w c vs) (hb : Below w.heap.size w w') : FLD w' c vs := by
  unfold FLD at *
  split at h
  all_goals first | exact h | exact NUM.below h hb | exact absurd h id
theorem FLD.keep {w w' : World} {cb c : Nat} {vs : List Value} (h : FLD w c vs) (hb : Besides cb w w') {cs : Array Value} {t : TypeId} (hc : w.heap[cb]? = some (.cells cs t (0, 0))) (ht : t ≠ 85 ∧ t ≠ 2) : FLD w' c vs := by
  unfold FLD at *
  split at h
  all_goals first | exact h | exact NUM.keep h hb hc ht | exact absurd h id
theorem FLD.len {w : World} {c : Nat} {vs : List Value} (h : FLD w c vs) : ∃ v0 v1 v2 v3 v4, vs = [v0, v1, v2, v3, v4] := by
  unfold FLD at h
  split at h
  all_goals first | (subst h; exact ⟨_, _, _, _, _, rfl⟩) | (obtain ⟨p, q, s, rfl, _⟩ := h; exact ⟨_, _, _, _, _, rfl⟩) | exact absurd h id
theorem info_field : (Tryd.prog.info? 64).map (·.size) = some 5 := by kernel_rfl
theorem results_field {fn : Func} {p : Tmp} (h : fn.results = #[.cell p 64]) (tmps : Array Value) (w : World) (g : Nat) (cs : Array Value)
    (hp : tmps.getD p undef = .pointer (some ⟨g, 0, none⟩)) (hg : w.heap[g]? = some (.cells cs 64 (0, 0))) (hs : cs.size = 5) : (results fn tmps).run Tryd.prog w = .ok (.agg cs) w := by
  have hp' : tmps[p]?.getD undef = .pointer (some ⟨g, 0, none⟩) := by simpa using hp
  have hi : (Tryd.prog.info? 64).map (·.size) = some cs.size := by rw [hs]; exact info_field
  simp [results, h, hp', asAddr, run_loadVar_row w g 64 64 cs (0, 0) _ hg Tryd.underlying64 rfl hi]
abbrev nil5 : Array Value := #[.nilFunc, .nilFunc, .nilFunc, .nilFunc, .nilFunc]
theorem heapLast (w : World) (o : Obj) {g : Nat} (hg : g = w.heap.size) : (w.alloc o).heap[g]? = some o := by subst hg; exact heapNew w o
theorem kindFieldT (w : World) : Calls Tryd.prog 31 #[] w fun e w' => e = .returned (.agg #[fnv 49, fnv 50, fnv 51, fnv 52, fnv 53]) ∧ Below w.heap.size w w' := by
  have hg := heapNew w (.cells nil5 64)
  go_enter Tryd.func31, Tryd.ntmps31
  go_wp2_with (refine wpList_store_row rfl 64 _ _ rfl w.heap.size #[fnv 49, fnv 50, fnv 51, fnv 52, fnv 53] rfl rfl 64 nil5 hg info_field rfl (by simp [Value.oneCell']) ?_)
  exact bodyPost_ret (results_field Tryd.results31 _ _ w.heap.size _ rfl (heapSetRow _ _ _ _ _ hg) rfl) rfl ⟨rfl, belowSetRow ((Below.refl _ _).alloc (Nat.le_refl _) _) (Nat.le_refl _) _⟩
theorem otherFieldT (w : World) : Calls Tryd.prog 32 #[] w fun e w' => e = .returned (.agg #[fnv 54, fnv 55, fnv 56, fnv 57, fnv 58]) ∧ Below w.heap.size w w' := by
  have hg := heapNew w (.cells nil5 64)
  go_enter Tryd.func32, Tryd.ntmps32
  go_wp2_with (refine wpList_store_row rfl 64 _ _ rfl w.heap.size #[fnv 54, fnv 55, fnv 56, fnv 57, fnv 58] rfl rfl 64 nil5 hg info_field rfl (by simp [Value.oneCell']) ?_)
  exact bodyPost_ret (results_field Tryd.results32 _ _ w.heap.size _ rfl (heapSetRow _ _ _ _ _ hg) rfl) rfl ⟨rfl, belowSetRow ((Below.refl _ _).alloc (Nat.le_refl _) _) (Nat.le_refl _) _⟩
theorem rootFieldT (w : World) : Calls Tryd.prog 38 #[] w fun e w' => e = .returned (.agg #[fnv 66, fnv 67, fnv 68, fnv 52, fnv 69]) ∧ Below w.heap.size w w' := by
  have hg := heapNew w (.cells nil5 64)
  go_enter Tryd.func38, Tryd.ntmps38
  go_wp2_with (refine wpList_store_row rfl 64 _ _ rfl w.heap.size #[fnv 66, fnv 67, fnv 68, fnv 52, fnv 69] rfl rfl 64 nil5 hg info_field rfl (by simp [Value.oneCell']) ?_)
  exact bodyPost_ret (results_field Tryd.results38 _ _ w.heap.size _ rfl (heapSetRow _ _ _ _ _ hg) rfl) rfl ⟨rfl, belowSetRow ((Below.refl _ _).alloc (Nat.le_refl _) _) (Nat.le_refl _) _⟩
theorem dataFieldT (w : World) : Calls Tryd.prog 41 #[] w fun e w' => e = .returned (.agg #[fnv 70, fnv 71, fnv 72, fnv 52, fnv 73]) ∧ Below w.heap.size w w' := by
  have hg := heapNew w (.cells nil5 64)
  go_enter Tryd.func41, Tryd.ntmps41
  go_wp2_with (refine wpList_store_row rfl 64 _ _ rfl w.heap.size #[fnv 70, fnv 71, fnv 72, fnv 52, fnv 73] rfl rfl 64 nil5 hg info_field rfl (by simp [Value.oneCell']) ?_)
  exact bodyPost_ret (results_field Tryd.results41 _ _ w.heap.size _ rfl (heapSetRow _ _ _ _ _ hg) rfl) rfl ⟨rfl, belowSetRow ((Below.refl _ _).alloc (Nat.le_refl _) _) (Nat.le_refl _) _⟩
theorem hashesFieldT (w : World) : Calls Tryd.prog 42 #[] w fun e w' => e = .returned (.agg #[fnv 74, fnv 75, fnv 76, fnv 52, fnv 77]) ∧ Below w.heap.size w w' := by
  have hg := heapNew w (.cells nil5 64)
  go_enter Tryd.func42, Tryd.ntmps42
  go_wp2_with (refine wpList_store_row rfl 64 _ _ rfl w.heap.size #[fnv 74, fnv 75, fnv 76, fnv 52, fnv 77] rfl rfl 64 nil5 hg info_field rfl (by simp [Value.oneCell']) ?_)
  exact bodyPost_ret (results_field Tryd.results42 _ _ w.heap.size _ rfl (heapSetRow _ _ _ _ _ hg) rfl) rfl ⟨rfl, belowSetRow ((Below.refl _ _).alloc (Nat.le_refl _) _) (Nat.le_refl _) _⟩
theorem numberFieldT (w : World) (f : Nat) (lo hi : Int) : Calls Tryd.prog 33 #[fnv f, .int .i64 lo, .int .i64 hi] w fun e w' => ∃ p q s, e = .returned (.agg (numVs p q s).toArray) ∧ NUM w' f lo hi (numVs p q s) ∧ Below w.heap.size w w' := by
  let w1 := w.alloc (.cells #[fnv f] 85)
  let w2 := w1.alloc (.cells #[.int .i64 lo] 2)
  let w3 := w2.alloc (.cells #[.int .i64 hi] 2)
  let w4 := w3.alloc (.cells nil5 64)
  have hmf : ∀ (fn : Fn) (first cap : Array Value) (w : World), (Instr.makeFunc fn first cap).run Tryd.prog w = .ok (.func fn first cap) w := fun _ _ _ _ => rfl
  have hg : w4.heap[w.heap.size + 3]? = some (.cells nil5 64 (0, 0)) := by
    exact heapLast w3 _ (by simp [w3, w2, w1] <;> omega)
  have hp : w4.heap[w.heap.size]? = some (.cells #[fnv f] 85 (0, 0)) := by
    rw [heapOld w3 _ _ (by simp [w3, w2, w1] <;> omega), heapOld w2 _ _ (by simp [w2, w1] <;> omega), heapOld w1 _ _ (by simp [w1] <;> omega), heapNew]
  have hq : w4.heap[w.heap.size + 1]? = some (.cells #[.int .i64 lo] 2 (0, 0)) := by
    rw [heapOld w3 _ _ (by simp [w3, w2, w1] <;> omega), heapOld w2 _ _ (by simp [w2, w1] <;> omega)]
    exact heapLast w1 _ (by simp [w1] <;> omega)
  have hs : w4.heap[w.heap.size + 2]? = some (.cells #[.int .i64 hi] 2 (0, 0)) := by
    rw [heapOld w3 _ _ (by simp [w3, w2, w1] <;> omega)]
    exact heapLast w2 _ (by simp [w2, w1] <;> omega)
  have hb : Below w.heap.size w w4 := ((((Below.refl _ _).alloc (Nat.le_refl _) _).alloc (by simp) _).alloc (by simp; omega) _).alloc (by simp; omega) _
  have HE : Hid (NUM (w4.setRow (w.heap.size + 3) (numVs w.heap.size (w.heap.size + 1) (w.heap.size + 2)).toArray) f lo hi (numVs w.heap.size (w.heap.size + 1) (w.heap.size + 2)) ∧ Below w.heap.size w (w4.setRow (w.heap.size + 3) (numVs w.heap.size (w.heap.size + 1) (w.heap.size + 2)).toArray)) := by
    refine ⟨⟨_, _, _, rfl, ?_, ?_, ?_⟩, belowSetRow hb (by omega) _⟩
    · rw [setRow_other _ _ _ _ (by omega)]; exact hp
    · rw [setRow_other _ _ _ _ (by omega)]; exact hq
    · rw [setRow_other _ _ _ _ (by omega)]; exact hs
  clear hp hq hs hb
  go_enter Tryd.func33, Tryd.ntmps33
  go_wp2_with (refine wpList_store_row rfl 64 _ _ rfl (w.heap.size + 3) (numVs w.heap.size (w.heap.size + 1) (w.heap.size + 2)).toArray rfl rfl 64 nil5 hg info_field rfl (by simp [numVs, Value.oneCell']) ?_)
  exact bodyPost_ret (results_field Tryd.results33 _ _ (w.heap.size + 3) _ rfl (heapSetRow _ _ _ _ _ hg) rfl) rfl ⟨_, _, _, rfl, HE.out⟩
end Go.Proofs.YtpembmfpgolniaaDoor
