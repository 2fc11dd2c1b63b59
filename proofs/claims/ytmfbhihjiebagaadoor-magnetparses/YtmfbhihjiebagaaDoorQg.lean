import Derived.Test.YtmfbhihjiebagaaDoorQf
namespace Go.Proofs.YtmfbhihjiebagaaDoor
open Go.Shelf Go.RowKit Go.Deep
attribute [local go_sem] Oper.semAt_some
/-- one part more; behind the first fault nothing is taken -/
def stQ (st : Ps × Nat × Option (Int × Int)) (x : Pc) : Ps × Nat × Option (Int × Int) :=
  match st.2.2 with
  | some _ => st
  | none => ((tkR st.1 st.2.1 x.1.2).1, (tkR st.1 st.2.1 x.1.2).2.1, if (tkR st.1 st.2.1 x.1.2).2.2.2 = 0 then none else some (8 + (x.1.1 : Int) + (tkR st.1 st.2.1 x.1.2).2.2.1, (tkR st.1 st.2.1 x.1.2).2.2.2))
def prS (l : List Pc) : Ps × Nat × Option (Int × Int) := l.foldl stQ (zP, 0, none)
theorem prS_snoc (l : List Pc) (x : Pc) : prS (l ++ [x]) = stQ (prS l) x := by unfold prS; rw [List.foldl_append]; rfl
theorem stQ_no (st : Ps × Nat × Option (Int × Int)) (h : st.2.2 = none) (x : Pc) : stQ st x = ((tkR st.1 st.2.1 x.1.2).1, (tkR st.1 st.2.1 x.1.2).2.1, if (tkR st.1 st.2.1 x.1.2).2.2.2 = 0 then none else some (8 + (x.1.1 : Int) + (tkR st.1 st.2.1 x.1.2).2.2.1, (tkR st.1 st.2.1 x.1.2).2.2.2)) := by rw [stQ, h]
theorem foldl_some (t : List Pc) : ∀ (st : Ps × Nat × Option (Int × Int)) (q : Int × Int), st.2.2 = some q → t.foldl stQ st = st := by
  induction t with
  | nil => intro st q _; rfl
  | cons a t ih =>
    intro st q h
    rw [List.foldl_cons]
    have e : stQ st a = st := by rw [stQ, h]
    rw [e]
    exact ih st q h
theorem prS_pre {l m : List Pc} {q : Int × Int} (h : l <+: m) (h0 : (prS l).2.2 = some q) : (prS m).2.2 = some q := by
  obtain ⟨t, rfl⟩ := h
  unfold prS at h0 ⊢
  rw [List.foldl_append, foldl_some t _ q h0]
  exact h0
/-- what the program reads out of a link's text -/
def pgM (s : ByteArray) : Ps × Int × Int := match (prS (pieces (s.extract 8 s.size) 38)).2.2 with | some q => (zP, q.1, q.2) | none => ((prS (pieces (s.extract 8 s.size) 38)).1, 0, 0)
def pgR (s : ByteArray) : Ps × Int × Int :=
  if 4096 < s.size then (zP, 0, 221)
  else if Lib.hasPrefix s.data.toList [109, 97, 103, 110, 101, 116, 58, 63] = false then (zP, 0, 220)
  else pgM s
theorem lyR_len (p : Ps) (k : Nat) (key value : ByteArray) : (lyR p k key value).1.ts.length ≤ p.ts.length + 1 ∧ (lyR p k key value).1.ps.length ≤ p.ps.length + 1 ∧ (lyR p k key value).1.mo.length ≤ p.mo.length + 1 := by
  unfold lyR liR loR jnV
  repeat' split
  all_goals simp
theorem tkR_len (p : Ps) (ah : Nat) (s : ByteArray) (hah : ah ≤ 6) : ((tkR p ah s).1.ts.length ≤ p.ts.length + 1 ∧ (tkR p ah s).1.ps.length ≤ p.ps.length + 1 ∧ (tkR p ah s).1.mo.length ≤ p.mo.length + 1) ∧ (tkR p ah s).2.1 ≤ 6 := by
  unfold tkR tk3
  repeat' split
  all_goals first | exact ⟨⟨Nat.le_succ _, Nat.le_succ _, Nat.le_succ _⟩, hah⟩ | exact ⟨lyR_len p _ _ _, by have := kdR_le (⟨(uneL (s.data.toList.take (Lib.indexByte s.data.toList 61).toNat)).1.toArray⟩ : ByteArray); simp only; omega⟩
theorem tkR_at (p : Ps) (ah : Nat) (s : ByteArray) (hs : s.size ≤ 4096) : 0 ≤ (tkR p ah s).2.2.1 ∧ (tkR p ah s).2.2.1 ≤ 8194 := by
  have e8 := Lib.size_eq s
  have g1 := Lib.indexByte_ge s.data.toList 61
  have g2 : (Lib.indexByte s.data.toList 61).toNat ≤ 4096 := by
    by_cases h : Lib.indexByte s.data.toList 61 < 1
    · omega
    · have h9 := (Lib.indexByte_some (l := s.data.toList) (c := 61) (o := (Lib.indexByte s.data.toList 61).toNat) (by omega)).1
      have := (List.getElem?_eq_some_iff.1 h9).1
      omega
  unfold tkR
  split
  · exact ⟨by show (0 : Int) ≤ 0; omega, by show (0 : Int) ≤ 8194; omega⟩
  split
  · rename_i h
    have h9 := (uneL_len (s.data.toList.take (Lib.indexByte s.data.toList 61).toNat)).2
    rw [List.length_take] at h9
    exact ⟨h, by show (uneL _).2 ≤ _; omega⟩
  split
  · rename_i h
    have h9 := (uneL_len (s.data.toList.drop ((Lib.indexByte s.data.toList 61).toNat + 1))).2
    rw [List.length_drop] at h9
    constructor
    · show (0 : Int) ≤ (((Lib.indexByte s.data.toList 61).toNat + 1 : Nat) : Int) + (uneL _).2; omega
    · show (((Lib.indexByte s.data.toList 61).toNat + 1 : Nat) : Int) + (uneL _).2 ≤ _; omega
  · unfold tk3
    split
    · exact ⟨by show (0 : Int) ≤ 0; omega, by show (0 : Int) ≤ 8194; omega⟩
    · exact ⟨by show (0 : Int) ≤ 0; omega, by show (0 : Int) ≤ 8194; omega⟩
theorem prS_len : ∀ (n : Nat) (l : List Pc), l.length = n → ((prS l).1.ts.length ≤ n ∧ (prS l).1.ps.length ≤ n ∧ (prS l).1.mo.length ≤ n) ∧ (prS l).2.1 ≤ 6
  | 0, l, hl => by
    obtain rfl := List.length_eq_zero_iff.1 hl
    exact ⟨⟨Nat.le_refl _, Nat.le_refl _, Nat.le_refl _⟩, Nat.zero_le _⟩
  | n + 1, l, hl => by
    have hne : l ≠ [] := fun e => by rw [e] at hl; cases hl
    obtain ⟨l', y, rfl⟩ : ∃ l' y, l = l' ++ [y] := ⟨l.dropLast, l.getLast hne, (List.dropLast_concat_getLast hne).symm⟩
    have ih := prS_len n l' (by simpa using hl)
    rw [prS_snoc]
    cases h : (prS l').2.2 with
    | some q =>
      have e : stQ (prS l') y = prS l' := by rw [stQ, h]
      rw [e]
      exact ⟨⟨by omega, by omega, by omega⟩, ih.2⟩
    | none =>
      rw [stQ_no _ h]
      have h9 := tkR_len (prS l').1 (prS l').2.1 y.1.2 ih.2
      exact ⟨⟨by simp only; omega, by simp only; omega, by simp only; omega⟩, h9.2⟩
theorem results_r3 {fn : Func} {p q r : Tmp} {ty tz tu : TypeId} (h : fn.results = #[.cell p ty, .cell q tz, .cell r tu]) (tmps : Array Value) (w : World) (g k m : Nat) (t t' t'' : TypeId) (cs : Array Value) (fr : Nat × Nat) (d : TypeDesc) (v u : Value)
    (hp : tmps.getD p undef = .pointer (some ⟨g, 0, none⟩)) (hq : tmps.getD q undef = .pointer (some ⟨k, 0, none⟩)) (hr : tmps.getD r undef = .pointer (some ⟨m, 0, none⟩)) (hg : w.heap[g]? = some (.cells cs t fr)) (hk : Boxed w k t' v) (hm : Boxed w m t'' u) (hd : d.isRow = true) (hu : Tryd.prog.underlying ty = some d) (hi : (Tryd.prog.info? ty).map (·.size) = some cs.size)
    (hB : ∀ u : World, (isAgg tz).run Tryd.prog u = .ok false u) (hC : ∀ u : World, (isAgg tu).run Tryd.prog u = .ok false u) :
    (results fn tmps).run Tryd.prog w = .ok (.tuple #[.agg cs, v, u]) w := by
  have hp' : tmps[p]?.getD undef = .pointer (some ⟨g, 0, none⟩) := by simpa using hp
  have hq' : tmps[q]?.getD undef = .pointer (some ⟨k, 0, none⟩) := by simpa using hq
  have hr' : tmps[r]?.getD undef = .pointer (some ⟨m, 0, none⟩) := by simpa using hr
  have hc : w.rangeAt g 0 cs.toList := fun j v hj => by
    rw [Nat.zero_add]
    simp only [World.cell?, hg]
    rw [Array.getElem?_toList] at hj
    rw [hj]; rfl
  have h9 := run_loadVar_mid (P := Tryd.prog) w g 0 ty cs.toList d hc hu hd (by simpa using hi)
  have h8 := run_loadVar_one w k tz t' v hk hB
  have h7 := run_loadVar_one w m tu t'' u hm hC
  simp [results, h, hp', hq', hr', asAddr, h9, h8, h7]
theorem isAgg3 (u : World) : (isAgg 3).run Tryd.prog u = .ok false u := by kernel_rfl
theorem isAgg29 (u : World) : (isAgg 29).run Tryd.prog u = .ok false u := by kernel_rfl
/-- where the answer lies: the link, the place, the error -/
def PAn (H : Nat) (w wr : World) : Prop := Below H w wr ∧ LB wr H (List.replicate 32 (0 : UInt8)) ⟨#[]⟩ (.slice none 0 0) (.slice none 0 0) (.slice none 0 0) (.slice none 0 0) ∧ Boxed wr (H + 1) 3 (.int .i64 0) ∧ Boxed wr (H + 1 + 1) 29 (.int .i64 0)
set_option maxHeartbeats 1000000 in
theorem pa_new (w : World) : PAn w.heap.size w (((w.alloc (Obj.cells #[.int .u8 0, .int .u8 0, .int .u8 0, .int .u8 0, .int .u8 0, .int .u8 0, .int .u8 0, .int .u8 0, .int .u8 0, .int .u8 0, .int .u8 0, .int .u8 0, .int .u8 0, .int .u8 0, .int .u8 0, .int .u8 0, .int .u8 0, .int .u8 0, .int .u8 0, .int .u8 0, .int .u8 0, .int .u8 0, .int .u8 0, .int .u8 0, .int .u8 0, .int .u8 0, .int .u8 0, .int .u8 0, .int .u8 0, .int .u8 0, .int .u8 0, .int .u8 0, .string { data := #[] }, .slice none 0 0, .slice none 0 0, .slice none 0 0, .slice none 0 0] 28)).alloc (Obj.cells #[.int .i64 0] 3)).alloc (Obj.cells #[.int .i64 0] 29)) := by
  have b1 := Boxed.new (w.alloc (Obj.cells #[.int .u8 0, .int .u8 0, .int .u8 0, .int .u8 0, .int .u8 0, .int .u8 0, .int .u8 0, .int .u8 0, .int .u8 0, .int .u8 0, .int .u8 0, .int .u8 0, .int .u8 0, .int .u8 0, .int .u8 0, .int .u8 0, .int .u8 0, .int .u8 0, .int .u8 0, .int .u8 0, .int .u8 0, .int .u8 0, .int .u8 0, .int .u8 0, .int .u8 0, .int .u8 0, .int .u8 0, .int .u8 0, .int .u8 0, .int .u8 0, .int .u8 0, .int .u8 0, .string { data := #[] }, .slice none 0 0, .slice none 0 0, .slice none 0 0, .slice none 0 0] 28)) 3 (.int .i64 0)
  have b2 := Boxed.new ((w.alloc (Obj.cells #[.int .u8 0, .int .u8 0, .int .u8 0, .int .u8 0, .int .u8 0, .int .u8 0, .int .u8 0, .int .u8 0, .int .u8 0, .int .u8 0, .int .u8 0, .int .u8 0, .int .u8 0, .int .u8 0, .int .u8 0, .int .u8 0, .int .u8 0, .int .u8 0, .int .u8 0, .int .u8 0, .int .u8 0, .int .u8 0, .int .u8 0, .int .u8 0, .int .u8 0, .int .u8 0, .int .u8 0, .int .u8 0, .int .u8 0, .int .u8 0, .int .u8 0, .int .u8 0, .string { data := #[] }, .slice none 0 0, .slice none 0 0, .slice none 0 0, .slice none 0 0] 28)).alloc (Obj.cells #[.int .i64 0] 3)) 29 (.int .i64 0)
  simp only [World.size_alloc] at b1 b2
  have z0 : (w.alloc (Obj.cells #[.int .u8 0, .int .u8 0, .int .u8 0, .int .u8 0, .int .u8 0, .int .u8 0, .int .u8 0, .int .u8 0, .int .u8 0, .int .u8 0, .int .u8 0, .int .u8 0, .int .u8 0, .int .u8 0, .int .u8 0, .int .u8 0, .int .u8 0, .int .u8 0, .int .u8 0, .int .u8 0, .int .u8 0, .int .u8 0, .int .u8 0, .int .u8 0, .int .u8 0, .int .u8 0, .int .u8 0, .int .u8 0, .int .u8 0, .int .u8 0, .int .u8 0, .int .u8 0, .string { data := #[] }, .slice none 0 0, .slice none 0 0, .slice none 0 0, .slice none 0 0] 28)).heap[w.heap.size]? = some (.cells (lkC (List.replicate 32 (0 : UInt8)) ⟨#[]⟩ (.slice none 0 0) (.slice none 0 0) (.slice none 0 0) (.slice none 0 0)) 28 (0, 0)) := heap_new _ _
  refine ⟨(((Below.refl _ _).alloc (Nat.le_refl _) _).alloc (by simp only [World.size_alloc]; omega) _).alloc (by simp only [World.size_alloc]; omega) _, ?_, b1.alloc _, b2⟩
  unfold LB
  rw [Below.heap_alloc _ _ _ (by simp only [World.size_alloc]; omega), Below.heap_alloc _ _ _ (by simp only [World.size_alloc]; omega)]
  exact z0
end Go.Proofs.YtmfbhihjiebagaaDoor
