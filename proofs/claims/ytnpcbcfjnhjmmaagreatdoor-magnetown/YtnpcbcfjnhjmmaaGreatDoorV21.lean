import Derived.Test.YtnpcbcfjnhjmmaaGreatDoorV20
namespace Go.Proofs.YtnpcbcfjnhjmmaaGreatDoor
open Go.Shelf Go.RowKit Go.Deep
attribute [local go_sem] Oper.semAt_some
/-- one part more; behind the first fault nothing is taken -/
def stQ (st : Ps × Nat × Option (Int × Int)) (x : Pc) : Ps × Nat × Option (Int × Int) :=
  match st.2.2 with
  | some _ => st
  | none => ((tkR st.1 st.2.1 x.1.2).1, (tkR st.1 st.2.1 x.1.2).2.1, if (tkR st.1 st.2.1 x.1.2).2.2.2 = 0 then none else some (8 + (x.1.1 : Int) + (tkR st.1 st.2.1 x.1.2).2.2.1, (tkR st.1 st.2.1 x.1.2).2.2.2))
def prS (l : List Pc) : Ps × Nat × Option (Int × Int) := l.foldl stQ (zP, 0, none)
theorem prS_snoc (l : List Pc) (x : Pc) : prS (l ++ [x]) = stQ (prS l) x := by unfold prS; rw [List.foldl_append]; rfl
theorem stQ_no (st : Ps × Nat × Option (Int × Int)) (h : st.2.2 = none) (x : Pc) : stQ st x = ((tkR st.1 st.2.1 x.1.2).1, (tkR st.1 st.2.1 x.1.2).2.1, if (tkR st.1 st.2.1 x.1.2).2.2.2 = 0 then none else some (8 + (x.1.1 : Int) + (tkR st.1 st.2.1 x.1.2).2.2.1, (tkR st.1 st.2.1 x.1.2).2.2.2)) := by rw [stQ, h]
theorem foldl_some (t : List Pc) : ∀ (st : Ps × Nat × Option (Int × Int)) (q : Int × Int), st.2.2 = some q → t.foldl stQ st = st := by
  induction t with
  | nil => intro st q _; rfl
  | cons a t ih =>
    intro st q h
    rw [List.foldl_cons]
    have e : stQ st a = st := by rw [stQ, h]
    rw [e]
    exact ih st q h
theorem prS_pre {l m : List Pc} {q : Int × Int} (h : l <+: m) (h0 : (prS l).2.2 = some q) : (prS m).2.2 = some q := by
  obtain ⟨t, rfl⟩ := h
  unfold prS at h0 ⊢
  rw [List.foldl_append, foldl_some t _ q h0]
  exact h0
/-- what the program reads out of a link's text -/
def pgM (s : ByteArray) : Ps × Int × Int := match (prS (pieces (s.extract 8 s.size) 38)).2.2 with | some q => (zP, q.1, q.2) | none => ((prS (pieces (s.extract 8 s.size) 38)).1, 0, 0)
def pgR (s : ByteArray) : Ps × Int × Int :=
  if 4096 < s.size then (zP, 0, 221)
  else if Lib.hasPrefix s.data.toList [109, 97, 103, 110, 101, 116, 58, 63] = false then (zP, 0, 220)
  else pgM s
theorem lyR_len (p : Ps) (k : Nat) (key value : ByteArray) : (lyR p k key value).1.ts.length ≤ p.ts.length + 1 ∧ (lyR p k key value).1.ps.length ≤ p.ps.length + 1 ∧ (lyR p k key value).1.mo.length ≤ p.mo.length + 1 := by
  unfold lyR liR loR jnV
  repeat' split
  all_goals simp
theorem tkR_len (p : Ps) (ah : Nat) (s : ByteArray) (hah : ah ≤ 6) : ((tkR p ah s).1.ts.length ≤ p.ts.length + 1 ∧ (tkR p ah s).1.ps.length ≤ p.ps.length + 1 ∧ (tkR p ah s).1.mo.length ≤ p.mo.length + 1) ∧ (tkR p ah s).2.1 ≤ 6 := by
  unfold tkR tk3
  repeat' split
  all_goals first | exact ⟨⟨Nat.le_succ _, Nat.le_succ _, Nat.le_succ _⟩, hah⟩ | exact ⟨lyR_len p _ _ _, by have := kdR_le (⟨(uneL (s.data.toList.take (Lib.indexByte s.data.toList 61).toNat)).1.toArray⟩ : ByteArray); simp only; omega⟩
theorem tkR_at (p : Ps) (ah : Nat) (s : ByteArray) (hs : s.size ≤ 4096) : 0 ≤ (tkR p ah s).2.2.1 ∧ (tkR p ah s).2.2.1 ≤ 8194 := by
  have e8 := Lib.size_eq s
  have g1 := Lib.indexByte_ge s.data.toList 61
  have g2 : (Lib.indexByte s.data.toList 61).toNat ≤ 4096 := by
    by_cases h : Lib.indexByte s.data.toList 61 < 1
    · omega
    · have h9 := (Lib.indexByte_some (l := s.data.toList) (c := 61) (o := (Lib.indexByte s.data.toList 61).toNat) (by omega)).1
      have := (List.getElem?_eq_some_iff.1 h9).1
      omega
  unfold tkR
  split
  · exact ⟨by show (0 : Int) ≤ 0; omega, by show (0 : Int) ≤ 8194; omega⟩
  split
  · rename_i h
    have h9 := (uneL_len (s.data.toList.take (Lib.indexByte s.data.toList 61).toNat)).2
    rw [List.length_take] at h9
    exact ⟨h, by show (uneL _).2 ≤ _; omega⟩
  split
  · rename_i h
    have h9 := (uneL_len (s.data.toList.drop ((Lib.indexByte s.data.toList 61).toNat + 1))).2
    rw [List.length_drop] at h9
    constructor
    · show (0 : Int) ≤ (((Lib.indexByte s.data.toList 61).toNat + 1 : Nat) : Int) + (uneL _).2; omega
    · show (((Lib.indexByte s.data.toList 61).toNat + 1 : Nat) : Int) + (uneL _).2 ≤ _; omega
  · unfold tk3
    split
    · exact ⟨by show (0 : Int) ≤ 0; omega, by show (0 : Int) ≤ 8194; omega⟩
    · exact ⟨by show (0 : Int) ≤ 0; omega, by show (0 : Int) ≤ 8194; omega⟩
theorem prS_len : ∀ (n : Nat) (l : List Pc), l.length = n → ((prS l).1.ts.length ≤ n ∧ (prS l).1.ps.length ≤ n ∧ (prS l).1.mo.length ≤ n) ∧ (prS l).2.1 ≤ 6
  | 0, l, hl => by
    obtain rfl := List.length_eq_zero_iff.1 hl
    exact ⟨⟨Nat.le_refl _, Nat.le_refl _, Nat.le_refl _⟩, Nat.zero_le _⟩
  | n + 1, l, hl => by
    have hne : l ≠ [] := fun e => by rw [e] at hl; cases hl
    obtain ⟨l', y, rfl⟩ : ∃ l' y, l = l' ++ [y] := ⟨l.dropLast, l.getLast hne, (List.dropLast_concat_getLast hne).symm⟩
    have ih := prS_len n l' (by simpa using hl)
    rw [prS_snoc]
    cases h : (prS l').2.2 with
    | some q =>
      have e : stQ (prS l') y = prS l' := by rw [stQ, h]
      rw [e]
      exact ⟨⟨by omega, by omega, by omega⟩, ih.2⟩
    | none =>
      rw [stQ_no _ h]
      have h9 := tkR_len (prS l').1 (prS l').2.1 y.1.2 ih.2
      exact ⟨⟨by simp only; omega, by simp only; omega, by simp only; omega⟩, h9.2⟩
theorem results_r3 {fn : Func} {p q r : Tmp} {ty tz tu : TypeId} (h : fn.results = #[.cell p ty, .cell q tz, .cell r tu]) (tmps : Array Value) (w : World) (g k m : Nat) (t t' t'' : TypeId) (cs : Array Value) (fr : Nat × Nat) (d : TypeDesc) (v u : Value)
    (hp : tmps.getD p undef = .pointer (some ⟨g, 0, none⟩)) (hq : tmps.getD q undef = .pointer (some ⟨k, 0, none⟩)) (hr : tmps.getD r undef = .pointer (some ⟨m, 0, none⟩)) (hg : w.heap[g]? = some (.cells cs t fr)) (hk : Boxed w k t' v) (hm : Boxed w m t'' u) (hd : d.isRow = true) (hu : Tryz.prog.underlying ty = some d) (hi : (Tryz.prog.info? ty).map (·.size) = some cs.size)
    (hB : ∀ u : World, (isAgg tz).run Tryz.prog u = .ok false u) (hC : ∀ u : World, (isAgg tu).run Tryz.prog u = .ok false u) :
    (results fn tmps).run Tryz.prog w = .ok (.tuple #[.agg cs, v, u]) w := by
  have hp' : tmps[p]?.getD undef = .pointer (some ⟨g, 0, none⟩) := by simpa using hp
  have hq' : tmps[q]?.getD undef = .pointer (some ⟨k, 0, none⟩) := by simpa using hq
  have hr' : tmps[r]?.getD undef = .pointer (some ⟨m, 0, none⟩) := by simpa using hr
  have hc : w.rangeAt g 0 cs.toList := fun j v hj => by
    rw [Nat.zero_add]
    simp only [World.cell?, hg]
    rw [Array.getElem?_toList] at hj
    rw [hj]; rfl
  have h9 := run_loadVar_mid (P := Tryz.prog) w g 0 ty cs.toList d hc hu hd (by simpa using hi)
  have h8 := run_loadVar_one w k tz t' v hk hB
  have h7 := run_loadVar_one w m tu t'' u hm hC
  simp [results, h, hp', hq', hr', asAddr, h9, h8, h7]
theorem isAgg3 (u : World) : (isAgg 3).run Tryz.prog u = .ok false u := by kernel_rfl
theorem isAgg29 (u : World) : (isAgg 31).run Tryz.prog u = .ok false u := by kernel_rfl
/-- where the answer lies: the link, the place, the error -/
def PAn (H : Nat) (w wr : World) : Prop := Below H w wr ∧ LB wr H (List.replicate 32 (0 : UInt8)) ⟨#[]⟩ (.slice none 0 0) (.slice none 0 0) (.slice none 0 0) (.slice none 0 0) ∧ Boxed wr (H + 1) 3 (.int .i64 0) ∧ Boxed wr (H + 1 + 1) 31 (.int .i64 0)
set_option maxHeartbeats 1000000 in
theorem pa_new (w : World) : PAn w.heap.size w (((w.alloc (Obj.cells #[.int .u8 0, .int .u8 0, .int .u8 0, .int .u8 0, .int .u8 0, .int .u8 0, .int .u8 0, .int .u8 0, .int .u8 0, .int .u8 0, .int .u8 0, .int .u8 0, .int .u8 0, .int .u8 0, .int .u8 0, .int .u8 0, .int .u8 0, .int .u8 0, .int .u8 0, .int .u8 0, .int .u8 0, .int .u8 0, .int .u8 0, .int .u8 0, .int .u8 0, .int .u8 0, .int .u8 0, .int .u8 0, .int .u8 0, .int .u8 0, .int .u8 0, .int .u8 0, .string { data := #[] }, .slice none 0 0, .slice none 0 0, .slice none 0 0, .slice none 0 0] 28)).alloc (Obj.cells #[.int .i64 0] 3)).alloc (Obj.cells #[.int .i64 0] 31)) := by
  have b1 := Boxed.new (w.alloc (Obj.cells #[.int .u8 0, .int .u8 0, .int .u8 0, .int .u8 0, .int .u8 0, .int .u8 0, .int .u8 0, .int .u8 0, .int .u8 0, .int .u8 0, .int .u8 0, .int .u8 0, .int .u8 0, .int .u8 0, .int .u8 0, .int .u8 0, .int .u8 0, .int .u8 0, .int .u8 0, .int .u8 0, .int .u8 0, .int .u8 0, .int .u8 0, .int .u8 0, .int .u8 0, .int .u8 0, .int .u8 0, .int .u8 0, .int .u8 0, .int .u8 0, .int .u8 0, .int .u8 0, .string { data := #[] }, .slice none 0 0, .slice none 0 0, .slice none 0 0, .slice none 0 0] 28)) 3 (.int .i64 0)
  have b2 := Boxed.new ((w.alloc (Obj.cells #[.int .u8 0, .int .u8 0, .int .u8 0, .int .u8 0, .int .u8 0, .int .u8 0, .int .u8 0, .int .u8 0, .int .u8 0, .int .u8 0, .int .u8 0, .int .u8 0, .int .u8 0, .int .u8 0, .int .u8 0, .int .u8 0, .int .u8 0, .int .u8 0, .int .u8 0, .int .u8 0, .int .u8 0, .int .u8 0, .int .u8 0, .int .u8 0, .int .u8 0, .int .u8 0, .int .u8 0, .int .u8 0, .int .u8 0, .int .u8 0, .int .u8 0, .int .u8 0, .string { data := #[] }, .slice none 0 0, .slice none 0 0, .slice none 0 0, .slice none 0 0] 28)).alloc (Obj.cells #[.int .i64 0] 3)) 31 (.int .i64 0)
  simp only [World.size_alloc] at b1 b2
  have z0 : (w.alloc (Obj.cells #[.int .u8 0, .int .u8 0, .int .u8 0, .int .u8 0, .int .u8 0, .int .u8 0, .int .u8 0, .int .u8 0, .int .u8 0, .int .u8 0, .int .u8 0, .int .u8 0, .int .u8 0, .int .u8 0, .int .u8 0, .int .u8 0, .int .u8 0, .int .u8 0, .int .u8 0, .int .u8 0, .int .u8 0, .int .u8 0, .int .u8 0, .int .u8 0, .int .u8 0, .int .u8 0, .int .u8 0, .int .u8 0, .int .u8 0, .int .u8 0, .int .u8 0, .int .u8 0, .string { data := #[] }, .slice none 0 0, .slice none 0 0, .slice none 0 0, .slice none 0 0] 28)).heap[w.heap.size]? = some (.cells (lkC (List.replicate 32 (0 : UInt8)) ⟨#[]⟩ (.slice none 0 0) (.slice none 0 0) (.slice none 0 0) (.slice none 0 0)) 28 (0, 0)) := heap_new _ _
  refine ⟨(((Below.refl _ _).alloc (Nat.le_refl _) _).alloc (by simp only [World.size_alloc]; omega) _).alloc (by simp only [World.size_alloc]; omega) _, ?_, b1.alloc _, b2⟩
  unfold LB
  rw [Below.heap_alloc _ _ _ (by simp only [World.size_alloc]; omega), Below.heap_alloc _ _ _ (by simp only [World.size_alloc]; omega)]
  exact z0
end Go.Proofs.YtnpcbcfjnhjmmaaGreatDoor
namespace Go.Proofs.YtnpcbcfjnhjmmaaGreatDoor
open Go.Shelf Go.RowKit Go.Deep
attribute [local go_sem] Oper.semAt_some
theorem wpListIn_store_row {F : Fence} {n : Nat} {ops : Array Oper} {rest : List Oper} {o : Oper} {a : Act} {w : World} {Q : Exit → Act → World → Prop} (hgd : o.guard = none) (ty : TypeId) (x y : Operand) (ho : o.op = .store ty x y)
    (g : Nat) (cells : Array Value) (hx : a.eval x = .pointer (some ⟨g, 0, none⟩)) (hy : a.eval y = .agg cells)
    (t : TypeId) (old : Array Value) (hg : w.heap[g]? = some (.cells old t (0, 0))) (hi : (Tryz.prog.info? ty).map (·.size) = some cells.size)
    (hold : old.size = cells.size) (h1 : cells.all (·.oneCell') = true)
    (h : wpListIn F n Tryz.prog ops Q rest (a.put o.dst undef) (w.setRow g cells)) : wpListIn F n Tryz.prog ops Q (o :: rest) a w := by
  refine wpListIn_plain hgd fun K hK' => ?_
  unfold Oper.wpIn
  refine ⟨?_, ?_⟩
  · simp [Oper.about, ho]
  · rw [Oper.semAt_plain F _ _ (by rw [ho]; intro c hc'; cases hc')]
    unfold execOp
    simp only [ho, hx, hy, Instr.storeAt, Instr.sureAddr, Sem.run_bind, Sem.run_pure, Result.andThen_ok, run_storeVar_row w g t ty old cells hg hi hold h1]
    exact hK' _ _ h
theorem wpListIn_load_mid {F : Fence} {n : Nat} {ops : Array Oper} {rest : List Oper} {o : Oper} {a : Act} {w : World} {Q : Exit → Act → World → Prop} (hgd : o.guard = none) (ty : TypeId) (x : Operand) (ho : o.op = .load ty x)
    (b off : Nat) (hx : a.eval x = .pointer (some ⟨b, off, none⟩)) (cs : List Value) (d : TypeDesc) (hc : w.rangeAt b off cs)
    (hu : Tryz.prog.underlying ty = some d) (hd : d.isRow = true) (hi : (Tryz.prog.info? ty).map (·.size) = some cs.length)
    (h : wpListIn F n Tryz.prog ops Q rest (a.put o.dst (.agg cs.toArray)) w) : wpListIn F n Tryz.prog ops Q (o :: rest) a w := by
  refine wpListIn_plain hgd fun K hK' => ?_
  unfold Oper.wpIn
  refine ⟨?_, ?_⟩
  · simp [Oper.about, ho]
  · rw [Oper.semAt_plain F _ _ (by rw [ho]; intro c hc'; cases hc')]
    unfold execOp
    simp only [ho, hx, Instr.loadAt, Instr.sureAddr, Sem.run_bind, Sem.run_pure, Result.andThen_ok, run_loadVar_mid w b off ty cs d hc hu hd hi]
    exact hK' _ _ h
theorem PAn.zero {H : Nat} {w wr : World} (h : PAn H w wr) (e : Int) : LB ((wr.setRow H (lkC (List.replicate 32 (0 : UInt8)) ⟨#[]⟩ (.slice none 0 0) (.slice none 0 0) (.slice none 0 0) (.slice none 0 0))).setCell ⟨H + 1, 0, none⟩ (.int .i64 0) |>.setCell ⟨H + 1 + 1, 0, none⟩ (.int .i64 e)) H (List.replicate 32 (0 : UInt8)) ⟨#[]⟩ (.slice none 0 0) (.slice none 0 0) (.slice none 0 0) (.slice none 0 0) ∧ Boxed ((wr.setRow H (lkC (List.replicate 32 (0 : UInt8)) ⟨#[]⟩ (.slice none 0 0) (.slice none 0 0) (.slice none 0 0) (.slice none 0 0))).setCell ⟨H + 1, 0, none⟩ (.int .i64 0) |>.setCell ⟨H + 1 + 1, 0, none⟩ (.int .i64 e)) (H + 1) 3 (.int .i64 0) ∧ Boxed ((wr.setRow H (lkC (List.replicate 32 (0 : UInt8)) ⟨#[]⟩ (.slice none 0 0) (.slice none 0 0) (.slice none 0 0) (.slice none 0 0))).setCell ⟨H + 1, 0, none⟩ (.int .i64 0) |>.setCell ⟨H + 1 + 1, 0, none⟩ (.int .i64 e)) (H + 1 + 1) 31 (.int .i64 e) ∧ Below H w ((wr.setRow H (lkC (List.replicate 32 (0 : UInt8)) ⟨#[]⟩ (.slice none 0 0) (.slice none 0 0) (.slice none 0 0) (.slice none 0 0))).setCell ⟨H + 1, 0, none⟩ (.int .i64 0) |>.setCell ⟨H + 1 + 1, 0, none⟩ (.int .i64 e)) := by
  obtain ⟨h1, h2, h3, h4⟩ := h
  have a1 : Boxed (wr.setRow H (lkC (List.replicate 32 (0 : UInt8)) ⟨#[]⟩ (.slice none 0 0) (.slice none 0 0) (.slice none 0 0) (.slice none 0 0))) (H + 1) 3 (.int .i64 0) := (setRow_other _ _ _ _ (by omega)).trans h3
  have a2 : Boxed (wr.setRow H (lkC (List.replicate 32 (0 : UInt8)) ⟨#[]⟩ (.slice none 0 0) (.slice none 0 0) (.slice none 0 0) (.slice none 0 0))) (H + 1 + 1) 31 (.int .i64 0) := (setRow_other _ _ _ _ (by omega)).trans h4
  have a0 : (wr.setRow H (lkC (List.replicate 32 (0 : UInt8)) ⟨#[]⟩ (.slice none 0 0) (.slice none 0 0) (.slice none 0 0) (.slice none 0 0))).heap[H]? = some (.cells (lkC (List.replicate 32 (0 : UInt8)) ⟨#[]⟩ (.slice none 0 0) (.slice none 0 0) (.slice none 0 0) (.slice none 0 0)) 28 (0, 0)) := setRow_heap wr H _ _ _ _ h2
  refine ⟨?_, (a1.set _).other (by omega) _, (a2.other (by omega) _).set _, ((below_setRow h1 (Nat.le_refl _) _).setCell (p := ⟨H + 1, 0, none⟩) (Nat.le_succ _) _).setCell (p := ⟨H + 1 + 1, 0, none⟩) (by show H ≤ H + 1 + 1; omega) _⟩
  unfold LB
  rw [Below.heap_setCell _ _ _ _ (by show H ≠ H + 1 + 1; omega), Below.heap_setCell _ _ _ _ (by show H ≠ H + 1; omega)]
  exact a0
set_option maxHeartbeats 2000000 in
set_option maxRecDepth 100000 in
/-- the two refusals -/
theorem parse_no (s : ByteArray) (w : World) (hq : 4096 < s.size ∨ Lib.hasPrefix s.data.toList [109, 97, 103, 110, 101, 116, 58, 63] = false) :
    Calls Tryz.prog 6 #[.string s] w fun e w' => RP w.heap.size w (pgR s) e w' := by
  have P0 := Lib.hid (pa_new w)
  have HC : Hid (∀ u, Calls Tryz.prog 21 #[.string s, .string { data := #[109, 97, 103, 110, 101, 116, 58, 63] }] u fun e w' => e = .returned (.tuple #[.string (cpB s { data := #[109, 97, 103, 110, 101, 116, 58, 63] }), .bool (Lib.hasPrefix s.data.toList [109, 97, 103, 110, 101, 116, 58, 63])]) ∧ w' = u) := fun u => cutPrefix7 s { data := #[109, 97, 103, 110, 101, 116, 58, 63] } u
  have HQ : Hid (pgR s = if 4096 < s.size then (zP, 0, 221) else if Lib.hasPrefix s.data.toList [109, 97, 103, 110, 101, 116, 58, 63] = false then (zP, 0, 220) else pgM s) := rfl
  generalize pgR s = q at *
  go_enter Tryz.func6, Tryz.ntmps6
  go_upto_region 1 with fail
  generalize (((w.alloc (Obj.cells #[.int .u8 0, .int .u8 0, .int .u8 0, .int .u8 0, .int .u8 0, .int .u8 0, .int .u8 0, .int .u8 0, .int .u8 0, .int .u8 0, .int .u8 0, .int .u8 0, .int .u8 0, .int .u8 0, .int .u8 0, .int .u8 0, .int .u8 0, .int .u8 0, .int .u8 0, .int .u8 0, .int .u8 0, .int .u8 0, .int .u8 0, .int .u8 0, .int .u8 0, .int .u8 0, .int .u8 0, .int .u8 0, .int .u8 0, .int .u8 0, .int .u8 0, .int .u8 0, .string { data := #[] }, .slice none 0 0, .slice none 0 0, .slice none 0 0, .slice none 0 0] 28)).alloc (Obj.cells #[.int .i64 0] 3)).alloc (Obj.cells #[.int .i64 0] 31)) = w0 at *
  generalize hvb : w.heap.size = H at *
  have HS : Hid (w.heap.size = H) := hvb
  clear hvb
  have hZer := P0.out.2.1
  have a1 : Boxed (w0.setRow H (lkC (List.replicate 32 (0 : UInt8)) ⟨#[]⟩ (.slice none 0 0) (.slice none 0 0) (.slice none 0 0) (.slice none 0 0))) (H + 1) 3 (.int .i64 0) := (setRow_other _ _ _ _ (by omega)).trans P0.out.2.2.1
  have a2 : Boxed (w0.setRow H (lkC (List.replicate 32 (0 : UInt8)) ⟨#[]⟩ (.slice none 0 0) (.slice none 0 0) (.slice none 0 0) (.slice none 0 0))) (H + 1 + 1) 31 (.int .i64 0) := (setRow_other _ _ _ _ (by omega)).trans P0.out.2.2.2
  have c1 := a1.cell
  have f1 := a1.frozen
  have c2 := (a2.other (B' := H + 1) (by omega) (.int .i64 0)).cell
  have f2 := (a2.other (B' := H + 1) (by omega) (.int .i64 0)).frozen
  obtain ⟨W9, hW9⟩ : ∃ W9, w0.setRow H (lkC (List.replicate 32 (0 : UInt8)) ⟨#[]⟩ (.slice none 0 0) (.slice none 0 0) (.slice none 0 0) (.slice none 0 0)) = W9 := ⟨_, rfl⟩
  rw [hW9] at c1 f1 c2 f2
  clear a1 a2
  by_cases hs : 4096 < s.size
  · have hs' : (s.size : Int) > 4096 := by omega
    have HE : Hid (q = (zP, 0, 221)) := by have h9 := HQ.out; rw [if_pos hs] at h9; exact h9
    have HZ0 := P0.out.zero 221
    rw [hW9] at HZ0
    have HZ := Lib.hid HZ0
    clear HZ0
    clear hq HC HQ P0
    go_wp2_with (refine wpList_store_row rfl 28 _ _ rfl H (lkC (List.replicate 32 (0 : UInt8)) ⟨#[]⟩ (.slice none 0 0) (.slice none 0 0) (.slice none 0 0) (.slice none 0 0)) rfl rfl 28 _ hZer (infoLk (by simp)) rfl lkC_one ?_; rw [hW9]; clear hW9)
    exact bodyPost_ret (results_r3 Tryz.results6 _ _ H (H + 1) (H + 1 + 1) 28 3 31 _ (0, 0) _ _ _ rfl rfl rfl HZ.out.1 HZ.out.2.1 HZ.out.2.2.1 rfl Tryz.underlying28 (infoLk (by simp)) isAgg3 isAgg29) rfl (rp_zero HS.out HE.out HZ.out.2.2.2)
  have hs' : ¬ (s.size : Int) > 4096 := by omega
  have hpf : Lib.hasPrefix s.data.toList [109, 97, 103, 110, 101, 116, 58, 63] = false := by
    rcases hq with h | h
    · exact absurd h hs
    · exact h
  have HE : Hid (q = (zP, 0, 220)) := by have h9 := HQ.out; rw [if_neg hs, if_pos hpf] at h9; exact h9
  have HZ0 := P0.out.zero 220
  rw [hW9] at HZ0
  have HZ := Lib.hid HZ0
  clear HZ0
  rw [hpf] at HC
  clear hq HQ P0 hpf
  go_wp2_with fail
  refine (HC.out w0).mono ?_
  rintro e w1 ⟨rfl, rfl⟩
  generalize cpB s { data := #[109, 97, 103, 110, 101, 116, 58, 63] } = cp at *
  go_wp2_with (refine wpList_store_row rfl 28 _ _ rfl H (lkC (List.replicate 32 (0 : UInt8)) ⟨#[]⟩ (.slice none 0 0) (.slice none 0 0) (.slice none 0 0) (.slice none 0 0)) rfl rfl 28 _ hZer (infoLk (by simp)) rfl lkC_one ?_; rw [hW9]; clear hW9)
  exact bodyPost_ret (results_r3 Tryz.results6 _ _ H (H + 1) (H + 1 + 1) 28 3 31 _ (0, 0) _ _ _ rfl rfl rfl HZ.out.1 HZ.out.2.1 HZ.out.2.2.1 rfl Tryz.underlying28 (infoLk (by simp)) isAgg3 isAgg29) rfl (rp_zero HS.out HE.out HZ.out.2.2.2)
end Go.Proofs.YtnpcbcfjnhjmmaaGreatDoor
