import Derived.Test.YtmfbhihjiebagaaDoorQg
namespace Go.Proofs.YtmfbhihjiebagaaDoor
open Go.Shelf Go.RowKit Go.Deep
attribute [local go_sem] Oper.semAt_some
theorem wpListIn_store_row {F : Fence} {n : Nat} {ops : Array Oper} {rest : List Oper} {o : Oper} {a : Act} {w : World} {Q : Exit → Act → World → Prop} (hgd : o.guard = none) (ty : TypeId) (x y : Operand) (ho : o.op = .store ty x y)
    (g : Nat) (cells : Array Value) (hx : a.eval x = .pointer (some ⟨g, 0, none⟩)) (hy : a.eval y = .agg cells)
    (t : TypeId) (old : Array Value) (hg : w.heap[g]? = some (.cells old t (0, 0))) (hi : (Tryd.prog.info? ty).map (·.size) = some cells.size)
    (hold : old.size = cells.size) (h1 : cells.all (·.oneCell') = true)
    (h : wpListIn F n Tryd.prog ops Q rest (a.put o.dst undef) (w.setRow g cells)) : wpListIn F n Tryd.prog ops Q (o :: rest) a w := by
  refine wpListIn_plain hgd fun K hK' => ?_
  unfold Oper.wpIn
  refine ⟨?_, ?_⟩
  · simp [Oper.about, ho]
  · rw [Oper.semAt_plain F _ _ (by rw [ho]; intro c hc'; cases hc')]
    unfold execOp
    simp only [ho, hx, hy, Instr.storeAt, Instr.sureAddr, Sem.run_bind, Sem.run_pure, Result.andThen_ok, run_storeVar_row w g t ty old cells hg hi hold h1]
    exact hK' _ _ h
theorem wpListIn_load_mid {F : Fence} {n : Nat} {ops : Array Oper} {rest : List Oper} {o : Oper} {a : Act} {w : World} {Q : Exit → Act → World → Prop} (hgd : o.guard = none) (ty : TypeId) (x : Operand) (ho : o.op = .load ty x)
    (b off : Nat) (hx : a.eval x = .pointer (some ⟨b, off, none⟩)) (cs : List Value) (d : TypeDesc) (hc : w.rangeAt b off cs)
    (hu : Tryd.prog.underlying ty = some d) (hd : d.isRow = true) (hi : (Tryd.prog.info? ty).map (·.size) = some cs.length)
    (h : wpListIn F n Tryd.prog ops Q rest (a.put o.dst (.agg cs.toArray)) w) : wpListIn F n Tryd.prog ops Q (o :: rest) a w := by
  refine wpListIn_plain hgd fun K hK' => ?_
  unfold Oper.wpIn
  refine ⟨?_, ?_⟩
  · simp [Oper.about, ho]
  · rw [Oper.semAt_plain F _ _ (by rw [ho]; intro c hc'; cases hc')]
    unfold execOp
    simp only [ho, hx, Instr.loadAt, Instr.sureAddr, Sem.run_bind, Sem.run_pure, Result.andThen_ok, run_loadVar_mid w b off ty cs d hc hu hd hi]
    exact hK' _ _ h
theorem PAn.zero {H : Nat} {w wr : World} (h : PAn H w wr) (e : Int) : LB ((wr.setRow H (lkC (List.replicate 32 (0 : UInt8)) ⟨#[]⟩ (.slice none 0 0) (.slice none 0 0) (.slice none 0 0) (.slice none 0 0))).setCell ⟨H + 1, 0, none⟩ (.int .i64 0) |>.setCell ⟨H + 1 + 1, 0, none⟩ (.int .i64 e)) H (List.replicate 32 (0 : UInt8)) ⟨#[]⟩ (.slice none 0 0) (.slice none 0 0) (.slice none 0 0) (.slice none 0 0) ∧ Boxed ((wr.setRow H (lkC (List.replicate 32 (0 : UInt8)) ⟨#[]⟩ (.slice none 0 0) (.slice none 0 0) (.slice none 0 0) (.slice none 0 0))).setCell ⟨H + 1, 0, none⟩ (.int .i64 0) |>.setCell ⟨H + 1 + 1, 0, none⟩ (.int .i64 e)) (H + 1) 3 (.int .i64 0) ∧ Boxed ((wr.setRow H (lkC (List.replicate 32 (0 : UInt8)) ⟨#[]⟩ (.slice none 0 0) (.slice none 0 0) (.slice none 0 0) (.slice none 0 0))).setCell ⟨H + 1, 0, none⟩ (.int .i64 0) |>.setCell ⟨H + 1 + 1, 0, none⟩ (.int .i64 e)) (H + 1 + 1) 29 (.int .i64 e) ∧ Below H w ((wr.setRow H (lkC (List.replicate 32 (0 : UInt8)) ⟨#[]⟩ (.slice none 0 0) (.slice none 0 0) (.slice none 0 0) (.slice none 0 0))).setCell ⟨H + 1, 0, none⟩ (.int .i64 0) |>.setCell ⟨H + 1 + 1, 0, none⟩ (.int .i64 e)) := by
  obtain ⟨h1, h2, h3, h4⟩ := h
  have a1 : Boxed (wr.setRow H (lkC (List.replicate 32 (0 : UInt8)) ⟨#[]⟩ (.slice none 0 0) (.slice none 0 0) (.slice none 0 0) (.slice none 0 0))) (H + 1) 3 (.int .i64 0) := (setRow_other _ _ _ _ (by omega)).trans h3
  have a2 : Boxed (wr.setRow H (lkC (List.replicate 32 (0 : UInt8)) ⟨#[]⟩ (.slice none 0 0) (.slice none 0 0) (.slice none 0 0) (.slice none 0 0))) (H + 1 + 1) 29 (.int .i64 0) := (setRow_other _ _ _ _ (by omega)).trans h4
  have a0 : (wr.setRow H (lkC (List.replicate 32 (0 : UInt8)) ⟨#[]⟩ (.slice none 0 0) (.slice none 0 0) (.slice none 0 0) (.slice none 0 0))).heap[H]? = some (.cells (lkC (List.replicate 32 (0 : UInt8)) ⟨#[]⟩ (.slice none 0 0) (.slice none 0 0) (.slice none 0 0) (.slice none 0 0)) 28 (0, 0)) := setRow_heap wr H _ _ _ _ h2
  refine ⟨?_, (a1.set _).other (by omega) _, (a2.other (by omega) _).set _, ((below_setRow h1 (Nat.le_refl _) _).setCell (p := ⟨H + 1, 0, none⟩) (Nat.le_succ _) _).setCell (p := ⟨H + 1 + 1, 0, none⟩) (by show H ≤ H + 1 + 1; omega) _⟩
  unfold LB
  rw [Below.heap_setCell _ _ _ _ (by show H ≠ H + 1 + 1; omega), Below.heap_setCell _ _ _ _ (by show H ≠ H + 1; omega)]
  exact a0
set_option maxHeartbeats 2000000 in
set_option maxRecDepth 100000 in
/-- the two refusals -/
theorem parse_no (s : ByteArray) (w : World) (hq : 4096 < s.size ∨ Lib.hasPrefix s.data.toList [109, 97, 103, 110, 101, 116, 58, 63] = false) :
    Calls Tryd.prog 4 #[.string s] w fun e w' => RP w.heap.size w (pgR s) e w' := by
  have P0 := Lib.hid (pa_new w)
  have HC : Hid (∀ u, Calls Tryd.prog 7 #[.string s, .string { data := #[109, 97, 103, 110, 101, 116, 58, 63] }] u fun e w' => e = .returned (.tuple #[.string (cpB s { data := #[109, 97, 103, 110, 101, 116, 58, 63] }), .bool (Lib.hasPrefix s.data.toList [109, 97, 103, 110, 101, 116, 58, 63])]) ∧ w' = u) := fun u => cutPrefix7 s { data := #[109, 97, 103, 110, 101, 116, 58, 63] } u
  have HQ : Hid (pgR s = if 4096 < s.size then (zP, 0, 221) else if Lib.hasPrefix s.data.toList [109, 97, 103, 110, 101, 116, 58, 63] = false then (zP, 0, 220) else pgM s) := rfl
  generalize pgR s = q at *
  go_enter Tryd.func4, Tryd.ntmps4
  go_upto_region 1 with fail
  generalize (((w.alloc (Obj.cells #[.int .u8 0, .int .u8 0, .int .u8 0, .int .u8 0, .int .u8 0, .int .u8 0, .int .u8 0, .int .u8 0, .int .u8 0, .int .u8 0, .int .u8 0, .int .u8 0, .int .u8 0, .int .u8 0, .int .u8 0, .int .u8 0, .int .u8 0, .int .u8 0, .int .u8 0, .int .u8 0, .int .u8 0, .int .u8 0, .int .u8 0, .int .u8 0, .int .u8 0, .int .u8 0, .int .u8 0, .int .u8 0, .int .u8 0, .int .u8 0, .int .u8 0, .int .u8 0, .string { data := #[] }, .slice none 0 0, .slice none 0 0, .slice none 0 0, .slice none 0 0] 28)).alloc (Obj.cells #[.int .i64 0] 3)).alloc (Obj.cells #[.int .i64 0] 29)) = w0 at *
  generalize hvb : w.heap.size = H at *
  have HS : Hid (w.heap.size = H) := hvb
  clear hvb
  have hZer := P0.out.2.1
  have a1 : Boxed (w0.setRow H (lkC (List.replicate 32 (0 : UInt8)) ⟨#[]⟩ (.slice none 0 0) (.slice none 0 0) (.slice none 0 0) (.slice none 0 0))) (H + 1) 3 (.int .i64 0) := (setRow_other _ _ _ _ (by omega)).trans P0.out.2.2.1
  have a2 : Boxed (w0.setRow H (lkC (List.replicate 32 (0 : UInt8)) ⟨#[]⟩ (.slice none 0 0) (.slice none 0 0) (.slice none 0 0) (.slice none 0 0))) (H + 1 + 1) 29 (.int .i64 0) := (setRow_other _ _ _ _ (by omega)).trans P0.out.2.2.2
  have c1 := a1.cell
  have f1 := a1.frozen
  have c2 := (a2.other (B' := H + 1) (by omega) (.int .i64 0)).cell
  have f2 := (a2.other (B' := H + 1) (by omega) (.int .i64 0)).frozen
  obtain ⟨W9, hW9⟩ : ∃ W9, w0.setRow H (lkC (List.replicate 32 (0 : UInt8)) ⟨#[]⟩ (.slice none 0 0) (.slice none 0 0) (.slice none 0 0) (.slice none 0 0)) = W9 := ⟨_, rfl⟩
  rw [hW9] at c1 f1 c2 f2
  clear a1 a2
  by_cases hs : 4096 < s.size
  · have hs' : (s.size : Int) > 4096 := by omega
    have HE : Hid (q = (zP, 0, 221)) := by have h9 := HQ.out; rw [if_pos hs] at h9; exact h9
    have HZ0 := P0.out.zero 221
    rw [hW9] at HZ0
    have HZ := Lib.hid HZ0
    clear HZ0
    clear hq HC HQ P0
    go_wp2_with (refine wpList_store_row rfl 28 _ _ rfl H (lkC (List.replicate 32 (0 : UInt8)) ⟨#[]⟩ (.slice none 0 0) (.slice none 0 0) (.slice none 0 0) (.slice none 0 0)) rfl rfl 28 _ hZer (infoLk (by simp)) rfl lkC_one ?_; rw [hW9]; clear hW9)
    exact bodyPost_ret (results_r3 Tryd.results4 _ _ H (H + 1) (H + 1 + 1) 28 3 29 _ (0, 0) _ _ _ rfl rfl rfl HZ.out.1 HZ.out.2.1 HZ.out.2.2.1 rfl Tryd.underlying28 (infoLk (by simp)) isAgg3 isAgg29) rfl (rp_zero HS.out HE.out HZ.out.2.2.2)
  have hs' : ¬ (s.size : Int) > 4096 := by omega
  have hpf : Lib.hasPrefix s.data.toList [109, 97, 103, 110, 101, 116, 58, 63] = false := by
    rcases hq with h | h
    · exact absurd h hs
    · exact h
  have HE : Hid (q = (zP, 0, 220)) := by have h9 := HQ.out; rw [if_neg hs, if_pos hpf] at h9; exact h9
  have HZ0 := P0.out.zero 220
  rw [hW9] at HZ0
  have HZ := Lib.hid HZ0
  clear HZ0
  rw [hpf] at HC
  clear hq HQ P0 hpf
  go_wp2_with fail
  refine (HC.out w0).mono ?_
  rintro e w1 ⟨rfl, rfl⟩
  generalize cpB s { data := #[109, 97, 103, 110, 101, 116, 58, 63] } = cp at *
  go_wp2_with (refine wpList_store_row rfl 28 _ _ rfl H (lkC (List.replicate 32 (0 : UInt8)) ⟨#[]⟩ (.slice none 0 0) (.slice none 0 0) (.slice none 0 0) (.slice none 0 0)) rfl rfl 28 _ hZer (infoLk (by simp)) rfl lkC_one ?_; rw [hW9]; clear hW9)
  exact bodyPost_ret (results_r3 Tryd.results4 _ _ H (H + 1) (H + 1 + 1) 28 3 29 _ (0, 0) _ _ _ rfl rfl rfl HZ.out.1 HZ.out.2.1 HZ.out.2.2.1 rfl Tryd.underlying28 (infoLk (by simp)) isAgg3 isAgg29) rfl (rp_zero HS.out HE.out HZ.out.2.2.2)
end Go.Proofs.YtmfbhihjiebagaaDoor
