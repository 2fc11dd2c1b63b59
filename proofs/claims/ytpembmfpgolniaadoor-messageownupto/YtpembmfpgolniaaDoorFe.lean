import Derived.Test.YtpembmfpgolniaaDoorFd
namespace Go.Proofs.YtpembmfpgolniaaDoor
open Go.RowKit
/-- a table of the fields' rows -/
def TBL (w : World) (T : List Value) : Prop := T.length = 60 ∧ (∀ v ∈ T, v.oneCell' = true) ∧ ∀ c, 1 ≤ c → c ≤ 11 → FLD w c ((T.drop (5 * c)).take 5)
theorem info_table : (Tryd.prog.info? 73).map (·.size) = some 60 := by kernel_rfl
theorem wpList_built {ops : Array Oper} {rest : List Oper} {o : Oper} {a : Act} {w : World} {Q : Exit → Act → World → Prop} (hg : o.guard = none) (t : TypeId) (parts : Array (Nat × Operand)) (ho : o.op = .build t parts) (T : Array Value)
    (hf : Tryd.prog.built t (parts.map fun (i, x) => (i, a.eval x)).toList = some T)
    (h : wpList Tryd.prog ops Q rest (a.put o.dst (.agg T)) w) : wpList Tryd.prog ops Q (o :: rest) a w :=
  wpList_build hg t parts ho (by rw [hf]; rfl) (by rw [hf]; exact h)
def nf60 : Array Value := #[Value.nilFunc, Value.nilFunc, Value.nilFunc, Value.nilFunc, Value.nilFunc, Value.nilFunc, Value.nilFunc, Value.nilFunc, Value.nilFunc, Value.nilFunc, Value.nilFunc, Value.nilFunc, Value.nilFunc, Value.nilFunc, Value.nilFunc, Value.nilFunc, Value.nilFunc, Value.nilFunc, Value.nilFunc, Value.nilFunc, Value.nilFunc, Value.nilFunc, Value.nilFunc, Value.nilFunc, Value.nilFunc, Value.nilFunc, Value.nilFunc, Value.nilFunc, Value.nilFunc, Value.nilFunc, Value.nilFunc, Value.nilFunc, Value.nilFunc, Value.nilFunc, Value.nilFunc, Value.nilFunc, Value.nilFunc, Value.nilFunc, Value.nilFunc, Value.nilFunc, Value.nilFunc, Value.nilFunc, Value.nilFunc, Value.nilFunc, Value.nilFunc, Value.nilFunc, Value.nilFunc, Value.nilFunc, Value.nilFunc, Value.nilFunc, Value.nilFunc, Value.nilFunc, Value.nilFunc, Value.nilFunc, Value.nilFunc, Value.nilFunc, Value.nilFunc, Value.nilFunc, Value.nilFunc, Value.nilFunc]
theorem nf60_eq : #[Value.nilFunc, Value.nilFunc, Value.nilFunc, Value.nilFunc, Value.nilFunc, Value.nilFunc, Value.nilFunc, Value.nilFunc, Value.nilFunc, Value.nilFunc, Value.nilFunc, Value.nilFunc, Value.nilFunc, Value.nilFunc, Value.nilFunc, Value.nilFunc, Value.nilFunc, Value.nilFunc, Value.nilFunc, Value.nilFunc, Value.nilFunc, Value.nilFunc, Value.nilFunc, Value.nilFunc, Value.nilFunc, Value.nilFunc, Value.nilFunc, Value.nilFunc, Value.nilFunc, Value.nilFunc, Value.nilFunc, Value.nilFunc, Value.nilFunc, Value.nilFunc, Value.nilFunc, Value.nilFunc, Value.nilFunc, Value.nilFunc, Value.nilFunc, Value.nilFunc, Value.nilFunc, Value.nilFunc, Value.nilFunc, Value.nilFunc, Value.nilFunc, Value.nilFunc, Value.nilFunc, Value.nilFunc, Value.nilFunc, Value.nilFunc, Value.nilFunc, Value.nilFunc, Value.nilFunc, Value.nilFunc, Value.nilFunc, Value.nilFunc, Value.nilFunc, Value.nilFunc, Value.nilFunc, Value.nilFunc] = nf60 := rfl
theorem results_table {fn : Func} {p : Tmp} (h : fn.results = #[.cell p 73]) (tmps : Array Value) (w : World) (g : Nat) (cs : Array Value)
    (hp : tmps.getD p undef = .pointer (some ⟨g, 0, none⟩)) (hg : w.heap[g]? = some (.cells cs 73 (0, 0))) (hs : cs.size = 60) : (results fn tmps).run Tryd.prog w = .ok (.agg cs) w := by
  have hp' : tmps[p]?.getD undef = .pointer (some ⟨g, 0, none⟩) := by simpa using hp
  have hi : (Tryd.prog.info? 73).map (·.size) = some cs.size := by rw [hs]; exact info_table
  simp [results, h, hp', asAddr, run_loadVar_row w g 73 73 cs (0, 0) _ hg Tryd.underlying73 rfl hi]
def tabL (p3 q3 s3 p4 q4 s4 p5 q5 s5 p6 q6 s6 p8 q8 s8 p9 q9 s9 : Nat) : List Value := [Value.nilFunc, Value.nilFunc, Value.nilFunc, Value.nilFunc, Value.nilFunc] ++ ([fnv 49, fnv 50, fnv 51, fnv 52, fnv 53]) ++ ([fnv 54, fnv 55, fnv 56, fnv 57, fnv 58]) ++ (numVs p3 q3 s3) ++ (numVs p4 q4 s4) ++ (numVs p5 q5 s5) ++ (numVs p6 q6 s6) ++ ([fnv 66, fnv 67, fnv 68, fnv 52, fnv 69]) ++ (numVs p8 q8 s8) ++ (numVs p9 q9 s9) ++ ([fnv 70, fnv 71, fnv 72, fnv 52, fnv 73]) ++ ([fnv 74, fnv 75, fnv 76, fnv 52, fnv 77])
theorem table_parts (v0 v1 v2 v3 v4 v5 v6 v7 v8 v9 v10 v11 : Value) : ((#[(1, Operand.tmp 1), (2, Operand.tmp 2), (3, Operand.tmp 3), (4, Operand.tmp 4), (5, Operand.tmp 5), (6, Operand.tmp 6), (7, Operand.tmp 7), (8, Operand.tmp 8), (9, Operand.tmp 9), (10, Operand.tmp 10), (11, Operand.tmp 11)] : Array (Nat × Operand)).map fun (i, x) => (i, Act.eval { tmps := #[v0, v1, v2, v3, v4, v5, v6, v7, v8, v9, v10, v11, undef], defers := [] } x)).toList = [(1, v1), (2, v2), (3, v3), (4, v4), (5, v5), (6, v6), (7, v7), (8, v8), (9, v9), (10, v10), (11, v11)] := by
  simp [Act.eval]
set_option maxRecDepth 100000 in
theorem built_table (p3 q3 s3 p4 q4 s4 p5 q5 s5 p6 q6 s6 p8 q8 s8 p9 q9 s9 : Nat) : Tryd.prog.built 73 [(1, .agg #[fnv 49, fnv 50, fnv 51, fnv 52, fnv 53]), (2, .agg #[fnv 54, fnv 55, fnv 56, fnv 57, fnv 58]), (3, .agg (numVs p3 q3 s3).toArray), (4, .agg (numVs p4 q4 s4).toArray), (5, .agg (numVs p5 q5 s5).toArray), (6, .agg (numVs p6 q6 s6).toArray), (7, .agg #[fnv 66, fnv 67, fnv 68, fnv 52, fnv 69]), (8, .agg (numVs p8 q8 s8).toArray), (9, .agg (numVs p9 q9 s9).toArray), (10, .agg #[fnv 70, fnv 71, fnv 72, fnv 52, fnv 73]), (11, .agg #[fnv 74, fnv 75, fnv 76, fnv 52, fnv 77])] = some (tabL p3 q3 s3 p4 q4 s4 p5 q5 s5 p6 q6 s6 p8 q8 s8 p9 q9 s9).toArray := by kernel_rfl
theorem tabL_ok (w : World) (p3 q3 s3 p4 q4 s4 p5 q5 s5 p6 q6 s6 p8 q8 s8 p9 q9 s9 : Nat) (h3 : NUM w 34 0 4294967295 (numVs p3 q3 s3)) (h4 : NUM w 35 0 4294967295 (numVs p4 q4 s4)) (h5 : NUM w 36 0 4294967295 (numVs p5 q5 s5)) (h6 : NUM w 37 1 16384 (numVs p6 q6 s6)) (h8 : NUM w 39 0 4294967295 (numVs p8 q8 s8)) (h9 : NUM w 40 0 4294967295 (numVs p9 q9 s9)) : TBL w (tabL p3 q3 s3 p4 q4 s4 p5 q5 s5 p6 q6 s6 p8 q8 s8 p9 q9 s9) := by
  refine ⟨rfl, ?_, ?_⟩
  · intro v hv
    exact List.all_eq_true.1 (rfl : (tabL p3 q3 s3 p4 q4 s4 p5 q5 s5 p6 q6 s6 p8 q8 s8 p9 q9 s9).all (·.oneCell') = true) v hv
  · intro c h1 h2
    have h : c = 1 ∨ c = 2 ∨ c = 3 ∨ c = 4 ∨ c = 5 ∨ c = 6 ∨ c = 7 ∨ c = 8 ∨ c = 9 ∨ c = 10 ∨ c = 11 := by omega
    rcases h with rfl | rfl | rfl | rfl | rfl | rfl | rfl | rfl | rfl | rfl | rfl
    all_goals first | exact rfl | exact h3 | exact h4 | exact h5 | exact h6 | exact h8 | exact h9
set_option maxHeartbeats 1000000 in
set_option maxRecDepth 100000 in
theorem fieldTableT (w : World) : Calls Tryd.prog 26 #[] w fun e w' => ∃ T, e = .returned (.agg T.toArray) ∧ TBL w' T ∧ Below w.heap.size w w' := by
  have hg0 := heapNew w (.cells nf60 73)
  have b0 : Below w.heap.size w (w.alloc (.cells nf60 73)) := (Below.refl _ _).alloc (Nat.le_refl _) _
  have lt0 : w.heap.size < (w.alloc (.cells nf60 73)).heap.size := by simp
  go_enter Tryd.func26, Tryd.ntmps26
  go_wp2_with fail
  rw [nf60_eq]
  generalize w.alloc (.cells nf60 73) = w0 at *
  refine (kindFieldT w0).mono ?_
  rintro e w1 ⟨rfl, c1⟩
  have hg1 := (c1.block _ lt0).trans hg0
  have lt1 : w.heap.size < w1.heap.size := Nat.lt_of_lt_of_le lt0 c1.size
  have b1 := b0.trans (c1.mono (Nat.le_of_lt lt0))
  clear c1 hg0 lt0 b0
  go_wp2_with fail
  refine (otherFieldT w1).mono ?_
  rintro e w2 ⟨rfl, c2⟩
  have hg2 := (c2.block _ lt1).trans hg1
  have lt2 : w.heap.size < w2.heap.size := Nat.lt_of_lt_of_le lt1 c2.size
  have b2 := b1.trans (c2.mono (Nat.le_of_lt lt1))
  clear c2 hg1 lt1 b1
  go_wp2_with fail
  refine (numberFieldT w2 34 0 4294967295).mono ?_
  rintro e w3 ⟨p3, q3, s3, rfl, m3, c3⟩
  have hg3 := (c3.block _ lt2).trans hg2
  have lt3 : w.heap.size < w3.heap.size := Nat.lt_of_lt_of_le lt2 c3.size
  have b3 := b2.trans (c3.mono (Nat.le_of_lt lt2))
  clear c3 hg2 lt2 b2
  go_wp2_with fail
  refine (numberFieldT w3 35 0 4294967295).mono ?_
  rintro e w4 ⟨p4, q4, s4, rfl, m4, c4⟩
  have hg4 := (c4.block _ lt3).trans hg3
  have lt4 : w.heap.size < w4.heap.size := Nat.lt_of_lt_of_le lt3 c4.size
  have b4 := b3.trans (c4.mono (Nat.le_of_lt lt3))
  replace m3 := m3.below c4
  clear c4 hg3 lt3 b3
  go_wp2_with fail
  refine (numberFieldT w4 36 0 4294967295).mono ?_
  rintro e w5 ⟨p5, q5, s5, rfl, m5, c5⟩
  have hg5 := (c5.block _ lt4).trans hg4
  have lt5 : w.heap.size < w5.heap.size := Nat.lt_of_lt_of_le lt4 c5.size
  have b5 := b4.trans (c5.mono (Nat.le_of_lt lt4))
  replace m3 := m3.below c5
  replace m4 := m4.below c5
  clear c5 hg4 lt4 b4
  go_wp2_with fail
  refine (numberFieldT w5 37 1 16384).mono ?_
  rintro e w6 ⟨p6, q6, s6, rfl, m6, c6⟩
  have hg6 := (c6.block _ lt5).trans hg5
  have lt6 : w.heap.size < w6.heap.size := Nat.lt_of_lt_of_le lt5 c6.size
  have b6 := b5.trans (c6.mono (Nat.le_of_lt lt5))
  replace m3 := m3.below c6
  replace m4 := m4.below c6
  replace m5 := m5.below c6
  clear c6 hg5 lt5 b5
  go_wp2_with fail
  refine (rootFieldT w6).mono ?_
  rintro e w7 ⟨rfl, c7⟩
  have hg7 := (c7.block _ lt6).trans hg6
  have lt7 : w.heap.size < w7.heap.size := Nat.lt_of_lt_of_le lt6 c7.size
  have b7 := b6.trans (c7.mono (Nat.le_of_lt lt6))
  replace m3 := m3.below c7
  replace m4 := m4.below c7
  replace m5 := m5.below c7
  replace m6 := m6.below c7
  clear c7 hg6 lt6 b6
  go_wp2_with fail
  refine (numberFieldT w7 39 0 4294967295).mono ?_
  rintro e w8 ⟨p8, q8, s8, rfl, m8, c8⟩
  have hg8 := (c8.block _ lt7).trans hg7
  have lt8 : w.heap.size < w8.heap.size := Nat.lt_of_lt_of_le lt7 c8.size
  have b8 := b7.trans (c8.mono (Nat.le_of_lt lt7))
  replace m3 := m3.below c8
  replace m4 := m4.below c8
  replace m5 := m5.below c8
  replace m6 := m6.below c8
  clear c8 hg7 lt7 b7
  go_wp2_with fail
  refine (numberFieldT w8 40 0 4294967295).mono ?_
  rintro e w9 ⟨p9, q9, s9, rfl, m9, c9⟩
  have hg9 := (c9.block _ lt8).trans hg8
  have lt9 : w.heap.size < w9.heap.size := Nat.lt_of_lt_of_le lt8 c9.size
  have b9 := b8.trans (c9.mono (Nat.le_of_lt lt8))
  replace m3 := m3.below c9
  replace m4 := m4.below c9
  replace m5 := m5.below c9
  replace m6 := m6.below c9
  replace m8 := m8.below c9
  clear c9 hg8 lt8 b8
  go_wp2_with fail
  refine (dataFieldT w9).mono ?_
  rintro e w10 ⟨rfl, c10⟩
  have hg10 := (c10.block _ lt9).trans hg9
  have lt10 : w.heap.size < w10.heap.size := Nat.lt_of_lt_of_le lt9 c10.size
  have b10 := b9.trans (c10.mono (Nat.le_of_lt lt9))
  replace m3 := m3.below c10
  replace m4 := m4.below c10
  replace m5 := m5.below c10
  replace m6 := m6.below c10
  replace m8 := m8.below c10
  replace m9 := m9.below c10
  clear c10 hg9 lt9 b9
  go_wp2_with fail
  refine (hashesFieldT w10).mono ?_
  rintro e w11 ⟨rfl, c11⟩
  have hg11 := (c11.block _ lt10).trans hg10
  have lt11 : w.heap.size < w11.heap.size := Nat.lt_of_lt_of_le lt10 c11.size
  have b11 := b10.trans (c11.mono (Nat.le_of_lt lt10))
  replace m3 := m3.below c11
  replace m4 := m4.below c11
  replace m5 := m5.below c11
  replace m6 := m6.below c11
  replace m8 := m8.below c11
  replace m9 := m9.below c11
  clear c11 hg10 lt10 b10
  have HT : Hid (TBL w11 (tabL p3 q3 s3 p4 q4 s4 p5 q5 s5 p6 q6 s6 p8 q8 s8 p9 q9 s9)) := tabL_ok w11 p3 q3 s3 p4 q4 s4 p5 q5 s5 p6 q6 s6 p8 q8 s8 p9 q9 s9 m3 m4 m5 m6 m8 m9
  have HB : Hid (Below w.heap.size w w11) := b11
  clear m3 m4 m5 m6 m8 m9 b11 lt11
  have hone : (tabL p3 q3 s3 p4 q4 s4 p5 q5 s5 p6 q6 s6 p8 q8 s8 p9 q9 s9).toArray.all (·.oneCell') = true := all_oneCell_toArray HT.out.2.1
  have hbt := built_table p3 q3 s3 p4 q4 s4 p5 q5 s5 p6 q6 s6 p8 q8 s8 p9 q9 s9
  have hsz : nf60.size = (tabL p3 q3 s3 p4 q4 s4 p5 q5 s5 p6 q6 s6 p8 q8 s8 p9 q9 s9).toArray.size := rfl
  have hit : (Tryd.prog.info? 73).map (·.size) = some (tabL p3 q3 s3 p4 q4 s4 p5 q5 s5 p6 q6 s6 p8 q8 s8 p9 q9 s9).toArray.size := info_table
  have HH : Hid ((tabL p3 q3 s3 p4 q4 s4 p5 q5 s5 p6 q6 s6 p8 q8 s8 p9 q9 s9).toArray.size = 60) := rfl
  rename_i Q' K1 h1 K2 h2
  dsimp only
  refine h2 _ _ ?_
  refine wpList_built rfl 73 _ rfl (tabL p3 q3 s3 p4 q4 s4 p5 q5 s5 p6 q6 s6 p8 q8 s8 p9 q9 s9).toArray ((congrArg (Tryd.prog.built 73) (table_parts _ _ _ _ _ _ _ _ _ _ _ _)).trans hbt) ?_
  refine wpList_store_row rfl 73 _ _ rfl w.heap.size (tabL p3 q3 s3 p4 q4 s4 p5 q5 s5 p6 q6 s6 p8 q8 s8 p9 q9 s9).toArray rfl rfl 73 nf60 hg11 hit hsz hone ?_
  go_wp2
  exact bodyPost_ret (results_table Tryd.results26 _ _ w.heap.size _ rfl (heapSetRow _ _ _ _ _ hg11) HH.out) rfl ⟨_, rfl, ⟨HT.out.1, HT.out.2.1, fun c h1 h2 => (HT.out.2.2 c h1 h2).keep (Besides.setRow _ _ _) hg11 (by decide)⟩, belowSetRow HB.out (Nat.le_refl _) _⟩
end Go.Proofs.YtpembmfpgolniaaDoor
