import Derived.Test.YtmfbhihjiebagaaDoorPo
namespace Go.Proofs.YtmfbhihjiebagaaDoor
open Go.Shelf Go.RowKit Go.Deep
/-- a run, as it is written: one place, or two with a '-' between -/
def rrO (s : ByteArray) : Option (Int × Int) :=
  match plO (ctR s 45).1 with
  | none => none
  | some a => if (ctR s 45).2.2 = false then some ((a : Int), 1) else match plO (ctR s 45).2.1 with
    | none => none
    | some b => if a < b then some ((a : Int), (b : Int) - (a : Int) + 1) else none
theorem ctR_size (s : ByteArray) (x : UInt8) : (ctR s x).1.size ≤ s.size ∧ (ctR s x).2.1.size ≤ s.size := by
  unfold ctR
  split
  · exact ⟨Nat.le_refl _, Nat.zero_le _⟩
  · constructor
    · show (s.extract 0 _).size ≤ _
      simp; omega
    · show (s.extract _ s.size).size ≤ _
      simp
theorem plO_lt {s : ByteArray} {m : Nat} (h : plO s = some m) : m < 4096 := by
  unfold plO at h
  split at h
  · split at h
    · rename_i v _ hv
      simp only [Option.some.injEq] at h
      omega
    · cases h
  · cases h
/-- what readRun leaves -/
def RE (w : World) (q : Option (Int × Int)) (e : Ending) (w' : World) : Prop := (∃ x y : Int, e = .returned (.tuple #[.agg #[.int .i64 x, .int .i64 y], .bool q.isSome]) ∧ ∀ r, q = some r → (x, y) = r) ∧ Below w.heap.size w w'
theorem re_no {w w' : World} {q : Option (Int × Int)} {x y : Int} {H : Nat} (hH : w.heap.size = H) (hq : q = none) (h : Below H w w') : RE w q (.returned (.tuple #[.agg #[.int .i64 x, .int .i64 y], .bool false])) w' := by
  subst hH; subst hq; exact ⟨⟨x, y, rfl, fun r h => by cases h⟩, h⟩
theorem re_yes {w w' : World} {q : Option (Int × Int)} {x y : Int} {H : Nat} (hH : w.heap.size = H) (hq : q = some (x, y)) (h : Below H w w') : RE w q (.returned (.tuple #[.agg #[.int .i64 x, .int .i64 y], .bool true])) w' := by
  subst hH; subst hq; exact ⟨⟨x, y, rfl, fun r h => by cases h; rfl⟩, h⟩
theorem infoRg (x y : Value) : (Tryd.prog.info? 48).map (·.size) = some (#[x, y] : Array Value).size := by
  have h := infoRng
  cases hq : Tryd.prog.info? 48 with
  | none => rw [hq] at h; cases h
  | some i =>
    rw [hq] at h
    simp at h
    simp [h]
theorem oneRg (x y : Int) : (#[.int .i64 x, .int .i64 y] : Array Value).all (·.oneCell') = true := Array.all_eq_true_iff_forall_mem.2 (fun v hv => by simp at hv; rcases hv with rfl | rfl <;> rfl)
set_option maxHeartbeats 2000000 in
theorem readRun61 (s : ByteArray) (w : World) (hs : s.size ≤ 4096) (hT : TG w) :
    Calls Tryd.prog 61 #[.string s] w fun e w' => RE w (rrO s) e w' := by
  have HQ : Hid (rrO s = match plO (ctR s 45).1 with
    | none => none
    | some a => if (ctR s 45).2.2 = false then some ((a : Int), 1) else match plO (ctR s 45).2.1 with
      | none => none
      | some b => if a < b then some ((a : Int), (b : Int) - (a : Int) + 1) else none) := rfl
  have HC : Hid (∀ w, Calls Tryd.prog 17 #[.string s, .string { data := #[45] }] w fun e w' => e = .returned (.tuple #[.string (ctR s 45).1, .string (ctR s 45).2.1, .bool (ctR s 45).2.2]) ∧ Below w.heap.size w w') := fun w => cut_45 s w (by omega)
  have z1 := (ctR_size s 45).1
  have z2 := (ctR_size s 45).2
  generalize rrO s = q at *
  generalize ctR s 45 = c at *
  obtain ⟨c1, c2, c3⟩ := c
  have HT : Hid (∀ w', Below w.heap.size w w' → TG w') := fun w' hb => hT.below hb
  have z1' : c1.size ≤ 4096 := Nat.le_trans z1 hs
  have z2' : c2.size ≤ 4096 := Nat.le_trans z2 hs
  clear hT z1 z2 hs
  have B0 : Hid (Below w.heap.size w (w.alloc (Obj.cells #[.int .i64 0, .int .i64 0] 48))) := (Below.refl _ _).alloc (Nat.le_refl _) _
  have Z0 : Hid ((w.alloc (Obj.cells #[.int .i64 0, .int .i64 0] 48)).heap[w.heap.size]? = some (.cells #[.int .i64 0, .int .i64 0] 48 (0, 0))) := heap_new _ _
  have L0 : Hid (w.heap.size < (w.alloc (Obj.cells #[.int .i64 0, .int .i64 0] 48)).heap.size) := (by simp : w.heap.size < (w.alloc (Obj.cells #[.int .i64 0, .int .i64 0] 48)).heap.size)
  go_enter Tryd.func61, Tryd.ntmps61
  go_upto_region 1 with fail
  generalize (w.alloc (Obj.cells #[.int .i64 0, .int .i64 0] 48)) = w0 at *
  generalize hvb : w.heap.size = H at *
  have HS : Hid (w.heap.size = H) := hvb
  clear hvb
  go_wp2_with fail
  refine (HC.out w0).mono ?_
  rintro e w1 ⟨rfl, b1⟩
  clear HC
  have B1 : Hid (Below H w w1) := B0.out.trans (b1.mono (by have := L0.out; omega))
  have Z1 : Hid (w1.heap[H]? = some (.cells #[.int .i64 0, .int .i64 0] 48 (0, 0))) := (b1.block H L0.out).trans Z0.out
  have L1 : Hid (H < w1.heap.size) := Nat.lt_of_lt_of_le L0.out b1.size
  clear B0 Z0 L0 b1
  go_wp2_with fail
  refine (readPlace63 c1 w1 z1' (HT.out w1 B1.out)).mono ?_
  rintro e w2 ⟨⟨n, rfl, hn⟩, b2⟩
  have B2 : Hid (Below H w w2) := B1.out.trans (b2.mono (by have := L1.out; omega))
  have Z2 : Hid (w2.heap[H]? = some (.cells #[.int .i64 0, .int .i64 0] 48 (0, 0))) := (b2.block H L1.out).trans Z1.out
  have L2 : Hid (H < w2.heap.size) := Nat.lt_of_lt_of_le L1.out b2.size
  clear B1 Z1 L1 b2
  have HLT := Lib.hid (fun m => plO_lt (s := c1) (m := m))
  have HQ1 : Hid (q = match plO c1 with
    | none => none
    | some a => if c3 = false then some ((a : Int), 1) else match plO c2 with
      | none => none
      | some b => if a < b then some ((a : Int), (b : Int) - (a : Int) + 1) else none) := HQ.out
  clear HQ
  generalize plO c1 = o1 at *
  have hZ2 := Z2.out
  cases o1 with
  | none =>
    have HE : Hid (q = none) := HQ1.out
    clear HQ1
    go_wp2_with (refine wpList_store_row rfl 48 _ _ rfl H #[.int .i64 n, .int .i64 1] rfl rfl 48 _ hZ2 (infoRg _ _) rfl (oneRg _ _) ?_)
    exact bodyPost_ret (results_ct Tryd.results61 _ _ H 48 _ (0, 0) _ rfl (setRow_heap w2 H _ _ _ _ hZ2) rfl Tryd.underlying48 (infoRg _ _)) rfl (re_no HS.out HE.out (below_setRow B2.out (Nat.le_refl _) _))
  | some a =>
    have hna : n = (a : Int) := hn a rfl
    subst hna
    have ha := HLT.out a rfl
    clear hn HLT
    cases c3 with
    | false =>
      have HE : Hid (q = some ((a : Int), 1)) := HQ1.out
      clear HQ1
      go_wp2_with (refine wpList_store_row rfl 48 _ _ rfl H #[.int .i64 (a : Int), .int .i64 1] rfl rfl 48 _ hZ2 (infoRg _ _) rfl (oneRg _ _) ?_)
      exact bodyPost_ret (results_ct Tryd.results61 _ _ H 48 _ (0, 0) _ rfl (setRow_heap w2 H _ _ _ _ hZ2) rfl Tryd.underlying48 (infoRg _ _)) rfl (re_yes HS.out HE.out (below_setRow B2.out (Nat.le_refl _) _))
    | true =>
      have HQ2 : Hid (q = match plO c2 with
        | none => none
        | some b => if a < b then some ((a : Int), (b : Int) - (a : Int) + 1) else none) := HQ1.out
      clear HQ1
      go_wp2_with fail
      refine (readPlace63 c2 w2 z2' (HT.out w2 B2.out)).mono ?_
      rintro e w3 ⟨⟨n2, rfl, hn2⟩, b3⟩
      have B3 : Hid (Below H w w3) := B2.out.trans (b3.mono (by have := L2.out; omega))
      have hZ3 := (b3.block H L2.out).trans Z2.out
      clear B2 Z2 L2 b3 hZ2
      have HLT := Lib.hid (fun m => plO_lt (s := c2) (m := m))
      generalize plO c2 = o2 at *
      cases o2 with
      | none =>
        have HE : Hid (q = none) := HQ2.out
        clear HQ2
        go_wp2_with (refine wpList_store_row rfl 48 _ _ rfl H #[.int .i64 (a : Int), .int .i64 _] rfl rfl 48 _ hZ3 (infoRg _ _) rfl (oneRg _ _) ?_)
        exact bodyPost_ret (results_ct Tryd.results61 _ _ H 48 _ (0, 0) _ rfl (setRow_heap w3 H _ _ _ _ hZ3) rfl Tryd.underlying48 (infoRg _ _)) rfl (re_no HS.out HE.out (below_setRow B3.out (Nat.le_refl _) _))
      | some b =>
        have hnb : n2 = (b : Int) := hn2 b rfl
        subst hnb
        have hb := HLT.out b rfl
        clear hn2 HLT
        by_cases hab : a < b
        · have HE : Hid (q = some ((a : Int), (b : Int) - (a : Int) + 1)) := by have h9 := HQ2.out; simp only [if_pos hab] at h9; exact h9
          have hab' : (b : Int) > (a : Int) := by omega
          clear HQ2
          go_wp2_with (refine wpList_store_row rfl 48 _ _ rfl H #[.int .i64 (a : Int), .int .i64 ((b : Int) - (a : Int) + 1)] rfl rfl 48 _ hZ3 (infoRg _ _) rfl (oneRg _ _) ?_)
          exact bodyPost_ret (results_ct Tryd.results61 _ _ H 48 _ (0, 0) _ rfl (setRow_heap w3 H _ _ _ _ hZ3) rfl Tryd.underlying48 (infoRg _ _)) rfl (re_yes HS.out HE.out (below_setRow B3.out (Nat.le_refl _) _))
        · have HE : Hid (q = none) := by have h9 := HQ2.out; simp only [if_neg hab] at h9; exact h9
          have hab' : ¬ (b : Int) > (a : Int) := by omega
          clear HQ2
          go_wp2_with (refine wpList_store_row rfl 48 _ _ rfl H #[.int .i64 (a : Int), .int .i64 ((b : Int) - (a : Int) + 1)] rfl rfl 48 _ hZ3 (infoRg _ _) rfl (oneRg _ _) ?_)
          exact bodyPost_ret (results_ct Tryd.results61 _ _ H 48 _ (0, 0) _ rfl (setRow_heap w3 H _ _ _ _ hZ3) rfl Tryd.underlying48 (infoRg _ _)) rfl (re_no HS.out HE.out (below_setRow B3.out (Nat.le_refl _) _))
end Go.Proofs.YtmfbhihjiebagaaDoor
