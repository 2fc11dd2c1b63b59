import Derived.Test.YtnpcbcfjnhjmmaaGreatDoorV15
namespace Go.Proofs.YtnpcbcfjnhjmmaaGreatDoor
open Go.Shelf Go.RowKit Go.Deep
/-- a run, as it is written: one place, or two with a '-' between -/
def rrO (s : ByteArray) : Option (Int × Int) :=
  match plO (ctR s 45).1 with
  | none => none
  | some a => if (ctR s 45).2.2 = false then some ((a : Int), 1) else match plO (ctR s 45).2.1 with
    | none => none
    | some b => if a < b then some ((a : Int), (b : Int) - (a : Int) + 1) else none
theorem ctR_size (s : ByteArray) (x : UInt8) : (ctR s x).1.size ≤ s.size ∧ (ctR s x).2.1.size ≤ s.size := by
  unfold ctR
  split
  · exact ⟨Nat.le_refl _, Nat.zero_le _⟩
  · constructor
    · show (s.extract 0 _).size ≤ _
      simp; omega
    · show (s.extract _ s.size).size ≤ _
      simp
theorem plO_lt {s : ByteArray} {m : Nat} (h : plO s = some m) : m < 4096 := by
  unfold plO at h
  split at h
  · split at h
    · rename_i v _ hv
      simp only [Option.some.injEq] at h
      omega
    · cases h
  · cases h
/-- what readRun leaves -/
def RE (w : World) (q : Option (Int × Int)) (e : Ending) (w' : World) : Prop := (∃ x y : Int, e = .returned (.tuple #[.agg #[.int .i64 x, .int .i64 y], .bool q.isSome]) ∧ ∀ r, q = some r → (x, y) = r) ∧ Below w.heap.size w w'
theorem re_no {w w' : World} {q : Option (Int × Int)} {x y : Int} {H : Nat} (hH : w.heap.size = H) (hq : q = none) (h : Below H w w') : RE w q (.returned (.tuple #[.agg #[.int .i64 x, .int .i64 y], .bool false])) w' := by
  subst hH; subst hq; exact ⟨⟨x, y, rfl, fun r h => by cases h⟩, h⟩
theorem re_yes {w w' : World} {q : Option (Int × Int)} {x y : Int} {H : Nat} (hH : w.heap.size = H) (hq : q = some (x, y)) (h : Below H w w') : RE w q (.returned (.tuple #[.agg #[.int .i64 x, .int .i64 y], .bool true])) w' := by
  subst hH; subst hq; exact ⟨⟨x, y, rfl, fun r h => by cases h; rfl⟩, h⟩
theorem infoRg (x y : Value) : (Tryz.prog.info? 36).map (·.size) = some (#[x, y] : Array Value).size := by
  have h := infoRng
  cases hq : Tryz.prog.info? 36 with
  | none => rw [hq] at h; cases h
  | some i =>
    rw [hq] at h
    simp at h
    simp [h]
theorem oneRg (x y : Int) : (#[.int .i64 x, .int .i64 y] : Array Value).all (·.oneCell') = true := Array.all_eq_true_iff_forall_mem.2 (fun v hv => by simp at hv; rcases hv with rfl | rfl <;> rfl)
set_option maxHeartbeats 2000000 in
theorem readRun61 (s : ByteArray) (w : World) (hs : s.size ≤ 4096) (hT : TG w) :
    Calls Tryz.prog 94 #[.string s] w fun e w' => RE w (rrO s) e w' := by
  have HQ : Hid (rrO s = match plO (ctR s 45).1 with
    | none => none
    | some a => if (ctR s 45).2.2 = false then some ((a : Int), 1) else match plO (ctR s 45).2.1 with
      | none => none
      | some b => if a < b then some ((a : Int), (b : Int) - (a : Int) + 1) else none) := rfl
  have HC : Hid (∀ w, Calls Tryz.prog 37 #[.string s, .string { data := #[45] }] w fun e w' => e = .returned (.tuple #[.string (ctR s 45).1, .string (ctR s 45).2.1, .bool (ctR s 45).2.2]) ∧ Below w.heap.size w w') := fun w => cut_45 s w (by omega)
  have z1 := (ctR_size s 45).1
  have z2 := (ctR_size s 45).2
  generalize rrO s = q at *
  generalize ctR s 45 = c at *
  obtain ⟨c1, c2, c3⟩ := c
  have HT : Hid (∀ w', Below w.heap.size w w' → TG w') := fun w' hb => hT.below hb
  have z1' : c1.size ≤ 4096 := Nat.le_trans z1 hs
  have z2' : c2.size ≤ 4096 := Nat.le_trans z2 hs
  clear hT z1 z2 hs
  have B0 : Hid (Below w.heap.size w (w.alloc (Obj.cells #[.int .i64 0, .int .i64 0] 36))) := (Below.refl _ _).alloc (Nat.le_refl _) _
  have Z0 : Hid ((w.alloc (Obj.cells #[.int .i64 0, .int .i64 0] 36)).heap[w.heap.size]? = some (.cells #[.int .i64 0, .int .i64 0] 36 (0, 0))) := heap_new _ _
  have L0 : Hid (w.heap.size < (w.alloc (Obj.cells #[.int .i64 0, .int .i64 0] 36)).heap.size) := (by simp : w.heap.size < (w.alloc (Obj.cells #[.int .i64 0, .int .i64 0] 36)).heap.size)
  go_enter Tryz.func94, Tryz.ntmps94
  go_upto_region 1 with fail
  generalize (w.alloc (Obj.cells #[.int .i64 0, .int .i64 0] 36)) = w0 at *
  generalize hvb : w.heap.size = H at *
  have HS : Hid (w.heap.size = H) := hvb
  clear hvb
  go_wp2_with fail
  refine (HC.out w0).mono ?_
  rintro e w1 ⟨rfl, b1⟩
  clear HC
  have B1 : Hid (Below H w w1) := B0.out.trans (b1.mono (by have := L0.out; omega))
  have Z1 : Hid (w1.heap[H]? = some (.cells #[.int .i64 0, .int .i64 0] 36 (0, 0))) := (b1.block H L0.out).trans Z0.out
  have L1 : Hid (H < w1.heap.size) := Nat.lt_of_lt_of_le L0.out b1.size
  clear B0 Z0 L0 b1
  go_wp2_with fail
  refine (readPlace63 c1 w1 z1' (HT.out w1 B1.out)).mono ?_
  rintro e w2 ⟨⟨n, rfl, hn⟩, b2⟩
  have B2 : Hid (Below H w w2) := B1.out.trans (b2.mono (by have := L1.out; omega))
  have Z2 : Hid (w2.heap[H]? = some (.cells #[.int .i64 0, .int .i64 0] 36 (0, 0))) := (b2.block H L1.out).trans Z1.out
  have L2 : Hid (H < w2.heap.size) := Nat.lt_of_lt_of_le L1.out b2.size
  clear B1 Z1 L1 b2
  have HLT := Lib.hid (fun m => plO_lt (s := c1) (m := m))
  have HQ1 : Hid (q = match plO c1 with
    | none => none
    | some a => if c3 = false then some ((a : Int), 1) else match plO c2 with
      | none => none
      | some b => if a < b then some ((a : Int), (b : Int) - (a : Int) + 1) else none) := HQ.out
  clear HQ
  generalize plO c1 = o1 at *
  have hZ2 := Z2.out
  cases o1 with
  | none =>
    have HE : Hid (q = none) := HQ1.out
    clear HQ1
    go_wp2_with (refine wpList_store_row rfl 36 _ _ rfl H #[.int .i64 n, .int .i64 1] rfl rfl 36 _ hZ2 (infoRg _ _) rfl (oneRg _ _) ?_)
    exact bodyPost_ret (results_ct Tryz.results94 _ _ H 36 _ (0, 0) _ rfl (setRow_heap w2 H _ _ _ _ hZ2) rfl Tryz.underlying36 (infoRg _ _)) rfl (re_no HS.out HE.out (below_setRow B2.out (Nat.le_refl _) _))
  | some a =>
    have hna : n = (a : Int) := hn a rfl
    subst hna
    have ha := HLT.out a rfl
    clear hn HLT
    cases c3 with
    | false =>
      have HE : Hid (q = some ((a : Int), 1)) := HQ1.out
      clear HQ1
      go_wp2_with (refine wpList_store_row rfl 36 _ _ rfl H #[.int .i64 (a : Int), .int .i64 1] rfl rfl 36 _ hZ2 (infoRg _ _) rfl (oneRg _ _) ?_)
      exact bodyPost_ret (results_ct Tryz.results94 _ _ H 36 _ (0, 0) _ rfl (setRow_heap w2 H _ _ _ _ hZ2) rfl Tryz.underlying36 (infoRg _ _)) rfl (re_yes HS.out HE.out (below_setRow B2.out (Nat.le_refl _) _))
    | true =>
      have HQ2 : Hid (q = match plO c2 with
        | none => none
        | some b => if a < b then some ((a : Int), (b : Int) - (a : Int) + 1) else none) := HQ1.out
      clear HQ1
      go_wp2_with fail
      refine (readPlace63 c2 w2 z2' (HT.out w2 B2.out)).mono ?_
      rintro e w3 ⟨⟨n2, rfl, hn2⟩, b3⟩
      have B3 : Hid (Below H w w3) := B2.out.trans (b3.mono (by have := L2.out; omega))
      have hZ3 := (b3.block H L2.out).trans Z2.out
      clear B2 Z2 L2 b3 hZ2
      have HLT := Lib.hid (fun m => plO_lt (s := c2) (m := m))
      generalize plO c2 = o2 at *
      cases o2 with
      | none =>
        have HE : Hid (q = none) := HQ2.out
        clear HQ2
        go_wp2_with (refine wpList_store_row rfl 36 _ _ rfl H #[.int .i64 (a : Int), .int .i64 _] rfl rfl 36 _ hZ3 (infoRg _ _) rfl (oneRg _ _) ?_)
        exact bodyPost_ret (results_ct Tryz.results94 _ _ H 36 _ (0, 0) _ rfl (setRow_heap w3 H _ _ _ _ hZ3) rfl Tryz.underlying36 (infoRg _ _)) rfl (re_no HS.out HE.out (below_setRow B3.out (Nat.le_refl _) _))
      | some b =>
        have hnb : n2 = (b : Int) := hn2 b rfl
        subst hnb
        have hb := HLT.out b rfl
        clear hn2 HLT
        by_cases hab : a < b
        · have HE : Hid (q = some ((a : Int), (b : Int) - (a : Int) + 1)) := by have h9 := HQ2.out; simp only [if_pos hab] at h9; exact h9
          have hab' : (b : Int) > (a : Int) := by omega
          clear HQ2
          go_wp2_with (refine wpList_store_row rfl 36 _ _ rfl H #[.int .i64 (a : Int), .int .i64 ((b : Int) - (a : Int) + 1)] rfl rfl 36 _ hZ3 (infoRg _ _) rfl (oneRg _ _) ?_)
          exact bodyPost_ret (results_ct Tryz.results94 _ _ H 36 _ (0, 0) _ rfl (setRow_heap w3 H _ _ _ _ hZ3) rfl Tryz.underlying36 (infoRg _ _)) rfl (re_yes HS.out HE.out (below_setRow B3.out (Nat.le_refl _) _))
        · have HE : Hid (q = none) := by have h9 := HQ2.out; simp only [if_neg hab] at h9; exact h9
          have hab' : ¬ (b : Int) > (a : Int) := by omega
          clear HQ2
          go_wp2_with (refine wpList_store_row rfl 36 _ _ rfl H #[.int .i64 (a : Int), .int .i64 ((b : Int) - (a : Int) + 1)] rfl rfl 36 _ hZ3 (infoRg _ _) rfl (oneRg _ _) ?_)
          exact bodyPost_ret (results_ct Tryz.results94 _ _ H 36 _ (0, 0) _ rfl (setRow_heap w3 H _ _ _ _ hZ3) rfl Tryz.underlying36 (infoRg _ _)) rfl (re_no HS.out HE.out (below_setRow B3.out (Nat.le_refl _) _))
end Go.Proofs.YtnpcbcfjnhjmmaaGreatDoor
namespace Go.Proofs.YtnpcbcfjnhjmmaaGreatDoor
open Go.Shelf Go.RowKit Go.Deep
theorem RDg.rq {K : Nat → Prop} {B b : Nat} {w wr : World} {p : Ps} {t2 p2 o2 m2 : Value} {ah : Nat} (h : RDg K B b w wr p t2 p2 o2 m2 ah) (n1 : p.ts.length ≤ 4096) (n2 : p.ps.length ≤ 4096) (n4 : p.mo.length ≤ 4096) : RQ B b wr p t2 p2 m2 ah := by
  obtain ⟨h1, h2, h3, h4, h5, h6, h7⟩ := h
  exact ⟨h2.cell h6 1, h2.cell h6 2, h2.cell h6 4, h2.cell h6 5, h3.o1, h3.o2, h3.o4, n1, n2, n4⟩
theorem RDg.putRs {K : Nat → Prop} {B b : Nat} {w wr : World} {p : Ps} {t2 p2 o2 m2 v : Value} {ah : Nat} {rs : List (Int × Int)} (h : RDg K B b w wr p t2 p2 o2 m2 ah) (h8 : LO B wr { p with rs := rs } t2 p2 v m2) (hv : ∀ g, (g = b ∨ K g) → v.ownBlock ≠ some g) : RDg K B b w (wr.setCell ⟨b, 35, none⟩ v) { p with rs := rs } t2 p2 v m2 ah := by
  obtain ⟨h1, h2, h3, h4, h5, h6, h7⟩ := h
  have NH : NoB b t2 p2 v m2 := ⟨h4.1, h4.2.1, hv b (.inl rfl), h4.2.2.2⟩
  refine ⟨h1.setCell (by show B ≤ b; exact h5) _, ?_, h8.keep fun g hn => Below.heap_setCell _ _ _ _ (fun e => hn (e ▸ NH)), NH, h5, h6, fun g hg => ?_⟩
  · have h9 := setAt h2 35 v
    rw [(rdC_set h6 _ ⟨#[]⟩ _ _ _ _ v _ 0).2.2.2.1] at h9
    exact h9
  · obtain ⟨k1, k2, k3, k4⟩ := h7 g hg
    exact ⟨k1, k2, (Below.heap_setCell _ _ _ _ (by show g ≠ b; exact k1)).trans k3, ⟨k4.1, k4.2.1, hv g (.inr hg), k4.2.2.2⟩⟩
theorem rdC_info {l h : List UInt8} (hl : l.length = 32) (hh : h.length = 32) (nm : ByteArray) (tr pe on mo : Value) (ah : Nat) : putAt (rdC l nm tr pe on mo ah) 0 (bc h).toList = rdC h nm tr pe on mo ah := by
  have h9 := putAt_app (Lib.byteCells h) (Lib.byteCells l) [] [.string nm, tr, pe, on, mo, .int .i64 (ah : Int)] (by simp [Lib.byteCells, hl, hh])
  simpa [rdC, bc] using h9
theorem RDg.putH {K : Nat → Prop} {B b : Nat} {w wr : World} {p : Ps} {t2 p2 o2 m2 : Value} {ah : Nat} {h : List UInt8} (J : RDg K B b w wr p t2 p2 o2 m2 ah) (hh : h.length = 32) : RDg K B b w (wr.setCells b 0 (bc h).toList) { p with h := h } t2 p2 o2 m2 ah := by
  obtain ⟨h1, h2, h3, h4, h5, h6, h7⟩ := J
  have l1 := h2.lt
  have ls := h1.size
  have ho : ∀ g, g < wr.heap.size → g ≠ b → (wr.setCells b 0 (bc h).toList).heap[g]? = wr.heap[g]? := fun g hg hne => World.heap_setCells_other _ _ _ _ hg hne
  refine ⟨below_setCells h5 _ _ _ h1, ?_, ?_, h4, h5, hh, fun g hg => ?_⟩
  · have h9 := setCells_at (bc h).toList 0 wr _ h2
    rw [rdC_info h6 hh] at h9
    exact h9
  · have h9 := h3.keep (w' := wr.setCells b 0 (bc h).toList) fun g hn => by
      by_cases hl : g < wr.heap.size
      · exact ho g hl (fun e => hn (e ▸ h4))
      · exact absurd (h3.nob (g := g) (by omega)) hn
    exact ⟨h9.o1, h9.o2, h9.o3, h9.o4, h9.d1, h9.d2, h9.d3, h9.d4, h9.d5, h9.d6⟩
  · obtain ⟨k1, k2, k3, k4⟩ := h7 g hg
    exact ⟨k1, k2, (ho g (by omega) k1).trans k3, k4⟩
end Go.Proofs.YtnpcbcfjnhjmmaaGreatDoor
namespace Go.Proofs.YtnpcbcfjnhjmmaaGreatDoor
open Go.Shelf Go.RowKit Go.Deep
/-- of two unlike texts one is the less -/
theorem less_flip : ∀ (x y : List UInt8), (x == y) = false → Op.bytesLess x y = !Op.bytesLess y x
  | [], [], h => by simp at h
  | [], b :: y, _ => by simp [Op.bytesLess]
  | a :: x, [], _ => by simp [Op.bytesLess]
  | a :: x, b :: y, h => by
    by_cases hab : a = b
    · subst hab
      have h2 : (x == y) = false := by simpa using h
      have h3 := less_flip x y h2
      have h4 : ¬ a < a := by simp
      simp only [Op.bytesLess, decide_eq_false h4, Bool.false_or, beq_self_eq_true, Bool.true_and]
      exact h3
    · have e1 : (a == b) = false := beq_eq_false_iff_ne.2 hab
      have e2 : (b == a) = false := beq_eq_false_iff_ne.2 (fun h => hab h.symm)
      simp only [Op.bytesLess, e1, e2, Bool.false_and, Bool.or_false]
      have hn : a.toNat ≠ b.toNat := fun h => hab (UInt8.toNat_inj.1 h)
      by_cases hlt : a < b
      · have h2 : ¬ b < a := by rw [UInt8.lt_iff_toNat_lt] at hlt ⊢; omega
        rw [decide_eq_true hlt, decide_eq_false h2]; rfl
      · have h2 : b < a := by rw [UInt8.lt_iff_toNat_lt] at hlt ⊢; omega
        rw [decide_eq_false hlt, decide_eq_true h2]; rfl
/-- the reference's 'greater' is the program's 'less', the other way about -/
theorem strGt_less (a b : ByteArray) (h : (a.toList == b.toList) = false) : strGt a b = Op.bytesLess b.toList a.toList := by
  have h1 : (b.toList == a.toList) = false := by
    cases hb : (b.toList == a.toList) with
    | false => rfl
    | true => rw [eq_of_beq hb] at h; simp at h
  rw [strGt, less_flip _ _ h1]
end Go.Proofs.YtnpcbcfjnhjmmaaGreatDoor
