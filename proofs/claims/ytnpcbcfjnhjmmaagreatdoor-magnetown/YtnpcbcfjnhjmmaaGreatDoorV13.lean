import Derived.Test.YtnpcbcfjnhjmmaaGreatDoorV12
namespace Go.Proofs.YtnpcbcfjnhjmmaaGreatDoor
open Go.Shelf Go.RowKit Go.Deep
/-- what a reading holds of its lists, as its questions see it: the cells of its block b -/
structure RQ (B b : Nat) (w : World) (p : Ps) (tr pe mo : Value) (ah : Nat) : Prop where
  c33 : w.cell? ⟨b, 33, none⟩ = some tr
  c34 : w.cell? ⟨b, 34, none⟩ = some pe
  c36 : w.cell? ⟨b, 36, none⟩ = some mo
  c37 : w.cell? ⟨b, 37, none⟩ = some (.int .i64 (ah : Int))
  o1 : OS B w tr p.ts
  o2 : OS B w pe p.ps
  o4 : OM B w mo p.mo
  n1 : p.ts.length ≤ 4096
  n2 : p.ps.length ≤ 4096
  n4 : p.mo.length ≤ 4096
/-- a part that may not come again -/
def agR (p : Ps) (ah k : Nat) (key value : ByteArray) : Bool :=
  if k = 4 then winB p.ts value else if k = 5 then winB p.ps value else if k = 6 then key.toList == (lkey p.mo).toList else decide (k = ah)
theorem ret_bl {a b : Bool} (h : a = b) : Ending.returned (.bool a) = .returned (.bool b) := by rw [h]
set_option maxHeartbeats 1000000 in
theorem isAgain35 (B b : Nat) (p : Ps) (tr pe mo : Value) (ah k : Nat) (key value : ByteArray) (w : World) (h : RQ B b w p tr pe mo ah) (hk : k ≤ 6) (hah : ah ≤ 6) :
    Calls Tryz.prog 64 #[.pointer (some ⟨b, 0, none⟩), .int .i64 (k : Int), .string key, .string value] w fun e w' => e = .returned (.bool (agR p ah k key value)) ∧ Below w.heap.size w w' := by
  have HC1 : Hid (Calls Tryz.prog 43 #[tr, .string value] w fun e w' => e = .returned (.bool (winB p.ts value)) ∧ w' = w) := contains tr p.ts value w ((texts_of h.o1).move (fun _ _ _ => trivial) (Nat.le_refl _) (fun _ _ _ => rfl)) (by have := h.n1; omega)
  have HC2 : Hid (Calls Tryz.prog 43 #[pe, .string value] w fun e w' => e = .returned (.bool (winB p.ps value)) ∧ w' = w) := contains pe p.ps value w ((texts_of h.o2).move (fun _ _ _ => trivial) (Nat.le_refl _) (fun _ _ _ => rfl)) (by have := h.n2; omega)
  have HC3 : Hid (Calls Tryz.prog 65 #[.pointer (some ⟨b, 0, none⟩)] w fun e w' => e = .returned (.string (lkey p.mo)) ∧ Below w.heap.size w w') := lastKey36 B b mo p.mo w h.c36 h.o4 h.n4
  have HQ : Hid (agR p ah k key value = if k = 4 then winB p.ts value else if k = 5 then winB p.ps value else if k = 6 then key.toList == (lkey p.mo).toList else decide (k = ah)) := rfl
  have c33 := h.c33
  have c34 := h.c34
  have c37 := h.c37
  obtain ⟨ta, tc, rfl⟩ := ownForm h.o1
  obtain ⟨pa, pc, rfl⟩ := ownForm h.o2
  clear h
  generalize agR p ah k key value = r at *
  generalize winB p.ts value = q1 at *
  generalize winB p.ps value = q2 at *
  generalize lkey p.mo = lk at *
  have hkk : k = 4 ∨ k = 5 ∨ k = 6 ∨ (k ≠ 4 ∧ k ≠ 5 ∧ k ≠ 6) := by omega
  rcases hkk with rfl | rfl | rfl | ⟨k4, k5, k6⟩
  · have HR : Hid (q1 = r) := HQ.out.symm
    go_enter Tryz.func64, Tryz.ntmps64
    go_wp2_with fail
    refine HC1.out.mono ?_
    rintro e w1 ⟨rfl, rfl⟩
    go_wp2
    go_ret
    exact ⟨ret_bl HR.out, Below.refl _ _⟩
  · have HR : Hid (q2 = r) := HQ.out.symm
    go_enter Tryz.func64, Tryz.ntmps64
    go_wp2_with fail
    refine HC2.out.mono ?_
    rintro e w1 ⟨rfl, rfl⟩
    go_wp2
    go_ret
    exact ⟨ret_bl HR.out, Below.refl _ _⟩
  · have HR : Hid ((key.toList == lk.toList) = r) := HQ.out.symm
    go_enter Tryz.func64, Tryz.ntmps64
    go_wp2_with fail
    refine HC3.out.mono ?_
    rintro e w1 ⟨rfl, b1⟩
    go_wp2
    go_ret
    exact ⟨ret_bl HR.out, b1⟩
  · have HR : Hid (decide (k = ah) = r) := by have h9 := HQ.out; rw [if_neg k4, if_neg k5, if_neg k6] at h9; exact h9.symm
    have j4 : ¬ (k : Int) = 4 := by omega
    have j5 : ¬ (k : Int) = 5 := by omega
    have j6 : ¬ (k : Int) = 6 := by omega
    by_cases hka : k = ah
    · have HR2 : Hid (true = r) := by rw [← HR.out]; exact (decide_eq_true hka).symm
      have hka' : (k : Int) = (ah : Int) := by omega
      go_enter Tryz.func64, Tryz.ntmps64
      go_wp2
      go_ret
      exact ⟨ret_bl (by simpa using HR2.out), Below.refl _ _⟩
    · have HR2 : Hid (false = r) := by rw [← HR.out]; exact (decide_eq_false hka).symm
      have hka' : ¬ (k : Int) = (ah : Int) := by omega
      go_enter Tryz.func64, Tryz.ntmps64
      go_wp2
      go_ret
      exact ⟨ret_bl (by rw [← HR2.out]; exact beq_eq_false_iff_ne.2 hka'), Below.refl _ _⟩
/-- whether a part may stand here -/
def stR (p : Ps) (ah k : Nat) (key value : ByteArray) : Int :=
  if ah = 0 ∧ k ≠ 1 then 223
  else if k = 1 ∧ Lib.hasPrefix value.data.toList [117, 114, 110, 58, 98, 116, 105, 104, 58] = true then 224
  else if k = 1 ∧ ah ≠ 0 then 225
  else if k < ah then 227
  else if agR p ah k key value = true then 225
  else if k = 6 ∧ Op.bytesLess key.toList (lkey p.mo).toList = true then 227
  else 0
theorem RQ.below {B b : Nat} {w w' : World} {p : Ps} {tr pe mo : Value} {ah : Nat} (h : RQ B b w p tr pe mo ah) (hb : Below w.heap.size w w') (hl : b < w.heap.size) : RQ B b w' p tr pe mo ah :=
  ⟨(World.cell?_of_block (w := w) (a := ⟨b, 33, none⟩) (hb.block b hl)).trans h.c33, (World.cell?_of_block (w := w) (a := ⟨b, 34, none⟩) (hb.block b hl)).trans h.c34, (World.cell?_of_block (w := w) (a := ⟨b, 36, none⟩) (hb.block b hl)).trans h.c36, (World.cell?_of_block (w := w) (a := ⟨b, 37, none⟩) (hb.block b hl)).trans h.c37,
    own_keep h.o1 (fun g hg => hb.block g (World.ownsRow.lt h.o1 g hg).2), own_keep h.o2 (fun g hg => hb.block g (World.ownsRow.lt h.o2 g hg).2), own_keep h.o4 (fun g hg => hb.block g (World.ownsRow.lt h.o4 g hg).2), h.n1, h.n2, h.n4⟩
set_option maxHeartbeats 2000000 in
theorem stands20 (B b : Nat) (p : Ps) (tr pe mo : Value) (ah k : Nat) (key value : ByteArray) (w : World) (h : RQ B b w p tr pe mo ah) (hl : b < w.heap.size) (hk1 : 1 ≤ k) (hk : k ≤ 6) (hah : ah ≤ 6) :
    Calls Tryz.prog 40 #[.pointer (some ⟨b, 0, none⟩), .int .i64 (k : Int), .string key, .string value] w fun e w' => e = .returned (.int .i64 (stR p ah k key value)) ∧ Below w.heap.size w w' := by
  have HC1 : Hid (∀ w, Calls Tryz.prog 63 #[.string value, .string { data := #[117, 114, 110, 58, 98, 116, 105, 104, 58] }] w fun e w' => e = .returned (.bool (Lib.hasPrefix value.data.toList [117, 114, 110, 58, 98, 116, 105, 104, 58])) ∧ w' = w) := fun w => hasPrefix34 value { data := #[117, 114, 110, 58, 98, 116, 105, 104, 58] } w
  have HC2 : Hid (∀ w', Below w.heap.size w w' → Calls Tryz.prog 64 #[.pointer (some ⟨b, 0, none⟩), .int .i64 (k : Int), .string key, .string value] w' fun e w'' => e = .returned (.bool (agR p ah k key value)) ∧ Below w'.heap.size w' w'') := fun w' hb => isAgain35 B b p tr pe mo ah k key value w' (h.below hb hl) hk hah
  have HC3 : Hid (∀ w', Below w.heap.size w w' → Calls Tryz.prog 65 #[.pointer (some ⟨b, 0, none⟩)] w' fun e w'' => e = .returned (.string (lkey p.mo)) ∧ Below w'.heap.size w' w'') := fun w' hb => lastKey36 B b mo p.mo w' (h.below hb hl).c36 (h.below hb hl).o4 h.n4
  have HQ : Hid (stR p ah k key value = if ah = 0 ∧ k ≠ 1 then 223 else if k = 1 ∧ Lib.hasPrefix value.data.toList [117, 114, 110, 58, 98, 116, 105, 104, 58] = true then 224 else if k = 1 ∧ ah ≠ 0 then 225 else if k < ah then 227 else if agR p ah k key value = true then 225 else if k = 6 ∧ Op.bytesLess key.toList (lkey p.mo).toList = true then 227 else 0) := rfl
  have c37 := h.c37
  clear h
  generalize stR p ah k key value = r at *
  generalize agR p ah k key value = ag at *
  generalize Lib.hasPrefix value.data.toList [117, 114, 110, 58, 98, 116, 105, 104, 58] = op at *
  generalize lkey p.mo = lk at *
  go_enter Tryz.func40, Tryz.ntmps40
  by_cases hk0 : k = 1
  · subst hk0
    by_cases ha : ah = 0
    · subst ha
      go_wp2_with fail
      refine (HC1.out w).mono ?_
      rintro e w1 ⟨rfl, rfl⟩
      cases op with
      | true =>
        have HR : Hid (224 = r) := by have h9 := HQ.out; rw [if_neg (fun h => h.2 rfl), if_pos ⟨by simp, by simp⟩] at h9; exact h9.symm
        go_wp2
        go_ret
        exact ⟨ret_i HR.out, Below.refl _ _⟩
      | false =>
        have hlt : ¬ (1 < 0) := by omega
        go_wp2_with fail
        refine (HC2.out w1 (Below.refl _ _)).mono ?_
        rintro e w2 ⟨rfl, b2⟩
        cases ag with
        | true =>
          have HR : Hid (225 = r) := by have h9 := HQ.out; rw [if_neg (fun h => h.2 rfl), if_neg (fun h => by cases h.2), if_neg (fun h => h.2 rfl)] at h9; rw [if_neg hlt, if_pos (by simp)] at h9; exact h9.symm
          go_wp2
          go_ret
          exact ⟨ret_i HR.out, b2⟩
        | false =>
          have HR : Hid (0 = r) := by have h9 := HQ.out; rw [if_neg (fun h => h.2 rfl), if_neg (fun h => by cases h.2), if_neg (fun h => h.2 rfl)] at h9; rw [if_neg hlt, if_neg (by decide), if_neg (fun h => absurd h.1 (by decide))] at h9; exact h9.symm
          go_wp2
          go_ret
          exact ⟨ret_i HR.out, b2⟩
    · have ha' : ¬ (ah : Int) = 0 := by omega
      go_wp2_with fail
      refine (HC1.out w).mono ?_
      rintro e w1 ⟨rfl, rfl⟩
      cases op with
      | true =>
        have HR : Hid (224 = r) := by have h9 := HQ.out; rw [if_neg (fun h => h.2 rfl), if_pos ⟨by simp, by simp⟩] at h9; exact h9.symm
        go_wp2
        go_ret
        exact ⟨ret_i HR.out, Below.refl _ _⟩
      | false =>
        have HR : Hid (225 = r) := by have h9 := HQ.out; rw [if_neg (fun h => h.2 rfl), if_neg (fun h => by cases h.2), if_pos ⟨by simp, ha⟩] at h9; exact h9.symm
        go_wp2
        go_ret
        exact ⟨ret_i HR.out, Below.refl _ _⟩
  · have hk0' : ¬ (k : Int) = 1 := by omega
    by_cases ha : ah = 0
    · subst ha
      have HR : Hid (223 = r) := by have h9 := HQ.out; rw [if_pos ⟨by simp, hk0⟩] at h9; exact h9.symm
      go_wp2
      go_ret
      exact ⟨ret_i HR.out, Below.refl _ _⟩
    · have ha' : ¬ (ah : Int) = 0 := by omega
      by_cases hlt : k < ah
      · have hlt' : (k : Int) < (ah : Int) := by omega
        have HR : Hid (227 = r) := by have h9 := HQ.out; rw [if_neg (fun h => ha h.1), if_neg (fun h => hk0 h.1), if_neg (fun h => hk0 h.1)] at h9; rw [if_pos hlt] at h9; exact h9.symm
        go_wp2
        go_ret
        exact ⟨ret_i HR.out, Below.refl _ _⟩
      · have hlt' : ¬ (k : Int) < (ah : Int) := by omega
        go_wp2_with fail
        refine (HC2.out w (Below.refl _ _)).mono ?_
        rintro e w2 ⟨rfl, b2⟩
        cases ag with
        | true =>
          have HR : Hid (225 = r) := by have h9 := HQ.out; rw [if_neg (fun h => ha h.1), if_neg (fun h => hk0 h.1), if_neg (fun h => hk0 h.1)] at h9; rw [if_neg hlt, if_pos (by simp)] at h9; exact h9.symm
          go_wp2
          go_ret
          exact ⟨ret_i HR.out, b2⟩
        | false =>
          by_cases h6 : k = 6
          · subst h6
            go_wp2_with fail
            refine (HC3.out w2 b2).mono ?_
            rintro e w3 ⟨rfl, b3⟩
            cases hbl : Op.bytesLess key.toList lk.toList with
            | true =>
              have HR : Hid (227 = r) := by have h9 := HQ.out; rw [if_neg (fun h => ha h.1), if_neg (fun h => hk0 h.1), if_neg (fun h => hk0 h.1)] at h9; rw [if_neg hlt, if_neg (by decide), if_pos ⟨by simp, hbl⟩] at h9; exact h9.symm
              go_wp2
              go_ret
              exact ⟨ret_i HR.out, b2.trans (b3.mono b2.size)⟩
            | false =>
              have HR : Hid (0 = r) := by have h9 := HQ.out; rw [if_neg (fun h => ha h.1), if_neg (fun h => hk0 h.1), if_neg (fun h => hk0 h.1)] at h9; rw [if_neg hlt, if_neg (by decide), if_neg (fun h => by rw [hbl] at h; cases h.2)] at h9; exact h9.symm
              go_wp2
              go_ret
              exact ⟨ret_i HR.out, b2.trans (b3.mono b2.size)⟩
          · have h6' : ¬ (k : Int) = 6 := by omega
            have HR : Hid (0 = r) := by have h9 := HQ.out; rw [if_neg (fun h => ha h.1), if_neg (fun h => hk0 h.1), if_neg (fun h => hk0 h.1)] at h9; rw [if_neg hlt, if_neg (by decide), if_neg (fun h => h6 h.1)] at h9; exact h9.symm
            go_wp2
            go_ret
            exact ⟨ret_i HR.out, b2⟩
end Go.Proofs.YtnpcbcfjnhjmmaaGreatDoor
