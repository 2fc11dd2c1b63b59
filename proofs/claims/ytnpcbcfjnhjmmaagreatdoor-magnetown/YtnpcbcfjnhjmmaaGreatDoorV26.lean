import Derived.Test.YtnpcbcfjnhjmmaaGreatDoorV25
import Derived.Lib.Bytealg
import Derived.Laws.Externs
namespace Go.Proofs.YtnpcbcfjnhjmmaaGreatDoor
open Go.RowKit Go.Deep
def cmpB (a b : ByteArray) : Int := Lib.compareBytes a.data.toList b.data.toList
theorem cmp_less : ∀ x y : List UInt8, (Lib.compareBytes x y < 0 ↔ Op.bytesLess x y = true) ∧ (Lib.compareBytes x y = 0 ↔ x = y)
  | [], [] => by simp [Lib.compareBytes, Op.bytesLess]
  | [], b :: y => by simp [Lib.compareBytes, Op.bytesLess]
  | a :: x, [] => by simp [Lib.compareBytes, Op.bytesLess]
  | a :: x, b :: y => by
    have ih := cmp_less x y
    unfold Lib.compareBytes
    simp only [Op.bytesLess]
    rcases Nat.lt_trichotomy a.toNat b.toNat with h | h | h
    · have h1 : a < b := UInt8.lt_iff_toNat_lt.2 h
      have h3 : ¬ a = b := fun hc => by subst hc; omega
      simp [h1, h3]
    · have h1 : a = b := UInt8.toNat_inj.1 h
      subst h1
      have h2 : ¬ (a < a) := fun hc => by have := UInt8.lt_iff_toNat_lt.1 hc; omega
      simp only [h2, if_false, decide_false, Bool.false_or, beq_self_eq_true, Bool.true_and, List.cons.injEq, true_and]
      exact ih
    · have h1 : b < a := UInt8.lt_iff_toNat_lt.2 h
      have h2 : ¬ a < b := fun hc => by have := UInt8.lt_iff_toNat_lt.1 hc; omega
      have h3 : ¬ a = b := fun hc => by subst hc; omega
      simp [h1, h2, h3]
theorem cmpB_lt (a b : ByteArray) : cmpB a b < 0 ↔ Op.bytesLess a.toList b.toList = true := by unfold cmpB; rw [ByteArray.toList_eq, ByteArray.toList_eq]; exact (cmp_less _ _).1
set_option maxHeartbeats 400000 in
set_option maxRecDepth 20000 in
theorem comp66 (a b : ByteArray) (w : World) :
    Calls Tryz.prog 83 #[.string a, .string b] w fun e w' => e = .returned (.int .i64 (cmpB a b)) ∧ w' = w := by
  go_enter Tryz.func83, Tryz.ntmps83
  go_wp2_with fail
  rw [run_callFunc_extern Tryz.func95 (by kernel_rfl) (by kernel_rfl) (by kernel_rfl) (e := Extern.BytealgCompare.compare) (by kernel_rfl), Lib.run_compareString]
  simp only [Result.andThen]
  rw [Oper.upon_value]
  go_wp2
  go_ret
  exact ⟨rfl, rfl⟩
set_option maxHeartbeats 400000 in
theorem compare (a b : ByteArray) (w : World) :
    Calls Tryz.prog 70 #[.string a, .string b] w fun e w' => e = .returned (.int .i64 (cmpB a b)) ∧ w' = w := by
  go_enter Tryz.func70, Tryz.ntmps70
  go_wp2_with fail
  refine (comp66 a b w).mono ?_
  rintro e w' ⟨rfl, rfl⟩
  go_wp2
  go_ret
  exact ⟨rfl, rfl⟩
set_option maxHeartbeats 400000 in
theorem byKey (a b : ByteArray) (p1 p2 p3 x y q1 q2 q3 x2 y2 : Value) (w : World) :
    Calls Tryz.prog 49 #[.agg #[.string a, p1, p2, p3, x, y], .agg #[.string b, q1, q2, q3, x2, y2]] w fun e w' => e = .returned (.int .i64 (cmpB a b)) ∧ Below w.heap.size w w' := by
  go_enter Tryz.func49, Tryz.ntmps49
  go_wp2_with fail
  refine (compare a b _).mono ?_
  rintro e w' ⟨rfl, rfl⟩
  go_wp2
  go_ret
  exact ⟨rfl, ((Below.refl _ _).alloc (Nat.le_refl _) _).alloc (by simp) _⟩
/-- the keys do not fall -/
def soB (dn : Nat) (ky : Nat → ByteArray) : Bool := (List.range (dn - 1)).all fun j => !Op.bytesLess (ky (j + 1)).toList (ky j).toList
theorem soB_iff {dn : Nat} {ky : Nat → ByteArray} : soB dn ky = true ↔ ∀ j, j + 1 < dn → Op.bytesLess (ky (j + 1)).toList (ky j).toList = false := by
  unfold soB
  rw [List.all_eq_true]
  constructor
  · intro h j hj
    have := h j (List.mem_range.2 (by omega))
    simpa using this
  · intro h j hj
    have := h j (by have := List.mem_range.1 hj; omega)
    simpa using this
set_option maxHeartbeats 4000000 in
set_option maxRecDepth 100000 in
theorem isSorted (v : Value) (dn : Nat) (ky : Nat → ByteArray) (dv : Nat → T) (w : World) (h : RD (fun _ => True) w dn ky dv v) (hn : dn ≤ 140737488351232) :
    Calls Tryz.prog 48 #[v, .func (Fn.func 49) #[] #[]] w fun en w' => en = .returned (.bool (soB dn ky)) ∧ Below w.heap.size w w' := by
  obtain ⟨a, c, rfl, hx⟩ := h
  have HX := Lib.hid hx
  clear hx
  go_enter Tryz.func48, Tryz.ntmps48
  go_wp2
  go_loopw [5] (fun t wr => ∃ i : Int, -1 ≤ i ∧ i < dn ∧ t = .int .i64 i ∧ Hid (Below w.heap.size w wr ∧ ∀ (j : Nat), i ≤ j → j + 1 < dn → Op.bytesLess (ky (j + 1)).toList (ky j).toList = false)) (fun t _ => (intOf t).toNat)
  case atStart => exact ⟨(dn : Int) - 1, by omega, by omega, by go_num, Below.refl _ _, fun j h1 h2 => by omega⟩
  case round =>
    obtain ⟨i, hi0, hi1, rfl, HI⟩ := hrel
    by_cases hlt : 0 < i
    · obtain ⟨p, rfl⟩ : ∃ p : Nat, i = (p : Int) := ⟨i.toNat, by omega⟩
      obtain ⟨j, hpj⟩ : ∃ j : Nat, p = j + 1 := ⟨p - 1, by omega⟩
      have HPJ : Hid (p = j + 1 ∧ j + 1 < dn) := ⟨hpj, by omega⟩
      have hj : p < dn := by omega
      have hjd : j < dn := by omega
      obtain ⟨g, o, rfl, _, hg, hc⟩ := HX.out.resolve_left (fun e => by omega)
      obtain ⟨x1, y1, hrv1, d0, d1, d2, d3, d4, d5⟩ := hc j (by omega)
      obtain ⟨x2, y2, hrv2, c0, c1, c2, c3, c4, c5⟩ := hc p hj
      have HKK : Hid (∀ u, Below w.heap.size w u → (u.cell? ⟨g, o + p * 6, none⟩ = some (.string (ky p)) ∧ u.cell? ⟨g, o + p * 6 + 1, none⟩ = some (.int .i64 (dv p).k) ∧ u.cell? ⟨g, o + p * 6 + 1 + 1, none⟩ = some (.int .i64 (dv p).n) ∧ u.cell? ⟨g, o + p * 6 + 1 + 2, none⟩ = some (.string (dv p).s) ∧ u.cell? ⟨g, o + p * 6 + 1 + 3, none⟩ = some (x2) ∧ u.cell? ⟨g, o + p * 6 + 1 + 4, none⟩ = some (y2) ∧ u.cell? ⟨g, o + j * 6, none⟩ = some (.string (ky j)) ∧ u.cell? ⟨g, o + j * 6 + 1, none⟩ = some (.int .i64 (dv j).k) ∧ u.cell? ⟨g, o + j * 6 + 1 + 1, none⟩ = some (.int .i64 (dv j).n) ∧ u.cell? ⟨g, o + j * 6 + 1 + 2, none⟩ = some (.string (dv j).s) ∧ u.cell? ⟨g, o + j * 6 + 1 + 3, none⟩ = some (x1) ∧ u.cell? ⟨g, o + j * 6 + 1 + 4, none⟩ = some (y1))) := fun u hu => ⟨Below.cellS hu (Nat.le_refl _) c0, Below.cellS hu (Nat.le_refl _) c1, Below.cellS hu (Nat.le_refl _) c2, Below.cellS hu (Nat.le_refl _) c3, Below.cellS hu (Nat.le_refl _) c4, Below.cellS hu (Nat.le_refl _) c5, Below.cellS hu (Nat.le_refl _) d0, Below.cellS hu (Nat.le_refl _) d1, Below.cellS hu (Nat.le_refl _) d2, Below.cellS hu (Nat.le_refl _) d3, Below.cellS hu (Nat.le_refl _) d4, Below.cellS hu (Nat.le_refl _) d5⟩
      obtain ⟨g0, g1, g2, g3, g4, g5, k0, k1, k2, k3, k4, k5⟩ := HKK.out wr HI.out.1
      have bdr : Hid (Below wr.heap.size wr wr.drew) := ⟨rfl, rfl, rfl, Nat.le_refl _, fun _ _ => rfl⟩
      have HBK : Hid (∀ u, Calls Tryz.prog 49 #[.agg #[.string (ky p), .int .i64 (dv p).k, .int .i64 (dv p).n, .string (dv p).s, x2, y2], .agg #[.string (ky j), .int .i64 (dv j).k, .int .i64 (dv j).n, .string (dv j).s, x1, y1]] u fun e w' => e = .returned (.int .i64 (cmpB (ky p) (ky j))) ∧ Below u.heap.size u w') := fun u => byKey _ _ _ _ _ _ _ _ _ _ _ _ u
      have hk1 : ((p : Int) - 1) = (j : Int) := by omega
      clear hpj
      have hwj : IntKind.i64.wrap (j : Int) = (j : Int) := by simp [IntKind.wrap, IntKind.bits, IntKind.signed]; omega
      clear hc c0 c1 c2 c3 c4 c5 d0 d1 d2 d3 d4 d5 hrv1 hrv2
      have HC : Hid (cmpB (ky p) (ky j) < 0 ↔ Op.bytesLess (ky p).toList (ky j).toList = true) := cmpB_lt _ _
      generalize cmpB (ky p) (ky j) = z at *
      go_wp2
      refine wp_region_held_drew (S := (fun u => u.cell? ⟨g, o + p * 6, none⟩ = some (.string (ky p)) ∧ u.cell? ⟨g, o + p * 6 + 1, none⟩ = some (.int .i64 (dv p).k) ∧ u.cell? ⟨g, o + p * 6 + 1 + 1, none⟩ = some (.int .i64 (dv p).n) ∧ u.cell? ⟨g, o + p * 6 + 1 + 2, none⟩ = some (.string (dv p).s) ∧ u.cell? ⟨g, o + p * 6 + 1 + 3, none⟩ = some (x2) ∧ u.cell? ⟨g, o + p * 6 + 1 + 4, none⟩ = some (y2) ∧ u.cell? ⟨g, o + j * 6, none⟩ = some (.string (ky j)) ∧ u.cell? ⟨g, o + j * 6 + 1, none⟩ = some (.int .i64 (dv j).k) ∧ u.cell? ⟨g, o + j * 6 + 1 + 1, none⟩ = some (.int .i64 (dv j).n) ∧ u.cell? ⟨g, o + j * 6 + 1 + 2, none⟩ = some (.string (dv j).s) ∧ u.cell? ⟨g, o + j * 6 + 1 + 3, none⟩ = some (x1) ∧ u.cell? ⟨g, o + j * 6 + 1 + 4, none⟩ = some (y1))) (by kernel_rfl) (⟨g0, g1, g2, g3, g4, g5, k0, k1, k2, k3, k4, k5⟩) (fun hHeld => ?_)
      refine wpAnyH_take (i := 0) (v := .func (Fn.func 49) #[] #[]) rfl (by kernel_rfl) (by kernel_rfl) (by kernel_rfl) (fun _ _ _ h => h) (Or.inl ⟨by rfl, fun w hw => by go_simp⟩) hHeld ?_
      simp only [Act.put, List.getElem_toArray, List.getElem_cons_zero, List.setIfInBounds_toArray, List.set_cons_zero, List.set_cons_succ]
      refine wpAnyH_take (i := 1) (v := .slice (some ⟨g, o, none⟩) dn c) rfl (by kernel_rfl) (by kernel_rfl) (by kernel_rfl) (fun _ _ _ h => h) (Or.inl ⟨by rfl, fun w hw => by go_simp⟩) hHeld ?_
      simp only [Act.put, List.getElem_toArray, List.getElem_cons_zero, List.getElem_cons_succ, List.setIfInBounds_toArray, List.set_cons_zero, List.set_cons_succ]
      refine wpAnyH_take (i := 2) (v := .int .i64 (p : Int)) rfl (by kernel_rfl) (by kernel_rfl) (by kernel_rfl) (fun _ _ _ h => h) (Or.inl ⟨by rfl, fun w hw => by go_simp⟩) hHeld ?_
      simp only [Act.put, List.getElem_toArray, List.getElem_cons_zero, List.getElem_cons_succ, List.setIfInBounds_toArray, List.set_cons_zero, List.set_cons_succ]
      refine wpAnyH_take (i := 3) (v := .pointer (some ⟨g, o + p * 6, none⟩)) rfl (by kernel_rfl) (by kernel_rfl) (by kernel_rfl) (fun _ _ _ h => h) (Or.inl ⟨by rfl, fun w hw => by go_simp⟩) hHeld ?_
      simp only [Act.put, List.getElem_toArray, List.getElem_cons_zero, List.getElem_cons_succ, List.setIfInBounds_toArray, List.set_cons_zero, List.set_cons_succ]
      refine wpAnyH_take (i := 4) (v := .agg #[.string (ky p), .int .i64 (dv p).k, .int .i64 (dv p).n, .string (dv p).s, x2, y2]) rfl (by kernel_rfl) (by kernel_rfl) (by kernel_rfl) (fun _ _ _ h => h) (Or.inl ⟨by rfl, fun w hw => by obtain ⟨f0, f1, f2, f3, f4, f5, e0, e1, e2, e3, e4, e5⟩ := hw; go_simp⟩) hHeld ?_
      simp only [Act.put, List.getElem_toArray, List.getElem_cons_zero, List.getElem_cons_succ, List.setIfInBounds_toArray, List.set_cons_zero, List.set_cons_succ]
      refine wpAnyH_take (i := 5) (v := .slice (some ⟨g, o, none⟩) dn c) rfl (by kernel_rfl) (by kernel_rfl) (by kernel_rfl) (fun _ _ _ h => h) (Or.inl ⟨by rfl, fun w hw => by go_simp⟩) hHeld ?_
      simp only [Act.put, List.getElem_toArray, List.getElem_cons_zero, List.getElem_cons_succ, List.setIfInBounds_toArray, List.set_cons_zero, List.set_cons_succ]
      refine wpAnyH_take (i := 6) (v := .int .i64 (p : Int)) rfl (by kernel_rfl) (by kernel_rfl) (by kernel_rfl) (fun _ _ _ h => h) (Or.inl ⟨by rfl, fun w hw => by go_simp⟩) hHeld ?_
      simp only [Act.put, List.getElem_toArray, List.getElem_cons_zero, List.getElem_cons_succ, List.setIfInBounds_toArray, List.set_cons_zero, List.set_cons_succ]
      refine wpAnyH_take (i := 7) (v := .int .i64 (j : Int)) rfl (by kernel_rfl) (by kernel_rfl) (by kernel_rfl) (fun _ _ _ h => h) (Or.inl ⟨by rfl, fun w hw => by go_simp⟩) hHeld ?_
      simp only [Act.put, List.getElem_toArray, List.getElem_cons_zero, List.getElem_cons_succ, List.setIfInBounds_toArray, List.set_cons_zero, List.set_cons_succ]
      refine wpAnyH_take (i := 8) (v := .pointer (some ⟨g, o + j * 6, none⟩)) rfl (by kernel_rfl) (by kernel_rfl) (by kernel_rfl) (fun _ _ _ h => h) (Or.inl ⟨by rfl, fun w hw => by go_simp⟩) hHeld ?_
      simp only [Act.put, List.getElem_toArray, List.getElem_cons_zero, List.getElem_cons_succ, List.setIfInBounds_toArray, List.set_cons_zero, List.set_cons_succ]
      refine wpAnyH_take (i := 9) (v := .agg #[.string (ky j), .int .i64 (dv j).k, .int .i64 (dv j).n, .string (dv j).s, x1, y1]) rfl (by kernel_rfl) (by kernel_rfl) (by kernel_rfl) (fun _ _ _ h => h) (Or.inl ⟨by rfl, fun w hw => by obtain ⟨f0, f1, f2, f3, f4, f5, e0, e1, e2, e3, e4, e5⟩ := hw; go_simp⟩) hHeld ?_
      simp only [Act.put, List.getElem_toArray, List.getElem_cons_zero, List.getElem_cons_succ, List.setIfInBounds_toArray, List.set_cons_zero, List.set_cons_succ]
      refine wpAnyH_ready (rs := [10]) (by kernel_rfl) (by simp) ?_
      refine AllReadyH.cons (o := _) rfl (fun K hK => ?_) AllReadyH.nil
      go_simp
      refine (HBK.out _).mono ?_
      rintro en w1 ⟨rfl, b1⟩
      have HB1 : Hid (Below w.heap.size w w1) := HI.out.1.trans ((show Below wr.heap.size wr w1 from bdr.out.trans b1).mono HI.out.1.size)
      have hh := HKK.out w1 HB1.out
      go_wp2_with fail
      refine hK.out _ _ hh (fun hHeld => ?_)
      clear hK K b1
      refine wpAnyH_take (i := 11) (v := .bool (decide (z < 0))) rfl (by kernel_rfl) (by kernel_rfl) (by kernel_rfl) (fun _ _ _ h => h) (Or.inl ⟨by rfl, fun w hw => by go_simp⟩) hHeld ?_
      simp only [Act.put, List.getElem_toArray, List.getElem_cons_zero, List.getElem_cons_succ, List.setIfInBounds_toArray, List.set_cons_zero, List.set_cons_succ]
      refine wpAnyH_done (by kernel_rfl) ?_ _
      clear hHeld
      by_cases hz : z < 0
      · have HE : Hid (false = soB dn ky) := by
          have h9 : soB dn ky = false := by
            rw [Bool.eq_false_iff]
            intro ht
            have h8 := soB_iff.1 ht j HPJ.out.2
            rw [← HPJ.out.1, HC.out.1 hz] at h8
            cases h8
          exact h9.symm
        clear HC HI HKK
        go_wp2
        go_ret
        exact ⟨ret_b HE.out, HB1.out⟩
      · have HJ : Hid (Below w.heap.size w w1 ∧ ∀ (j' : Nat), (j : Int) ≤ j' → j' + 1 < dn → Op.bytesLess (ky (j' + 1)).toList (ky j').toList = false) := ⟨HB1.out, fun j' h1 h2 => by
          by_cases he : j' = j
          · subst he
            rw [← HPJ.out.1]
            cases hq : Op.bytesLess (ky p).toList (ky j').toList with
            | false => rfl
            | true => exact absurd (HC.out.2 hq) hz
          · exact HI.out.2 j' (by have := HPJ.out.1; omega) h2⟩
        clear HC HI HKK
        go_wp2
        exact ⟨⟨j, by omega, by omega, by go_num, HJ⟩, by simp [intOf]; omega⟩
    · have HE : Hid (true = soB dn ky) := by
        have h9 : soB dn ky = true := soB_iff.2 fun j hj => HI.out.2 j (by omega) hj
        exact h9.symm
      have HB1 : Hid (Below w.heap.size w wr) := HI.out.1
      clear HI
      go_wp2
      go_ret
      exact ⟨ret_b HE.out, HB1.out⟩
end Go.Proofs.YtnpcbcfjnhjmmaaGreatDoor
