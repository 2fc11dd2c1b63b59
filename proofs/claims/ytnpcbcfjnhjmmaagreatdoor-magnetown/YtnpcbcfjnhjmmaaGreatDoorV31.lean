import Derived.Test.YtnpcbcfjnhjmmaaGreatDoorV30
import Derived.Shelf.Strconv.Itoa3
import Derived.Lib.AppendIntMem
import Derived.Lib.ItoaLen
namespace Go.Proofs.YtnpcbcfjnhjmmaaGreatDoor
open Go.Shelf Go.RowKit Go.Deep Go.Sort
/-- the table that Itoa reads -/
def IT (w : World) : Prop := Lib.TabIs Tryz.prog w "internal/strconv.uint64pow10" .u64 Lib.pow10Tab
theorem itoa (n : Nat) (hn : n ≤ 4096) (w : World) (htab : IT w) :
    Calls Tryz.prog 99 #[.int .i64 (n : Int)] w fun e w' => e = .returned (.string ⟨(Lib.itoa (n : Int)).toArray⟩) ∧ Below w.heap.size w w' :=
  (Any.strconv_Itoa laysItoa (n : Int) (by omega) (by omega) w htab).mono fun e w' ⟨h1, k, os, h2⟩ => ⟨h1, h2 ▸ below_grow w k os⟩
/-- the text of a run -/
def rnT (x : Int × Int) : List UInt8 := if x.2 = 1 then Lib.itoa x.1 else Lib.itoa x.1 ++ [45] ++ Lib.itoa (x.1 + x.2 - 1)
theorem IT.below {w w' : World} (h : IT w) (hb : Below w.heap.size w w') : IT w' := Lib.tabBelow_of_tabIs h w' hb
theorem app_str (a b : List UInt8) : (⟨a.toArray⟩ : ByteArray) ++ ⟨b.toArray⟩ = ⟨(a ++ b).toArray⟩ := by
  apply ByteArray.ext
  simp
set_option maxHeartbeats 1000000 in
theorem runText (x : Int × Int) (w : World) (hx : RnOk x) (hs : x.1 + x.2 ≤ 4096) (hT : IT w) :
    Calls Tryz.prog 87 #[.agg #[.int .i64 x.1, .int .i64 x.2]] w fun e w' => e = .returned (.string ⟨(rnT x).toArray⟩) ∧ Below w.heap.size w w' := by
  obtain ⟨a, b⟩ := x
  obtain ⟨⟨p1, p2⟩, q1, q2⟩ := hx
  simp only at p1 p2 q1 q2 hs
  obtain ⟨n, rfl⟩ : ∃ n : Nat, a = (n : Int) := ⟨a.toNat, by omega⟩
  have B0 : Hid (Below w.heap.size w (w.alloc (Obj.cells #[.int .i64 (n : Int), .int .i64 b] 36))) := (Below.refl _ _).alloc (Nat.le_refl _) _
  have HI := Lib.hid (itoa n (by omega) (w.alloc (Obj.cells #[.int .i64 (n : Int), .int .i64 b] 36)) (hT.below B0.out))
  have c0 : (w.alloc (Obj.cells #[.int .i64 (n : Int), .int .i64 b] 36)).cell? ⟨w.heap.size, 0, none⟩ = some (.int .i64 (n : Int)) := by go_simp
  have c1 : (w.alloc (Obj.cells #[.int .i64 (n : Int), .int .i64 b] 36)).cell? ⟨w.heap.size, 1, none⟩ = some (.int .i64 b) := by go_simp
  have HT : Hid (IT w) := hT
  clear hT
  show Calls Tryz.prog 87 #[.agg #[.int .i64 (n : Int), .int .i64 b]] w _
  go_enter Tryz.func87, Tryz.ntmps87
  go_wp2_with fail
  refine HI.out.mono ?_
  rintro e w1 ⟨rfl, b1⟩
  have d0 := Below.cellS b1 (Nat.le_refl _) c0
  have d1 := Below.cellS b1 (Nat.le_refl _) c1
  have HB1 : Hid (Below w.heap.size w w1) := B0.out.trans (b1.mono B0.out.size)
  clear b1 c0 c1 HI
  by_cases hb1 : b = 1
  · subst hb1
    have HE : Hid (rnT ((n : Int), 1) = Lib.itoa (n : Int)) := (show rnT ((n : Int), 1) = Lib.itoa (n : Int) by simp [rnT])
    go_wp2
    go_ret
    exact ⟨by rw [HE.out]; rfl, HB1.out⟩
  · obtain ⟨m, hm⟩ : ∃ m : Nat, (n : Int) + b - 1 = (m : Int) := ⟨((n : Int) + b - 1).toNat, by omega⟩
    have HE : Hid (rnT ((n : Int), b) = Lib.itoa (n : Int) ++ [45] ++ Lib.itoa (m : Int)) := (show rnT ((n : Int), b) = Lib.itoa (n : Int) ++ [45] ++ Lib.itoa (m : Int) by simp [rnT, hb1, hm])
    have HI2 := Lib.hid (itoa m (by omega) w1 (HT.out.below HB1.out))
    have hl1 := Lib.itoa_length_le (n : Int) (by omega) (by omega)
    have hl2 := Lib.itoa_length_le (m : Int) (by omega) (by omega)
    have hw1 : IntKind.i64.wrap ((n : Int) + b) = (n : Int) + b := by simp [IntKind.wrap, IntKind.bits, IntKind.signed]; omega
    have hw2 : IntKind.i64.wrap (m : Int) = (m : Int) := by simp [IntKind.wrap, IntKind.bits, IntKind.signed]; omega
    go_wp2_with fail
    refine HI2.out.mono ?_
    rintro e w2 ⟨rfl, b2⟩
    have HB2 : Hid (Below w.heap.size w w2) := HB1.out.trans (b2.mono HB1.out.size)
    clear b2 HI2 d0 d1
    go_wp2
    go_ret
    refine ⟨?_, HB2.out⟩
    rw [HE.out]
    show Ending.returned (.string (({ data := (Lib.itoa (n : Int)).toArray } ++ { data := #[45] }) ++ { data := (Lib.itoa (m : Int)).toArray })) = _
    have h9 := app_str (Lib.itoa (n : Int)) [45]
    rw [h9, app_str]
end Go.Proofs.YtnpcbcfjnhjmmaaGreatDoor
namespace Go.Proofs.YtnpcbcfjnhjmmaaGreatDoor
open Go.Shelf Go.RowKit Go.Deep Go.Sort
theorem sor_pw (l : List ByteArray) : (sorL l).Pairwise fun x y => x ≤ y := by
  have h := List.pairwise_mergeSort (le := fun x y : List UInt8 => decide (x ≤ y)) (fun a b c h1 h2 => by
    simp only [decide_eq_true_eq] at *
    exact List.le_trans h1 h2) (fun a b => by
    simp only [Bool.or_eq_true, decide_eq_true_eq]
    exact List.le_total a b) (l.map fun x => x.data.toList)
  refine List.Pairwise.imp ?_ h
  intro a b hab
  simpa using hab
/-- the copy shrinks if and only if two things are alike -/
theorem compact_iff (zs : List (List UInt8)) (hp : zs.Pairwise fun x y => x ≤ y) : (Lib.compact zs).length < zs.length ↔ ¬ zs.Nodup := by
  have e1 : (Lib.compact zs).length = ((List.range zs.length).filter (Lib.keeps zs.toArray)).length := by simp [Lib.compact, Lib.compactUpTo]
  have e2 : ((List.range zs.length).filter (Lib.keeps zs.toArray)).length < zs.length ↔ ∃ j, j < zs.length ∧ Lib.keeps zs.toArray j = false := by
    have h := List.length_filter_lt_length_iff_exists (p := Lib.keeps zs.toArray) (l := List.range zs.length)
    rw [List.length_range] at h
    rw [h]
    simp
  rw [e1, e2]
  constructor
  · rintro ⟨j, hj, hk⟩ hn
    simp only [Lib.keeps, decide_eq_false_iff_not, not_or, Decidable.not_not] at hk
    obtain ⟨h0, h1⟩ := hk
    have hj1 : j - 1 < zs.length := by omega
    rw [getElem!_pos zs.toArray j (by simpa using hj), getElem!_pos zs.toArray (j - 1) (by simpa using hj1)] at h1
    simp only [List.getElem_toArray] at h1
    exact List.pairwise_iff_getElem.1 (List.nodup_iff_pairwise_ne.1 hn) (j - 1) j hj1 hj (by omega) h1.symm
  · intro hn
    false_or_by_contra
    rename_i hno
    apply hn
    rw [List.nodup_iff_pairwise_ne, List.pairwise_iff_getElem]
    intro i j hi hj hij he
    have hle := List.pairwise_iff_getElem.1 hp
    have hi1 : i + 1 < zs.length := by omega
    have h1 : zs[i] ≤ zs[i + 1] := hle i (i + 1) hi hi1 (by omega)
    have h2 : zs[i + 1] ≤ zs[j] := by
      by_cases h : i + 1 = j
      · subst h; exact List.le_refl _
      · exact hle (i + 1) j hi1 hj (by omega)
    rw [← he] at h2
    have h3 : zs[i + 1] = zs[i] := List.le_antisymm h2 h1
    apply hno
    refine ⟨i + 1, hi1, ?_⟩
    simp only [Lib.keeps, decide_eq_false_iff_not, not_or, Decidable.not_not]
    refine ⟨by omega, ?_⟩
    rw [getElem!_pos zs.toArray (i + 1) (by simpa using hi1), getElem!_pos zs.toArray (i + 1 - 1) (by simp; omega)]
    simp only [List.getElem_toArray, Nat.add_sub_cancel]
    exact h3
theorem tw_iff (l : List ByteArray) : twB l = true ↔ ¬ (l.map fun x => x.data.toList).Nodup := by
  rw [List.nodup_iff_pairwise_ne, List.pairwise_iff_getElem]
  unfold twB
  rw [List.any_eq_true]
  constructor
  · rintro ⟨i, hi, h⟩ hn
    have hi2 := List.mem_range.1 hi
    rw [List.getElem?_eq_getElem hi2] at h
    simp only [winB, List.any_eq_true] at h
    obtain ⟨t, ht, he⟩ := h
    obtain ⟨j, hj, rfl⟩ := List.mem_iff_getElem.1 ht
    rw [List.length_take] at hj
    rw [List.getElem_take] at he
    have hjl : j < l.length := by omega
    have h9 := hn j i (by simpa using hjl) (by simpa using hi2) (by omega)
    simp only [List.getElem_map] at h9
    apply h9
    rw [beq_iff_eq, tl_eq, tl_eq] at he
    exact he
  · intro hn
    false_or_by_contra
    rename_i hno
    apply hn
    intro i j hi hj hij he
    simp only [List.length_map] at hi hj
    simp only [List.getElem_map] at he
    apply hno
    refine ⟨j, List.mem_range.2 hj, ?_⟩
    rw [List.getElem?_eq_getElem hj]
    simp only [winB, List.any_eq_true]
    refine ⟨l[i], List.mem_iff_getElem.2 ⟨i, by rw [List.length_take]; omega, by rw [List.getElem_take]⟩, ?_⟩
    rw [beq_iff_eq, tl_eq, tl_eq]
    exact he
theorem ht_tw (l : List ByteArray) : htB l = twB l := by
  rw [Bool.eq_iff_iff, tw_iff]
  unfold htB
  rw [decide_eq_true_eq, ← sorL_len l, compact_iff _ (sor_pw l)]
  have hp : (sorL l).Perm (l.map fun x => x.data.toList) := List.mergeSort_perm _ _
  rw [hp.nodup_iff]
end Go.Proofs.YtnpcbcfjnhjmmaaGreatDoor
