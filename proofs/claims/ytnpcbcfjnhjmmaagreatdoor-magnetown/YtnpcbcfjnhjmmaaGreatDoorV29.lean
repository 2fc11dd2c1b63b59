import Derived.Test.YtnpcbcfjnhjmmaaGreatDoorV28
import Derived.Shelf.SortM.Plain
import Derived.Shelf.SortM.SortNone
import Derived.Shelf.SlicesG.CompactS
import Derived.Sort.OwnSorted
import Derived.Ground.SlgmProg
import Derived.Ground.SlgnProg
namespace Go.Proofs.YtnpcbcfjnhjmmaaGreatDoor
open Go.Shelf Go.RowKit Go.Deep Go.Sort
shelf_lay_g SlLaysM.n6 Slgm 6 at Tryz 85 as laysSort68
shelf_lay_g SlLaysN.n44 Slgn 44 at Tryz 73 as laysCompact57
/-- the list sorted -/
def sorL (l : List ByteArray) : List (List UInt8) := (l.map fun x => x.data.toList).mergeSort fun x y => decide (x ≤ y)
theorem sorL_len (l : List ByteArray) : (sorL l).length = l.length := by simp [sorL]
theorem sorL_nil : sorL [] = [] := by simp [sorL]
theorem tsC_enc (l : List ByteArray) : tsC l = (l.map fun x => x.data.toList).map encStr := by
  unfold tsC
  rw [List.map_map]
  refine List.map_congr_left fun x _ => ?_
  simp [encStr]
theorem values (a : Option Addr) (n c : Nat) (w : World) : Calls Tryz.prog 72 #[.slice a n c] w fun e w' => e = .returned (.func (.func 86) #[] #[.pointer (some ⟨w.heap.size, 0, none⟩)]) ∧ w' = w.alloc (Obj.cells #[.slice a n c] 24) := by
  go_enter Tryz.func72, Tryz.ntmps72
  go_wp2
  go_ret
  exact ⟨rfl, rfl⟩
set_option maxHeartbeats 1000000 in
theorem collect (g : Nat) (v : Value) (l : List ByteArray) (w : World) (hl : l.length ≤ 2147483647) (hg : w.cell? ⟨g, 0, none⟩ = some v) (hr : RS (fun _ => True) w v l) :
    Calls Tryz.prog 84 #[.func (.func 86) #[] #[.pointer (some ⟨g, 0, none⟩)]] w fun e w' => ∃ v', e = .returned v' ∧ w'.ownsRow w.heap.size 9 1 v' l.length (tsC l) ∧ Below w.heap.size w w' := by
  have H := Lib.hid (appendSeq g v l w hl hg hr)
  clear hg hr
  go_enter Tryz.func84, Tryz.ntmps84
  go_wp2_with fail
  refine H.out.mono ?_
  rintro e w1 ⟨v', rfl, ho, hb⟩
  have HO : Hid (w1.ownsRow w.heap.size 9 1 v' l.length (tsC l) ∧ Below w.heap.size w w1) := ⟨ho, hb⟩
  obtain ⟨a, c, rfl⟩ := own_form ho
  clear ho hb H
  go_wp2
  go_ret
  exact ⟨_, rfl, HO.out⟩
set_option maxHeartbeats 1000000 in
theorem sorted (g : Nat) (v : Value) (l : List ByteArray) (w : World) (hl : l.length ≤ 2147483647) (hg : w.cell? ⟨g, 0, none⟩ = some v) (hr : RS (fun _ => True) w v l) :
    Calls Tryz.prog 71 #[.func (.func 86) #[] #[.pointer (some ⟨g, 0, none⟩)]] w fun e w' => ∃ v', e = .returned v' ∧ w'.ownsRow w.heap.size 9 1 v' l.length ((sorL l).map encStr) ∧ Below w.heap.size w w' := by
  have H := Lib.hid (collect g v l w hl hg hr)
  clear hg hr
  go_enter Tryz.func71, Tryz.ntmps71
  go_wp2_with fail
  refine H.out.mono ?_
  rintro e w1 ⟨v', rfl, ho, hb⟩
  clear H
  rw [tsC_enc] at ho
  rcases ho.2 with ⟨rfl, hz⟩ | ⟨gb, cap, cur, rfl, hbase, hgb, r1, r2, r3, r4⟩
  · have hnil : l = [] := List.eq_nil_of_length_eq_zero hz
    subst hnil
    have HO : Hid (w1.ownsRow w.heap.size 9 1 (.slice none 0 0) ([] : List ByteArray).length ((sorL []).map encStr) ∧ Below w.heap.size w w1) := ⟨by rw [sorL_nil]; exact ho, hb⟩
    clear ho hb
    go_wp2_with fail
    refine (AnyM.slices_Sort_string_none laysSort68 none 0 w1).mono ?_
    rintro e w2 ⟨rfl, rfl⟩
    go_wp2
    go_ret
    exact ⟨_, rfl, HO.out⟩
  · have hH : Holds encStr w1 gb 0 (l.map fun x => x.data.toList).toArray := holds_of_block hgb (by simpa using r4)
    have hgl : gb < w1.heap.size := (Array.getElem?_eq_some_iff.1 hgb).1
    have cS := AnyM.slices_Sort_string laysSort68 gb 0 cap (l.map fun x => x.data.toList) w1 hH hgl (by rw [List.length_map]; omega)
    rw [List.length_map] at cS
    have CS := Lib.hid cS
    have HO : Hid (∀ nn os, (grow (putRow encStr (Sort.ahead w1 nn) gb 0 (sorL l).toArray) os).ownsRow w.heap.size 9 1 (.slice (some ⟨gb, 0, none⟩) l.length cap) l.length ((sorL l).map encStr) ∧ Below w.heap.size w (grow (putRow encStr (Sort.ahead w1 nn) gb 0 (sorL l).toArray) os)) := fun nn os => by
      have h9 := ownsRow_sorted (w := w1) (base := w.heap.size) (g := gb) (cap := cap) (n := nn) (e := 9) (os := os) (cur := cur) (ss := l.map fun x => x.data.toList) (ts := sorL l) (by rw [sorL_len, List.length_map]) hbase hgb (by rw [List.length_map]; exact r1) r2 r3
      rw [List.length_map] at h9
      exact ⟨h9, hb.grown (grownBy_sorted _) hb.size (fun j hj => by cases hj; exact hbase)⟩
    clear cS hH hgl ho hb hgb r3 r4 hbase
    go_wp2_with fail
    refine CS.out.mono ?_
    rintro e w2 ⟨rfl, nn, os, hw2⟩
    have HO2 : Hid (w2.ownsRow w.heap.size 9 1 (.slice (some ⟨gb, 0, none⟩) l.length cap) l.length ((sorL l).map encStr) ∧ Below w.heap.size w w2) := by rw [hw2]; exact HO.out nn os
    clear HO CS hw2
    go_wp2
    go_ret
    exact ⟨_, rfl, HO2.out⟩
/-- the list holds something twice, as the program looks -/
def htB (l : List ByteArray) : Bool := decide ((Lib.compact (sorL l)).length < l.length)
set_option maxHeartbeats 1000000 in
theorem hasTwins (v : Value) (l : List ByteArray) (w : World) (hl : l.length ≤ 2147483647) (hr : RS (fun _ => True) w v l) :
    Calls Tryz.prog 50 #[v] w fun e w' => e = .returned (.bool (htB l)) ∧ Below w.heap.size w w' := by
  have HR0 := Lib.hid hr
  obtain ⟨a, c, rfl, -⟩ := hr
  have HB : Hid (htB l = decide ((Lib.compact (sorL l)).length < l.length)) := rfl
  have B0 : Hid (Below w.heap.size w (w.alloc (Obj.cells #[.slice a l.length c] 24))) := (Below.refl _ _).alloc (Nat.le_refl _) _
  have HS := Lib.hid (sorted w.heap.size (.slice a l.length c) l (w.alloc (Obj.cells #[.slice a l.length c] 24)) hl ((Boxed.new w _ _).cell) (HR0.out.move (fun _ h _ => h) B0.out.size (fun b _ hl => B0.out.block b hl)))
  have HSL := Lib.hid (sorL_len l)
  clear HR0
  go_enter Tryz.func50, Tryz.ntmps50
  go_wp2_with fail
  refine (values a l.length c w).mono ?_
  rintro e w1 ⟨rfl, rfl⟩
  go_wp2_with fail
  refine HS.out.mono ?_
  rintro e w2 ⟨v', rfl, ho, hb⟩
  have hb2 : Below w.heap.size w w2 := B0.out.trans (hb.mono B0.out.size)
  clear HS hb
  rcases ho.2 with ⟨rfl, hz⟩ | ⟨gb, cap, cur, rfl, hbase, hgb, r1, r2, r3, r4⟩
  · have hnil : l = [] := List.eq_nil_of_length_eq_zero hz
    subst hnil
    have HO := Lib.hid hb2
    have HZ : Hid (false = htB []) := by rw [HB.out]; rfl
    clear hb2 ho
    go_wp2_with fail
    refine (AnyG.slices_Compact_string_empty laysCompact57 none 0 w2).mono ?_
    rintro e w3 ⟨rfl, rfl⟩
    go_wp2
    go_ret
    exact ⟨ret_b HZ.out, HO.out⟩
  · have hH : Holds encStr w2 gb 0 (sorL l).toArray := holds_of_block hgb (by rw [HSL.out]; simpa using r4)
    have cS := AnyG.slices_Compact_string laysCompact57 gb 0 cap (sorL l) w2 hH (by rw [HSL.out]; omega) (by rw [HSL.out]; exact r1)
    rw [HSL.out] at cS
    have CS := Lib.hid cS
    have HO : Hid (∀ q d, Below w.heap.size w (putRow encStr (Sort.ahead w2 q) gb 0 d)) := fun q d => by
      have h9 := hb2.grown (grownBy_sorted (w := w2) (g := gb) (n := q) (os := #[]) d) hb2.size (fun j hj => by cases hj; have := B0.out.size; omega)
      exact ⟨h9.1, h9.2, h9.3, by have := h9.4; simpa [grow] using this, fun k hk => by have := h9.5 k hk; simpa [grow] using this⟩
    clear cS hH hb2 ho hgb r3 r4 hbase
    go_wp2_with fail
    refine CS.out.mono ?_
    rintro e w3 ⟨rfl, q, hw3⟩
    have HO2 : Hid (Below w.heap.size w w3) := by rw [hw3]; exact HO.out _ _
    clear HO CS hw3
    go_wp2
    go_ret
    exact ⟨ret_b (by rw [HB.out]), HO2.out⟩
end Go.Proofs.YtnpcbcfjnhjmmaaGreatDoor
