import Derived.Test.YtjfgpplomldeiaaGreatDoorRk
import Derived.Shelf.Strconv.Itoa3
import Derived.Lib.AppendIntMem
import Derived.Lib.ItoaLen
namespace Go.Proofs.YtjfgpplomldeiaaGreatDoor
open Go.Shelf Go.RowKit Go.Deep Go.Sort
shelf_lay LaysM.n171 Nm 171 at Tryz as laysItoa
theorem below_grow (w : World) (k : Nat) (os : Array Obj) : Below w.heap.size w (grow (w.drewN k) os) := by
  have h := below_drewN w k
  refine ⟨h.os, h.tape, h.output, ?_, fun q hq => ?_⟩
  · show w.heap.size ≤ (w.heap ++ os).size
    simp
  · exact (heap_grow_old (w.drewN k) os hq).trans (h.block q hq)
/-- the table that Itoa reads -/
def IT (w : World) : Prop := Lib.TabIs Tryz.prog w "internal/strconv.uint64pow10" .u64 Lib.pow10Tab
theorem itoa (n : Nat) (hn : n ≤ 4096) (w : World) (htab : IT w) :
    Calls Tryz.prog 32 #[.int .i64 (n : Int)] w fun e w' => e = .returned (.string ⟨(Lib.itoa (n : Int)).toArray⟩) ∧ Below w.heap.size w w' :=
  (Any.strconv_Itoa laysItoa (n : Int) (by omega) (by omega) w htab).mono fun e w' ⟨h1, k, os, h2⟩ => ⟨h1, h2 ▸ below_grow w k os⟩
/-- the text of a run -/
def rnT (x : Int × Int) : List UInt8 := if x.2 = 1 then Lib.itoa x.1 else Lib.itoa x.1 ++ [45] ++ Lib.itoa (x.1 + x.2 - 1)
theorem IT.below {w w' : World} (h : IT w) (hb : Below w.heap.size w w') : IT w' := Lib.tabBelow_of_tabIs h w' hb
theorem app_str (a b : List UInt8) : (⟨a.toArray⟩ : ByteArray) ++ ⟨b.toArray⟩ = ⟨(a ++ b).toArray⟩ := by
  apply ByteArray.ext
  simp
set_option maxHeartbeats 1000000 in
theorem runText (x : Int × Int) (w : World) (hx : RnOk x) (hs : x.1 + x.2 ≤ 4096) (hT : IT w) :
    Calls Tryz.prog 70 #[.agg #[.int .i64 x.1, .int .i64 x.2]] w fun e w' => e = .returned (.string ⟨(rnT x).toArray⟩) ∧ Below w.heap.size w w' := by
  obtain ⟨a, b⟩ := x
  obtain ⟨⟨p1, p2⟩, q1, q2⟩ := hx
  simp only at p1 p2 q1 q2 hs
  obtain ⟨n, rfl⟩ : ∃ n : Nat, a = (n : Int) := ⟨a.toNat, by omega⟩
  have B0 : Hid (Below w.heap.size w (w.alloc (Obj.cells #[.int .i64 (n : Int), .int .i64 b] 53))) := (Below.refl _ _).alloc (Nat.le_refl _) _
  have HI := Lib.hid (itoa n (by omega) (w.alloc (Obj.cells #[.int .i64 (n : Int), .int .i64 b] 53)) (hT.below B0.out))
  have c0 : (w.alloc (Obj.cells #[.int .i64 (n : Int), .int .i64 b] 53)).cell? ⟨w.heap.size, 0, none⟩ = some (.int .i64 (n : Int)) := by go_simp
  have c1 : (w.alloc (Obj.cells #[.int .i64 (n : Int), .int .i64 b] 53)).cell? ⟨w.heap.size, 1, none⟩ = some (.int .i64 b) := by go_simp
  have HT : Hid (IT w) := hT
  clear hT
  show Calls Tryz.prog 70 #[.agg #[.int .i64 (n : Int), .int .i64 b]] w _
  go_enter Tryz.func70, Tryz.ntmps70
  go_wp2_with fail
  refine HI.out.mono ?_
  rintro e w1 ⟨rfl, b1⟩
  have d0 := Below.cellS b1 (Nat.le_refl _) c0
  have d1 := Below.cellS b1 (Nat.le_refl _) c1
  have HB1 : Hid (Below w.heap.size w w1) := B0.out.trans (b1.mono B0.out.size)
  clear b1 c0 c1 HI
  by_cases hb1 : b = 1
  · subst hb1
    have HE : Hid (rnT ((n : Int), 1) = Lib.itoa (n : Int)) := (show rnT ((n : Int), 1) = Lib.itoa (n : Int) by simp [rnT])
    go_wp2
    go_ret
    exact ⟨by rw [HE.out]; rfl, HB1.out⟩
  · obtain ⟨m, hm⟩ : ∃ m : Nat, (n : Int) + b - 1 = (m : Int) := ⟨((n : Int) + b - 1).toNat, by omega⟩
    have HE : Hid (rnT ((n : Int), b) = Lib.itoa (n : Int) ++ [45] ++ Lib.itoa (m : Int)) := (show rnT ((n : Int), b) = Lib.itoa (n : Int) ++ [45] ++ Lib.itoa (m : Int) by simp [rnT, hb1, hm])
    have HI2 := Lib.hid (itoa m (by omega) w1 (HT.out.below HB1.out))
    have hl1 := Lib.itoa_length_le (n : Int) (by omega) (by omega)
    have hl2 := Lib.itoa_length_le (m : Int) (by omega) (by omega)
    have hw1 : IntKind.i64.wrap ((n : Int) + b) = (n : Int) + b := by simp [IntKind.wrap, IntKind.bits, IntKind.signed]; omega
    have hw2 : IntKind.i64.wrap (m : Int) = (m : Int) := by simp [IntKind.wrap, IntKind.bits, IntKind.signed]; omega
    go_wp2_with fail
    refine HI2.out.mono ?_
    rintro e w2 ⟨rfl, b2⟩
    have HB2 : Hid (Below w.heap.size w w2) := HB1.out.trans (b2.mono HB1.out.size)
    clear b2 HI2 d0 d1
    go_wp2
    go_ret
    refine ⟨?_, HB2.out⟩
    rw [HE.out]
    show Ending.returned (.string (({ data := (Lib.itoa (n : Int)).toArray } ++ { data := #[45] }) ++ { data := (Lib.itoa (m : Int)).toArray })) = _
    have h9 := app_str (Lib.itoa (n : Int)) [45]
    rw [h9, app_str]
end Go.Proofs.YtjfgpplomldeiaaGreatDoor
