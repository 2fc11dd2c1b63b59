import Derived.Test.YtjfgpplomldeiaaGreatDoorRows
import Derived.WalkKit
import Derived.BigQuiet
import Derived.Deep.QuietTactic
import Derived.WalkLawsBesides
import Derived.Lib.Hide
import Derived.Laws.OwnMore
import Derived.Below
import Derived.Laws.IdiomStrings
import Derived.Laws.BytesString
import Derived.Deep.RegionLaw
import Derived.Shelf.Lay
import Derived.Shelf.Strings.Builder1
import Derived.Shelf.Strings.Search1
import Derived.Ground.NamesProg
import Derived.Lib.IndexLaws
namespace Go.Proofs.YtjfgpplomldeiaaGreatDoor
open Go.Shelf Go.RowKit
/-- the bytes that stand for themselves -/
def barL : List UInt8 := [65, 66, 67, 68, 69, 70, 71, 72, 73, 74, 75, 76, 77, 78, 79, 80, 81, 82, 83, 84, 85, 86, 87, 88, 89, 90, 97, 98, 99, 100, 101, 102, 103, 104, 105, 106, 107, 108, 109, 110, 111, 112, 113, 114, 115, 116, 117, 118, 119, 120, 121, 122, 48, 49, 50, 51, 52, 53, 54, 55, 56, 57, 45, 46, 95, 126, 33, 36, 39, 40, 41, 42, 44, 59, 58, 64, 47, 63]
def isB (x : UInt8) : Bool := barL.contains x
/-- the table of the bytes below 128 -/
def tabB : List Bool := (List.range 128).map fun n => isB (UInt8.ofNat n)
def dgL : List UInt8 := [48, 49, 50, 51, 52, 53, 54, 55, 56, 57, 65, 66, 67, 68, 69, 70]
def dg (k : Nat) : UInt8 := dgL.getD k 0
/-- how a byte is written -/
def sg (x : UInt8) : List UInt8 := if isB x then [x] else [37, dg (x.toNat / 16), dg (x.toNat % 16)]
def esc (l : List UInt8) : List UInt8 := l.flatMap sg
theorem isB_low : ∀ n : Fin 256, 128 ≤ n.val → isB (UInt8.ofNat n.val) = false := by decide +kernel
theorem isB_hi {x : UInt8} (h : 128 ≤ x.toNat) : isB x = false := by
  have := isB_low ⟨x.toNat, x.toNat_lt⟩ h
  simpa using this
/-- the table lies in memory -/
def BT (w : World) : Prop := 0 < w.heap.size ∧ ∀ j, j < 128 → w.cell? ⟨0, j, none⟩ = some (.bool (isB (UInt8.ofNat j)))
theorem BT.keep {w w' : World} (h : BT w) (hb : Below w.heap.size w w') : BT w' :=
  ⟨Nat.lt_of_lt_of_le h.1 hb.size, fun j hj => (World.cell?_of_block (w := w) (hb.block 0 h.1)).trans (h.2 j hj)⟩
theorem BT.drew {w : World} (h : BT w) (n : Nat) : BT (w.drewN n) := h
theorem belowDrew (w : World) (n : Nat) : Below w.heap.size w (w.drewN n) := ⟨rfl, rfl, rfl, Nat.le_refl _, fun _ _ => rfl⟩
theorem belowN {B : Nat} {a w : World} (h : Below B a w) (n : Nat) : Below B a (w.drewN n) := ⟨h.os, h.tape, h.output, h.size, h.block⟩
theorem info5 : (Tryz.prog.info? 5).map (fun i => (i.zero, i.size, i.bytes)) = some (some (.int .u8 0), 1, 1) := by kernel_rfl
theorem ret_b {a b : Bool} (h : a = b) : Ending.returned (.bool a) = .returned (.bool b) := by rw [h]
theorem ret_i {a b : Int} (h : a = b) : Ending.returned (.int .i64 a) = .returned (.int .i64 b) := by rw [h]
set_option maxRecDepth 100000 in
theorem isBare (x : UInt8) (w : World) (hT : BT w) :
    Calls Tryz.prog 62 #[.int .u8 (x.toNat : Int)] w fun e w' => e = .returned (.bool (isB x)) ∧ w' = w := by
  by_cases h : x.toNat < 128
  · have hc := hT.2 x.toNat h
    have e1 : UInt8.ofNat x.toNat = x := by simp
    rw [e1] at hc
    have hx : (x.toNat : Int) < 128 := by omega
    generalize isB x = b at *
    clear hT
    go_enter Tryz.func62, Tryz.ntmps62
    go_wp2
    go_ret
    exact ⟨rfl, rfl⟩
  · have hw : wrap64 (x.toNat : Int) = (x.toNat : Int) := by have := x.toNat_lt; unfold wrap64; omega
    have hx : ¬ (x.toNat : Int) < 128 := by omega
    have hx2 : ¬ wrap64 (x.toNat : Int) < 128 := by rw [hw]; exact hx
    rw [isB_hi (by omega)]
    clear h
    clear hT
    go_enter Tryz.func62, Tryz.ntmps62
    go_wp2
    go_ret
    exact ⟨rfl, rfl⟩
theorem index_s (s : ByteArray) (p : Nat) (h : p < s.size) (i : Int) (hi : i = (p : Int)) (w : World) : (Instr.index 9 (.string s) (.int .i64 i)).run Tryz.prog w = .ok (.int .u8 (s[p].toNat : Int)) w := by
  subst hi
  have h2 : (p : Int) < (s.size : Int) := by omega
  simp [go_sem, Tryz.underlying9, h2]
theorem ib_of {l : List UInt8} {c : UInt8} {o : Nat} (h : l[o]? = some c) (hn : ∀ k, k < o → l[k]? ≠ some c) : Lib.indexByte l c = o := by
  have hge := Lib.indexByte_ge l c
  by_cases h1 : Lib.indexByte l c = -1
  · exact absurd h (Lib.indexByte_none h1 o)
  · obtain ⟨p, hp⟩ : ∃ p : Nat, Lib.indexByte l c = p := ⟨(Lib.indexByte l c).toNat, by omega⟩
    have h2 := Lib.indexByte_some hp
    rcases Nat.lt_trichotomy p o with h3 | h3 | h3
    · exact absurd h2.1 (hn p h3)
    · rw [hp, h3]
    · exact absurd h (h2.2 o h3)
theorem ib_no {l : List UInt8} {c : UInt8} (hn : ∀ k, k < l.length → l[k]? ≠ some c) : Lib.indexByte l c = -1 := by
  have hge := Lib.indexByte_ge l c
  by_cases h1 : Lib.indexByte l c = -1
  · exact h1
  · obtain ⟨p, hp⟩ : ∃ p : Nat, Lib.indexByte l c = p := ⟨(Lib.indexByte l c).toNat, by omega⟩
    have h2 := (Lib.indexByte_some hp).1
    obtain ⟨h3, _⟩ := List.getElem?_eq_some_iff.1 h2
    exact absurd h2 (hn p h3)
theorem bget (s : ByteArray) (k : Nat) (h : k < s.size) : s.data.toList[k]? = some s[k] := by
  rw [Array.getElem?_toList]; exact Array.getElem?_eq_getElem (show k < s.data.size from h)
set_option maxHeartbeats 800000 in
theorem rplace (s : ByteArray) (x : UInt8) (w : World) (hs : s.size ≤ 140737488355328) :
    Calls Tryz.prog 64 #[.string s, .int .u8 (x.toNat : Int)] w fun e w' => e = .returned (.int .i64 (Lib.indexByte s.data.toList x)) ∧ w' = w := by
  have hm : s.size < 9223372036854775807 := by omega
  clear hs
  go_enter Tryz.func64, Tryz.ntmps64
  go_wp2
  go_loopw [5] (fun t wr => ∃ k : Nat, k ≤ s.size ∧ t = .int .i64 k ∧ Hid (∀ j, j < k → s.data.toList[j]? ≠ some x) ∧ wr = w) (fun t _ => s.size - (intOf t).toNat)
  case atStart => exact ⟨0, Nat.zero_le _, rfl, (fun j h => absurd h (Nat.not_lt_zero _) : ∀ j, j < 0 → s.data.toList[j]? ≠ some x), rfl⟩
  case round =>
    obtain ⟨k, hk, rfl, hn, rfl⟩ := hrel
    by_cases hlt : k < s.size
    · have hx2 := index_s s k hlt k rfl
      have hlt' : (k : Int) < (s.size : Int) := by omega
      by_cases he : s[k] = x
      · have HR : Hid ((k : Int) = Lib.indexByte s.data.toList x) := (ib_of (by rw [bget s k hlt, he]) hn.out).symm
        subst he
        go_wp2
        go_ret
        exact ⟨ret_i HR.out, rfl⟩
      · have he2 : ((s[k].toNat : Int) == (x.toNat : Int)) = false := by
          rw [beq_eq_false_iff_ne]; intro h
          exact he (UInt8.toNat_inj.1 (by omega))
        have HN : Hid (∀ j, j < k + 1 → s.data.toList[j]? ≠ some x) := fun j hj => by
          rcases Nat.lt_or_ge j k with h | h
          · exact hn.out j h
          · rw [show j = k by omega, bget s k hlt]; intro h; exact he (Option.some.inj h)
        clear hn he
        go_wp2
        go_roundw
        case rel => exact ⟨k + 1, by omega, by go_num, HN, by trivial⟩
        case measure => simp [intOf]; omega
    · have HR : Hid (-1 = Lib.indexByte s.data.toList x) := (ib_no fun j hj => hn.out j (by simp at hj; omega)).symm
      clear hn
      go_wp2
      go_ret
      exact ⟨ret_i HR.out, rfl⟩
theorem con_ib (x : UInt8) : isB x = decide (0 ≤ Lib.indexByte barL x) := by
  unfold isB
  have hge := Lib.indexByte_ge barL x
  rw [Bool.eq_iff_iff, decide_eq_true_eq, List.contains_iff_mem]
  constructor
  · intro h
    by_cases h1 : Lib.indexByte barL x = -1
    · obtain ⟨k, hk⟩ := List.mem_iff_getElem?.1 h
      exact absurd hk (Lib.indexByte_none h1 k)
    · omega
  · intro h
    obtain ⟨p, hp⟩ : ∃ p : Nat, Lib.indexByte barL x = p := ⟨(Lib.indexByte barL x).toNat, by omega⟩
    exact List.mem_of_getElem? (Lib.indexByte_some hp).1
theorem rbare (x : UInt8) (w : World) :
    Calls Tryz.prog 49 #[.int .u8 (x.toNat : Int)] w fun e w' => e = .returned (.bool (isB x)) ∧ w' = w := by
  have HR : Hid (decide (0 ≤ Lib.indexByte barL x) = isB x) := (con_ib x).symm
  have HC : ∀ w, Calls Tryz.prog 64 #[.string ⟨barL.toArray⟩, .int .u8 (x.toNat : Int)] w fun e w' => e = .returned (.int .i64 (Lib.indexByte barL x)) ∧ w' = w := fun w => rplace ⟨barL.toArray⟩ x w (by decide)
  go_enter Tryz.func49, Tryz.ntmps49
  go_wp2_with fail
  refine (HC _).mono ?_
  rintro e w1 ⟨rfl, rfl⟩
  generalize Lib.indexByte barL x = p at *
  go_wp2
  go_ret
  exact ⟨ret_b HR.out, rfl⟩
end Go.Proofs.YtjfgpplomldeiaaGreatDoor
