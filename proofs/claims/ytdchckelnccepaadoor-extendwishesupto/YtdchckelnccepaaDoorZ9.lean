import Derived.Test.YtdchckelnccepaaDoorItoa
import Derived.Test.YtdchckelnccepaaDoorZ2
import Derived.Lib.Hide
namespace Go.Proofs.YtdchckelnccepaaDoor
open Go.RowKit Go.Deep
def catN (f : Nat → List UInt8) : Nat → List UInt8
  | 0 => []
  | n + 1 => catN f n ++ f n
/-- the text of a string -/
def wtx (s : ByteArray) : List UInt8 := Lib.itoa s.size ++ 58 :: s.data.toList
/-- the text of a value -/
def txt : T → List UInt8
  | .no => []
  | .mk k n s ln l dn ky dv => if k = 1 then 105 :: (Lib.itoa n ++ [101]) else if k = 2 then wtx s else if k = 3 then 108 :: (catN (fun i => txt (l i)) ln ++ [101]) else 100 :: (catN (fun i => wtx (ky i) ++ txt (dv i)) dn ++ [101])
/-- the numbers are ints, the lists are not too long -/
def T.rng : T → Prop
  | .no => True
  | .mk _ n _ ln l dn _ dv => -9223372036854775808 ≤ n ∧ n ≤ 9223372036854775807 ∧ ln ≤ 2147483647 ∧ dn ≤ 2147483647 ∧ (∀ i, i < ln → (l i).rng) ∧ (∀ i, i < dn → (dv i).rng)
theorem OW.alloc {B : Nat} {w : World} {v : Value} {l : List UInt8} (h : OW B w v l) (o : Obj) : OW B (w.alloc o) v l := World.ownsRow.alloc h o
theorem TB.on {B : Nat} {w w' : World} (h : TB B w) (hb : Below B w w') : TB B w' := Lib.TabBelow.on h hb
set_option maxHeartbeats 1000000 in
theorem number96 (B : Nat) (n : Int) (h0 : -9223372036854775808 ≤ n) (h1 : n ≤ 9223372036854775807) (sv : Value) (l : List UInt8) (w : World) (hown : OW B w sv l) (hB : B ≤ w.heap.size) (hT : TB B w) (hlim : l.length ≤ 100000000000000) :
    Calls Tryd.prog 91 #[.int .i64 n, sv] w fun e w' => ∃ v', e = .returned v' ∧ OW B w' v' (l ++ 105 :: (Lib.itoa n ++ [101])) ∧ BW B w w' := by
  have hlen := Lib.itoa_length_le n h0 h1
  go_enter Tryd.func91, Tryd.ntmps91
  go_wp2_with (at_builtin; refine append_byte rfl _ _ rfl rfl (hown.alloc _) w.heap.size 105 rfl (by go_simp) (by simp; omega) (by omega) ?_)
  intro v1 w1 ho1 hb1
  have hb1' : BW B w w1 := ((BW.refl B w).alloc hB _).trans hb1
  have hB1 : B ≤ w1.heap.size := Nat.le_trans hB hb1'.1.size
  clear hb1
  go_wp2_with fail
  refine (appendInt97 B n h0 h1 v1 _ w1 ho1 hB1 (by simp; omega) (hT.on hb1'.1)).mono ?_
  rintro e w2 ⟨v2, rfl, ho2, hb2⟩
  have hb2' : BW B w w2 := hb1'.trans hb2
  have hB2 : B ≤ w2.heap.size := Nat.le_trans hB hb2'.1.size
  clear hb2 ho1
  go_wp2_with (at_builtin; refine append_byte rfl _ _ rfl rfl (ho2.alloc _) w2.heap.size 101 rfl (by go_simp) (by simp; omega) (by simp; omega) ?_)
  intro v3 w3 ho3 hb3
  go_wp2
  go_ret
  exact ⟨v3, rfl, by simpa using ho3, (hb2'.alloc hB2 _).trans hb3⟩
set_option maxHeartbeats 1000000 in
theorem word100 (B : Nat) (s : ByteArray) (sv : Value) (l : List UInt8) (w : World) (hown : OW B w sv l) (hB : B ≤ w.heap.size) (hT : TB B w) (hlim : l.length + s.size ≤ 100000000000000) :
    Calls Tryd.prog 95 #[.string s, sv] w fun e w' => ∃ v', e = .returned v' ∧ OW B w' v' (l ++ wtx s) ∧ BW B w w' := by
  have hlen := Lib.itoa_length_le s.size (by omega) (by omega)
  go_enter Tryd.func95, Tryd.ntmps95
  go_wp2_with fail
  refine (appendInt97 B s.size (by omega) (by omega) sv _ w hown hB (by omega) hT).mono ?_
  rintro e w2 ⟨v2, rfl, ho2, hb2⟩
  have hB2 : B ≤ w2.heap.size := Nat.le_trans hB hb2.1.size
  go_wp2_with (at_builtin; first | refine append_byte rfl _ _ rfl rfl (ho2.alloc _) w2.heap.size 58 rfl (by go_simp) (by simp; omega) (by simp; omega) ?_)
  intro v3 w3 ho3 hb3
  have hb3' : BW B w w3 := (hb2.alloc hB2 _).trans hb3
  have hB3 : B ≤ w3.heap.size := Nat.le_trans hB hb3'.1.size
  clear hb2 hb3 ho2
  go_wp2_with (at_builtin; refine append_str rfl _ _ rfl rfl ho3 s rfl hB3 (by simp; omega) ?_)
  intro v4 w4 ho4 hb4
  go_wp2
  go_ret
  exact ⟨v4, rfl, by simpa [wtx] using ho4, hb3'.trans hb4⟩
end Go.Proofs.YtdchckelnccepaaDoor
namespace Go.Proofs.YtdchckelnccepaaDoor
open Go.RowKit Go.Deep
theorem index_s (s : ByteArray) (p : Nat) (h : p < s.size) (i : Int) (hi : i = (p : Int)) (w : World) : (Instr.index 9 (.string s) (.int .i64 i)).run Tryd.prog w = .ok (.int .u8 (s[p].toNat : Int)) w := by
  subst hi
  have h2 : (p : Int) < (s.size : Int) := by omega
  simp [go_sem, Tryd.underlying9, h2]
theorem OW.keep {B : Nat} {w w' : World} {v : Value} {l : List UInt8} (h : OW B w v l) (hb : Below w.heap.size w w') : OW B w' v l := by
  refine ⟨h.1, ?_⟩
  rcases h.2 with h | ⟨g, cap, cur, h1, h2, h3, h4⟩
  · exact .inl h
  · exact .inr ⟨g, cap, cur, h1, h2, by rw [hb.block g (Array.getElem?_eq_some_iff.1 h3).1]; exact h3, h4⟩
theorem tb_up {B B' : Nat} {w : World} (h : TB B w) (hB : B ≤ B') : TB B' w := fun w' hb => h w' (hb.mono hB)
set_option maxRecDepth 10000 in
set_option maxHeartbeats 1000000 in
theorem laid30 (B : Nat) (s : ByteArray) (sv : Value) (l : List UInt8) (w : World) (hown : OW B w sv l) (hB : B ≤ w.heap.size) (hlim : l.length + s.size ≤ 100000000000000) :
    Calls Tryd.prog 50 #[sv, .string s] w fun e w' => ∃ v', e = .returned v' ∧ OW B w' v' (l ++ s.data.toList) ∧ BW B w w' := by
  go_enter Tryd.func50, Tryd.ntmps50
  go_wp2
  go_loopw [0, 5] (fun o i wr => ∃ (j : Nat), j ≤ s.size ∧ i = .int .i64 j ∧ Hid (OW B wr o (l ++ s.data.toList.take j) ∧ BW B w wr)) (fun _ i _ => s.size - (intOf i).toNat)
  case atStart => exact ⟨0, Nat.zero_le _, rfl, by simpa using hown, BW.refl _ _⟩
  case round =>
    obtain ⟨j, hj, rfl, HO⟩ := hrel
    by_cases hlt : j < s.size
    · have j0 : (0 : Int) ≤ (j : Int) := by omega
      have j1 : (j : Int) < (s.size : Int) := by omega
      have hix := index_s s j hlt j rfl
      obtain ⟨ho, hbw⟩ := HO.out
      have hB2 := Nat.le_trans hB hbw.1.size
      have hlen : (s.data.toList.take j).length = j := by rw [List.length_take, Array.length_toList]; exact Nat.min_eq_left hj
      have HBW := Lib.hid hbw
      have HT : Hid (s.data.toList.take (j + 1) = s.data.toList.take j ++ [s[j]]) := by
        rw [List.take_add_one, Array.getElem?_toList, Array.getElem?_eq_getElem (show j < s.data.size from hlt)]; rfl
      clear hbw HO
      go_wp2_with (at_builtin; refine append_byte rfl _ _ rfl rfl (ho.alloc _) _ s[j] rfl (by go_simp) (by simp; omega) (by rw [List.length_append, hlen]; omega) ?_)
      intro v2 w2 ho2 hb2
      have HN : Hid (OW B w2 v2 (l ++ s.data.toList.take (j + 1)) ∧ BW B w w2) := ⟨by rw [HT.out]; simpa using ho2, (HBW.out.alloc hB2 _).trans hb2⟩
      clear ho2 hb2 HBW ho HT hlen hix
      go_wp2
      go_roundw
      case rel => exact ⟨j + 1, by omega, by go_num, HN⟩
      case measure => simp [intOf]; omega
    · obtain rfl : j = s.size := by omega
      go_wp2
      go_ret
      obtain ⟨ho, hbw⟩ := HO.out
      exact ⟨_, rfl, by rwa [List.take_of_length_le (by rw [Array.length_toList]; exact Nat.le_refl _)] at ho, hbw⟩
set_option maxRecDepth 10000 in
set_option maxHeartbeats 1000000 in
theorem wordSize26 (s : ByteArray) (w : World) (hT : TB w.heap.size w) (hlim : s.size ≤ 140737488351232) :
    Calls Tryd.prog 46 #[.string s] w fun e w' => e = .returned (.int .i64 (wtx s).length) ∧ Below w.heap.size w w' := by
  have hlen := Lib.itoa_length_le s.size (by omega) (by omega)
  go_enter Tryd.func46, Tryd.ntmps46
  go_wp2_with fail
  refine (itoa25 s.size (by omega) (by omega) w hT).mono ?_
  rintro e w1 ⟨rfl, hb⟩
  have hz : (({ data := (Lib.itoa (s.size : Int)).toArray } : ByteArray)).size = (Lib.itoa (s.size : Int)).length := List.size_toArray
  have hz2 : (wtx s).length = (Lib.itoa (s.size : Int)).length + (s.size + 1) := by
    show (Lib.itoa (s.size : Int) ++ 58 :: s.data.toList).length = _
    rw [List.length_append, List.length_cons, Array.length_toList]; rfl
  have HZ := Lib.hid hz2
  clear hz2
  go_wp2
  go_ret
  exact ⟨by have := HZ.out; show Ending.returned (Value.int .i64 (((Lib.itoa (s.size : Int)).length : Int) + 1 + (s.size : Int))) = _; congr 2; omega, hb⟩
set_option maxRecDepth 10000 in
set_option maxHeartbeats 1000000 in
theorem told31 (B : Nat) (s : ByteArray) (sv : Value) (l : List UInt8) (w : World) (hown : OW B w sv l) (hB : B ≤ w.heap.size) (hT : TB B w) (hlim : l.length + s.size ≤ 90000000000000) :
    Calls Tryd.prog 51 #[sv, .string s] w fun e w' => ∃ v', e = .returned v' ∧ OW B w' v' (l ++ wtx s) ∧ BW B w w' := by
  have hlen := Lib.itoa_length_le s.size (by omega) (by omega)
  have hz : (({ data := (Lib.itoa (s.size : Int)).toArray } : ByteArray)).size = (Lib.itoa (s.size : Int)).length := List.size_toArray
  have HZ := Lib.hid hz
  clear hz
  go_enter Tryd.func51, Tryd.ntmps51
  go_wp2_with fail
  refine (itoa25 s.size (by omega) (by omega) w (tb_up hT hB)).mono ?_
  rintro e w1 ⟨rfl, hb1⟩
  have hbw1 : BW B w w1 := (BW.refl B w).below hB hb1
  have ho1 : OW B w1 sv l := hown.keep hb1
  have hB1 := Nat.le_trans hB hb1.size
  clear hb1
  go_wp2_with fail
  refine (laid30 B _ sv l w1 ho1 hB1 (by rw [HZ.out]; omega)).mono ?_
  rintro e w2 ⟨v2, rfl, ho2, hb2⟩
  have hbw2 := Lib.hid (hbw1.trans hb2)
  have hB2 := Nat.le_trans hB hbw2.out.1.size
  clear hb2 ho1
  go_wp2_with (at_builtin; refine append_byte rfl _ _ rfl rfl (ho2.alloc _) _ 58 rfl (by go_simp) (by simp; omega) (by simp; omega) ?_)
  intro v3 w3 ho3 hb3
  have hbw3 := Lib.hid ((hbw2.out.alloc hB2 _).trans hb3)
  have hB3 := Nat.le_trans hB hbw3.out.1.size
  clear hb3 ho2
  go_wp2_with fail
  refine (laid30 B s v3 _ w3 ho3 hB3 (by simp; omega)).mono ?_
  rintro e w4 ⟨v4, rfl, ho4, hb4⟩
  go_wp2
  go_ret
  exact ⟨v4, rfl, by simpa [wtx] using ho4, hbw3.out.trans hb4⟩
end Go.Proofs.YtdchckelnccepaaDoor
