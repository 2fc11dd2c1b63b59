import Derived.Test.YtegfdeiamnlfhaaDoorItoa
import Derived.Test.YtegfdeiamnlfhaaDoorNodeD
import Derived.Lib.Hide
namespace Go.Proofs.YtegfdeiamnlfhaaDoor
open Go.RowKit Go.Deep
def catN (f : Nat → List UInt8) : Nat → List UInt8
  | 0 => []
  | n + 1 => catN f n ++ f n
/-- the text of a string -/
def wtx (s : ByteArray) : List UInt8 := Lib.itoa s.size ++ 58 :: s.data.toList
/-- the text of a value -/
def txt : T → List UInt8
  | .no => []
  | .mk k n s ln l dn ky dv => if k = 1 then 105 :: (Lib.itoa n ++ [101]) else if k = 2 then wtx s else if k = 3 then 108 :: (catN (fun i => txt (l i)) ln ++ [101]) else 100 :: (catN (fun i => wtx (ky i) ++ txt (dv i)) dn ++ [101])
/-- the numbers are ints, the lists are not too long -/
def T.rng : T → Prop
  | .no => True
  | .mk _ n _ ln l dn _ dv => -9223372036854775808 ≤ n ∧ n ≤ 9223372036854775807 ∧ ln ≤ 2147483647 ∧ dn ≤ 2147483647 ∧ (∀ i, i < ln → (l i).rng) ∧ (∀ i, i < dn → (dv i).rng)
theorem OW.alloc {B : Nat} {w : World} {v : Value} {l : List UInt8} (h : OW B w v l) (o : Obj) : OW B (w.alloc o) v l := World.ownsRow.alloc h o
theorem TB.on {B : Nat} {w w' : World} (h : TB B w) (hb : Below B w w') : TB B w' := Lib.TabBelow.on h hb
set_option maxHeartbeats 1000000 in
theorem number96 (B : Nat) (n : Int) (h0 : -9223372036854775808 ≤ n) (h1 : n ≤ 9223372036854775807) (sv : Value) (l : List UInt8) (w : World) (hown : OW B w sv l) (hB : B ≤ w.heap.size) (hT : TB B w) (hlim : l.length ≤ 100000000000000) :
    Calls Tryd.prog 74 #[.int .i64 n, sv] w fun e w' => ∃ v', e = .returned v' ∧ OW B w' v' (l ++ 105 :: (Lib.itoa n ++ [101])) ∧ BW B w w' := by
  have hlen := Lib.itoa_length_le n h0 h1
  go_enter Tryd.func74, Tryd.ntmps74
  go_wp2_with (at_builtin; refine append_byte rfl _ _ rfl rfl (hown.alloc _) w.heap.size 105 rfl (by go_simp) (by simp; omega) (by omega) ?_)
  intro v1 w1 ho1 hb1
  have hb1' : BW B w w1 := ((BW.refl B w).alloc hB _).trans hb1
  have hB1 : B ≤ w1.heap.size := Nat.le_trans hB hb1'.1.size
  clear hb1
  go_wp2_with fail
  refine (appendInt97 B n h0 h1 v1 _ w1 ho1 hB1 (by simp; omega) (hT.on hb1'.1)).mono ?_
  rintro e w2 ⟨v2, rfl, ho2, hb2⟩
  have hb2' : BW B w w2 := hb1'.trans hb2
  have hB2 : B ≤ w2.heap.size := Nat.le_trans hB hb2'.1.size
  clear hb2 ho1
  go_wp2_with (at_builtin; refine append_byte rfl _ _ rfl rfl (ho2.alloc _) w2.heap.size 101 rfl (by go_simp) (by simp; omega) (by simp; omega) ?_)
  intro v3 w3 ho3 hb3
  go_wp2
  go_ret
  exact ⟨v3, rfl, by simpa using ho3, (hb2'.alloc hB2 _).trans hb3⟩
set_option maxHeartbeats 1000000 in
theorem word100 (B : Nat) (s : ByteArray) (sv : Value) (l : List UInt8) (w : World) (hown : OW B w sv l) (hB : B ≤ w.heap.size) (hT : TB B w) (hlim : l.length + s.size ≤ 100000000000000) :
    Calls Tryd.prog 78 #[.string s, sv] w fun e w' => ∃ v', e = .returned v' ∧ OW B w' v' (l ++ wtx s) ∧ BW B w w' := by
  have hlen := Lib.itoa_length_le s.size (by omega) (by omega)
  go_enter Tryd.func78, Tryd.ntmps78
  go_wp2_with fail
  refine (appendInt97 B s.size (by omega) (by omega) sv _ w hown hB (by omega) hT).mono ?_
  rintro e w2 ⟨v2, rfl, ho2, hb2⟩
  have hB2 : B ≤ w2.heap.size := Nat.le_trans hB hb2.1.size
  go_wp2_with (at_builtin; first | refine append_byte rfl _ _ rfl rfl (ho2.alloc _) w2.heap.size 58 rfl (by go_simp) (by simp; omega) (by simp; omega) ?_)
  intro v3 w3 ho3 hb3
  have hb3' : BW B w w3 := (hb2.alloc hB2 _).trans hb3
  have hB3 : B ≤ w3.heap.size := Nat.le_trans hB hb3'.1.size
  clear hb2 hb3 ho2
  go_wp2_with (at_builtin; refine append_str rfl _ _ rfl rfl ho3 s rfl hB3 (by simp; omega) ?_)
  intro v4 w4 ho4 hb4
  go_wp2
  go_ret
  exact ⟨v4, rfl, by simpa [wtx] using ho4, hb3'.trans hb4⟩
end Go.Proofs.YtegfdeiamnlfhaaDoor
