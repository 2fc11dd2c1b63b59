import Derived.Test.YtphehachmgfcaabDoorTwoL
import Derived.Test.YtphehachmgfcaabDoorOpenZ
namespace Go.Proofs.YtphehachmgfcaabDoor
open Go.RowKit
theorem twoway3_all (n : Int) (h0 : -9223372036854775808 ≤ n) (h1 : n ≤ 9223372036854775807) (v u : Value) (zs : List Int) (l : List UInt8) (w : World) (hv : RZ w v zs) (hr : RB w u l) (hm : MT w) (hlz : zs.length ≤ 17592186043904) (hl : l.length ≤ 140737488351232) :
    Calls Tryd.prog 3 #[.int .i64 n, v, u] w fun e w' => e = .returned (.bool true) ∧ Below w.heap.size w w' := by
  by_cases hn : n < 0 ∨ 65536 < n
  · exact twoway3_no n h0 h1 v u zs l w hv hr hm hl hn
  · obtain ⟨m, rfl⟩ := Int.eq_ofNat_of_zero_le (show 0 ≤ n by omega)
    exact twoway3 m (by omega) v u zs l w hv hr hm hlz hl
end Go.Proofs.YtphehachmgfcaabDoor
