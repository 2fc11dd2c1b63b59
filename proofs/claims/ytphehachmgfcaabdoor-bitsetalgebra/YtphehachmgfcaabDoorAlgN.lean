import Derived.Test.YtphehachmgfcaabDoorAlgL
import Derived.Test.YtphehachmgfcaabDoorOpenZ
namespace Go.Proofs.YtphehachmgfcaabDoor
open Go.RowKit
set_option maxRecDepth 20000 in
set_option maxHeartbeats 2000000 in
theorem algebra7_no (n : Int) (v u : Value) (os ts : List Int) (w : World) (hv : RZ w v os) (hu : RZ w u ts) (hn : n < 0 ∨ 65536 < n) :
    Calls Tryd.prog 7 #[.int .i64 n, v, u] w fun e w' => e = .returned (.bool true) ∧ Below w.heap.size w w' := by
  have HM : Hid (Calls Tryd.prog 26 #[.int .i64 n] w fun e w' => e = .returned (.tuple #[.slice none 0 0, .int .i64 40]) ∧ w = w') := make13_no n hn w
  obtain ⟨a, c, rfl, _⟩ := hv.form
  obtain ⟨a2, c2, rfl, _⟩ := hu.form
  clear hv hu
  rcases hn with hn | hn
  · go_enter Tryd.func7, Tryd.ntmps7
    go_wp2_with fail
    refine HM.out.mono ?_
    rintro e w1 ⟨rfl, rfl⟩
    go_wp2_with fail
    go_ret
    exact ⟨rfl, Below.refl _ _⟩
  · go_enter Tryd.func7, Tryd.ntmps7
    go_wp2_with fail
    refine HM.out.mono ?_
    rintro e w1 ⟨rfl, rfl⟩
    go_wp2_with fail
    go_ret
    exact ⟨rfl, Below.refl _ _⟩
theorem algebra7_all (n : Int) (v u : Value) (os ts : List Int) (w : World) (hv : RZ w v os) (hu : RZ w u ts) (hm : MT w) (hlo : os.length ≤ 17592186043904) (hlt2 : ts.length ≤ 17592186043904) :
    Calls Tryd.prog 7 #[.int .i64 n, v, u] w fun e w' => e = .returned (.bool true) ∧ Below w.heap.size w w' := by
  by_cases hn : n < 0 ∨ 65536 < n
  · exact algebra7_no n v u os ts w hv hu hn
  · obtain ⟨m, rfl⟩ := Int.eq_ofNat_of_zero_le (show 0 ≤ n by omega)
    exact algebra7 m (by omega) v u os ts w hv hu hm hlo hlt2
end Go.Proofs.YtphehachmgfcaabDoor
