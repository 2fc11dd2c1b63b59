import Derived.Test.YtldkecjfjcnkfaaWalk
import Derived.Test.YtldkecjfjcnkfaaCopy
import Derived.ProofKit
import Derived.OpenShut
import Derived.SizedLaws
import Derived.Carry
namespace Go.Proofs.Ytldkecjfjcnkfaa
open Go.ChangeShapes Go.WideShapes Go.ChangeAt Go.RowKit Go.Deep
set_option maxHeartbeats 400000 in
theorem valid12 (t : T) (x y : Value) (w : World) (hok : t.ok) (hr : RV (fun _ => True) w t x y) :
    Calls Try.prog 32 #[vv t x y] w fun e w' => e = .returned (.int .i64 (wk t 0)) ∧ Below w.heap.size w w' := by
  have HR : Hid (RV (fun _ => True) w t x y) := hr
  clear hr
  unfold vv
  go_enter Try.func32, Try.ntmps32
  go_wp2_with fail
  refine (fault22 t x y _ 0 (by omega) (by omega) hok (Below.rv ((Below.refl _ _).alloc (Nat.le_refl _) _) (Nat.le_refl _) HR.out)).mono ?_
  rintro e w1 ⟨rfl, hb⟩
  go_wp2
  go_ret
  exact ⟨rfl, ((Below.refl _ _).alloc (Nat.le_refl _) _).trans (hb.mono (by simp))⟩
set_option maxHeartbeats 400000 in
theorem valid13 (t : T) (x y : Value) (w : World) (hok : t.ok) (hr : RV (fun _ => True) w t x y) :
    Calls Try.prog 51 #[vv t x y] w fun e w' => e = .returned (.int .i64 (wk t 0)) ∧ Below w.heap.size w w' := by
  have HR : Hid (RV (fun _ => True) w t x y) := hr
  clear hr
  unfold vv
  go_enter Try.func51, Try.ntmps51
  go_wp2_with fail
  refine (walk23 t x y _ 0 (by omega) (by omega) hok (Below.rv ((Below.refl _ _).alloc (Nat.le_refl _) _) (Nat.le_refl _) HR.out)).mono ?_
  rintro e w1 ⟨rfl, hb⟩
  go_wp2
  go_ret
  exact ⟨rfl, ((Below.refl _ _).alloc (Nat.le_refl _) _).trans (hb.mono (by simp))⟩
end Go.Proofs.Ytldkecjfjcnkfaa
