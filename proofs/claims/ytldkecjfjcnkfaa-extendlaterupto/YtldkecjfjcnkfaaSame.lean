import Derived.Test.YtldkecjfjcnkfaaFar
import Derived.Deep.RegionHeld3
namespace Go.Proofs.Ytldkecjfjcnkfaa
open Go.RowKit Go.Deep
theorem Below.cellS {B : Nat} {w w' : World} (h : Below B w w') {p : Addr} {v : Value} (hB : w.heap.size ≤ B) (hc : w.cell? p = some v) : w'.cell? p = some v :=
  (h.cell (Nat.lt_of_lt_of_le (World.block_lt_of_cell? w p hc) hB)).trans hc
theorem Below.rv {B : Nat} {w w' : World} (h : Below B w w') (hB : w.heap.size ≤ B) {S : Nat → Prop} {t : T} {x y : Value} (g : RV S w t x y) : RV (fun _ => True) w' t x y :=
  RV.lift h.size (fun b hb => h.block b (Nat.lt_of_lt_of_le hb hB)) (fun _ _ => trivial) _ _ _ g
/-- 'same' of two values that read as one tree -/
def SC (f : Nat) (t : T) : Prop := ∀ (x y x2 y2 : Value) (w : World), t.ok → RV (fun _ => True) w t x y → RV (fun _ => True) w t x2 y2 →
  Calls Try.prog f #[vv t x y, vv t x2 y2] w fun e w' => e = .returned (.bool true) ∧ Below w.heap.size w w'

end Go.Proofs.Ytldkecjfjcnkfaa
