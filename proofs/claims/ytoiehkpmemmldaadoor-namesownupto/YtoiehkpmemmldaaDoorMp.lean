import Derived.Test.YtoiehkpmemmldaaDoorRows
import Derived.Test.YtoiehkpmemmldaaDoorTri
import Derived.Maps.OwnSet
import Derived.DeepKeys4
import Derived.ProofKit
namespace Go.Proofs.YtoiehkpmemmldaaDoor
open Go.Maps Go.RowKit
theorem laidOut : laidOutB Tryd.prog = true := by kernel_rfl
theorem row46 : (57 : TypeId) < Tryd.prog.types.size := of_decide_eq_true (by kernel_rfl)
theorem wide46 : (match Tryd.prog.underlying 57 with | some (.array _ _) | some (.struct _) => true | _ => false) = true := by rw [Tryd.underlying57]
set_option maxRecDepth 100000 in
theorem law46 : Keyed Tryd.prog 57 := Keyed.of_law (deep_law_laid laidOut (m := 2) (by omega) row46 (by kernel_rfl) wide46)
theorem zero3 (w : World) : (zeroValue 3).run Tryd.prog w = .ok (.int .i64 0) w := by kernel_rfl
/-- a key of the map -/
def kv (f : Nat) (x : ByteArray) : Value := .agg #[.int .i64 f, .string x]
def klit (f : Nat) (x : ByteArray) : Lit := .string (keyBytes [.int .i64 f, .string x.data.toList])
theorem keyType46 : Tryd.prog.keyType 57 = true := by kernel_rfl
theorem size46 : Tryd.prog.types.size = 126 := by kernel_rfl
theorem cells46 : Tryd.prog.cellsOf 57 = 2 := by kernel_rfl
theorem cell9m : Tryd.prog.cellsOf 9 = 1 := by kernel_rfl
theorem cell3m : Tryd.prog.cellsOf 3 = 1 := by kernel_rfl
set_option maxRecDepth 100000 in
theorem keyOf46 {f : Nat} {x : ByteArray} (hf : f ≤ 4611686018427387904) (hx : x.size ≤ maxLen) : keyOf Tryd.prog 57 (kv f x) = some (klit f x) := by
  have hw : (Lit.int .i64 (f : Int)).wf = true := by simp [Lit.wf, IntKind.min, IntKind.max, IntKind.signed, IntKind.bits]; omega
  have e3 : Tryd.prog.keyLits (124 + 1 + 1) 3 [.int .i64 f] = some [.int .i64 f] := by
    unfold Program.keyLits; rw [Tryd.underlying3]; simp [hw]
  have e9 : Tryd.prog.keyLits (124 + 1 + 1) 9 [.string x] = some [.string x.data.toList] := by
    unfold Program.keyLits; rw [Tryd.underlying9]; simp [hx]
  have e46 : Tryd.prog.keyLits (124 + 1 + 1 + 1) 57 [.int .i64 f, .string x] = some [.int .i64 f, .string x.data.toList] := by
    unfold Program.keyLits; rw [Tryd.underlying57]; simp only [cells46]
    simp [cell9m, cell3m, e3, e9]
  unfold keyOf
  rw [Tryd.underlying57]
  simp only [keyType46, size46]
  have hfm : (kv f x).formed Tryd.prog 57 = true := by
    unfold Value.formed kv; rw [Tryd.underlying57]
    simp only [cells46]; rfl
  rw [hfm]
  show Option.map _ (Tryd.prog.keyLits (124 + 1 + 1 + 1) 57 [.int .i64 f, .string x]) = _
  rw [e46]; rfl
theorem klit_inj {f g : Nat} {x y : ByteArray} (hf : f ≤ 4611686018427387904) (hx : x.size ≤ maxLen) (hg : g ≤ 4611686018427387904) (hy : y.size ≤ maxLen) (h : klit f x = klit g y) : f = g ∧ x = y := by
  have h1 := keyOf46 hf hx
  have h2 := keyOf46 hg hy
  rw [← h] at h2
  have := law46.inj h1 h2
  simp [kv] at this
  exact ⟨by omega, this.2⟩
/-- the datum of the map holds what S tells -/
def RD (D : DataW Unit) (S : Nat × ByteArray → Option Nat) : Prop := ∀ f x, f ≤ 4611686018427387904 → x.size ≤ maxLen →
  Maps.has D (klit f x) = (S (f, x)).isSome ∧ ∀ m, S (f, x) = some m → D.atKey (klit f x) (.lit (.int .i64 0)) = .lit (.int .i64 (m : Int))
theorem RD.nil : RD (.map []) (fun _ => none) := fun f x _ _ => ⟨rfl, fun m h => by cases h⟩
theorem RD.put {D : DataW Unit} {S : Nat × ByteArray → Option Nat} (h : RD D S) (hD : IsMap D) {f : Nat} {x : ByteArray} (hf : f ≤ 4611686018427387904) (hx : x.size ≤ maxLen) (m : Nat) :
    RD (D.put (klit f x) (.lit (.int .i64 (m : Int)))) (setS S (f, x) m) := by
  intro g y hg hy
  unfold setS
  by_cases he : (g, y) = (f, x)
  · rw [if_pos he]
    simp only [Prod.mk.injEq] at he
    obtain ⟨rfl, rfl⟩ := he
    have hk := law46.key (keyOf46 hf hx)
    exact ⟨has_put_same hD hk _, fun m' hm' => by rw [atKey_put_same hD hk]; simp at hm'; rw [hm']⟩
  · rw [if_neg he]
    have hne : klit g y ≠ klit f x := fun e => he (by have := klit_inj hg hy hf hx e; rw [this.1, this.2])
    obtain ⟨h1, h2⟩ := h g y hg hy
    exact ⟨by rw [has_put_other hne]; exact h1, fun m' hm' => by rw [atKey_put_other hne]; exact h2 m' hm'⟩
/-- block bm is the map of c entries that S tells -/
def MM (w : World) (bm c : Nat) (S : Nat × ByteArray → Option Nat) : Prop := ∃ D : DataW Unit, w.ownsMap Tryd.prog 57 (plainElem Tryd.prog 3) bm c D ∧ Maps.size D = c ∧ RD D S
theorem MM.keep {w w' : World} {bm c : Nat} {S} {row : Option Nat} (h : MM w bm c S) (hg : w.grownBy w' row) (hne : some bm ≠ row) : MM w' bm c S := by
  obtain ⟨D, h1, h2, h3⟩ := h
  exact ⟨D, h1.kept hg hne, h2, h3⟩
theorem MM.alloc {w : World} {bm c : Nat} {S} (h : MM w bm c S) (o : Obj) : MM (w.alloc o) bm c S := by
  obtain ⟨D, h1, h2, h3⟩ := h
  exact ⟨D, h1.alloc o, h2, h3⟩
theorem MM.below {w w' : World} {bm c : Nat} {S} (h : MM w bm c S) (hb : Below w.heap.size w w') : MM w' bm c S := by
  obtain ⟨D, ⟨es, clock, h1, h4⟩, h2, h3⟩ := h
  exact ⟨D, ⟨es, clock, (hb.block bm (Array.getElem?_eq_some_iff.1 h1).1).trans h1, h4⟩, h2, h3⟩
theorem MM.lt {w : World} {bm c : Nat} {S} (h : MM w bm c S) : bm < w.heap.size := by
  obtain ⟨D, h1, _⟩ := h
  exact h1.lt
theorem MM.setCell {w : World} {bm c : Nat} {S} (h : MM w bm c S) {a : Addr} (ha : bm ≠ a.block) (u : Value) : MM (w.setCell a u) bm c S := by
  obtain ⟨D, h1, h2, h3⟩ := h
  exact ⟨D, h1.setCell ha u, h2, h3⟩
theorem MM.made (w : World) : MM (w.alloc (.map #[] 0)) w.heap.size 0 (fun _ => none) := ⟨_, World.ownsMap_made w _ _ _, rfl, RD.nil⟩
section
variable {w : World} {ops : Array Oper} {rest : List Oper} {o : Oper} {a : Act} {Q : Exit → Act → World → Prop} {bm c : Nat} {S : Nat × ByteArray → Option Nat}
theorem look_mm (hg : o.guard = none) (m x : Operand) (hop : o.op = Op.lookup 44 m x true) (hm : a.eval m = .map (some bm)) (h : MM w bm c S) (f : Nat) (s : ByteArray) (hx : a.eval x = kv f s) (hf : f ≤ 4611686018427387904) (hs : s.size ≤ maxLen)
    (hK : wpList Tryd.prog ops Q rest (a.put o.dst (.tuple #[.int .i64 (((S (f, s)).getD 0 : Nat) : Int), .bool (S (f, s)).isSome])) w) : wpList Tryd.prog ops Q (o :: rest) a w := by
  obtain ⟨D, h1, _, h3⟩ := h
  refine wpList_lookup_own_ok_int w hg m x 44 hop 57 3 .i64 law46 Tryd.underlying44 Tryd.underlying3 (zero3 _) bm c D hm h1 _ _ hx (keyOf46 hf hs) ?_
  intro z hat _
  obtain ⟨g1, g2⟩ := h3 f s hf hs
  rw [g1]
  have : z = (((S (f, s)).getD 0 : Nat) : Int) := by
    cases hS : S (f, s) with
    | none =>
      rw [hS] at g1
      rw [atKey_of_not_has g1] at hat
      simp at hat
      simp [← hat]
    | some m =>
      rw [g2 m hS] at hat
      simp at hat
      simp [← hat]
  rw [this]
  exact hK
theorem len_mm (hg : o.guard = none) (m : Operand) (hop : o.op = Op.call { callee := Callee.builtin Builtin.len, args := #[m], argTypes := #[44] }) (hm : a.eval m = .map (some bm)) (h : MM w bm c S)
    (hK : wpList Tryd.prog ops Q rest (a.put o.dst (.int .i64 (c : Int))) w) : wpList Tryd.prog ops Q (o :: rest) a w := by
  obtain ⟨D, h1, h2, _⟩ := h
  refine wpList_len_own w hg m 44 hop 57 3 Tryd.underlying44 _ bm c D hm h1 ?_
  rw [h2]; exact hK
theorem put_mm (hg : o.guard = none) (m x v : Operand) (hop : o.op = Op.mapUpdate 44 m x v) (hm : a.eval m = .map (some bm)) (h : MM w bm c S) (f : Nat) (s : ByteArray) (hx : a.eval x = kv f s) (hf : f ≤ 4611686018427387904) (hs : s.size ≤ maxLen)
    (hn : c < 4611686018427387904) (hS : S (f, s) = none) (z : Nat) (hz : z ≤ 4611686018427387904) (hv : a.eval v = .int .i64 (z : Int))
    (hK : ∀ w', MM w' bm (c + 1) (setS S (f, s) z) → w.grownBy w' (some bm) → wpList Tryd.prog ops Q rest (a.put o.dst undef) w') : wpList Tryd.prog ops Q (o :: rest) a w := by
  obtain ⟨D, h1, h2, h3⟩ := h
  have hw : (Lit.int .i64 (z : Int)).wf = true := by simp [Lit.wf, IntKind.min, IntKind.max, IntKind.signed, IntKind.bits]; omega
  refine wpList_mapUpdate_own w hg m x v 44 hop 57 3 law46 Tryd.underlying44 _ bm c D hm h1 (by unfold maxLen; omega) _ _ _ hx hv (keyOf46 hf hs) _ [] (plainElem_int Tryd.underlying3 hw) ?_
  intro w' g1 g2
  refine hK w' ⟨_, g1, ?_, h3.put h1.isMap hf hs z⟩ g2
  rw [size_put (h1.tidy law46), (h3 f s hf hs).1, hS, h2]
  rfl
end
end Go.Proofs.YtoiehkpmemmldaaDoor
