import Derived.Test.YtojdnmhaflomkaaRows
import Derived.Shelf.Small.Bits
import Derived.Shelf.Lay
import Derived.Ground.NamesProg
import Derived.ProofKit
import Derived.OpenShut
import Derived.Lib.SmallJoins
namespace Go.Proofs.Ytojdnmhaflomkaa
open Go.Shelf Go.RowKit
shelf_lay Lays.n125 Nm 125 at Try as lays125
theorem aux_le : ∀ f x, Lib.bitLenAux f x ≤ f
  | 0, _ => Nat.le_refl _
  | f + 1, x => by
    simp only [Lib.bitLenAux]
    split
    · omega
    · have := aux_le f (x / 2); omega
theorem len_le (x : Nat) : Lib.bitLen x ≤ 64 := aux_le 64 x
theorem len_zero : Lib.bitLen 0 = 0 := rfl
theorem len_half (m : Nat) (h : 0 < m) (h1 : m < 2 ^ 64) : Lib.bitLen m = 1 + Lib.bitLen (m / 2) := by
  have e := Lib.bitLenAux_fuel 63 (m / 2) (by omega) 64 (by omega)
  show Lib.bitLenAux 64 m = 1 + Lib.bitLenAux 64 (m / 2)
  rw [e]
  show (if m = 0 then 0 else 1 + Lib.bitLenAux 63 (m / 2)) = _
  rw [if_neg (by omega)]
def rs (n : Int) : Int := (Lib.bitLen (n.toNat - 1) : Int)
theorem rise6 (n : Int) (h0 : 1 ≤ n) (h1 : n ≤ 9223372036854775807) (w : World) :
    Calls Try.prog 6 #[.int .i64 n] w fun e w' => e = .returned (.int .i64 (rs n)) ∧ w' = w := by
  go_enter Try.func6, Try.ntmps6
  go_wp2_with fail
  refine (Any.bits_Len lays125 (n - 1) _ (by omega) (by omega)).mono ?_
  rintro e w' ⟨rfl, rfl⟩
  go_wp2
  go_ret
  exact ⟨rfl, rfl⟩
theorem rise7 (n : Int) (h0 : 1 ≤ n) (h1 : n ≤ 9223372036854775807) (w : World) :
    Calls Try.prog 7 #[.int .i64 n] w fun e w' => e = .returned (.int .i64 (rs n)) ∧ w' = w := by
  go_enter Try.func7, Try.ntmps7
  go_wp2
  go_loop [3, 4] (fun h r => ∃ j m : Nat, m ≤ (n.toNat - 1) ∧ j ≤ 64 ∧ Hid (Lib.bitLen m + j = Lib.bitLen (n.toNat - 1)) ∧ h = .int .i64 j ∧ r = .int .i64 m) (fun _ r => (intOf r).toNat)
  case atStart => exact ⟨0, (n.toNat - 1), Nat.le_refl _, by omega, rfl, rfl, by congr 1; omega⟩
  case round =>
    obtain ⟨j, m, hm, hj, H, rfl, rfl⟩ := hrel
    have hl := len_le (n.toNat - 1)
    by_cases hlt : 0 < m
    · have hh := len_half m hlt (by omega)
      have hj2 : j + 1 ≤ 64 := by have := H.out; omega
      have hH : Hid (Lib.bitLen (m / 2) + (j + 1) = Lib.bitLen (n.toNat - 1)) := by have := H.out; show _ = _; omega
      clear hh hl
      go_wp2
      go_round
      · exact ⟨j + 1, m / 2, by omega, hj2, hH, by simp, by simp⟩
      · simp [intOf]; omega
    · have hz : m = 0 := by omega
      have := H.out
      rw [hz, len_zero] at this
      have hz2 : (m : Int) = 0 := by omega
      clear hz H
      have e : Hid ((j : Int) = rs n) := by show (j : Int) = rs n; unfold rs; omega
      clear this hl
      go_wp2
      go_ret
      exact ⟨by rw [e.out]; rfl, rfl⟩
theorem height4 (n : Int) (h1 : n ≤ 9223372036854775807) (w : World) :
    Calls Try.prog 4 #[.int .i64 n] w fun e w' => e = .returned (.tuple #[.int .i64 (if n < 1 then 0 else rs n), .int .i64 (if n < 1 then 11 else 0)]) ∧ w' = w := by
  by_cases h0 : n < 1
  · rw [if_pos h0, if_pos h0]
    go_enter Try.func4, Try.ntmps4
    go_wp2
    go_ret2
    exact ⟨rfl, rfl⟩
  · rw [if_neg h0, if_neg h0]
    go_enter Try.func4, Try.ntmps4
    go_wp2_with fail
    refine (rise6 n (by omega) h1 _).mono ?_
    rintro e w' ⟨rfl, rfl⟩
    go_wp2
    go_ret2
    exact ⟨rfl, rfl⟩
theorem height5 (n : Int) (h1 : n ≤ 9223372036854775807) (w : World) :
    Calls Try.prog 5 #[.int .i64 n] w fun e w' => e = .returned (.tuple #[.int .i64 (if n < 1 then 0 else rs n), .int .i64 (if n < 1 then 11 else 0)]) ∧ w' = w := by
  by_cases h0 : n < 1
  · rw [if_pos h0, if_pos h0]
    go_enter Try.func5, Try.ntmps5
    go_wp2
    go_ret2
    exact ⟨rfl, rfl⟩
  · rw [if_neg h0, if_neg h0]
    go_enter Try.func5, Try.ntmps5
    go_wp2_with fail
    refine (rise7 n (by omega) h1 _).mono ?_
    rintro e w' ⟨rfl, rfl⟩
    go_wp2
    go_ret2
    exact ⟨rfl, rfl⟩
theorem walk3 (n : Int) (h1 : n ≤ 9223372036854775807) (w : World) :
    Calls Try.prog 3 #[.int .i64 n] w fun e w' => e = .returned (.bool true) ∧ w' = w := by
  have A := height4 n h1
  have B := height5 n h1
  generalize (if n < 1 then (0 : Int) else rs n) = x at A B
  generalize (if n < 1 then (11 : Int) else 0) = y at A B
  go_enter Try.func3, Try.ntmps3
  go_wp2_with fail
  refine (A _).mono ?_
  rintro e w' ⟨rfl, rfl⟩
  go_wp2_with fail
  refine (B _).mono ?_
  rintro e w' ⟨rfl, rfl⟩
  go_wp2
  go_ret
  exact ⟨by simp, rfl⟩
end Go.Proofs.Ytojdnmhaflomkaa
namespace Go.Proofs.Ytojdnmhaflomkaa.treeHeights
open Go.ChangeShapes Go.WideShapes Go.ChangeAt Go.RowKit Go.Joins
theorem own : ownKnob Try.prog.godebug = none := by kernel_rfl
set_option maxRecDepth 100000 in
theorem lifted (os : Os) (started : os.Started) (H : Type) (enc : TypeId × Value → H) :
    ReturnsInHanded {} Try.checked os 3 .any (Rows.treeHeightsSpec.pre6 enc Try.prog Try.f3 Rows.treeHeightsRow.domain false) (Rows.treeHeightsSpec.post enc Try.prog Try.f3 false true false false) := by
  refine returnsInHanded_of_change (C := Try.checked) own started (by kernel_rfl) Try.func3
    (ChangeSpec.witness6 (enc := enc) (C := Try.checked) false ⟨#[], #[.int .i64 0], []⟩ 8 (by kernel_rfl) (by kernel_rfl) (by kernel_rfl) (by kernel_rfl)) ?_
  intro W base args ds gs before hval0 hW _ _
  have hval : ∀ (j : Nat) t v, Try.f3.params[j]? = some t → args[j]? = some v → Value.okWide Try.prog W .any base t v := hval0
  have hW' := hW
  obtain ⟨p, q, hA0, hV, rfl, _, _⟩ := hW
  have hA : DataW.TrodAll enc Try.prog W 0 (fun _ => true) true Try.f3.params.toList args.toList ds p := hA0
  rw [Try.params3] at hA hval
  obtain ⟨v0, d0, rfl, rfl, h0⟩ := trodAll_one hA
  obtain ⟨rfl, rfl⟩ := trodVars_none hV
  obtain ⟨a, rfl, rfl, rfl, wa⟩ := open_int Try.underlying3 (hval 0 3 v0 rfl rfl) h0
  have hi : -9223372036854775808 ≤ a ∧ a ≤ 9223372036854775807 := by simpa [Lit.wf, IntKind.min, IntKind.max, IntKind.signed, IntKind.bits] using wa
  clear hA0 hval0
  simp only [List.append_nil] at hW'
  refine (walk3 a hi.2 W).mono fun e W' ⟨he, hw⟩ => ?_
  subst he
  have bel : Below W.heap.size W W' := by rw [hw]; exact Below.refl _ _
  clear hw
  exact ⟨_, rfl, _, _, _, [], _, [], hW', trodAll_mk1 (shut_bool Try.underlying4 _), trodAll_mk1 (shut_int Try.underlying3 wa), rfl, bel.frame _, fun h => by cases h⟩
end Go.Proofs.Ytojdnmhaflomkaa.treeHeights
namespace Go.Proofs.Ytojdnmhaflomkaa
theorem treeHeights_holds : Rows.TreeHeightsSaid :=
  OpenClaim.holds_of_wide 3 Try.f3 rfl rfl rfl rfl rfl rfl rfl ⟨rfl, rfl, rfl, rfl, rfl⟩ rfl rfl rfl rfl rfl (by kernel_rfl) Try.func3 (by kernel_rfl)
    (of_decide_eq_true (by kernel_rfl)) (by unfold Func.isWrapper; first | (rw [if_pos (by decide +kernel)]; kernel_rfl) | (rw [if_neg (by decide +kernel)]; exact ⟨rfl, rfl⟩))
    (fun os started H enc _ => treeHeights.lifted os started H enc)
#print axioms treeHeights_holds
end Go.Proofs.Ytojdnmhaflomkaa
