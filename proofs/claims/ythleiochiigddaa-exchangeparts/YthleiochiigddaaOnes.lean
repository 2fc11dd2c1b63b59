import Derived.Test.YthleiochiigddaaRows
import Derived.WalkKit
namespace Go.Proofs.Ythleiochiigddaa
open Go.RowKit
/-- what the library's OnesCount64 reckons, step by step, as the walk spells it -/
def oc1 (x : Int) : Int := IntKind.u64.wrap (bits .and .u64 (x / 2) 6148914691236517205 + bits .and .u64 x 6148914691236517205)
def oc2 (y : Int) : Int := IntKind.u64.wrap (bits .and .u64 (y / 4) 3689348814741910323 + bits .and .u64 y 3689348814741910323)
def oc3 (y : Int) : Int := bits .and .u64 (IntKind.u64.wrap (y / 16 + y)) 1085102592571150095
def oc4 (y : Int) : Int := IntKind.u64.wrap (y + y / 256)
def oc5 (y : Int) : Int := IntKind.u64.wrap (y + y / 65536)
def oc6 (y : Int) : Int := IntKind.u64.wrap (y + y / 4294967296)
def oc (x : Int) : Int := bits .and .i64 (wrap64 (oc6 (oc5 (oc4 (oc3 (oc2 (oc1 x))))))) 127
/-- the nine blocks -/
def pw (n : Int) : Bool := n == 64 || n == 128 || n == 256 || n == 512 || n == 1024 || n == 2048 || n == 4096 || n == 8192 || n == 16384
theorem oc_pow0 : ∀ a : Fin 129, ∀ b : Fin 128, 64 ≤ 128 * a.val + b.val → 128 * a.val + b.val ≤ 16384 → (oc ((128 * a.val + b.val : Nat) : Int) != 1) = !pw ((128 * a.val + b.val : Nat) : Int) := by decide +kernel
theorem oc_pow (x : Int) (h0 : 64 ≤ x) (h1 : x ≤ 16384) : (oc x != 1) = !pw x := by
  have h := oc_pow0 ⟨x.toNat / 128, by omega⟩ ⟨x.toNat % 128, by omega⟩ (by simp only; omega) (by simp only; omega)
  have e : ((128 * (x.toNat / 128) + x.toNat % 128 : Nat) : Int) = x := by omega
  simp only [e] at h
  exact h
/-- the eleven numbers of leaves -/
def pl (n : Int) : Bool := n == 1 || n == 2 || n == 4 || n == 8 || n == 16 || n == 32 || n == 64 || n == 128 || n == 256 || n == 512 || n == 1024
theorem oc_leaf0 : ∀ a : Fin 33, ∀ b : Fin 32, 1 ≤ 32 * a.val + b.val → 32 * a.val + b.val ≤ 1024 → (oc ((32 * a.val + b.val : Nat) : Int) != 1) = !pl ((32 * a.val + b.val : Nat) : Int) := by decide +kernel
theorem oc_leaf (x : Int) (h0 : 1 ≤ x) (h1 : x ≤ 1024) : (oc x != 1) = !pl x := by
  have h := oc_leaf0 ⟨x.toNat / 32, by omega⟩ ⟨x.toNat % 32, by omega⟩ (by simp only; omega) (by simp only; omega)
  have e : ((32 * (x.toNat / 32) + x.toNat % 32 : Nat) : Int) = x := by omega
  simp only [e] at h
  exact h
end Go.Proofs.Ythleiochiigddaa
