import Derived.Test.YtjhnkdhbjpddcaaDoorRunA
namespace Go.Proofs.YtjhnkdhbjpddcaaDoor
open Go.RowKit
theorem OU.alloc {B : Nat} {w : World} {v : Value} {r : List (Nat × Nat)} (h : OU B w v r) (ob : Obj) : OU B (w.alloc ob) v r := World.ownsRow.alloc h ob
/-- how far the reference's list of runs has come at place k -/
def RIv (l : List UInt8) (m k E : Nat) : Prop := k ≤ E ∧ E ≤ m ∧ (∀ j, k ≤ j → j < E → bit l j = true) ∧ ((0 < k ∧ bit l (k - 1) = true) → (E = m ∨ bit l E = false)) ∧ (¬ (0 < k ∧ bit l (k - 1) = true) → E = k)
theorem riv_no {l : List UInt8} {m k E : Nat} (hk : k < m) (h : RIv l m k E) (hb : bit l k = false) : rs l (k + 1) = rs l E ∧ RIv l m (k + 1) (k + 1) := by
  obtain ⟨h1, h2, h3, h4, h5⟩ := h
  have hE : E = k := by
    rcases Nat.lt_or_ge k E with h | h
    · have := h3 k (Nat.le_refl _) h; rw [hb] at this; cases this
    · omega
  subst hE
  exact ⟨rs_no hb, Nat.le_refl _, hk, fun j g1 g2 => by omega, fun g => by simp [hb] at g, fun _ => rfl⟩
theorem riv_more {l : List UInt8} {m k E : Nat} (hk : k < m) (h : RIv l m k E) (hb : bit l k = true) (hs : 0 < k ∧ bit l (k - 1) = true) : RIv l m (k + 1) E := by
  obtain ⟨h1, h2, h3, h4, h5⟩ := h
  have hE : k ≠ E := by
    rintro rfl
    rcases h4 hs with h | h
    · omega
    · rw [hb] at h; cases h
  exact ⟨by omega, h2, fun j g1 g2 => h3 j (by omega) g2, fun _ => h4 hs, fun g => absurd ⟨by omega, by simpa using hb⟩ g⟩
theorem riv_new {l : List UInt8} {m k d : Nat} (_hk : k < m) (hall : ∀ j, k ≤ j → j < k + (d + 1) → bit l j = true) (hend : k + (d + 1) = m ∨ bit l (k + (d + 1)) = false) (hT : k + (d + 1) ≤ m := by omega) : RIv l m (k + 1) (k + (d + 1)) :=
  ⟨by omega, hT, fun j g1 g2 => hall j (by omega) g2, fun _ => hend, fun g => absurd ⟨by omega, by simpa using hall k (by omega) (by omega)⟩ g⟩
/-- what Runs answers -/
def RU (n : Int) (l : List UInt8) (r : List (Nat × Nat)) (er : Int) : Prop := (ck n l ≠ 0 ∧ r = [] ∧ er = ck n l) ∨ (ck n l = 0 ∧ r = rs l n.toNat ∧ er = 0)
theorem RU.unique {n : Int} {l : List UInt8} {r r' : List (Nat × Nat)} {er er' : Int} (h : RU n l r er) (h' : RU n l r' er') : r = r' ∧ er = er' := by
  rcases h with ⟨h1, rfl, rfl⟩ | ⟨h1, rfl, rfl⟩
  · rcases h' with ⟨g1, rfl, rfl⟩ | ⟨g1, rfl, rfl⟩
    · exact ⟨rfl, rfl⟩
    · exact absurd g1 h1
  · rcases h' with ⟨g1, rfl, rfl⟩ | ⟨g1, rfl, rfl⟩
    · exact absurd h1 g1
    · exact ⟨rfl, rfl⟩
end Go.Proofs.YtjhnkdhbjpddcaaDoor
