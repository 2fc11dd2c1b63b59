import Derived.Test.YtinagikfemdmbaaPrimesW
import Derived.ProofKit
import Derived.OpenShut
namespace Go.Proofs.Ytinagikfemdmbaa.digestPrimes
open Go.ChangeShapes Go.WideShapes Go.ChangeAt Go.RowKit

theorem own : ownKnob Try.prog.godebug = none := by kernel_rfl
theorem below_drewN {B : Nat} {a w : World} (h : Below B a w) (n : Nat) : Below B a (w.drewN n) := ⟨h.os, h.tape, h.output, h.size, h.block⟩

set_option maxHeartbeats 800000 in
theorem walk (n : Int) (w : World) :
    Calls Try.prog 5 #[.int .i64 n] w fun e w' => e = .returned (.bool true) ∧ Below w.heap.size w w' := by
  by_cases h : n < 0 ∨ 64 < n
  · go_enter Try.func5, Try.ntmps5
    go_wp2_with fail
    refine (primes13_no n _ h).mono ?_
    rintro e w1 ⟨rfl, rfl⟩
    go_wp2_with fail
    refine (primes14_no n _ h).mono ?_
    rintro e w2 ⟨rfl, rfl⟩
    go_wp2
    go_loop [7] (fun i => i = .int .i64 0) (fun _ => 0)
    case atStart => rfl
    case round =>
      obtain rfl := hrel
      go_wp2
      go_ret
      exact ⟨rfl, Below.refl _ _⟩
  · have h0 : 0 ≤ n := by omega
    have h1 : n ≤ 64 := by omega
    clear h
    go_enter Try.func5, Try.ntmps5
    go_wp2_with fail
    refine (primes13_yes n _ h0 h1).mono ?_
    rintro e w1 ⟨v1, rfl, c, hc, hr, hb1⟩
    go_wp2_with fail
    refine (primes14_yes n _ h0 h1).mono ?_
    rintro e w2 ⟨v2, rfl, d, hd, hr2, hb2⟩
    have hr1 := hr.below hb2
    have hb : Below w.heap.size w w2 := hb1.trans (hb2.mono hb1.size)
    have hcd : prim c = prim d := prim_one (by omega)
    have hl : (prim d).length ≤ 64 := by omega
    rw [hcd] at hr1
    clear hr hb1 hb2 hcd hc hd
    generalize prim d = xs at hr1 hr2 hl
    obtain ⟨a1, c1, rfl, g1⟩ := hr1
    obtain ⟨a2, c2, rfl, g2⟩ := hr2
    have G1 : Hid (xs = [] ∨ ∃ b off, a1 = some ⟨b, off, none⟩ ∧ b < w2.heap.size ∧ ∀ i, i < xs.length → w2.cell? ⟨b, off + i, none⟩ = some (.int .i64 (xs.getD i 0))) := g1
    have G2 : Hid (xs = [] ∨ ∃ b off, a2 = some ⟨b, off, none⟩ ∧ b < w2.heap.size ∧ ∀ i, i < xs.length → w2.cell? ⟨b, off + i, none⟩ = some (.int .i64 (xs.getD i 0))) := g2
    clear g1 g2
    go_wp2
    go_loopw [7] (fun i wr => ∃ k nq : Nat, k ≤ xs.length ∧ i = .int .i64 k ∧ wr = w2.drewN nq) (fun i _ => xs.length - (intOf i).toNat)
    case atStart => exact ⟨0, 0, Nat.zero_le _, rfl, rfl⟩
    case round =>
      obtain ⟨k, nq, hk, rfl, rfl⟩ := hrel
      by_cases hlt : k < xs.length
      · rcases G1.out with hnil | ⟨b1, o1, rfl, _, k1⟩
        · rw [hnil] at hlt; simp at hlt
        · rcases G2.out with hnil | ⟨b2, o2, rfl, _, k2⟩
          · rw [hnil] at hlt; simp at hlt
          · have q1 := k1 k hlt
            have q2 := k2 k hlt
            clear k1 k2
            generalize xs.getD k 0 = x at q1 q2
            go_wp2
            go_quiet (fail)
            go_wp2
            exact ⟨⟨k + 1, _, by omega, by go_num, rfl⟩, by simp [intOf]; omega⟩
      · go_wp2
        go_ret
        exact ⟨rfl, below_drewN hb _⟩
set_option maxRecDepth 100000 in
theorem lifted (os : Os) (started : os.Started) (H : Type) (enc : TypeId × Value → H) :
    ReturnsInHanded {} Try.checked os 5 .any (Rows.digestPrimesSpec.pre6 enc Try.prog Try.f5 Rows.digestPrimesRow.domain false) (Rows.digestPrimesSpec.post enc Try.prog Try.f5 false true false false) := by
  refine returnsInHanded_of_change (C := Try.checked) own started (by kernel_rfl) Try.func5
    (ChangeSpec.witness6 (enc := enc) (C := Try.checked) false ⟨#[], #[.int .i64 0], []⟩ 8 (by kernel_rfl) (by kernel_rfl) (by kernel_rfl) (by kernel_rfl)) ?_
  intro W base args ds gs before hval0 hW hcnd _
  have hval : ∀ (j : Nat) t v, Try.f5.params[j]? = some t → args[j]? = some v → Value.okWide Try.prog W .any base t v := hval0
  have hW' := hW
  obtain ⟨p, q, hA0, hV, rfl, hfz, hnd⟩ := hW
  have hA : DataW.TrodAll enc Try.prog W 0 (fun _ => true) true Try.f5.params.toList args.toList ds p := hA0
  rw [Try.params5] at hA hval
  obtain ⟨v0, d0, rfl, rfl, h0⟩ := trodAll_one hA
  obtain ⟨rfl, rfl⟩ := trodVars_none hV
  obtain ⟨a0, rfl, rfl, rfl, w0⟩ := open_int Try.underlying3 (hval 0 3 v0 rfl rfl) h0
  clear hA0 hval0
  simp only [List.append_nil] at hW'
  refine (walk a0 W).mono fun e W' ⟨he, bel⟩ => ?_
  subst he
  exact ⟨_, rfl, _, _, _, [], _, [], hW', trodAll_mk1 (shut_bool Try.underlying4 _), trodAll_mk1 (shut_int Try.underlying3 w0), rfl, bel.frame _, fun h => by cases h⟩
end Go.Proofs.Ytinagikfemdmbaa.digestPrimes

namespace Go.Proofs.Ytinagikfemdmbaa
theorem digestPrimes_holds : Rows.DigestPrimesSaid :=
  OpenClaim.holds_of_wide 5 Try.f5 rfl rfl rfl rfl rfl rfl rfl ⟨rfl, rfl, rfl, rfl, rfl⟩ rfl rfl rfl rfl rfl (by kernel_rfl) Try.func5 (by kernel_rfl)
    (of_decide_eq_true (by kernel_rfl)) (by unfold Func.isWrapper; first | (rw [if_pos (by decide +kernel)]; kernel_rfl) | (rw [if_neg (by decide +kernel)]; exact ⟨rfl, rfl⟩))
    (fun os started H enc _ => digestPrimes.lifted os started H enc)
#print axioms digestPrimes_holds
end Go.Proofs.Ytinagikfemdmbaa
