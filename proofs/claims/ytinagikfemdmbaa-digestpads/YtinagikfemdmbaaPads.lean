import Derived.Test.YtinagikfemdmbaaPadRef
import Derived.ProofKit
import Derived.OpenShut
namespace Go.Proofs.Ytinagikfemdmbaa.digestPads
open Go.ChangeShapes Go.WideShapes Go.ChangeAt Go.RowKit

theorem own : ownKnob Try.prog.godebug = none := by kernel_rfl
theorem below_drewN {B : Nat} {a w : World} (h : Below B a w) (n : Nat) : Below B a (w.drewN n) := ⟨h.os, h.tape, h.output, h.size, h.block⟩

set_option maxHeartbeats 400000 in
theorem walk (n : Int) (w : World) :
    Calls Try.prog 4 #[.int .i64 n] w fun e w' => e = .returned (.bool true) ∧ Below w.heap.size w w' := by
  by_cases h : n < 0 ∨ 2305843009213693951 < n
  · go_enter Try.func4, Try.ntmps4
    go_wp2_with fail
    refine (pad10_no n _ h).mono ?_
    rintro e w1 ⟨rfl, rfl⟩
    go_wp2_with fail
    refine (pad11_no n _ h).mono ?_
    rintro e w2 ⟨rfl, rfl⟩
    go_wp2_with (go_at_call 12; refine (same12_nil _ _ _ _ _).mono ?_; rintro e w3 ⟨rfl, nq, rfl⟩)
    go_ret
    exact ⟨rfl, below_drewN (Below.refl _ _) _⟩
  · have h0 : 0 ≤ n := by omega
    have h1 : n ≤ 2305843009213693951 := by omega
    clear h
    go_enter Try.func4, Try.ntmps4
    go_wp2_with fail
    refine (pad10_yes n _ h0 h1).mono ?_
    rintro e w1 ⟨rfl, hw1⟩
    have hr := pad10_reads n w
    rw [← hw1] at hr
    have hb1 : Below w.heap.size w w1 := by rw [hw1]; exact (Below.refl _ _).alloc (Nat.le_refl _) _
    clear hw1
    generalize Value.slice (some ⟨w.heap.size, 0, none⟩) (pz n + 9) (pz n + 9) = v1 at hr ⊢
    go_wp2_with fail
    refine (pad11_yes n _ h0 h1).mono ?_
    rintro e w2 ⟨v2, rfl, hr2, hb2⟩
    have hr1 := hr.below hb2
    have hb : Below w.heap.size w w2 := hb1.trans (hb2.mono hb1.size)
    have hl : (padB n (pz n) 8).length ≤ maxLen := by rw [padB_len]; unfold pz maxLen; omega
    have HC := fun wx (e : wx = w2) => same12 (w := wx) hl (e ▸ hr1) (e ▸ hr2)
    have H : Hid (∀ wx, wx = w2 → Calls Try.prog 12 #[v1, v2] wx fun e w' => e = .returned (.bool true) ∧ ∃ n, w' = wx.drewN n) := HC
    clear HC hr hb1 hb2 hr1 hr2 hl
    go_wp2_with (go_at_call 12; refine (H.out _ rfl).mono ?_; rintro e w3 ⟨rfl, nq, rfl⟩)
    go_ret
    exact ⟨rfl, below_drewN hb _⟩
set_option maxRecDepth 100000 in
theorem lifted (os : Os) (started : os.Started) (H : Type) (enc : TypeId × Value → H) :
    ReturnsInHanded {} Try.checked os 4 .any (Rows.digestPadsSpec.pre6 enc Try.prog Try.f4 Rows.digestPadsRow.domain false) (Rows.digestPadsSpec.post enc Try.prog Try.f4 false true false false) := by
  refine returnsInHanded_of_change (C := Try.checked) own started (by kernel_rfl) Try.func4
    (ChangeSpec.witness6 (enc := enc) (C := Try.checked) false ⟨#[], #[.int .i64 0], []⟩ 8 (by kernel_rfl) (by kernel_rfl) (by kernel_rfl) (by kernel_rfl)) ?_
  intro W base args ds gs before hval0 hW hcnd _
  have hval : ∀ (j : Nat) t v, Try.f4.params[j]? = some t → args[j]? = some v → Value.okWide Try.prog W .any base t v := hval0
  have hW' := hW
  obtain ⟨p, q, hA0, hV, rfl, hfz, hnd⟩ := hW
  have hA : DataW.TrodAll enc Try.prog W 0 (fun _ => true) true Try.f4.params.toList args.toList ds p := hA0
  rw [Try.params4] at hA hval
  obtain ⟨v0, d0, rfl, rfl, h0⟩ := trodAll_one hA
  obtain ⟨rfl, rfl⟩ := trodVars_none hV
  obtain ⟨a0, rfl, rfl, rfl, w0⟩ := open_int Try.underlying3 (hval 0 3 v0 rfl rfl) h0
  clear hA0 hval0
  simp only [List.append_nil] at hW'
  refine (walk a0 W).mono fun e W' ⟨he, bel⟩ => ?_
  subst he
  exact ⟨_, rfl, _, _, _, [], _, [], hW', trodAll_mk1 (shut_bool Try.underlying4 _), trodAll_mk1 (shut_int Try.underlying3 w0), rfl, bel.frame _, fun h => by cases h⟩
end Go.Proofs.Ytinagikfemdmbaa.digestPads

namespace Go.Proofs.Ytinagikfemdmbaa
theorem digestPads_holds : Rows.DigestPadsSaid :=
  OpenClaim.holds_of_wide 4 Try.f4 rfl rfl rfl rfl rfl rfl rfl ⟨rfl, rfl, rfl, rfl, rfl⟩ rfl rfl rfl rfl rfl (by kernel_rfl) Try.func4 (by kernel_rfl)
    (of_decide_eq_true (by kernel_rfl)) (by unfold Func.isWrapper; first | (rw [if_pos (by decide +kernel)]; kernel_rfl) | (rw [if_neg (by decide +kernel)]; exact ⟨rfl, rfl⟩))
    (fun os started H enc _ => digestPads.lifted os started H enc)
#print axioms digestPads_holds
end Go.Proofs.Ytinagikfemdmbaa
