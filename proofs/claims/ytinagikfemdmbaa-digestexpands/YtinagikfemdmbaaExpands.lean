import Derived.Test.YtinagikfemdmbaaExpandsW
import Derived.ProofKit
import Derived.OpenShut
import Derived.ChangeOld
import Derived.Below
namespace Go.Proofs.Ytinagikfemdmbaa.digestExpands
open Go.ChangeShapes Go.WideShapes Go.ChangeAt Go.RowKit

theorem own : ownKnob Try.prog.godebug = none := by kernel_rfl
theorem laidOut : laidOutB Try.prog = true := by kernel_rfl
theorem cells5 : Try.prog.cellsOf 5 = 1 := by kernel_rfl
theorem cells35 : Try.prog.cellsOf 35 = 64 := by kernel_rfl

theorem okArray {r : Reach} {base : Nat} {w : World} {v : Value} (h : Value.okWide Try.prog w r base 35 v) : ∃ cs : Array Value, v = .agg cs := by
  simp only [Value.okWide, Try.underlying35] at h
  obtain ⟨cs, h1, _⟩ := h
  exact ⟨cs, h1⟩

theorem open64 {H : Type} {enc : TypeId × Value → H} {w : World} {r : Reach} {b0 base : Nat} {spare : Nat → Bool} {held : Bool} {v : Value} {d : DataW H} {p : List MemPlace}
    (hv : Value.okWide Try.prog w r b0 35 v) (h : DataW.Trod enc Try.prog w base spare held 35 v d p) :
    ∃ bs : List Int, v = .agg (bsA bs) ∧ bs.length = 64 ∧ ∀ x ∈ bs, 0 ≤ x ∧ x ≤ 255 := by
  obtain ⟨cs, rfl⟩ := okArray hv
  obtain ⟨fuel, hf⟩ := h
  obtain ⟨xs, m, _, _, hlen, hxs, hget⟩ := DataW.trod_array Try.underlying35 hf
  rw [cells35] at hlen
  have hlen' : cs.toList.length = 64 := by simpa [Value.cells] using hlen
  have hcell : ∀ i, i < 64 → ∃ a : Int, cs.toList[i]? = some (.int .u8 a) ∧ 0 ≤ a ∧ a ≤ 255 := by
    intro i hi
    have hg := hget i hi
    rw [cells5, Nat.mul_one, List.getElem?_eq_getElem (by omega)] at hg
    obtain ⟨a, e, _, wa⟩ := DataW.trod_int Try.underlying5 hg
    refine ⟨a, ?_, ?_⟩
    · simp only [Value.cells] at e
      have : (cs.toList.drop i)[0]? = some (.int .u8 a) := by
        have e' := congrArg (fun l : List Value => l[0]?) e
        simpa using e'
      simpa using this
    · simpa [Lit.wf, IntKind.min, IntKind.max, IntKind.signed, IntKind.bits] using wa
  refine ⟨cs.toList.map intOf, ?_, by simpa using hlen', ?_⟩
  · congr 1
    apply Array.ext'
    apply List.ext_getElem?
    intro i
    by_cases hi : i < 64
    · obtain ⟨a, ha, _⟩ := hcell i hi
      simp only [bsA, List.map_map, List.getElem?_map, ha]
      rfl
    · have h1 : cs.toList[i]? = none := List.getElem?_eq_none (by omega)
      simp only [bsA, List.map_map, List.getElem?_map, h1]
      rfl
  · intro x hx
    obtain ⟨c, hc, rfl⟩ := List.mem_map.1 hx
    obtain ⟨i, hi, rfl⟩ := List.getElem_of_mem hc
    obtain ⟨a, ha, hb⟩ := hcell i (by omega)
    rw [List.getElem?_eq_getElem hi] at ha
    simp only [Option.some.injEq] at ha
    rw [ha]
    exact hb

set_option maxRecDepth 100000 in
theorem lifted (os : Os) (started : os.Started) (H : Type) (enc : TypeId × Value → H) :
    ReturnsInHanded {} Try.checked os 6 .any (Rows.digestExpandsSpec.pre6 enc Try.prog Try.f6 Rows.digestExpandsRow.domain false) (Rows.digestExpandsSpec.post enc Try.prog Try.f6 false true false false) := by
  refine returnsInHanded_of_change (C := Try.checked) own started (by kernel_rfl) Try.func6
    (ChangeSpec.witness6 (enc := enc) (C := Try.checked) false ⟨#[], #[.agg (Array.replicate 64 (.int .u8 0))], []⟩ 8 (by kernel_rfl) (by kernel_rfl) (by kernel_rfl) (by kernel_rfl)) ?_
  intro W base args ds gs before hval0 hW _ _
  have hval : ∀ (j : Nat) t v, Try.f6.params[j]? = some t → args[j]? = some v → Value.okWide Try.prog W .any base t v := hval0
  have hW' := hW
  obtain ⟨p, q, hA0, hV, rfl, _, _⟩ := hW
  have hA : DataW.TrodAll enc Try.prog W 0 (fun _ => true) true Try.f6.params.toList args.toList ds p := hA0
  rw [Try.params6] at hA hval
  obtain ⟨v0, d0, rfl, rfl, h0⟩ := trodAll_one hA
  obtain ⟨rfl, rfl⟩ := trodVars_none hV
  have k0 := h0
  have lt0 : ∀ x ∈ p, x.block < W.heap.size := by obtain ⟨m, hm⟩ := k0; exact DataW.trod_lt m _ _ _ hm
  obtain ⟨bs, rfl, hl, hb⟩ := open64 (hval 0 35 v0 rfl rfl) h0
  clear hA0 hval0
  refine (expands6 bs hl hb W).mono fun e W' ⟨he, bel⟩ => ?_
  subst he
  exact ⟨_, rfl, _, _, _, [], _, [], hW', trodAll_mk1 (shut_bool Try.underlying4 _), trodAll_mk1 (Below.trod laidOut (by kernel_rfl) (of_decide_eq_true (by kernel_rfl)) k0 bel lt0), rfl, bel.frame _, fun h => by cases h⟩
end Go.Proofs.Ytinagikfemdmbaa.digestExpands

namespace Go.Proofs.Ytinagikfemdmbaa
theorem digestExpands_holds : Rows.DigestExpandsSaid :=
  OpenClaim.holds_of_wide 6 Try.f6 rfl rfl rfl rfl rfl rfl rfl ⟨rfl, rfl, rfl, rfl, rfl⟩ rfl rfl rfl rfl rfl (by kernel_rfl) Try.func6 (by kernel_rfl)
    (of_decide_eq_true (by kernel_rfl)) (by unfold Func.isWrapper; first | (rw [if_pos (by decide +kernel)]; kernel_rfl) | (rw [if_neg (by decide +kernel)]; exact ⟨rfl, rfl⟩))
    (fun os started H enc _ => digestExpands.lifted os started H enc)
#print axioms digestExpands_holds
end Go.Proofs.Ytinagikfemdmbaa
