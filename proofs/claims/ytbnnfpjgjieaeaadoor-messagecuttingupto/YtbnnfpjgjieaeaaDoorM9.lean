import Derived.Test.YtbnnfpjgjieaeaaDoorM7
import Derived.Test.YtbnnfpjgjieaeaaDoorM8
import Derived.Test.YtbnnfpjgjieaeaaDoorOu
namespace Go.Proofs.YtbnnfpjgjieaeaaDoor
open Go.ChangeShapes Go.WideShapes Go.ChangeAt Go.RowKit Go.Deep
theorem cuttingLaw (w : World) (v cv : Value) (hello : Bool) (ms : List Mg) (zs : List Int) (hr : RMS w v ms) (hc : RI w cv zs) (hb : mgW ms ≤ 1048576) (hzl : zs.length ≤ 1048576) (hz : ∀ z ∈ zs, -9223372036854775808 ≤ z ∧ z ≤ 9223372036854775807) (hk : KT w) :
    Calls Tryd.prog 3 #[v, cv, .bool hello] w fun e w' => e = .returned (.bool true) ∧ Below w.heap.size w w' := by
  cases hello
  · exact cuttingF w v cv false ms zs hr hc hb hzl hz hk rfl
  · exact cuttingT w v cv true ms zs hr hc hb hzl hz hk rfl
section
variable {H : Type} {enc : TypeId × Value → H} {w : World}
theorem openIntsU {base : Nat} {v : Value} {d : DataW H} {ps : List MemPlace} (hv : Value.okWide Tryd.prog w .any base 23 v)
    (h : DataW.Trod enc Tryd.prog w 0 (fun _ => true) true 23 v d ps) : ∃ zs, RI w v zs ∧ zs.length + 1 ≤ Rows.uptoBulk d ∧ ∀ z ∈ zs, -9223372036854775808 ≤ z ∧ z ≤ 9223372036854775807 := by
  obtain ⟨a0, len0, cap0, rfl⟩ := okWide_slice Tryd.underlying23 hv
  obtain ⟨fuel, hf⟩ := h
  have hf' : DataW.trod enc Tryd.prog w 0 (fun _ => true) true fuel 23 [.slice a0 len0 cap0] = some (d, ps) := hf
  obtain ⟨a, len, cap, he, hlc, hrow⟩ := openRowB Tryd.underlying23 hf' (by rw [cells3]; omega)
  rw [he]
  rcases hrow with rfl | ⟨m, elems, hlen, hbulk, b, o, rfl, hlt, hel⟩
  · exact ⟨[], ⟨a, cap, rfl, hlc, .inl rfl⟩, by have := bulk_pos d; simpa using this, by simp⟩
  have : ∀ i, i < len → ∃ z : Int, w.cell? ⟨b, o + i, none⟩ = some (.int .i64 z) ∧ -9223372036854775808 ≤ z ∧ z ≤ 9223372036854775807 := fun i hi => by
    obtain ⟨cs, hcl, hc, ht⟩ := hel i (by omega)
    have h0 := hc 0 (by rw [cells3]; omega)
    rw [cells3] at h0 hcl
    obtain ⟨y, rfl⟩ := List.length_eq_one_iff.1 hcl
    obtain ⟨z, e0, _, wa⟩ := DataW.trod_int Tryd.underlying3 ht
    have h255 : -9223372036854775808 ≤ z ∧ z ≤ 9223372036854775807 := by simpa [Lit.wf, IntKind.min, IntKind.max, IntKind.signed, IntKind.bits] using wa
    simp at e0
    subst e0
    exact ⟨z, by simpa using h0, h255⟩
  have hinh : Inhabited Int := ⟨0⟩
  obtain ⟨f, hf⟩ := choose_lt this
  obtain ⟨l, rfl, hl⟩ := lists_of f len
  refine ⟨l, ⟨_, cap, rfl, hlc, .inr ⟨b, o, rfl, hlt, fun i hi => ?_⟩⟩, ?_, fun z hz => ?_⟩
  · have : l.getD i 0 = f i := by simp [List.getD, hl i hi]
    rw [this]; exact (hf i hi).1
  · have := bulk_len (elems.map (·.1)); rw [List.length_map] at this; simp only at hbulk; omega
  · obtain ⟨i, hi, rfl⟩ := List.getElem_of_mem hz
    have := hl i hi
    rw [List.getElem?_eq_getElem hi] at this
    simp at this
    rw [this]; exact (hf i hi).2
end
end Go.Proofs.YtbnnfpjgjieaeaaDoor
