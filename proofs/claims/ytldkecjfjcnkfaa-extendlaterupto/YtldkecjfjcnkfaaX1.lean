import Derived.Test.YtldkecjfjcnkfaaGm
namespace Go.Proofs.Ytldkecjfjcnkfaa
open Go.RowKit Go.Deep
theorem rg_of_gr {B A : Nat} {w : World} {v : Value} {es : List PE} (h : GR B A w v es) (hA : A ≤ w.heap.size) : RG w.heap.size w v es := by
  obtain ⟨h, hv⟩ := h
  rcases h.2 with ⟨rfl, h0⟩ | ⟨g, cap, cur, rfl, _, hg, hle, _, hsz, hx⟩
  · obtain rfl : es = [] := List.length_eq_zero_iff.1 h0
    exact ⟨none, 0, rfl, Nat.le_refl _, .inl rfl⟩
  · refine ⟨_, _, rfl, hle, .inr ⟨g, 0, rfl, (Array.getElem?_eq_some_iff.1 hg).1, fun i e he => ⟨RV.keep (fun _ h => Nat.lt_of_lt_of_le h hA) (Nat.le_refl _) (fun _ _ _ => rfl) _ _ _ (hv e (List.mem_of_getElem? he)), fun r hr => ?_⟩⟩⟩
    have hi := (List.getElem?_eq_some_iff.1 he).1
    have h2 := gCs_get es i e r hr he
    rw [← hx, List.getElem?_take_of_lt (by omega), Array.getElem?_toList] at h2
    simp only [World.cell?, hg]
    simpa using h2
end Go.Proofs.Ytldkecjfjcnkfaa
