import Derived.Test.YtoiehkpmemmldaaDoorLs
import Derived.ProofKit
import Derived.OpenShut
import Derived.ChangeMaps5
import Derived.SizedLaws
import Derived.Lib.SmallJoins
import Derived.Carry
import Derived.Deep.Slices
namespace Go.Proofs.YtoiehkpmemmldaaDoor
open Go.ChangeShapes Go.WideShapes Go.ChangeAt Go.RowKit Go.Deep
theorem ownKn : ownKnob Tryd.prog.godebug = none := by kernel_rfl
theorem laidO : laidOutB Tryd.prog = true := by kernel_rfl
theorem trodLt {H : Type} {enc : TypeId × Value → H} {W : World} {t : TypeId} {v : Value} {d : DataW H} {p : List MemPlace} (h : DataW.Trod enc Tryd.prog W 0 (fun _ => true) true t v d p) : ∀ x ∈ p, x.block < W.heap.size := by
  obtain ⟨m, hm⟩ := h
  exact DataW.trod_lt m _ _ _ hm
section
variable {H : Type} {enc : TypeId × Value → H} {w : World}
theorem weightsAll_mem {e : TypeId} {l : List (DataW H)} {d : DataW H} (h : d ∈ l) {q : Nat} (hq : q ∈ d.weights Tryd.prog e) : q ∈ DataW.weightsAll Tryd.prog e l := by
  induction l with
  | nil => cases h
  | cons a r ih =>
    rw [DataW.weightsAll, List.mem_append]
    rcases List.mem_cons.1 h with rfl | h
    · exact .inl hq
    · exact .inr (ih h)
/-- a slice that is read: each element's cells and reading -/
theorem openRow {t e : TypeId} (ht : Tryd.prog.underlying t = some (.slice e)) {fuel : Nat} {v : Value} {x : DataW H × List MemPlace} (h : DataW.trod enc Tryd.prog w 0 (fun _ => true) true fuel t [v] = some x)
    (hw : ∀ q ∈ DataW.weights Tryd.prog t x.1, q ≤ reachBytes) (hc : 0 < Tryd.prog.cellsOf e) :
    ∃ (a : Option Addr) (len cap : Nat), v = .slice a len cap ∧ len ≤ cap ∧ len * Tryd.prog.bytesOf e ≤ reachBytes ∧ (len = 0 ∨ ∃ m, fuel = m + 1 ∧ ∃ b o, a = some ⟨b, o, none⟩ ∧ b < w.heap.size ∧
      ∀ i, i < len → ∃ cs y, cs.length = Tryd.prog.cellsOf e ∧ (∀ j, j < Tryd.prog.cellsOf e → w.cell? ⟨b, o + i * Tryd.prog.cellsOf e + j, none⟩ = cs[j]?) ∧ DataW.trod enc Tryd.prog w 0 (fun _ => true) true m e cs = some y ∧ ∀ q ∈ DataW.weights Tryd.prog e y.1, q ≤ reachBytes) := by
  rcases DataW.trod_slice ht h with ⟨h0, rfl⟩ | ⟨a, len, cap, elems, rest, m, rfl, h0, rfl, _, hlc, _, hlen, hel, _, _⟩
  · simp at h0
    exact ⟨none, 0, 0, h0, Nat.le_refl _, by simp, .inl rfl⟩
  simp at h0
  subst h0
  simp only [DataW.weights, ht] at hw
  refine ⟨some a, len, cap, rfl, hlc, ?_, ?_⟩
  · have := hw _ (List.mem_cons_self ..)
    simp only [List.length_map, hlen] at this
    exact Nat.le_trans (Nat.mul_le_mul_right _ (by omega)) this
  by_cases h00 : len = 0
  · exact .inl h00
  have key : ∀ i, i < len → ∃ cs y, w.cells? 0 (a.add (i * Tryd.prog.cellsOf e)) (Tryd.prog.cellsOf e) = some cs ∧ DataW.trod enc Tryd.prog w 0 (fun _ => true) true m e cs = some y ∧ y ∈ elems := by
    intro i hi
    have := hel i hi
    rw [List.getElem?_eq_getElem (by omega)] at this
    obtain ⟨cs', h1, h2⟩ := Option.bind_eq_some_iff.1 this
    exact ⟨cs', _, h1, h2, List.getElem_mem _⟩
  have cellof : ∀ {a' : Addr} {c : Nat} {cs : List Value}, w.cells? 0 a' c = some cs → cs.length = c ∧ ∀ j, j < c → w.cell? (a'.add j) = cs[j]? := fun h => ⟨(World.cells?_some h).2.1, (World.cells?_some h).2.2⟩
  obtain ⟨b, o, spot⟩ := a
  have hspot : spot = none ∧ b < w.heap.size := by
    obtain ⟨cs, y, h1, _, _⟩ := key 0 (by omega)
    obtain ⟨hl, hj⟩ := cellof h1
    have := hj 0 hc
    rw [List.getElem?_eq_getElem (by omega)] at this
    have h2 := World.cell?_spot this
    have h3 := World.block_lt_of_cell? w _ this
    simp [Addr.add] at h2 h3
    exact ⟨h2, h3⟩
  obtain ⟨rfl, hb⟩ := hspot
  have hadd : ∀ o i : Nat, (⟨b, o, none⟩ : Addr).add i = ⟨b, o + i, none⟩ := by intro o i; unfold Addr.add; split <;> simp_all
  refine .inr ⟨m, rfl, b, o, rfl, hb, fun i hi => ?_⟩
  obtain ⟨cs, y, h1, h2, h3⟩ := key i hi
  obtain ⟨hl, hj⟩ := cellof h1
  refine ⟨cs, y, hl, fun j hj' => ?_, h2, fun q hq => hw q ?_⟩
  · have := hj j hj'
    rw [hadd, hadd] at this
    exact this
  · refine List.mem_cons_of_mem _ (List.mem_append.2 (.inl (weightsAll_mem (List.mem_map_of_mem h3) hq)))
theorem cells9 : Tryd.prog.cellsOf 9 = 1 := by kernel_rfl
theorem bytes9 : Tryd.prog.bytesOf 9 = 16 := by kernel_rfl
theorem reachB : reachBytes = 140737488351232 := rfl
theorem list_of_fun (f : Nat → ByteArray) (n : Nat) : ∃ l : List ByteArray, l.length = n ∧ ∀ i, i < n → sa l i = f i :=
  ⟨(List.range n).map f, by simp, fun i hi => by rw [sa_get (by simpa using hi)]; simp⟩
/-- a slice of strings that is read -/
theorem openStrs {fuel : Nat} {v : Value} {x : DataW H × List MemPlace} (h : DataW.trod enc Tryd.prog w 0 (fun _ => true) true fuel 29 [v] = some x) (hw : ∀ q ∈ DataW.weights Tryd.prog 29 x.1, q ≤ reachBytes) :
    ∃ l, SR w l v ∧ FL l := by
  obtain ⟨a, len, cap, rfl, hlc, hby, hrow⟩ := openRow Tryd.underlying29 h hw (by rw [cells9]; omega)
  rw [bytes9, reachB] at hby
  rcases hrow with rfl | ⟨m, _, b, o, rfl, hlt, hel⟩
  · exact ⟨[], ⟨a, cap, rfl, hlc, .inl rfl⟩, by simp, by simp⟩
  have : ∀ i, i < len → ∃ s : ByteArray, w.cell? ⟨b, o + i, none⟩ = some (.string s) ∧ s.size ≤ 140737488351232 := fun i hi => by
    obtain ⟨cs, y, _, hc, ht, hws⟩ := hel i hi
    obtain ⟨s, rfl, hy, _⟩ := DataW.trod_string Tryd.underlying9 ht
    have h0 := hc 0 (by rw [cells9]; omega)
    rw [cells9] at h0
    refine ⟨s, by simpa using h0, ?_⟩
    have := hws s.data.toList.length (by rw [hy]; simp [DataW.weights])
    rw [Array.length_toList, reachB] at this
    exact this
  have hinh : Inhabited ByteArray := ⟨ByteArray.empty⟩
  obtain ⟨f, hf⟩ := choose_lt this
  obtain ⟨l, rfl, hl⟩ := list_of_fun f len
  refine ⟨l, ⟨_, cap, rfl, hlc, .inr ⟨b, o, rfl, hlt, fun i hi => by rw [hl i hi]; exact (hf i hi).1⟩⟩, by omega, fun s hs => ?_⟩
  obtain ⟨i, hi, rfl⟩ := List.getElem_of_mem hs
  rw [← sa_get hi, hl i hi]; exact (hf i hi).2
set_option maxRecDepth 100000 in
theorem openArg {base : Nat} {v : Value} {d : DataW H} {ps : List MemPlace} (hv : Value.okWide Tryd.prog w .any base 29 v)
    (h : DataW.Trod enc Tryd.prog w 0 (fun _ => true) true 29 v d ps) (hw : ∀ q ∈ DataW.weights Tryd.prog 29 d, q ≤ reachBytes) : ∃ l, SR w l v ∧ FL l := by
  obtain ⟨a, len, cap, rfl⟩ := okWide_slice Tryd.underlying29 hv
  obtain ⟨fuel, hf⟩ := h
  have hf' : DataW.trod enc Tryd.prog w 0 (fun _ => true) true fuel 29 [.slice a len cap] = some (d, ps) := hf
  exact openStrs hf' hw
end
end Go.Proofs.YtoiehkpmemmldaaDoor
