import Derived.Test.YtmfeelkjbpjhdaaGreet
import Derived.ProofKit
import Derived.OpenShut
import Derived.SizedLaws
import Derived.Carry
import Derived.ChangeSlices
namespace Go.Proofs.Ytmfeelkjbpjhdaa
open Go.ChangeShapes Go.WideShapes Go.ChangeAt Go.RowKit
theorem ownKn : ownKnob Try.prog.godebug = none := by kernel_rfl
theorem laidO : laidOutB Try.prog = true := by kernel_rfl
theorem trodLt {H : Type} {enc : TypeId × Value → H} {W : World} {t : TypeId} {v : Value} {d : DataW H} {p : List MemPlace} (h : DataW.Trod enc Try.prog W 0 (fun _ => true) true t v d p) : ∀ x ∈ p, x.block < W.heap.size := by
  obtain ⟨m, hm⟩ := h
  exact DataW.trod_lt m _ _ _ hm
/-- a slice of integers that was handed in: the numbers, where they lie, how many they can be -/
theorem openInts {H : Type} {enc : TypeId × Value → H} {W : World} {base : Nat} {v : Value} {d : DataW H} {p : List MemPlace} {t e : TypeId} {k : IntKind} (ht : Try.prog.underlying t = some (.slice e)) (he : Try.prog.underlying e = some (.int k)) (hc : Try.prog.cellsOf e = 1)
    (hv : Value.okWide Try.prog W .any base t v)
    (h : DataW.Trod enc Try.prog W 0 (fun _ => true) true t v d p) (hw : ∀ q ∈ DataW.weights Try.prog t d, q ≤ reachBytes) :
    ∃ (a : Option Addr) (c : Nat) (zs : List Int), v = .slice a zs.length c ∧ zs.length ≤ c ∧ zs.length * Try.prog.bytesOf e ≤ reachBytes ∧ (∀ z ∈ zs, (Lit.int k z).wf = true) ∧
      (zs = [] ∨ ∃ g o, a = some ⟨g, o, none⟩ ∧ g < W.heap.size ∧ ∀ i, i < zs.length → W.cell? ⟨g, o + i, none⟩ = some (.int k (zs.getD i 0))) := by
  obtain ⟨a0, len0, cap0, rfl⟩ := okWide_slice ht hv
  obtain ⟨fuel, hf⟩ := h
  rcases open_ints ht he hc hf with ⟨hcs, _⟩ | ⟨x, l, c, zs, hcs, _, hl, hm, hz, hx, hcell, hwz⟩
  · simp [Value.cells] at hcs
    obtain ⟨rfl, rfl, rfl⟩ := hcs
    exact ⟨none, 0, [], rfl, Nat.le_refl _, by simp, by simp, .inl rfl⟩
  · simp [Value.cells] at hcs
    obtain ⟨rfl, rfl, rfl⟩ := hcs
    have hz' : zs.length = cap0 := by simpa using hz
    have hlen : (zs.take len0).length = len0 := by rw [List.length_take]; omega
    simp only [Prod.mk.injEq] at hx
    obtain ⟨rfl, _⟩ := hx
    refine ⟨some x, cap0, zs.take len0, by rw [hlen], by rw [hlen]; omega, ?_, fun z hz => hwz z (List.mem_of_mem_take hz), ?_⟩
    · have := hw (((lits (H := H) k (zs.take len0)).length + (lits (H := H) k (zs.drop len0)).length) * Try.prog.bytesOf e) (by simp [DataW.weights, ht])
      refine Nat.le_trans (Nat.mul_le_mul_right _ ?_) this
      simp [lits]
    · by_cases h00 : zs.take len0 = []
      · exact .inl h00
      · have hpos : 0 < len0 := by
          rcases Nat.eq_zero_or_pos len0 with h | h
          · subst h; simp at h00
          · exact h
        obtain ⟨b, off, spot⟩ := x
        have hc0 := hcell 0 (by omega)
        have hspot : spot = none := by simpa [Addr.add] using World.cell?_spot hc0
        subst hspot
        refine .inr ⟨b, off, rfl, by simpa [Addr.add] using World.block_lt_of_cell? W _ hc0, fun i hi => ?_⟩
        have hi' : i < len0 := by rw [hlen] at hi; exact hi
        have := hcell i (by omega)
        have hadd : (⟨b, off, none⟩ : Addr).add i = ⟨b, off + i, none⟩ := by unfold Addr.add; split <;> simp_all
        rw [hadd] at this
        rw [this]
        simp [List.getD, hi']
theorem openBytes {H : Type} {enc : TypeId × Value → H} {W : World} {base : Nat} {v : Value} {d : DataW H} {p : List MemPlace} (hv : Value.okWide Try.prog W .any base 28 v)
    (h : DataW.Trod enc Try.prog W 0 (fun _ => true) true 28 v d p) (hw : ∀ q ∈ DataW.weights Try.prog 28 d, q ≤ reachBytes) :
    ∃ l, RB W v l ∧ l.length ≤ 140737488351232 := by
  obtain ⟨a, c, zs, rfl, hle, h1, h2, h3⟩ := openInts (k := .u8) Try.underlying28 Try.underlying5 (by kernel_rfl) hv h hw
  have hb : Try.prog.bytesOf 5 = 1 := by kernel_rfl
  rw [hb] at h1
  refine ⟨zs.map fun z => UInt8.ofNat z.toNat, ⟨a, c, by rw [List.length_map], by rw [List.length_map]; exact hle, ?_⟩, by rw [List.length_map]; simpa [reachBytes] using h1⟩
  rcases h3 with rfl | ⟨g, o, rfl, hg, hc⟩
  · exact .inl rfl
  · refine .inr ⟨g, o, rfl, hg, fun i hi => ?_⟩
    rw [List.length_map] at hi
    rw [hc i hi]
    have hm : zs.getD i 0 ∈ zs := by simp [List.getD, List.getElem?_eq_getElem hi]
    have hwf := h2 _ hm
    have h255 : 0 ≤ zs.getD i 0 ∧ zs.getD i 0 ≤ 255 := by simpa [Lit.wf, IntKind.min, IntKind.max, IntKind.signed, IntKind.bits] using hwf
    have e : byt (zs.map fun z => UInt8.ofNat z.toNat) i = UInt8.ofNat (zs.getD i 0).toNat := by
      unfold byt; simp [List.getD, List.getElem?_map, List.getElem?_eq_getElem hi]
    rw [e, UInt8.toNat_ofNat', Nat.mod_eq_of_lt (by omega)]
    congr 2
    omega
theorem cellByte {H : Type} {enc : TypeId × Value → H} {W : World} {cs : List Value} {o n : Nat} {x : DataW H × List MemPlace} (ho : o < cs.length)
    (h : DataW.trod enc Try.prog W 0 (fun _ => true) true n 5 ((cs.drop o).take 1) = some x) : ∃ a : UInt8, cs[o]? = some (.int .u8 (a.toNat : Int)) := by
  have e : (cs.drop o).take 1 = [cs[o]] := by rw [List.drop_eq_getElem_cons ho]; rfl
  rw [e] at h
  obtain ⟨a, e0, rfl, wa⟩ := DataW.trod_int Try.underlying5 h
  have h255 : 0 ≤ a ∧ a ≤ 255 := by simpa [Lit.wf, IntKind.min, IntKind.max, IntKind.signed, IntKind.bits] using wa
  refine ⟨UInt8.ofNat a.toNat, ?_⟩
  rw [List.getElem?_eq_getElem ho, UInt8.toNat_ofNat', Nat.mod_eq_of_lt (by omega)]
  simp at e0
  rw [e0]
  congr 2
  omega
/-- a part of an array of bytes within a struct -/
theorem cellsArr {H : Type} {enc : TypeId × Value → H} {W : World} {cs : List Value} {o n k : Nat} {t : TypeId} {x : Option (DataW H × List MemPlace)} (ht : Try.prog.underlying t = some (.array k 5)) (hc : Try.prog.cellsOf t = k) (hx : x.isSome = true)
    (_ho : o + k ≤ cs.length) (h : DataW.trod enc Try.prog W 0 (fun _ => true) true n t ((cs.drop o).take (Try.prog.cellsOf t)) = x) (i : Nat) (hi : i < k) : ∃ a : UInt8, cs[o + i]? = some (.int .u8 (a.toNat : Int)) := by
  obtain ⟨y, rfl⟩ := Option.isSome_iff_exists.1 hx
  obtain ⟨xs, m, _, _, hlen, hxs, hget⟩ := DataW.trod_array ht h
  have c5 : Try.prog.cellsOf 5 = 1 := by kernel_rfl
  have h1 := hget i hi
  rw [c5, Nat.mul_one, List.getElem?_eq_getElem (by omega)] at h1
  obtain ⟨a, ha⟩ := cellByte (o := i) (by rw [hlen, hc]; exact hi) h1
  refine ⟨a, ?_⟩
  rw [hc, List.getElem?_take_of_lt hi, List.getElem?_drop] at ha
  exact ha
/-- an argument that is a handshake: its 48 bytes -/
theorem openHello {H : Type} {enc : TypeId × Value → H} {W : World} {base : Nat} {v : Value} {d : DataW H} {p : List MemPlace} (hv : Value.okWide Try.prog W .any base 25 v)
    (h : DataW.Trod enc Try.prog W 0 (fun _ => true) true 25 v d p) : ∃ hb : List UInt8, v = .agg (bc hb) ∧ hb.length = 48 := by
  obtain ⟨cs, rfl, hsz⟩ := okWide_struct Try.underlying25 hv
  obtain ⟨fuel, hf⟩ := h
  obtain ⟨xs, n, _, _, hl, hlen, hf⟩ := DataW.trod_struct Try.underlying25 hf
  have hs : cs.size = 48 := hsz.trans (by kernel_rfl)
  have hL : xs.length = 3 := hlen
  have hcs : (Value.agg cs).cells.toList.length = 48 := by simpa [Value.cells] using hs
  have f0 : DataW.trod enc Try.prog W 0 (fun _ => true) true n 22 (((Value.agg cs).cells.toList.drop 0).take (Try.prog.cellsOf 22)) = xs[0]? := hf 0 _ rfl
  have f1 : DataW.trod enc Try.prog W 0 (fun _ => true) true n 23 (((Value.agg cs).cells.toList.drop 8).take (Try.prog.cellsOf 23)) = xs[1]? := hf 1 _ rfl
  have f2 : DataW.trod enc Try.prog W 0 (fun _ => true) true n 23 (((Value.agg cs).cells.toList.drop 28).take (Try.prog.cellsOf 23)) = xs[2]? := hf 2 _ rfl
  have key : ∀ i, i < 48 → ∃ a : UInt8, cs[i]? = some (.int .u8 (a.toNat : Int)) := by
    intro i hi
    by_cases h8 : i < 8
    · obtain ⟨a, ha⟩ := cellsArr Try.underlying22 (by kernel_rfl) (by simp; omega) (by omega) f0 i h8
      exact ⟨a, by simpa [Value.cells] using ha⟩
    · by_cases h28 : i < 28
      · obtain ⟨a, ha⟩ := cellsArr Try.underlying23 (by kernel_rfl) (by simp; omega) (by omega) f1 (i - 8) (by omega)
        rw [show 8 + (i - 8) = i by omega] at ha
        exact ⟨a, by simpa [Value.cells] using ha⟩
      · obtain ⟨a, ha⟩ := cellsArr Try.underlying23 (by kernel_rfl) (by simp; omega) (by omega) f2 (i - 28) (by omega)
        rw [show 28 + (i - 28) = i by omega] at ha
        exact ⟨a, by simpa [Value.cells] using ha⟩
  refine ⟨cs.toList.map (fun v => match v with | .int _ z => UInt8.ofNat z.toNat | _ => 0), ?_, by simpa using hs⟩
  congr 1
  apply Array.ext'
  apply List.ext_getElem?
  intro i
  rw [bc_list]
  simp only [Lib.byteCells, List.getElem?_map, Array.getElem?_toList]
  by_cases hi : i < 48
  · obtain ⟨a, ha⟩ := key i hi
    rw [ha]
    simp
  · rw [Array.getElem?_eq_none (by omega)]; rfl
end Go.Proofs.Ytmfeelkjbpjhdaa
