import Derived.Test.YtpembmfpgolniaaDoorVa
import Derived.ProofKit
import Derived.OpenShut
import Derived.SizedLaws
import Derived.Carry
import Derived.ChangeSlices
import Derived.Deep.Slices
namespace Go.Proofs.YtpembmfpgolniaaDoor
open Go.ChangeShapes Go.WideShapes Go.ChangeAt Go.RowKit
theorem ownKn : ownKnob Tryd.prog.godebug = none := by kernel_rfl
theorem laidO : laidOutB Tryd.prog = true := by kernel_rfl
theorem trodLt {H : Type} {enc : TypeId × Value → H} {W : World} {t : TypeId} {v : Value} {d : DataW H} {p : List MemPlace} (h : DataW.Trod enc Tryd.prog W 0 (fun _ => true) true t v d p) : ∀ x ∈ p, x.block < W.heap.size := by
  obtain ⟨m, hm⟩ := h
  exact DataW.trod_lt m _ _ _ hm
/-- the cells of a slice of bytes -/
theorem cellsBytes {H : Type} {enc : TypeId × Value → H} {W : World} {fuel : Nat} {cs : List Value} {x : DataW H × List MemPlace}
    (hf : DataW.trod enc Tryd.prog W 0 (fun _ => true) true fuel 22 cs = some x) (hw : ∀ q ∈ DataW.weights Tryd.prog 22 x.1, q ≤ reachBytes) :
    ∃ v l, cs = [v] ∧ RB W v l ∧ l.length ≤ 140737488351232 := by
  have hb : Tryd.prog.bytesOf 5 = 1 := by kernel_rfl
  rcases open_ints Tryd.underlying22 Tryd.underlying5 (by kernel_rfl) hf with ⟨hcs, _⟩ | ⟨a, len, cap, zs, hcs, _, hl, hm, hz, hx, hcell, hwz⟩
  · exact ⟨_, [], hcs, ⟨none, 0, rfl, Nat.le_refl _, .inl rfl⟩, by simp⟩
  · have hz' : zs.length = cap := by simpa using hz
    have hlen : ((zs.take len).map fun z => UInt8.ofNat z.toNat).length = len := by rw [List.length_map, List.length_take]; omega
    refine ⟨_, (zs.take len).map fun z => UInt8.ofNat z.toNat, hcs, ⟨some a, cap, by rw [hlen], by rw [hlen]; omega, ?_⟩, ?_⟩
    · by_cases h0 : len = 0
      · exact .inl (List.length_eq_zero_iff.1 (by rw [hlen, h0]))
      · obtain ⟨b, off, spot⟩ := a
        have hc0 := hcell 0 (by omega)
        have hspot : spot = none := by simpa [Addr.add] using World.cell?_spot hc0
        subst hspot
        refine .inr ⟨b, off, rfl, by simpa [Addr.add] using World.block_lt_of_cell? W _ hc0, fun i hi => ?_⟩
        rw [hlen] at hi
        have := hcell i (by omega)
        rw [Addr.add_mid] at this
        rw [this]
        have hm' : zs.getD i 0 ∈ zs := by simp [List.getD, List.getElem?_eq_getElem (show i < zs.length by omega)]
        have h255 : 0 ≤ zs.getD i 0 ∧ zs.getD i 0 ≤ 255 := by simpa [Lit.wf, IntKind.min, IntKind.max, IntKind.signed, IntKind.bits] using hwz _ hm'
        have e : byt ((zs.take len).map fun z => UInt8.ofNat z.toNat) i = UInt8.ofNat (zs.getD i 0).toNat := by
          unfold byt; simp [List.getD, List.getElem?_map, hi, List.getElem?_eq_getElem (show i < zs.length by omega)]
        rw [e, UInt8.toNat_ofNat', Nat.mod_eq_of_lt (by omega), show (((zs.getD i 0).toNat : Nat) : Int) = zs.getD i 0 by omega]
    · rw [hlen]
      have := hw ((zs.take len).length + (zs.drop len).length) (by rw [hx]; simp [DataW.weights, Tryd.underlying22, lits, hb])
      simp [reachBytes] at this
      omega
theorem cellByte {H : Type} {enc : TypeId × Value → H} {W : World} {cs : List Value} {o n : Nat} {x : DataW H × List MemPlace} (ho : o < cs.length)
    (h : DataW.trod enc Tryd.prog W 0 (fun _ => true) true n 5 ((cs.drop o).take 1) = some x) : ∃ a : UInt8, cs[o]? = some (.int .u8 (a.toNat : Int)) := by
  have e : (cs.drop o).take 1 = [cs[o]] := by rw [List.drop_eq_getElem_cons ho]; rfl
  rw [e] at h
  obtain ⟨a, e0, rfl, wa⟩ := DataW.trod_int Tryd.underlying5 h
  have h255 : 0 ≤ a ∧ a ≤ 255 := by simpa [Lit.wf, IntKind.min, IntKind.max, IntKind.signed, IntKind.bits] using wa
  refine ⟨UInt8.ofNat a.toNat, ?_⟩
  rw [List.getElem?_eq_getElem ho, UInt8.toNat_ofNat', Nat.mod_eq_of_lt (by omega)]
  simp at e0
  rw [e0]
  congr 2
  omega
def asB (v : Value) : UInt8 := match v with | .int _ z => UInt8.ofNat z.toNat | _ => 0
/-- the cells of a hash -/
theorem cellsHash {H : Type} {enc : TypeId × Value → H} {W : World} {fuel : Nat} {cs : List Value} {x : DataW H × List MemPlace}
    (hf : DataW.trod enc Tryd.prog W 0 (fun _ => true) true fuel 24 cs = some x) : cs.length = 32 ∧ ∀ i, i < 32 → ∃ a : UInt8, cs[i]? = some (.int .u8 (a.toNat : Int)) := by
  obtain ⟨xs, m, _, _, hlen, hxs, hget⟩ := DataW.trod_array Tryd.underlying24 hf
  have c5 : Tryd.prog.cellsOf 5 = 1 := by kernel_rfl
  have c32 : Tryd.prog.cellsOf 24 = 32 := by kernel_rfl
  rw [c32] at hlen
  refine ⟨hlen, fun i hi => ?_⟩
  have h1 := hget i hi
  rw [c5, Nat.mul_one, List.getElem?_eq_getElem (by omega)] at h1
  exact cellByte (by omega) h1
theorem bytes_of {cs : List Value} (h : ∀ i, i < cs.length → ∃ a : UInt8, cs[i]? = some (.int .u8 (a.toNat : Int))) : cs = Lib.byteCells (cs.map asB) := by
  apply List.ext_getElem?
  intro i
  simp only [Lib.byteCells, List.getElem?_map]
  by_cases hi : i < cs.length
  · obtain ⟨a, ha⟩ := h i hi
    rw [ha]
    simp [asB]
  · rw [List.getElem?_eq_none (by omega)]; rfl
theorem dsplit (L : List Value) (k n : Nat) : L.drop k = (L.drop k).take n ++ L.drop (k + n) := by
  rw [← List.drop_drop]; exact (List.take_append_drop n (L.drop k)).symm
theorem split40 (L : List Value) (h : L.length = 40) : L = (L.drop 0).take 1 ++ ((L.drop 1).take 1 ++ ((L.drop 2).take 1 ++ ((L.drop 3).take 1 ++ ((L.drop 4).take 1 ++ ((L.drop 5).take 32 ++ ((L.drop 37).take 1 ++ ((L.drop 38).take 1 ++ (L.drop 39).take 1))))))) := by
  have e40 : L.drop 40 = [] := List.drop_eq_nil_of_le (by omega)
  have h39 := dsplit L 39 1
  rw [e40, List.append_nil] at h39
  conv => lhs; rw [← List.drop_zero (l := L), dsplit L 0 1, dsplit L (0 + 1) 1, dsplit L (0 + 1 + 1) 1, dsplit L (0 + 1 + 1 + 1) 1, dsplit L (0 + 1 + 1 + 1 + 1) 1, dsplit L (0 + 1 + 1 + 1 + 1 + 1) 32, dsplit L (0 + 1 + 1 + 1 + 1 + 1 + 32) 1, dsplit L (0 + 1 + 1 + 1 + 1 + 1 + 32 + 1) 1, show 0 + 1 + 1 + 1 + 1 + 1 + 32 + 1 + 1 = 39 from rfl, h39]
set_option maxRecDepth 100000 in
/-- the cells of a slice of hashes -/
theorem cellsHashes {H : Type} {enc : TypeId × Value → H} {W : World} {fuel : Nat} {cs : List Value} {x : DataW H × List MemPlace}
    (hf : DataW.trod enc Tryd.prog W 0 (fun _ => true) true fuel 25 cs = some x) (hw : ∀ q ∈ DataW.weights Tryd.prog 25 x.1, q ≤ reachBytes) :
    ∃ v l, cs = [v] ∧ RH W v l ∧ l.length ≤ 140737488351232 := by
  have hb : Tryd.prog.bytesOf 24 = 32 := by kernel_rfl
  have c32 : Tryd.prog.cellsOf 24 = 32 := by kernel_rfl
  rcases Deep.open_slice Tryd.underlying25 hf with ⟨hcs, _⟩ | ⟨a, len, cap, m, n, Dt, Pl, hcs, _, hle, _, hm, hx, hel⟩
  · exact ⟨_, [], hcs, ⟨none, 0, 0, rfl, rfl, Nat.le_refl _, .inl rfl⟩, by simp⟩
  · have hm' : m = cap := by simpa using hm
    have hlim : len * 32 ≤ 140737488351232 := by
      have := hw (m * 32) (by rw [hx]; simp [DataW.weights, Tryd.underlying25, hb]; left; omega)
      simp [reachBytes] at this
      omega
    by_cases h0 : len = 0
    · subst h0
      exact ⟨_, [], hcs, ⟨some a, 0, cap, rfl, rfl, Nat.zero_le _, .inl rfl⟩, by simp⟩
    obtain ⟨b, off, spot⟩ := a
    have hspot : spot = none := by
      obtain ⟨cs', h1, h2⟩ := hel 0 (by omega)
      obtain ⟨hl32, hby⟩ := cellsHash h2
      obtain ⟨y, hy⟩ := hby 0 (by omega)
      rw [c32] at h1
      have := (World.cells?_some h1).2.2 0 (by omega)
      rw [hy] at this
      simpa [Addr.add] using World.cell?_spot this
    subst hspot
    have key : ∀ i, i < len * 32 → ∃ y : UInt8, W.cell? ⟨b, off + i, none⟩ = some (.int .u8 (y.toNat : Int)) := by
      intro i hi
      obtain ⟨cs', h1, h2⟩ := hel (i / 32) (by omega)
      rw [c32] at h1
      obtain ⟨hl32, hby⟩ := cellsHash h2
      obtain ⟨y, hy⟩ := hby (i % 32) (by omega)
      refine ⟨y, ?_⟩
      have := (World.cells?_some h1).2.2 (i % 32) (by omega)
      rw [hy, Addr.add_mid, Addr.add_mid, show off + i / 32 * 32 + i % 32 = off + i by omega] at this
      exact this
    have hlen : ((List.range (len * 32)).map fun i => asB ((W.cell? ⟨b, off + i, none⟩).getD undef)).length = len * 32 := by simp
    refine ⟨_, (List.range (len * 32)).map fun i => asB ((W.cell? ⟨b, off + i, none⟩).getD undef), hcs, ⟨_, len, cap, rfl, hlen, hle, .inr ⟨b, off, rfl, ?_, fun i hi => ?_⟩⟩, by rw [hlen]; exact hlim⟩
    · obtain ⟨y, hy⟩ := key 0 (by omega)
      exact World.block_lt_of_cell? W _ hy
    · rw [hlen] at hi
      obtain ⟨y, hy⟩ := key i hi
      rw [hy]
      have e : byt ((List.range (len * 32)).map fun i => asB ((W.cell? ⟨b, off + i, none⟩).getD undef)) i = y := by
        unfold byt
        simp [List.getD, hi, hy, asB]
      rw [e]
set_option maxRecDepth 100000 in
/-- an argument that is a message -/
theorem openMsg {H : Type} {enc : TypeId × Value → H} {W : World} {base : Nat} {v : Value} {d : DataW H} {p : List MemPlace} (hv : Value.okWide Tryd.prog W .any base 27 v)
    (h : DataW.Trod enc Tryd.prog W 0 (fun _ => true) true 27 v d p) (hw : ∀ q ∈ DataW.weights Tryd.prog 27 d, q ≤ reachBytes) :
    ∃ (m : Mv) (D hb : List UInt8), v = .agg m.cs ∧ MM W m D hb := by
  obtain ⟨cs, rfl, hsz⟩ := okWide_struct Tryd.underlying27 hv
  obtain ⟨fuel, hf⟩ := h
  obtain ⟨xs, n, _, hx, hl, hlen, hf⟩ := DataW.trod_struct Tryd.underlying27 hf
  have hs : cs.size = 40 := hsz.trans (by kernel_rfl)
  have hL : xs.length = 9 := hlen
  have hd : d = .agg (xs.map (·.1)) := congrArg Prod.fst hx
  have hcs : (Value.agg cs).cells.toList.length = 40 := by simpa [Value.cells] using hs
  have f0 : DataW.trod enc Tryd.prog W 0 (fun _ => true) true n 3 (((Value.agg cs).cells.toList.drop 0).take (Tryd.prog.cellsOf 3)) = xs[0]? := hf 0 _ rfl
  have f1 : DataW.trod enc Tryd.prog W 0 (fun _ => true) true n 3 (((Value.agg cs).cells.toList.drop 1).take (Tryd.prog.cellsOf 3)) = xs[1]? := hf 1 _ rfl
  have f2 : DataW.trod enc Tryd.prog W 0 (fun _ => true) true n 3 (((Value.agg cs).cells.toList.drop 2).take (Tryd.prog.cellsOf 3)) = xs[2]? := hf 2 _ rfl
  have f3 : DataW.trod enc Tryd.prog W 0 (fun _ => true) true n 3 (((Value.agg cs).cells.toList.drop 3).take (Tryd.prog.cellsOf 3)) = xs[3]? := hf 3 _ rfl
  have f4 : DataW.trod enc Tryd.prog W 0 (fun _ => true) true n 22 (((Value.agg cs).cells.toList.drop 4).take (Tryd.prog.cellsOf 22)) = xs[4]? := hf 4 _ rfl
  have f5 : DataW.trod enc Tryd.prog W 0 (fun _ => true) true n 24 (((Value.agg cs).cells.toList.drop 5).take (Tryd.prog.cellsOf 24)) = xs[5]? := hf 5 _ rfl
  have f6 : DataW.trod enc Tryd.prog W 0 (fun _ => true) true n 3 (((Value.agg cs).cells.toList.drop 37).take (Tryd.prog.cellsOf 3)) = xs[6]? := hf 6 _ rfl
  have f7 : DataW.trod enc Tryd.prog W 0 (fun _ => true) true n 3 (((Value.agg cs).cells.toList.drop 38).take (Tryd.prog.cellsOf 3)) = xs[7]? := hf 7 _ rfl
  have f8 : DataW.trod enc Tryd.prog W 0 (fun _ => true) true n 25 (((Value.agg cs).cells.toList.drop 39).take (Tryd.prog.cellsOf 25)) = xs[8]? := hf 8 _ rfl
  obtain ⟨y0, y1, y2, y3, y4, y5, y6, y7, y8, rfl⟩ : ∃ y0 y1 y2 y3 y4 y5 y6 y7 y8, xs = [y0, y1, y2, y3, y4, y5, y6, y7, y8] := by
    match xs, hL with
    | [y0, y1, y2, y3, y4, y5, y6, y7, y8], _ => exact ⟨y0, y1, y2, y3, y4, y5, y6, y7, y8, rfl⟩
  clear hf
  replace f0 : _ = some y0 := f0
  replace f1 : _ = some y1 := f1
  replace f2 : _ = some y2 := f2
  replace f3 : _ = some y3 := f3
  replace f4 : _ = some y4 := f4
  replace f5 : _ = some y5 := f5
  replace f6 : _ = some y6 := f6
  replace f7 : _ = some y7 := f7
  replace f8 : _ = some y8 := f8
  have k3 : Tryd.prog.cellsOf 3 = 1 := by kernel_rfl
  have k22 : Tryd.prog.cellsOf 22 = 1 := by kernel_rfl
  have k26 : Tryd.prog.cellsOf 25 = 1 := by kernel_rfl
  have k25 : Tryd.prog.cellsOf 24 = 32 := by kernel_rfl
  rw [k3] at f0 f1 f2 f3 f6 f7
  rw [k22] at f4
  rw [k25] at f5
  rw [k26] at f8
  have hw4 : ∀ q ∈ DataW.weights Tryd.prog 22 y4.1, q ≤ reachBytes := fun q hq => hw q (by rw [hd]; simp only [DataW.weights, Tryd.underlying27, List.map_cons, List.map_nil]; simp [DataW.weightsEach, hq])
  have hw8 : ∀ q ∈ DataW.weights Tryd.prog 25 y8.1, q ≤ reachBytes := fun q hq => hw q (by rw [hd]; simp only [DataW.weights, Tryd.underlying27, List.map_cons, List.map_nil]; simp [DataW.weightsEach, hq])
  obtain ⟨a0, e0, _⟩ := DataW.trod_int Tryd.underlying3 f0
  obtain ⟨a1, e1, _⟩ := DataW.trod_int Tryd.underlying3 f1
  obtain ⟨a2, e2, _⟩ := DataW.trod_int Tryd.underlying3 f2
  obtain ⟨a3, e3, _⟩ := DataW.trod_int Tryd.underlying3 f3
  obtain ⟨a6, e6, _⟩ := DataW.trod_int Tryd.underlying3 f6
  obtain ⟨a7, e7, _⟩ := DataW.trod_int Tryd.underlying3 f7
  obtain ⟨dv, D, e4, rd, dl⟩ := cellsBytes f4 hw4
  obtain ⟨hv', hb, e8, rh, hl8⟩ := cellsHashes f8 hw8
  obtain ⟨l5, b5⟩ := cellsHash f5
  have e5 := bytes_of (cs := ((Value.agg cs).cells.toList.drop 5).take 32) (fun i hi => b5 i (by rw [l5] at hi; exact hi))
  refine ⟨⟨a0, a1, a2, a3, dv, (((Value.agg cs).cells.toList.drop 5).take 32).map asB, a6, a7, hv'⟩, D, hb, ?_, ⟨⟨by rw [List.length_map, l5], ?_, ?_⟩, rd, rh, dl, hl8⟩⟩
  · have e := split40 _ hcs
    rw [e0, e1, e2, e3, e4, e5, e6, e7, e8] at e
    congr 1
    apply Array.ext'
    have e' : cs.toList = _ := e
    rw [e']
    simp [Mv.cs, Mv.ls]
  · obtain ⟨a, c, e, _⟩ := rd
    exact ⟨_, _, _, e⟩
  · obtain ⟨a, n, c, e, _⟩ := rh
    exact ⟨_, _, _, e⟩
end Go.Proofs.YtpembmfpgolniaaDoor
