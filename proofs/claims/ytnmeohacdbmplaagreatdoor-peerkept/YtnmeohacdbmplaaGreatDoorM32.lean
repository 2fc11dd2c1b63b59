import Derived.Test.YtnmeohacdbmplaaGreatDoorM03
import Derived.ProofKit
import Derived.OpenShut
import Derived.SizedLaws
import Derived.Carry
import Derived.ChangeSlices
import Derived.Deep.Slices
import Derived.Test.YtnmeohacdbmplaaGreatDoorM18
import Derived.Test.YtnmeohacdbmplaaGreatDoorM13
import Derived.Lib.SmallJoins
namespace Go.Proofs.YtnmeohacdbmplaaGreatDoor
open Go.ChangeShapes Go.WideShapes Go.ChangeAt Go.RowKit
theorem ownKn : ownKnob Tryz.prog.godebug = none := by kernel_rfl
theorem laidO : laidOutB Tryz.prog = true := by kernel_rfl
theorem trodLt {H : Type} {enc : TypeId × Value → H} {W : World} {t : TypeId} {v : Value} {d : DataW H} {p : List MemPlace} (h : DataW.Trod enc Tryz.prog W 0 (fun _ => true) true t v d p) : ∀ x ∈ p, x.block < W.heap.size := by
  obtain ⟨m, hm⟩ := h
  exact DataW.trod_lt m _ _ _ hm
/-- the cells of a slice of bytes -/
theorem cellsBytes {H : Type} {enc : TypeId × Value → H} {W : World} {fuel : Nat} {cs : List Value} {x : DataW H × List MemPlace}
    (hf : DataW.trod enc Tryz.prog W 0 (fun _ => true) true fuel 31 cs = some x) (hw : ∀ q ∈ DataW.weights Tryz.prog 31 x.1, q ≤ reachBytes) :
    ∃ v l, cs = [v] ∧ RB W v l ∧ l.length ≤ 140737488351232 := by
  have hb : Tryz.prog.bytesOf 5 = 1 := by kernel_rfl
  rcases open_ints Tryz.underlying31 Tryz.underlying5 (by kernel_rfl) hf with ⟨hcs, _⟩ | ⟨a, len, cap, zs, hcs, _, hl, hm, hz, hx, hcell, hwz⟩
  · exact ⟨_, [], hcs, ⟨none, 0, rfl, Nat.le_refl _, .inl rfl⟩, by simp⟩
  · have hz' : zs.length = cap := by simpa using hz
    have hlen : ((zs.take len).map fun z => UInt8.ofNat z.toNat).length = len := by rw [List.length_map, List.length_take]; omega
    refine ⟨_, (zs.take len).map fun z => UInt8.ofNat z.toNat, hcs, ⟨some a, cap, by rw [hlen], by rw [hlen]; omega, ?_⟩, ?_⟩
    · by_cases h0 : len = 0
      · exact .inl (List.length_eq_zero_iff.1 (by rw [hlen, h0]))
      · obtain ⟨b, off, spot⟩ := a
        have hc0 := hcell 0 (by omega)
        have hspot : spot = none := by simpa [Addr.add] using World.cell?_spot hc0
        subst hspot
        refine .inr ⟨b, off, rfl, by simpa [Addr.add] using World.block_lt_of_cell? W _ hc0, fun i hi => ?_⟩
        rw [hlen] at hi
        have := hcell i (by omega)
        rw [Addr.add_mid] at this
        rw [this]
        have hm' : zs.getD i 0 ∈ zs := by simp [List.getD, List.getElem?_eq_getElem (show i < zs.length by omega)]
        have h255 : 0 ≤ zs.getD i 0 ∧ zs.getD i 0 ≤ 255 := by simpa [Lit.wf, IntKind.min, IntKind.max, IntKind.signed, IntKind.bits] using hwz _ hm'
        have e : byt ((zs.take len).map fun z => UInt8.ofNat z.toNat) i = UInt8.ofNat (zs.getD i 0).toNat := by
          unfold byt; simp [List.getD, List.getElem?_map, hi, List.getElem?_eq_getElem (show i < zs.length by omega)]
        rw [e, UInt8.toNat_ofNat', Nat.mod_eq_of_lt (by omega), show (((zs.getD i 0).toNat : Nat) : Int) = zs.getD i 0 by omega]
    · rw [hlen]
      have := hw ((zs.take len).length + (zs.drop len).length) (by rw [hx]; simp [DataW.weights, Tryz.underlying31, lits, hb])
      simp [reachBytes] at this
      omega
theorem cellByte {H : Type} {enc : TypeId × Value → H} {W : World} {cs : List Value} {o n : Nat} {x : DataW H × List MemPlace} (ho : o < cs.length)
    (h : DataW.trod enc Tryz.prog W 0 (fun _ => true) true n 5 ((cs.drop o).take 1) = some x) : ∃ a : UInt8, cs[o]? = some (.int .u8 (a.toNat : Int)) := by
  have e : (cs.drop o).take 1 = [cs[o]] := by rw [List.drop_eq_getElem_cons ho]; rfl
  rw [e] at h
  obtain ⟨a, e0, rfl, wa⟩ := DataW.trod_int Tryz.underlying5 h
  have h255 : 0 ≤ a ∧ a ≤ 255 := by simpa [Lit.wf, IntKind.min, IntKind.max, IntKind.signed, IntKind.bits] using wa
  refine ⟨UInt8.ofNat a.toNat, ?_⟩
  rw [List.getElem?_eq_getElem ho, UInt8.toNat_ofNat', Nat.mod_eq_of_lt (by omega)]
  simp at e0
  rw [e0]
  congr 2
  omega
def asB (v : Value) : UInt8 := match v with | .int _ z => UInt8.ofNat z.toNat | _ => 0
/-- the cells of a hash -/
theorem cellsHash {H : Type} {enc : TypeId × Value → H} {W : World} {fuel : Nat} {cs : List Value} {x : DataW H × List MemPlace}
    (hf : DataW.trod enc Tryz.prog W 0 (fun _ => true) true fuel 25 cs = some x) : cs.length = 32 ∧ ∀ i, i < 32 → ∃ a : UInt8, cs[i]? = some (.int .u8 (a.toNat : Int)) := by
  obtain ⟨xs, m, _, _, hlen, hxs, hget⟩ := DataW.trod_array Tryz.underlying25 hf
  have c5 : Tryz.prog.cellsOf 5 = 1 := by kernel_rfl
  have c32 : Tryz.prog.cellsOf 25 = 32 := by kernel_rfl
  rw [c32] at hlen
  refine ⟨hlen, fun i hi => ?_⟩
  have h1 := hget i hi
  rw [c5, Nat.mul_one, List.getElem?_eq_getElem (by omega)] at h1
  exact cellByte (by omega) h1
theorem bytes_of {cs : List Value} (h : ∀ i, i < cs.length → ∃ a : UInt8, cs[i]? = some (.int .u8 (a.toNat : Int))) : cs = Lib.byteCells (cs.map asB) := by
  apply List.ext_getElem?
  intro i
  simp only [Lib.byteCells, List.getElem?_map]
  by_cases hi : i < cs.length
  · obtain ⟨a, ha⟩ := h i hi
    rw [ha]
    simp [asB]
  · rw [List.getElem?_eq_none (by omega)]; rfl
theorem dsplit (L : List Value) (k n : Nat) : L.drop k = (L.drop k).take n ++ L.drop (k + n) := by
  rw [← List.drop_drop]; exact (List.take_append_drop n (L.drop k)).symm
theorem split40 (L : List Value) (h : L.length = 40) : L = (L.drop 0).take 1 ++ ((L.drop 1).take 1 ++ ((L.drop 2).take 1 ++ ((L.drop 3).take 1 ++ ((L.drop 4).take 1 ++ ((L.drop 5).take 32 ++ ((L.drop 37).take 1 ++ ((L.drop 38).take 1 ++ (L.drop 39).take 1))))))) := by
  have e40 : L.drop 40 = [] := List.drop_eq_nil_of_le (by omega)
  have h39 := dsplit L 39 1
  rw [e40, List.append_nil] at h39
  conv => lhs; rw [← List.drop_zero (l := L), dsplit L 0 1, dsplit L (0 + 1) 1, dsplit L (0 + 1 + 1) 1, dsplit L (0 + 1 + 1 + 1) 1, dsplit L (0 + 1 + 1 + 1 + 1) 1, dsplit L (0 + 1 + 1 + 1 + 1 + 1) 32, dsplit L (0 + 1 + 1 + 1 + 1 + 1 + 32) 1, dsplit L (0 + 1 + 1 + 1 + 1 + 1 + 32 + 1) 1, show 0 + 1 + 1 + 1 + 1 + 1 + 32 + 1 + 1 = 39 from rfl, h39]
set_option maxRecDepth 100000 in
/-- the cells of a slice of hashes -/
theorem cellsHashes {H : Type} {enc : TypeId × Value → H} {W : World} {fuel : Nat} {cs : List Value} {x : DataW H × List MemPlace}
    (hf : DataW.trod enc Tryz.prog W 0 (fun _ => true) true fuel 45 cs = some x) (hw : ∀ q ∈ DataW.weights Tryz.prog 45 x.1, q ≤ reachBytes) :
    ∃ v l, cs = [v] ∧ RH W v l ∧ l.length ≤ 140737488351232 := by
  have hb : Tryz.prog.bytesOf 25 = 32 := by kernel_rfl
  have c32 : Tryz.prog.cellsOf 25 = 32 := by kernel_rfl
  rcases Deep.open_slice Tryz.underlying45 hf with ⟨hcs, _⟩ | ⟨a, len, cap, m, n, Dt, Pl, hcs, _, hle, _, hm, hx, hel⟩
  · exact ⟨_, [], hcs, ⟨none, 0, 0, rfl, rfl, Nat.le_refl _, .inl rfl⟩, by simp⟩
  · have hm' : m = cap := by simpa using hm
    have hlim : len * 32 ≤ 140737488351232 := by
      have := hw (m * 32) (by rw [hx]; simp [DataW.weights, Tryz.underlying45, hb]; left; omega)
      simp [reachBytes] at this
      omega
    by_cases h0 : len = 0
    · subst h0
      exact ⟨_, [], hcs, ⟨some a, 0, cap, rfl, rfl, Nat.zero_le _, .inl rfl⟩, by simp⟩
    obtain ⟨b, off, spot⟩ := a
    have hspot : spot = none := by
      obtain ⟨cs', h1, h2⟩ := hel 0 (by omega)
      obtain ⟨hl32, hby⟩ := cellsHash h2
      obtain ⟨y, hy⟩ := hby 0 (by omega)
      rw [c32] at h1
      have := (World.cells?_some h1).2.2 0 (by omega)
      rw [hy] at this
      simpa [Addr.add] using World.cell?_spot this
    subst hspot
    have key : ∀ i, i < len * 32 → ∃ y : UInt8, W.cell? ⟨b, off + i, none⟩ = some (.int .u8 (y.toNat : Int)) := by
      intro i hi
      obtain ⟨cs', h1, h2⟩ := hel (i / 32) (by omega)
      rw [c32] at h1
      obtain ⟨hl32, hby⟩ := cellsHash h2
      obtain ⟨y, hy⟩ := hby (i % 32) (by omega)
      refine ⟨y, ?_⟩
      have := (World.cells?_some h1).2.2 (i % 32) (by omega)
      rw [hy, Addr.add_mid, Addr.add_mid, show off + i / 32 * 32 + i % 32 = off + i by omega] at this
      exact this
    have hlen : ((List.range (len * 32)).map fun i => asB ((W.cell? ⟨b, off + i, none⟩).getD undef)).length = len * 32 := by simp
    refine ⟨_, (List.range (len * 32)).map fun i => asB ((W.cell? ⟨b, off + i, none⟩).getD undef), hcs, ⟨_, len, cap, rfl, hlen, hle, .inr ⟨b, off, rfl, ?_, fun i hi => ?_⟩⟩, by rw [hlen]; exact hlim⟩
    · obtain ⟨y, hy⟩ := key 0 (by omega)
      exact World.block_lt_of_cell? W _ hy
    · rw [hlen] at hi
      obtain ⟨y, hy⟩ := key i hi
      rw [hy]
      have e : byt ((List.range (len * 32)).map fun i => asB ((W.cell? ⟨b, off + i, none⟩).getD undef)) i = y := by
        unfold byt
        simp [List.getD, hi, hy, asB]
      rw [e]
set_option maxRecDepth 100000 in
/-- an argument that is a message -/
theorem openMsg {H : Type} {enc : TypeId × Value → H} {W : World} {base : Nat} {v : Value} {d : DataW H} {p : List MemPlace} (hv : Value.okWide Tryz.prog W .any base 47 v)
    (h : DataW.Trod enc Tryz.prog W 0 (fun _ => true) true 47 v d p) (hw : ∀ q ∈ DataW.weights Tryz.prog 47 d, q ≤ reachBytes) :
    ∃ (m : Mv) (D hb : List UInt8), v = .agg m.cs ∧ MM W m D hb := by
  obtain ⟨cs, rfl, hsz⟩ := okWide_struct Tryz.underlying47 hv
  obtain ⟨fuel, hf⟩ := h
  obtain ⟨xs, n, _, hx, hl, hlen, hf⟩ := DataW.trod_struct Tryz.underlying47 hf
  have hs : cs.size = 40 := hsz.trans (by kernel_rfl)
  have hL : xs.length = 9 := hlen
  have hd : d = .agg (xs.map (·.1)) := congrArg Prod.fst hx
  have hcs : (Value.agg cs).cells.toList.length = 40 := by simpa [Value.cells] using hs
  have f0 : DataW.trod enc Tryz.prog W 0 (fun _ => true) true n 3 (((Value.agg cs).cells.toList.drop 0).take (Tryz.prog.cellsOf 3)) = xs[0]? := hf 0 _ rfl
  have f1 : DataW.trod enc Tryz.prog W 0 (fun _ => true) true n 3 (((Value.agg cs).cells.toList.drop 1).take (Tryz.prog.cellsOf 3)) = xs[1]? := hf 1 _ rfl
  have f2 : DataW.trod enc Tryz.prog W 0 (fun _ => true) true n 3 (((Value.agg cs).cells.toList.drop 2).take (Tryz.prog.cellsOf 3)) = xs[2]? := hf 2 _ rfl
  have f3 : DataW.trod enc Tryz.prog W 0 (fun _ => true) true n 3 (((Value.agg cs).cells.toList.drop 3).take (Tryz.prog.cellsOf 3)) = xs[3]? := hf 3 _ rfl
  have f4 : DataW.trod enc Tryz.prog W 0 (fun _ => true) true n 31 (((Value.agg cs).cells.toList.drop 4).take (Tryz.prog.cellsOf 31)) = xs[4]? := hf 4 _ rfl
  have f5 : DataW.trod enc Tryz.prog W 0 (fun _ => true) true n 25 (((Value.agg cs).cells.toList.drop 5).take (Tryz.prog.cellsOf 25)) = xs[5]? := hf 5 _ rfl
  have f6 : DataW.trod enc Tryz.prog W 0 (fun _ => true) true n 3 (((Value.agg cs).cells.toList.drop 37).take (Tryz.prog.cellsOf 3)) = xs[6]? := hf 6 _ rfl
  have f7 : DataW.trod enc Tryz.prog W 0 (fun _ => true) true n 3 (((Value.agg cs).cells.toList.drop 38).take (Tryz.prog.cellsOf 3)) = xs[7]? := hf 7 _ rfl
  have f8 : DataW.trod enc Tryz.prog W 0 (fun _ => true) true n 45 (((Value.agg cs).cells.toList.drop 39).take (Tryz.prog.cellsOf 45)) = xs[8]? := hf 8 _ rfl
  obtain ⟨y0, y1, y2, y3, y4, y5, y6, y7, y8, rfl⟩ : ∃ y0 y1 y2 y3 y4 y5 y6 y7 y8, xs = [y0, y1, y2, y3, y4, y5, y6, y7, y8] := by
    match xs, hL with
    | [y0, y1, y2, y3, y4, y5, y6, y7, y8], _ => exact ⟨y0, y1, y2, y3, y4, y5, y6, y7, y8, rfl⟩
  clear hf
  replace f0 : _ = some y0 := f0
  replace f1 : _ = some y1 := f1
  replace f2 : _ = some y2 := f2
  replace f3 : _ = some y3 := f3
  replace f4 : _ = some y4 := f4
  replace f5 : _ = some y5 := f5
  replace f6 : _ = some y6 := f6
  replace f7 : _ = some y7 := f7
  replace f8 : _ = some y8 := f8
  have k3 : Tryz.prog.cellsOf 3 = 1 := by kernel_rfl
  have k22 : Tryz.prog.cellsOf 31 = 1 := by kernel_rfl
  have k26 : Tryz.prog.cellsOf 45 = 1 := by kernel_rfl
  have k25 : Tryz.prog.cellsOf 25 = 32 := by kernel_rfl
  rw [k3] at f0 f1 f2 f3 f6 f7
  rw [k22] at f4
  rw [k25] at f5
  rw [k26] at f8
  have hw4 : ∀ q ∈ DataW.weights Tryz.prog 31 y4.1, q ≤ reachBytes := fun q hq => hw q (by rw [hd]; simp only [DataW.weights, Tryz.underlying47, List.map_cons, List.map_nil]; simp [DataW.weightsEach, hq])
  have hw8 : ∀ q ∈ DataW.weights Tryz.prog 45 y8.1, q ≤ reachBytes := fun q hq => hw q (by rw [hd]; simp only [DataW.weights, Tryz.underlying47, List.map_cons, List.map_nil]; simp [DataW.weightsEach, hq])
  obtain ⟨a0, e0, _⟩ := DataW.trod_int Tryz.underlying3 f0
  obtain ⟨a1, e1, _⟩ := DataW.trod_int Tryz.underlying3 f1
  obtain ⟨a2, e2, _⟩ := DataW.trod_int Tryz.underlying3 f2
  obtain ⟨a3, e3, _⟩ := DataW.trod_int Tryz.underlying3 f3
  obtain ⟨a6, e6, _⟩ := DataW.trod_int Tryz.underlying3 f6
  obtain ⟨a7, e7, _⟩ := DataW.trod_int Tryz.underlying3 f7
  obtain ⟨dv, D, e4, rd, dl⟩ := cellsBytes f4 hw4
  obtain ⟨hv', hb, e8, rh, hl8⟩ := cellsHashes f8 hw8
  obtain ⟨l5, b5⟩ := cellsHash f5
  have e5 := bytes_of (cs := ((Value.agg cs).cells.toList.drop 5).take 32) (fun i hi => b5 i (by rw [l5] at hi; exact hi))
  refine ⟨⟨a0, a1, a2, a3, dv, (((Value.agg cs).cells.toList.drop 5).take 32).map asB, a6, a7, hv'⟩, D, hb, ?_, ⟨⟨by rw [List.length_map, l5], ?_, ?_⟩, rd, rh, dl, hl8⟩⟩
  · have e := split40 _ hcs
    rw [e0, e1, e2, e3, e4, e5, e6, e7, e8] at e
    congr 1
    apply Array.ext'
    have e' : cs.toList = _ := e
    rw [e']
    simp [Mv.cs, Mv.ls]
  · obtain ⟨a, c, e, _⟩ := rd
    exact ⟨_, _, _, e⟩
  · obtain ⟨a, n, c, e, _⟩ := rh
    exact ⟨_, _, _, e⟩
end Go.Proofs.YtnmeohacdbmplaaGreatDoor
namespace Go.Proofs.YtnmeohacdbmplaaGreatDoor
open Go.ChangeShapes Go.WideShapes Go.ChangeAt Go.RowKit
set_option maxRecDepth 100000 in
/-- an argument that is a slice of bytes -/
theorem openBytes {H : Type} {enc : TypeId × Value → H} {W : World} {base : Nat} {v : Value} {d : DataW H} {p : List MemPlace} (hv : Value.okWide Tryz.prog W .any base 31 v)
    (h : DataW.Trod enc Tryz.prog W 0 (fun _ => true) true 31 v d p) (hw : ∀ q ∈ DataW.weights Tryz.prog 31 d, q ≤ reachBytes) :
    ∃ l, RB W v l ∧ l.length ≤ 140737488351232 := by
  obtain ⟨a, len, cap, rfl⟩ := okWide_slice Tryz.underlying31 hv
  obtain ⟨fuel, hf⟩ := h
  obtain ⟨v', l, e, hr, hl⟩ := cellsBytes hf hw
  have e2 : (Value.slice a len cap).cells.toList = [Value.slice a len cap] := rfl
  rw [e2] at e
  simp at e
  rw [e]
  exact ⟨l, hr, hl⟩
end Go.Proofs.YtnmeohacdbmplaaGreatDoor
namespace Go.Proofs.YtnmeohacdbmplaaGreatDoor
open Go.ChangeShapes Go.WideShapes Go.ChangeAt Go.RowKit Go.Deep
theorem bulk_pos {H : Type} : ∀ d : DataW H, 1 ≤ Rows.uptoBulk d
  | .lit (.string b) => by simp [Rows.uptoBulk]
  | .lit (.int _ _) => by simp [Rows.uptoBulk]
  | .lit (.bool _) => by simp [Rows.uptoBulk]
  | .lit (.float _ _) => by simp [Rows.uptoBulk]
  | .lit .nil => by simp [Rows.uptoBulk]
  | .nil => by simp [Rows.uptoBulk]
  | .ptr d => by simp [Rows.uptoBulk]
  | .slice _ _ => by simp [Rows.uptoBulk]
  | .agg _ => by simp [Rows.uptoBulk]
  | .iface _ d => by simp [Rows.uptoBulk]
  | .map _ => by simp [Rows.uptoBulk]
  | .held _ => by simp [Rows.uptoBulk]
theorem bulk_len {H : Type} : ∀ l : List (DataW H), l.length ≤ Rows.uptoBulkAll l
  | [] => by simp [Rows.uptoBulkAll]
  | d :: l => by
    have := bulk_len l
    have := bulk_pos d
    simp [Rows.uptoBulkAll]; omega
theorem bulk_mem {H : Type} {d : DataW H} : ∀ {l : List (DataW H)}, d ∈ l → Rows.uptoBulk d ≤ Rows.uptoBulkAll l
  | [], h => by cases h
  | a :: l, h => by
    simp only [Rows.uptoBulkAll]
    rcases List.mem_cons.1 h with rfl | h
    · omega
    · have := bulk_mem h; omega
section
variable {H : Type} {enc : TypeId × Value → H} {w : World}
theorem openRowB {t e : TypeId} (ht : Tryz.prog.underlying t = some (.slice e)) {fuel : Nat} {v : Value} {x : DataW H × List MemPlace} (h : DataW.trod enc Tryz.prog w 0 (fun _ => true) true fuel t [v] = some x) (hc : 0 < Tryz.prog.cellsOf e) :
    ∃ (a : Option Addr) (len cap : Nat), v = .slice a len cap ∧ len ≤ cap ∧ (len = 0 ∨ ∃ (m : Nat) (elems : List (DataW H × List MemPlace)), elems.length = len ∧ Rows.uptoBulkAll (elems.map (·.1)) + 1 ≤ Rows.uptoBulk x.1 ∧ ∃ b o, a = some ⟨b, o, none⟩ ∧ b < w.heap.size ∧
      ∀ i (hi : i < elems.length), ∃ cs, cs.length = Tryz.prog.cellsOf e ∧ (∀ j, j < Tryz.prog.cellsOf e → w.cell? ⟨b, o + i * Tryz.prog.cellsOf e + j, none⟩ = cs[j]?) ∧ DataW.trod enc Tryz.prog w 0 (fun _ => true) true m e cs = some elems[i]) := by
  rcases DataW.trod_slice ht h with ⟨h0, rfl⟩ | ⟨a, len, cap, elems, rest, m, rfl, h0, rfl, _, hlc, _, hlen, hel, _, _⟩
  · simp at h0
    exact ⟨none, 0, 0, h0, Nat.le_refl _, .inl rfl⟩
  simp at h0
  subst h0
  refine ⟨some a, len, cap, rfl, hlc, ?_⟩
  by_cases h00 : len = 0
  · exact .inl h00
  have key : ∀ i (hi : i < elems.length), ∃ cs, w.cells? 0 (a.add (i * Tryz.prog.cellsOf e)) (Tryz.prog.cellsOf e) = some cs ∧ DataW.trod enc Tryz.prog w 0 (fun _ => true) true m e cs = some elems[i] := by
    intro i hi
    have := hel i (by omega)
    rw [List.getElem?_eq_getElem (by omega)] at this
    obtain ⟨cs', h1, h2⟩ := Option.bind_eq_some_iff.1 this
    exact ⟨cs', h1, h2⟩
  have cellof : ∀ {a' : Addr} {c : Nat} {cs : List Value}, w.cells? 0 a' c = some cs → cs.length = c ∧ ∀ j, j < c → w.cell? (a'.add j) = cs[j]? := fun h => ⟨(World.cells?_some h).2.1, (World.cells?_some h).2.2⟩
  obtain ⟨b, o, spot⟩ := a
  have hspot : spot = none ∧ b < w.heap.size := by
    obtain ⟨cs, h1, _⟩ := key 0 (by omega)
    obtain ⟨hl, hj⟩ := cellof h1
    have := hj 0 hc
    rw [List.getElem?_eq_getElem (by omega)] at this
    have h2 := World.cell?_spot this
    have h3 := World.block_lt_of_cell? w _ this
    simp [Addr.add] at h2 h3
    exact ⟨h2, h3⟩
  obtain ⟨rfl, hb⟩ := hspot
  have hadd : ∀ o i : Nat, (⟨b, o, none⟩ : Addr).add i = ⟨b, o + i, none⟩ := by intro o i; unfold Addr.add; split <;> simp_all
  refine .inr ⟨m, elems, hlen, by simp only [Rows.uptoBulk]; omega, b, o, rfl, hb, fun i hi => ?_⟩
  obtain ⟨cs, h1, h2⟩ := key i hi
  obtain ⟨hl, hj⟩ := cellof h1
  refine ⟨cs, hl, fun j hj' => ?_, h2⟩
  have := hj j hj'
  rw [hadd, hadd] at this
  exact this
theorem cells5 : Tryz.prog.cellsOf 5 = 1 := by kernel_rfl
theorem cells3 : Tryz.prog.cellsOf 3 = 1 := by kernel_rfl
theorem cellsB : Tryz.prog.cellsOf 31 = 1 := by kernel_rfl
theorem lists_of {α : Type} (f : Nat → α) (n : Nat) : ∃ L : List α, L.length = n ∧ ∀ i, i < n → L[i]? = some (f i) :=
  ⟨(List.range n).map f, by simp, fun i hi => by simp [hi]⟩
/-- a list of bytes that is read, and its bulk -/
theorem openBytesB {fuel : Nat} {v : Value} {x : DataW H × List MemPlace} (h : DataW.trod enc Tryz.prog w 0 (fun _ => true) true fuel 31 [v] = some x) :
    ∃ l, RB w v l ∧ l.length + 1 ≤ Rows.uptoBulk x.1 := by
  obtain ⟨a, len, cap, rfl, hlc, hrow⟩ := openRowB Tryz.underlying31 h (by rw [cells5]; omega)
  rcases hrow with rfl | ⟨m, elems, hlen, hbulk, b, o, rfl, hlt, hel⟩
  · exact ⟨[], ⟨a, cap, rfl, hlc, .inl rfl⟩, by have := bulk_pos x.1; simpa using this⟩
  have : ∀ i, i < len → ∃ c : UInt8, w.cell? ⟨b, o + i, none⟩ = some (.int .u8 (c.toNat : Int)) := fun i hi => by
    obtain ⟨cs, hcl, hc, ht⟩ := hel i (by omega)
    have h0 := hc 0 (by rw [cells5]; omega)
    rw [cells5] at h0 hcl
    obtain ⟨y, rfl⟩ := List.length_eq_one_iff.1 hcl
    obtain ⟨z, e0, _, wa⟩ := DataW.trod_int Tryz.underlying5 ht
    have h255 : 0 ≤ z ∧ z ≤ 255 := by simpa [Lit.wf, IntKind.min, IntKind.max, IntKind.signed, IntKind.bits] using wa
    simp at e0
    subst e0
    refine ⟨UInt8.ofNat z.toNat, ?_⟩
    rw [UInt8.toNat_ofNat', Nat.mod_eq_of_lt (by omega)]
    simp at h0
    rw [h0]
    congr 2
    omega
  have hinh : Inhabited UInt8 := ⟨0⟩
  obtain ⟨f, hf⟩ := choose_lt this
  obtain ⟨l, rfl, hl⟩ := lists_of f len
  refine ⟨l, ⟨_, cap, rfl, hlc, .inr ⟨b, o, rfl, hlt, fun i hi => ?_⟩⟩, ?_⟩
  · have : byt l i = f i := by unfold byt; simp [List.getD, hl i hi]
    rw [this]; exact hf i hi
  · have := bulk_len (elems.map (·.1)); rw [List.length_map] at this; omega
set_option maxRecDepth 100000 in
theorem openBytesU {base : Nat} {v : Value} {d : DataW H} {ps : List MemPlace} (hv : Value.okWide Tryz.prog w .any base 31 v)
    (h : DataW.Trod enc Tryz.prog w 0 (fun _ => true) true 31 v d ps) : ∃ l, RB w v l ∧ l.length + 1 ≤ Rows.uptoBulk d := by
  obtain ⟨a0, len0, cap0, rfl⟩ := okWide_slice Tryz.underlying31 hv
  obtain ⟨fuel, hf⟩ := h
  have hf' : DataW.trod enc Tryz.prog w 0 (fun _ => true) true fuel 31 [.slice a0 len0 cap0] = some (d, ps) := hf
  exact openBytesB hf'
end
end Go.Proofs.YtnmeohacdbmplaaGreatDoor
namespace Go.Proofs.YtnmeohacdbmplaaGreatDoor
open Go.ChangeShapes Go.WideShapes Go.ChangeAt Go.RowKit Go.Deep
theorem one_of {L : List Value} {k : Nat} (h : k < L.length) : ∃ v, (L.drop k).take 1 = [v] := ⟨L[k], by rw [List.drop_eq_getElem_cons h]; rfl⟩
theorem bulk_times {H : Type} (c : Nat) : ∀ E : List (DataW H), (∀ e ∈ E, c ≤ Rows.uptoBulk e) → c * E.length ≤ Rows.uptoBulkAll E
  | [], _ => by simp
  | d :: E, h => by
    have h1 := bulk_times c E (fun e he => h e (by simp [he]))
    have h2 := h d (by simp)
    simp only [Rows.uptoBulkAll, List.length_cons, Nat.mul_add, Nat.mul_one]
    omega
section
variable {H : Type} {enc : TypeId × Value → H} {w : World}
set_option maxRecDepth 100000 in
theorem hashBulk {m : Nat} {cs : List Value} {x : DataW H × List MemPlace} (h : DataW.trod enc Tryz.prog w 0 (fun _ => true) true m 25 cs = some x) : 32 ≤ Rows.uptoBulk x.1 := by
  obtain ⟨xs, m', _, hx, hlen, hxs, hget⟩ := DataW.trod_array Tryz.underlying25 h
  have e : x.1 = .agg (xs.map (·.1)) := congrArg Prod.fst hx
  rw [e]
  simp only [Rows.uptoBulk]
  have := bulk_len (xs.map (·.1))
  rw [List.length_map, hxs] at this
  omega
set_option maxRecDepth 100000 in
theorem openHashesB {fuel : Nat} {v : Value} {x : DataW H × List MemPlace} (h : DataW.trod enc Tryz.prog w 0 (fun _ => true) true fuel 45 [v] = some x) :
    ∃ l, RH w v l ∧ l.length + 1 ≤ Rows.uptoBulk x.1 := by
  have c32 : Tryz.prog.cellsOf 25 = 32 := by kernel_rfl
  obtain ⟨a, len, cap, rfl, hlc, hrow⟩ := openRowB Tryz.underlying45 h (by rw [c32]; omega)
  rcases hrow with rfl | ⟨m, elems, hlen, hbulk, b, o, rfl, hlt, hel⟩
  · exact ⟨[], ⟨a, 0, cap, rfl, rfl, hlc, .inl rfl⟩, by have := bulk_pos x.1; simpa using this⟩
  have key : ∀ i, i < len * 32 → ∃ y : UInt8, w.cell? ⟨b, o + i, none⟩ = some (.int .u8 (y.toNat : Int)) := by
    intro i hi
    obtain ⟨cs', h1, h2, h3⟩ := hel (i / 32) (by omega)
    rw [c32] at h1 h2
    obtain ⟨hl32, hby⟩ := cellsHash h3
    obtain ⟨y, hy⟩ := hby (i % 32) (by omega)
    refine ⟨y, ?_⟩
    have := h2 (i % 32) (by omega)
    rw [hy, show o + i / 32 * 32 + i % 32 = o + i by omega] at this
    exact this
  have hinh : Inhabited UInt8 := ⟨0⟩
  obtain ⟨f, hf⟩ := choose_lt key
  obtain ⟨l, hll, hl⟩ := lists_of f (len * 32)
  refine ⟨l, ⟨_, len, cap, rfl, hll, hlc, .inr ⟨b, o, rfl, hlt, fun i hi => ?_⟩⟩, ?_⟩
  · rw [hll] at hi
    have : byt l i = f i := by unfold byt; simp [List.getD, hl i hi]
    rw [this]; exact hf i hi
  · have h9 := bulk_times 32 (elems.map (·.1)) (fun e he => by
      obtain ⟨y, hy, rfl⟩ := List.mem_map.1 he
      obtain ⟨i, hi, rfl⟩ := List.getElem_of_mem hy
      obtain ⟨cs', _, _, h3⟩ := hel i hi
      exact hashBulk h3)
    rw [List.length_map] at h9
    omega
set_option maxRecDepth 100000 in
/-- the cells of a message, and its bulk -/
theorem openMsgC {fuel : Nat} {cs : List Value} {x : DataW H × List MemPlace} (hf : DataW.trod enc Tryz.prog w 0 (fun _ => true) true fuel 47 cs = some x) (hbk : Rows.uptoBulk x.1 ≤ 1048576) :
    ∃ y : Mg, cs = y.m.ls ∧ MM w y.m y.D y.hb ∧ 10 + y.D.length + y.hb.length ≤ Rows.uptoBulk x.1 := by
  obtain ⟨xs, n, _, hx, hl, hlen, hf⟩ := DataW.trod_struct Tryz.underlying47 hf
  have hL : xs.length = 9 := hlen
  have hd : x.1 = .agg (xs.map (·.1)) := congrArg Prod.fst hx
  have hcs : cs.length = 40 := hl.trans (by kernel_rfl)
  have f0 : DataW.trod enc Tryz.prog w 0 (fun _ => true) true n 3 ((cs.drop 0).take (Tryz.prog.cellsOf 3)) = xs[0]? := hf 0 _ rfl
  have f1 : DataW.trod enc Tryz.prog w 0 (fun _ => true) true n 3 ((cs.drop 1).take (Tryz.prog.cellsOf 3)) = xs[1]? := hf 1 _ rfl
  have f2 : DataW.trod enc Tryz.prog w 0 (fun _ => true) true n 3 ((cs.drop 2).take (Tryz.prog.cellsOf 3)) = xs[2]? := hf 2 _ rfl
  have f3 : DataW.trod enc Tryz.prog w 0 (fun _ => true) true n 3 ((cs.drop 3).take (Tryz.prog.cellsOf 3)) = xs[3]? := hf 3 _ rfl
  have f4 : DataW.trod enc Tryz.prog w 0 (fun _ => true) true n 31 ((cs.drop 4).take (Tryz.prog.cellsOf 31)) = xs[4]? := hf 4 _ rfl
  have f5 : DataW.trod enc Tryz.prog w 0 (fun _ => true) true n 25 ((cs.drop 5).take (Tryz.prog.cellsOf 25)) = xs[5]? := hf 5 _ rfl
  have f6 : DataW.trod enc Tryz.prog w 0 (fun _ => true) true n 3 ((cs.drop 37).take (Tryz.prog.cellsOf 3)) = xs[6]? := hf 6 _ rfl
  have f7 : DataW.trod enc Tryz.prog w 0 (fun _ => true) true n 3 ((cs.drop 38).take (Tryz.prog.cellsOf 3)) = xs[7]? := hf 7 _ rfl
  have f8 : DataW.trod enc Tryz.prog w 0 (fun _ => true) true n 45 ((cs.drop 39).take (Tryz.prog.cellsOf 45)) = xs[8]? := hf 8 _ rfl
  obtain ⟨y0, y1, y2, y3, y4, y5, y6, y7, y8, rfl⟩ : ∃ y0 y1 y2 y3 y4 y5 y6 y7 y8, xs = [y0, y1, y2, y3, y4, y5, y6, y7, y8] := by
    match xs, hL with
    | [y0, y1, y2, y3, y4, y5, y6, y7, y8], _ => exact ⟨y0, y1, y2, y3, y4, y5, y6, y7, y8, rfl⟩
  clear hf
  replace f0 : _ = some y0 := f0
  replace f1 : _ = some y1 := f1
  replace f2 : _ = some y2 := f2
  replace f3 : _ = some y3 := f3
  replace f4 : _ = some y4 := f4
  replace f5 : _ = some y5 := f5
  replace f6 : _ = some y6 := f6
  replace f7 : _ = some y7 := f7
  replace f8 : _ = some y8 := f8
  have k3 : Tryz.prog.cellsOf 3 = 1 := by kernel_rfl
  have k22 : Tryz.prog.cellsOf 31 = 1 := by kernel_rfl
  have k26 : Tryz.prog.cellsOf 45 = 1 := by kernel_rfl
  have k25 : Tryz.prog.cellsOf 25 = 32 := by kernel_rfl
  rw [k3] at f0 f1 f2 f3 f6 f7
  rw [k22] at f4
  rw [k25] at f5
  rw [k26] at f8
  obtain ⟨a0, e0, _⟩ := DataW.trod_int Tryz.underlying3 f0
  obtain ⟨a1, e1, _⟩ := DataW.trod_int Tryz.underlying3 f1
  obtain ⟨a2, e2, _⟩ := DataW.trod_int Tryz.underlying3 f2
  obtain ⟨a3, e3, _⟩ := DataW.trod_int Tryz.underlying3 f3
  obtain ⟨a6, e6, _⟩ := DataW.trod_int Tryz.underlying3 f6
  obtain ⟨a7, e7, _⟩ := DataW.trod_int Tryz.underlying3 f7
  obtain ⟨dv, e4⟩ := one_of (L := cs) (k := 4) (by omega)
  obtain ⟨hv', e8⟩ := one_of (L := cs) (k := 39) (by omega)
  rw [e4] at f4
  rw [e8] at f8
  obtain ⟨D, rd, dl⟩ := openBytesB f4
  obtain ⟨hb, rh, hl8⟩ := openHashesB f8
  obtain ⟨l5, b5⟩ := cellsHash f5
  have e5 := bytes_of (cs := (cs.drop 5).take 32) (fun i hi => b5 i (by rw [l5] at hi; exact hi))
  have hbulk : 10 + D.length + hb.length ≤ Rows.uptoBulk x.1 := by
    rw [hd]
    simp only [List.map_cons, List.map_nil, Rows.uptoBulk, Rows.uptoBulkAll]
    have p0 := bulk_pos y0.1
    have p1 := bulk_pos y1.1
    have p2 := bulk_pos y2.1
    have p3 := bulk_pos y3.1
    have p5 := bulk_pos y5.1
    have p6 := bulk_pos y6.1
    have p7 := bulk_pos y7.1
    omega
  refine ⟨⟨⟨a0, a1, a2, a3, dv, ((cs.drop 5).take 32).map asB, a6, a7, hv'⟩, D, hb⟩, ?_, ⟨⟨by rw [List.length_map, l5], ?_, ?_⟩, rd, rh, by simp only; omega, by simp only; omega⟩, hbulk⟩
  · have e := split40 _ hcs
    rw [e0, e1, e2, e3, e4, e5, e6, e7, e8] at e
    exact e.trans (by simp [Mv.ls])
  · obtain ⟨a, c, e, _⟩ := rd
    exact ⟨_, _, _, e⟩
  · obtain ⟨a, n, c, e, _⟩ := rh
    exact ⟨_, _, _, e⟩
/-- how much these messages weigh -/
def mgW (ms : List Mg) : Nat := (ms.map fun y => 10 + y.D.length + y.hb.length).sum
theorem mgW_bulk : ∀ (ms : List Mg) (E : List (DataW H)), ms.length = E.length → (∀ i (hi : i < E.length) y, ms[i]? = some y → 10 + y.D.length + y.hb.length ≤ Rows.uptoBulk E[i]) → mgW ms ≤ Rows.uptoBulkAll E
  | [], _, _, _ => by simp [mgW]
  | y :: ms, [], h, _ => by simp at h
  | y :: ms, e :: E, h, hb => by
    have h1 := mgW_bulk ms E (by simpa using h) (fun i hi z hz => hb (i + 1) (by simpa using hi) z (by simpa using hz))
    have h2 := hb 0 (by simp) y rfl
    simp only [List.getElem_cons_zero] at h2
    simp only [mgW, List.map_cons, List.sum_cons, Rows.uptoBulkAll] at h1 ⊢
    omega
set_option maxRecDepth 100000 in
/-- an argument that is a slice of messages -/
theorem openMsgsU {base : Nat} {v : Value} {d : DataW H} {ps : List MemPlace} (hv : Value.okWide Tryz.prog w .any base 68 v)
    (h : DataW.Trod enc Tryz.prog w 0 (fun _ => true) true 68 v d ps) (hbk : Rows.uptoBulk d ≤ 1048576) : ∃ ms, RMS w v ms ∧ mgW ms + 1 ≤ Rows.uptoBulk d := by
  obtain ⟨a0, len0, cap0, rfl⟩ := okWide_slice Tryz.underlying68 hv
  obtain ⟨fuel, hf⟩ := h
  have hf' : DataW.trod enc Tryz.prog w 0 (fun _ => true) true fuel 68 [.slice a0 len0 cap0] = some (d, ps) := hf
  have c40 : Tryz.prog.cellsOf 47 = 40 := by kernel_rfl
  obtain ⟨a, len, cap, he, hlc, hrow⟩ := openRowB Tryz.underlying68 hf' (by rw [c40]; omega)
  rw [he]
  rcases hrow with rfl | ⟨m, elems, hlen, hbulk, b, o, rfl, hlt, hel⟩
  · exact ⟨[], ⟨a, cap, rfl, hlc, .inl rfl, by simp⟩, by have := bulk_pos d; simpa [mgW] using this⟩
  have key : ∀ i, i < len → ∃ y : Mg, w.rangeAt b (o + i * 40) y.m.ls ∧ MM w y.m y.D y.hb ∧ ∀ hi : i < elems.length, 10 + y.D.length + y.hb.length ≤ Rows.uptoBulk elems[i].1 := by
    intro i hi
    obtain ⟨cs, h1, h2, h3⟩ := hel i (by omega)
    rw [c40] at h1 h2
    have hbi : Rows.uptoBulk elems[i].1 ≤ Rows.uptoBulkAll (elems.map (·.1)) := bulk_mem (List.mem_map.2 ⟨elems[i], List.getElem_mem _, rfl⟩)
    obtain ⟨y, e1, e2, e3⟩ := openMsgC h3 (by simp only at hbulk; omega)
    refine ⟨y, fun j u hu => ?_, e2, fun _ => e3⟩
    have hj : j < 40 := by
      have := (List.getElem?_eq_some_iff.1 hu).1
      rw [ok_ls e2.ok] at this; exact this
    rw [h2 j hj, e1]; exact hu
  have hinh : Inhabited Mg := ⟨⟨zm, [], []⟩⟩
  obtain ⟨f, hf2⟩ := choose_lt key
  obtain ⟨ms, hml, hms⟩ := lists_of f len
  refine ⟨ms, ⟨_, cap, by rw [hml], by omega, .inr ⟨b, o, rfl, hlt, fun i x hx => ?_⟩, fun x hx => ?_⟩, ?_⟩
  · have hi : i < len := by rw [← hml]; exact (List.getElem?_eq_some_iff.1 hx).1
    rw [hms i hi] at hx
    cases hx
    exact (hf2 i hi).1
  · obtain ⟨i, hi, rfl⟩ := List.getElem_of_mem hx
    have hi' : i < len := by omega
    have := hms i hi'
    rw [List.getElem?_eq_getElem hi] at this
    have e9 := Option.some.inj this
    rw [e9]
    exact (hf2 i hi').2.1
  · have h9 := mgW_bulk ms (elems.map (·.1)) (by rw [List.length_map]; omega) (fun i hi y hy => by
      rw [List.length_map] at hi
      rw [hms i (by omega)] at hy
      cases hy
      rw [List.getElem_map]
      exact (hf2 i (by omega)).2.2 hi)
    simp only at hbulk
    omega
end
end Go.Proofs.YtnmeohacdbmplaaGreatDoor
namespace Go.Proofs.YtnmeohacdbmplaaGreatDoor
open Go.ChangeShapes Go.WideShapes Go.ChangeAt Go.RowKit Go.Joins Go.Deep
section
variable {H : Type} {enc : TypeId × Value → H} {w : World}
set_option maxRecDepth 100000 in
theorem openMsgU {base : Nat} {v : Value} {d : DataW H} {p : List MemPlace} (hv : Value.okWide Tryz.prog w .any base 47 v)
    (h : DataW.Trod enc Tryz.prog w 0 (fun _ => true) true 47 v d p) (hbk : Rows.uptoBulk d ≤ 1048576) : ∃ y : Mg, v = .agg y.m.cs ∧ MM w y.m y.D y.hb ∧ 10 + y.D.length + y.hb.length ≤ Rows.uptoBulk d := by
  obtain ⟨cs, rfl, _⟩ := okWide_struct Tryz.underlying47 hv
  obtain ⟨fuel, hf⟩ := h
  obtain ⟨y, e, hm, hl⟩ := openMsgC hf hbk
  refine ⟨y, ?_, hm, hl⟩
  have e' : cs.toList = y.m.ls := e
  rw [Mv.cs, ← e']
set_option maxRecDepth 100000 in
/-- a list of numbers that is read, and its bulk -/
theorem openIntsZ {base : Nat} {v : Value} {d : DataW H} {ps : List MemPlace} (hv : Value.okWide Tryz.prog w .any base 26 v)
    (h : DataW.Trod enc Tryz.prog w 0 (fun _ => true) true 26 v d ps) : ∃ zs, Bs.RZ w v zs ∧ zs.length + 1 ≤ Rows.uptoBulk d ∧ (∀ z ∈ zs, -9223372036854775808 ≤ z ∧ z ≤ 9223372036854775807) := by
  obtain ⟨a0, len0, cap0, rfl⟩ := okWide_slice Tryz.underlying26 hv
  obtain ⟨fuel, hf⟩ := h
  have hf' : DataW.trod enc Tryz.prog w 0 (fun _ => true) true fuel 26 [.slice a0 len0 cap0] = some (d, ps) := hf
  obtain ⟨a, len, cap, e, hlc, hrow⟩ := openRowB Tryz.underlying26 hf' (by rw [cells3]; omega)
  obtain ⟨rfl, rfl, rfl⟩ : a0 = a ∧ len0 = len ∧ cap0 = cap := by simpa using e
  rcases hrow with rfl | ⟨m, elems, hlen, hbulk, b, o, rfl, hlt, hel⟩
  · exact ⟨[], ⟨_, _, rfl, fun _ => rfl, .inl rfl⟩, by have := bulk_pos d; simpa using this, fun z hz => by cases hz⟩
  have : ∀ i, i < len0 → ∃ c : Int, w.cell? ⟨b, o + i, none⟩ = some (.int .i64 c) ∧ -9223372036854775808 ≤ c ∧ c ≤ 9223372036854775807 := fun i hi => by
    obtain ⟨cs, hcl, hc, ht⟩ := hel i (by omega)
    have h0 := hc 0 (by rw [cells3]; omega)
    rw [cells3] at h0 hcl
    obtain ⟨y, rfl⟩ := List.length_eq_one_iff.1 hcl
    obtain ⟨z, e0, _, wa⟩ := DataW.trod_int Tryz.underlying3 ht
    have hz : -9223372036854775808 ≤ z ∧ z ≤ 9223372036854775807 := by simpa [Lit.wf, IntKind.min, IntKind.max, IntKind.signed, IntKind.bits] using wa
    simp at e0
    subst e0
    refine ⟨z, ?_, hz⟩
    simpa using h0
  have hinh : Inhabited Int := ⟨0⟩
  obtain ⟨f, hf⟩ := choose_lt this
  obtain ⟨l, rfl, hl⟩ := lists_of f len0
  refine ⟨l, ⟨_, _, rfl, (fun h => by cases h), .inr ⟨b, o, rfl, hlt, fun i hi => ?_⟩⟩, ?_, fun z hz => ?_⟩
  · have : Bs.iz l i = f i := by unfold Bs.iz; simp [List.getD, hl i hi]
    rw [this]; exact (hf i hi).1
  · have := bulk_len (elems.map (·.1)); rw [List.length_map] at this; show _ ≤ Rows.uptoBulk d; have : Rows.uptoBulk (d, ps).1 = Rows.uptoBulk d := rfl; omega
  · obtain ⟨i, hi, rfl⟩ := List.getElem_of_mem hz
    have h1 := hl i hi
    rw [List.getElem?_eq_getElem hi] at h1
    rw [Option.some.inj h1]
    exact (hf i hi).2
theorem cells23 : Tryz.prog.cellsOf 23 = 2 := by kernel_rfl
set_option maxRecDepth 100000 in
/-- a scale -/
theorem openScale {base : Nat} {v : Value} {d : DataW H} {p : List MemPlace} (hv : Value.okWide Tryz.prog w .any base 23 v)
    (h : DataW.Trod enc Tryz.prog w 0 (fun _ => true) true 23 v d p) : ∃ a b : Int, v = Bs.sc a b ∧ -9223372036854775808 ≤ a ∧ a ≤ 9223372036854775807 ∧ -9223372036854775808 ≤ b ∧ b ≤ 9223372036854775807 := by
  obtain ⟨c0, c1, y0, y1, m, rfl, rfl, rfl, hy0, hy1⟩ := open_agg2 Tryz.underlying23 (by kernel_rfl) cells23 hv h
  obtain ⟨a, e0, -, wa⟩ := DataW.trod_int Tryz.underlying3 hy0
  obtain ⟨b, e1, -, wb⟩ := DataW.trod_int Tryz.underlying3 hy1
  simp at e0 e1
  subst e0 e1
  have ha : -9223372036854775808 ≤ a ∧ a ≤ 9223372036854775807 := by simpa [Lit.wf, IntKind.min, IntKind.max, IntKind.signed, IntKind.bits] using wa
  have hb : -9223372036854775808 ≤ b ∧ b ≤ 9223372036854775807 := by simpa [Lit.wf, IntKind.min, IntKind.max, IntKind.signed, IntKind.bits] using wb
  exact ⟨a, b, rfl, ha.1, ha.2, hb.1, hb.2⟩
set_option maxRecDepth 100000 in
/-- a hash -/
theorem openHashU {base : Nat} {v : Value} {d : DataW H} {p : List MemPlace} (hv : Value.okWide Tryz.prog w .any base 25 v)
    (h : DataW.Trod enc Tryz.prog w 0 (fun _ => true) true 25 v d p) : ∃ hb : List UInt8, v = .agg (bc hb) ∧ hb.length = 32 := by
  simp only [Value.okWide, Tryz.underlying25] at hv
  obtain ⟨cs, rfl, _⟩ := hv
  obtain ⟨fuel, hf⟩ := h
  obtain ⟨l5, b5⟩ := cellsHash (cs := cs.toList) hf
  have e5 := bytes_of (cs := cs.toList) (fun i hi => b5 i (by rw [l5] at hi; exact hi))
  refine ⟨cs.toList.map asB, ?_, by rw [List.length_map, l5]⟩
  unfold bc
  rw [← e5]
set_option maxRecDepth 100000 in
/-- the cells of an array of bytes -/
theorem cellsArr {t : TypeId} {n : Nat} (ht : Tryz.prog.underlying t = some (.array n 5)) (hc : Tryz.prog.cellsOf t = n) {fuel : Nat} {cs : List Value} {x : DataW H × List MemPlace}
    (hf : DataW.trod enc Tryz.prog w 0 (fun _ => true) true fuel t cs = some x) : cs.length = n ∧ ∀ i, i < n → ∃ a : UInt8, cs[i]? = some (.int .u8 (a.toNat : Int)) := by
  obtain ⟨xs, m, _, _, hlen, hxs, hget⟩ := DataW.trod_array ht hf
  have c5 : Tryz.prog.cellsOf 5 = 1 := by kernel_rfl
  rw [hc] at hlen
  refine ⟨hlen, fun i hi => ?_⟩
  have h1 := hget i hi
  rw [c5, Nat.mul_one, List.getElem?_eq_getElem (by omega)] at h1
  exact cellByte (by omega) h1
set_option maxRecDepth 100000 in
/-- a handshake -/
theorem openHelloU {base : Nat} {v : Value} {d : DataW H} {p : List MemPlace} (hv : Value.okWide Tryz.prog w .any base 30 v)
    (h : DataW.Trod enc Tryz.prog w 0 (fun _ => true) true 30 v d p) : ∃ hb : List UInt8, v = .agg (bc hb) ∧ hb.length = 48 := by
  obtain ⟨cs, rfl, _⟩ := okWide_struct Tryz.underlying30 hv
  obtain ⟨fuel, hf⟩ := h
  obtain ⟨xs, n, _, hx, hl, hlen, hf⟩ := DataW.trod_struct (cs := cs.toList) Tryz.underlying30 hf
  have hL : xs.length = 3 := hlen
  have hcs : cs.toList.length = 48 := hl.trans (by kernel_rfl)
  have f0 : DataW.trod enc Tryz.prog w 0 (fun _ => true) true n 27 ((cs.toList.drop 0).take (Tryz.prog.cellsOf 27)) = xs[0]? := hf 0 _ rfl
  have f1 : DataW.trod enc Tryz.prog w 0 (fun _ => true) true n 28 ((cs.toList.drop 8).take (Tryz.prog.cellsOf 28)) = xs[1]? := hf 1 _ rfl
  have f2 : DataW.trod enc Tryz.prog w 0 (fun _ => true) true n 28 ((cs.toList.drop 28).take (Tryz.prog.cellsOf 28)) = xs[2]? := hf 2 _ rfl
  obtain ⟨y0, y1, y2, rfl⟩ : ∃ y0 y1 y2, xs = [y0, y1, y2] := by
    match xs, hL with
    | [y0, y1, y2], _ => exact ⟨y0, y1, y2, rfl⟩
  clear hf
  replace f0 : _ = some y0 := f0
  replace f1 : _ = some y1 := f1
  replace f2 : _ = some y2 := f2
  have k8 : Tryz.prog.cellsOf 27 = 8 := by kernel_rfl
  have k20 : Tryz.prog.cellsOf 28 = 20 := by kernel_rfl
  rw [k8] at f0
  rw [k20] at f1 f2
  obtain ⟨l0, b0⟩ := cellsArr Tryz.underlying27 k8 f0
  obtain ⟨l1, b1⟩ := cellsArr Tryz.underlying28 k20 f1
  obtain ⟨l2, b2⟩ := cellsArr Tryz.underlying28 k20 f2
  have key : ∀ i, i < cs.toList.length → ∃ a : UInt8, cs.toList[i]? = some (.int .u8 (a.toNat : Int)) := fun i hi => by
    by_cases h8 : i < 8
    · obtain ⟨a, ha⟩ := b0 i h8
      rw [List.getElem?_take_of_lt h8, List.getElem?_drop, Nat.zero_add] at ha
      exact ⟨a, ha⟩
    · by_cases h28 : i < 28
      · obtain ⟨a, ha⟩ := b1 (i - 8) (by omega)
        rw [List.getElem?_take_of_lt (by omega), List.getElem?_drop, show 8 + (i - 8) = i by omega] at ha
        exact ⟨a, ha⟩
      · obtain ⟨a, ha⟩ := b2 (i - 28) (by omega)
        rw [List.getElem?_take_of_lt (by omega), List.getElem?_drop, show 28 + (i - 28) = i by omega] at ha
        exact ⟨a, ha⟩
  have e5 := bytes_of key
  refine ⟨cs.toList.map asB, ?_, by rw [List.length_map, hcs]⟩
  unfold bc
  rw [← e5]
end
end Go.Proofs.YtnmeohacdbmplaaGreatDoor
