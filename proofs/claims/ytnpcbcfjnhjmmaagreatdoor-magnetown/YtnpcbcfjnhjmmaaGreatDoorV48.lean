import Derived.Test.YtnpcbcfjnhjmmaaGreatDoorV46
import Derived.Test.YtnpcbcfjnhjmmaaGreatDoorV40
import Derived.ProofKit
import Derived.OpenShut
import Derived.SizedLaws
import Derived.Carry
namespace Go.Proofs.YtnpcbcfjnhjmmaaGreatDoor
open Go.ChangeShapes Go.WideShapes Go.ChangeAt Go.RowKit Go.Deep
theorem trodLt {H : Type} {enc : TypeId × Value → H} {W : World} {t : TypeId} {v : Value} {d : DataW H} {p : List MemPlace} (h : DataW.Trod enc Tryz.prog W 0 (fun _ => true) true t v d p) : ∀ x ∈ p, x.block < W.heap.size := by
  obtain ⟨m, hm⟩ := h
  exact DataW.trod_lt m _ _ _ hm
theorem cellsRng : Tryz.prog.cellsOf 36 = 2 := by kernel_rfl
theorem bytesRng : Tryz.prog.bytesOf 36 = 16 := by kernel_rfl
theorem bytes9 : Tryz.prog.bytesOf 9 = 16 := by kernel_rfl
theorem cellsStrs : Tryz.prog.cellsOf 24 = 1 := by kernel_rfl
theorem cellsRngs : Tryz.prog.cellsOf 25 = 1 := by kernel_rfl
theorem cellsHs : Tryz.prog.cellsOf 23 = 32 := by kernel_rfl
theorem cellsLk : Tryz.prog.cellsOf 28 = 37 := by kernel_rfl
theorem lists_of {α : Type} (f : Nat → α) (n : Nat) : ∃ L : List α, L.length = n ∧ ∀ i, i < n → L[i]? = some (f i) :=
  ⟨(List.range n).map f, by simp, fun i hi => by simp [hi]⟩
theorem i64_of {z : Int} (h : (Lit.int .i64 z).wf = true) : I64 z := by
  have h9 : -9223372036854775808 ≤ z ∧ z ≤ 9223372036854775807 := by simpa [Lit.wf, IntKind.min, IntKind.max, IntKind.signed, IntKind.bits] using h
  exact h9
theorem cellByte {H : Type} {enc : TypeId × Value → H} {W : World} {cs : List Value} {o n : Nat} {x : DataW H × List MemPlace} (ho : o < cs.length)
    (h : DataW.trod enc Tryz.prog W 0 (fun _ => true) true n 5 ((cs.drop o).take 1) = some x) : ∃ a : UInt8, cs[o]? = some (.int .u8 (a.toNat : Int)) := by
  have e : (cs.drop o).take 1 = [cs[o]] := by rw [List.drop_eq_getElem_cons ho]; rfl
  rw [e] at h
  obtain ⟨a, e0, rfl, wa⟩ := DataW.trod_int Tryz.underlying5 h
  have h255 : 0 ≤ a ∧ a ≤ 255 := by simpa [Lit.wf, IntKind.min, IntKind.max, IntKind.signed, IntKind.bits] using wa
  refine ⟨UInt8.ofNat a.toNat, ?_⟩
  rw [List.getElem?_eq_getElem ho, UInt8.toNat_ofNat', Nat.mod_eq_of_lt (by omega)]
  simp at e0
  rw [e0]
  congr 2
  omega
def asB (v : Value) : UInt8 := match v with | .int _ z => UInt8.ofNat z.toNat | _ => 0
/-- the cells of a hash -/
theorem cellsHash {H : Type} {enc : TypeId × Value → H} {W : World} {fuel : Nat} {cs : List Value} {x : DataW H × List MemPlace}
    (hf : DataW.trod enc Tryz.prog W 0 (fun _ => true) true fuel 23 cs = some x) : cs.length = 32 ∧ ∀ i, i < 32 → ∃ a : UInt8, cs[i]? = some (.int .u8 (a.toNat : Int)) := by
  obtain ⟨xs, m, _, _, hlen, hxs, hget⟩ := DataW.trod_array Tryz.underlying23 hf
  have c5 : Tryz.prog.cellsOf 5 = 1 := by kernel_rfl
  have c32 : Tryz.prog.cellsOf 23 = 32 := by kernel_rfl
  rw [c32] at hlen
  refine ⟨hlen, fun i hi => ?_⟩
  have h1 := hget i hi
  rw [c5, Nat.mul_one, List.getElem?_eq_getElem (by omega)] at h1
  exact cellByte (by omega) h1
theorem bytes_of {cs : List Value} (h : ∀ i, i < cs.length → ∃ a : UInt8, cs[i]? = some (.int .u8 (a.toNat : Int))) : cs = Lib.byteCells (cs.map asB) := by
  apply List.ext_getElem?
  intro i
  simp only [Lib.byteCells, List.getElem?_map]
  by_cases hi : i < cs.length
  · obtain ⟨a, ha⟩ := h i hi
    rw [ha]
    simp [asB]
  · rw [List.getElem?_eq_none (by omega)]; rfl
section
variable {H : Type} {enc : TypeId × Value → H} {w : World}
theorem rd_of_trod {fuel : Nat} {v : Value} {x : DataW H × List MemPlace} (h : DataW.trod enc Tryz.prog w 0 (fun _ => true) true fuel 26 [v] = some x) (hw : ∀ q ∈ DataW.weights Tryz.prog 26 x.1, q ≤ reachBytes) :
    ∃ (dn : Nat) (ky : Nat → ByteArray) (l : Nat → T), (∀ i, i < dn → (ky i).size ≤ 140737488351232 ∧ (l i).ok) ∧ dn ≤ 140737488351232 ∧ RD (fun _ => True) w dn ky l v := by
  obtain ⟨ad, dn, cd, rfl, bd, gd⟩ := openRow Tryz.underlying26 h hw (by rw [cells42]; omega)
  rw [bytes42] at bd
  rw [cells42] at gd
  have e1 : reachBytes = 140737488351232 := rfl
  rcases gd with rfl | ⟨m', rfl, b, o, rfl, hb, g⟩
  · exact ⟨0, fun _ => ByteArray.empty, fun _ => .no, fun i hi => absurd hi (Nat.not_lt_zero _), Nat.zero_le _, _, _, rfl, .inl rfl⟩
  have : ∀ i, i < dn → ∃ p : ByteArray × T × Value × Value, RV (fun _ => True) w p.2.1 p.2.2.1 p.2.2.2 ∧ w.cell? ⟨b, o + i * 6, none⟩ = some (.string p.1) ∧ five w b (o + i * 6 + 1) p.2.1 p.2.2.1 p.2.2.2 ∧ p.1.size ≤ 140737488351232 ∧ p.2.1.ok := by
    intro i hi
    obtain ⟨cs, y, _, hcell, ht, hq⟩ := g i hi
    obtain ⟨m2, s, cs', xv, rfl, rfl, hy, hv⟩ := open42 ht
    rw [hy] at hq
    simp only [DataW.weights, Tryz.underlying41, DataW.weightsEach, List.map, List.mem_append, List.append_nil] at hq
    obtain ⟨t, lv, dv, rfl, h1, h2⟩ := rv_of_trod m2 cs' xv hv (fun q h => hq q (.inr h))
    refine ⟨(s, t, lv, dv), h1, hcell 0 (by omega), ⟨hcell 1 (by omega), hcell 2 (by omega), hcell 3 (by omega), hcell 4 (by omega), hcell 5 (by omega)⟩, ?_, h2⟩
    have := hq s.data.toList.length (.inl (by simp))
    rwa [Array.length_toList] at this
  have : Inhabited (ByteArray × T × Value × Value) := ⟨(ByteArray.empty, .no, .slice none 0 0, .slice none 0 0)⟩
  obtain ⟨f, hf⟩ := choose_lt ‹∀ i, i < dn → _›
  exact ⟨dn, fun i => (f i).1, fun i => (f i).2.1, fun i hi => (hf i hi).2.2.2, by rw [e1] at bd; omega, _, _, rfl, .inr ⟨b, o, rfl, trivial, hb, fun i hi => ⟨_, _, (hf i hi).1, (hf i hi).2.1, (hf i hi).2.2.1⟩⟩⟩
theorem rs_of_trod {fuel : Nat} {v : Value} {x : DataW H × List MemPlace} (h : DataW.trod enc Tryz.prog w 0 (fun _ => true) true fuel 24 [v] = some x) (hw : ∀ q ∈ DataW.weights Tryz.prog 24 x.1, q ≤ reachBytes) :
    ∃ ts, RS (fun _ => True) w v ts ∧ ts.length ≤ 140737488351232 ∧ ∀ x ∈ ts, x.size ≤ 140737488351232 := by
  obtain ⟨ad, dn, cd, rfl, bd, gd⟩ := openRow Tryz.underlying24 h hw (by rw [cells9]; omega)
  rw [bytes9] at bd
  rw [cells9] at gd
  have e1 : reachBytes = 140737488351232 := rfl
  rcases gd with rfl | ⟨m', rfl, b, o, rfl, hb, g⟩
  · exact ⟨[], ⟨_, _, rfl, .inl rfl⟩, by simp, fun x hx => by cases hx⟩
  have : ∀ i, i < dn → ∃ p : ByteArray, w.cell? ⟨b, o + i, none⟩ = some (.string p) ∧ p.size ≤ 140737488351232 := by
    intro i hi
    obtain ⟨cs, y, hlen, hcell, ht, hq⟩ := g i hi
    obtain ⟨s, e2, e3, _⟩ := DataW.trod_string Tryz.underlying9 ht
    subst e2
    have h0 := hcell 0 (by omega)
    simp only [Nat.mul_one, Nat.add_zero] at h0
    refine ⟨s, h0, ?_⟩
    rw [e3] at hq
    have := hq s.data.toList.length (by simp [DataW.weights])
    rwa [Array.length_toList] at this
  have : Inhabited ByteArray := ⟨ByteArray.empty⟩
  obtain ⟨f, hf⟩ := choose_lt ‹∀ i, i < dn → _›
  obtain ⟨L, rfl, hL⟩ := lists_of f dn
  refine ⟨L, ⟨_, _, rfl, .inr ⟨b, o, rfl, trivial, hb, fun i x hx => ?_⟩⟩, by rw [e1] at bd; omega, fun x hx => ?_⟩
  · have hi := (List.getElem?_eq_some_iff.1 hx).1
    rw [hL i hi] at hx
    cases hx
    exact (hf i hi).1
  · obtain ⟨i, hi⟩ := List.mem_iff_getElem?.1 hx
    have hi2 := (List.getElem?_eq_some_iff.1 hi).1
    rw [hL i hi2] at hi
    cases hi
    exact (hf i hi2).2
theorem rr_of_trod {fuel : Nat} {v : Value} {x : DataW H × List MemPlace} (h : DataW.trod enc Tryz.prog w 0 (fun _ => true) true fuel 25 [v] = some x) (hw : ∀ q ∈ DataW.weights Tryz.prog 25 x.1, q ≤ reachBytes) :
    ∃ rs, RR (fun _ => True) w v rs ∧ rs.length ≤ 140737488351232 ∧ ∀ x ∈ rs, I64 x.1 ∧ I64 x.2 := by
  obtain ⟨ad, dn, cd, rfl, bd, gd⟩ := openRow Tryz.underlying25 h hw (by rw [cellsRng]; omega)
  rw [bytesRng] at bd
  rw [cellsRng] at gd
  have e1 : reachBytes = 140737488351232 := rfl
  rcases gd with rfl | ⟨m', rfl, b, o, rfl, hb, g⟩
  · exact ⟨[], ⟨_, _, rfl, .inl rfl⟩, by simp, fun x hx => by cases hx⟩
  have : ∀ i, i < dn → ∃ p : Int × Int, w.cell? ⟨b, o + i * 2, none⟩ = some (.int .i64 p.1) ∧ w.cell? ⟨b, o + i * 2 + 1, none⟩ = some (.int .i64 p.2) ∧ I64 p.1 ∧ I64 p.2 := by
    intro i hi
    obtain ⟨cs, y, _, hcell, ht, hq⟩ := g i hi
    obtain ⟨xs, m, rfl, rfl, hl, hx, hf⟩ := DataW.trod_struct Tryz.underlying36 ht
    rw [cellsRng] at hl
    obtain ⟨c0, c1, rfl⟩ := len2 hl
    obtain ⟨x0, x1, rfl⟩ := len2 (l := xs) (by simpa using hx)
    have f0 := hf 0 _ rfl
    have f1 := hf 1 _ rfl
    simp [cells3] at f0 f1
    obtain ⟨z0, e2, _, w0⟩ := DataW.trod_int Tryz.underlying3 f0
    obtain ⟨z1, e3, _, w1⟩ := DataW.trod_int Tryz.underlying3 f1
    simp at e2 e3
    subst e2 e3
    exact ⟨(z0, z1), hcell 0 (by omega), hcell 1 (by omega), i64_of w0, i64_of w1⟩
  have : Inhabited (Int × Int) := ⟨(0, 0)⟩
  obtain ⟨f, hf⟩ := choose_lt ‹∀ i, i < dn → _›
  obtain ⟨L, rfl, hL⟩ := lists_of f dn
  refine ⟨L, ⟨_, _, rfl, .inr ⟨b, o, rfl, trivial, hb, fun i x hx => ?_⟩⟩, by rw [e1] at bd; omega, fun x hx => ?_⟩
  · have hi := (List.getElem?_eq_some_iff.1 hx).1
    rw [hL i hi] at hx
    cases hx
    exact ⟨(hf i hi).1, (hf i hi).2.1⟩
  · obtain ⟨i, hi⟩ := List.mem_iff_getElem?.1 hx
    have hi2 := (List.getElem?_eq_some_iff.1 hi).1
    rw [hL i hi2] at hi
    cases hi
    exact (hf i hi2).2.2
theorem dsplit {α : Type} (l : List α) (a b : Nat) : l.drop a = (l.drop a).take b ++ l.drop (a + b) := by
  rw [← List.drop_drop, List.take_append_drop]
set_option maxRecDepth 100000 in
theorem openLink {base : Nat} {v : Value} {d : DataW H} {ps : List MemPlace} (hv : Value.okWide Tryz.prog w .any base 28 v) (h : DataW.Trod enc Tryz.prog w 0 (fun _ => true) true 28 v d ps) (hw : ∀ q ∈ DataW.weights Tryz.prog 28 d, q ≤ reachBytes) :
    ∃ (k : Lk) (tr pe on mo : Value), v = .agg (lkC k.l k.nm tr pe on mo) ∧ k.ok ∧ (∀ x ∈ k.rs, I64 x.1 ∧ I64 x.2) ∧ RL4 (fun _ => True) w k tr pe on mo := by
  obtain ⟨cs, rfl, hcs⟩ := okWide_struct Tryz.underlying28 hv
  obtain ⟨fuel, hf⟩ := h
  obtain ⟨xs, m, rfl, hxx, hl, hx, hf⟩ := DataW.trod_struct Tryz.underlying28 hf
  rw [cellsLk] at hl
  have hcl : (Value.agg cs).cells.toList = cs.toList := by simp [Value.cells]
  rw [hcl] at hf hl
  obtain ⟨x0, x1, x2, x3, x4, x5, rfl⟩ := len6 (l := xs) (by simpa using hx)
  have f0 := hf 0 _ rfl
  have f1 := hf 1 _ rfl
  have f2 := hf 2 _ rfl
  have f3 := hf 3 _ rfl
  have f4 := hf 4 _ rfl
  have f5 := hf 5 _ rfl
  simp [cells9, cellsStrs, cellsRngs, cells23, cellsHs] at f0 f1 f2 f3 f4 f5
  clear hf
  have one : ∀ o, o < 37 → ∃ c, (cs.toList.drop o).take 1 = [c] := fun o ho => ⟨cs.toList[o]'(by omega), by rw [List.drop_eq_getElem_cons (by omega)]; rfl⟩
  obtain ⟨c1, g1⟩ := one 32 (by omega)
  obtain ⟨c2, g2⟩ := one 33 (by omega)
  obtain ⟨c3, g3⟩ := one 34 (by omega)
  obtain ⟨c4, g4⟩ := one 35 (by omega)
  obtain ⟨c5, g5⟩ := one 36 (by omega)
  rw [g1] at f1
  rw [g2] at f2
  rw [g3] at f3
  rw [g4] at f4
  rw [g5] at f5
  obtain ⟨l0, b0⟩ := cellsHash f0
  have e0 := bytes_of (cs := cs.toList.take 32) (fun i hi => b0 i (by rw [l0] at hi; exact hi))
  obtain ⟨nm, e1, ex1, _⟩ := DataW.trod_string Tryz.underlying9 f1
  simp at e1
  subst e1
  have hd : d = .agg ([x0, x1, x2, x3, x4, x5].map (·.1)) := congrArg Prod.fst hxx
  rw [hd] at hw
  simp only [DataW.weights, Tryz.underlying28, DataW.weightsEach, List.map, List.mem_append, List.append_nil] at hw
  obtain ⟨ts, ht, htl, htx⟩ := rs_of_trod f2 (fun q hq => hw q (by simp only [hq, true_or, or_true]))
  obtain ⟨ps', hp, hpl, hpx⟩ := rs_of_trod f3 (fun q hq => hw q (by simp only [hq, true_or, or_true]))
  obtain ⟨rs, hr, hrl, hri⟩ := rr_of_trod f4 (fun q hq => hw q (by simp only [hq, true_or, or_true]))
  obtain ⟨dn, ky, dv, hok, hdn, hdd⟩ := rd_of_trod f5 (fun q hq => hw q (by simp only [hq, or_true]))
  have hnm : nm.size ≤ 140737488351232 := by
    have := hw nm.data.toList.length (by rw [ex1]; simp [DataW.weights])
    rwa [Array.length_toList] at this
  refine ⟨⟨(cs.toList.take 32).map asB, nm, ts, ps', rs, dn, ky, dv⟩, c2, c3, c4, c5, ?_, ⟨by rw [List.length_map, l0], hnm, ⟨htl, htx⟩, ⟨hpl, hpx⟩, hrl, ⟨hdn, hok⟩⟩, hri, ht, hp, hr, hdd⟩
  have hcs2 : cs.toList = Lib.byteCells ((cs.toList.take 32).map asB) ++ [.string nm, c2, c3, c4, c5] := by
    rw [← e0]
    have e37 : cs.toList.drop 37 = [] := List.drop_eq_nil_of_le (by omega)
    conv => lhs; rw [← List.take_append_drop 32 cs.toList, dsplit cs.toList 32 1, g1, dsplit cs.toList (32 + 1) 1, g2, dsplit cs.toList (32 + 1 + 1) 1, g3, dsplit cs.toList (32 + 1 + 1 + 1) 1, g4, dsplit cs.toList (32 + 1 + 1 + 1 + 1) 1, g5, e37]
    rfl
  unfold lkC
  rw [← hcs2]
end
end Go.Proofs.YtnpcbcfjnhjmmaaGreatDoor
