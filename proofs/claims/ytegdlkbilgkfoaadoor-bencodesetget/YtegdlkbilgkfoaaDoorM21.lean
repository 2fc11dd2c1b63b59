import Derived.Test.YtegdlkbilgkfoaaDoorM00
import Derived.ProofKit
import Derived.OpenShut
import Derived.SizedLaws
import Derived.Carry
import Derived.Test.YtegdlkbilgkfoaaDoorM18
import Derived.Test.YtegdlkbilgkfoaaDoorM15
import Derived.Test.YtegdlkbilgkfoaaDoorTie
import Derived.Test.YtegdlkbilgkfoaaDoorCards
import Derived.LaidMore
import Derived.Lay
import Derived.SevenTiedAt
import Derived.Stop.Joined
import Derived.Stop.LaidErr
import Derived.Lib.AppendIntMem
import Derived.Lib.LaidTab
import Derived.ChangeSlices
import Derived.LaidLaws
import Derived.Deep.DeepHandedRow
import Derived.Test.YtegdlkbilgkfoaaDoorM19
namespace Go.Proofs.YtegdlkbilgkfoaaDoor
open Go.ChangeShapes Go.WideShapes Go.ChangeAt Go.RowKit Go.Deep
theorem ownKn : ownKnob Tryd.prog.godebug = none := by kernel_rfl
theorem laidO : laidOutB Tryd.prog = true := by kernel_rfl
set_option maxRecDepth 100000 in
/-- an argument that is a value: its cells, its tree -/
theorem openVal {H : Type} {enc : TypeId × Value → H} {W : World} {base : Nat} {v : Value} {d : DataW H} {p : List MemPlace} (hv : Value.okWide Tryd.prog W .any base 27 v)
    (h : DataW.Trod enc Tryd.prog W 0 (fun _ => true) true 27 v d p) (hw : ∀ q ∈ DataW.weights Tryd.prog 27 d, q ≤ reachBytes) :
    ∃ t x y, v = vv t x y ∧ RV (fun _ => True) W t x y ∧ t.ok := by
  obtain ⟨cs, rfl, hcs⟩ := okWide_struct Tryd.underlying27 hv
  obtain ⟨fuel, hf⟩ := h
  obtain ⟨t, x, y, hc, hr, hok⟩ := rv_of_trod fuel _ _ hf hw
  refine ⟨t, x, y, ?_, hr, hok⟩
  have hc' : cs.toList = [.int .i64 t.k, .int .i64 t.n, .string t.s, x, y] := by simpa [Value.cells] using hc
  unfold vv
  rw [← hc']
theorem trodLt {H : Type} {enc : TypeId × Value → H} {W : World} {t : TypeId} {v : Value} {d : DataW H} {p : List MemPlace} (h : DataW.Trod enc Tryd.prog W 0 (fun _ => true) true t v d p) : ∀ x ∈ p, x.block < W.heap.size := by
  obtain ⟨m, hm⟩ := h
  exact DataW.trod_lt m _ _ _ hm
end Go.Proofs.YtegdlkbilgkfoaaDoor
namespace Go.Proofs.YtegdlkbilgkfoaaDoor
open Go.ChangeShapes Go.WideShapes Go.ChangeAt Go.RowKit
set_option maxRecDepth 100000 in
/-- a slice of integers that was handed in: the numbers, where they lie, how many they can be -/
theorem openInts {H : Type} {enc : TypeId × Value → H} {W : World} {base : Nat} {v : Value} {d : DataW H} {p : List MemPlace} {t e : TypeId} {k : IntKind} (ht : Tryd.prog.underlying t = some (.slice e)) (he : Tryd.prog.underlying e = some (.int k)) (hc : Tryd.prog.cellsOf e = 1)
    (hv : Value.okWide Tryd.prog W .any base t v)
    (h : DataW.Trod enc Tryd.prog W 0 (fun _ => true) true t v d p) (hw : ∀ q ∈ DataW.weights Tryd.prog t d, q ≤ reachBytes) :
    ∃ (a : Option Addr) (c : Nat) (zs : List Int), v = .slice a zs.length c ∧ zs.length ≤ c ∧ zs.length * Tryd.prog.bytesOf e ≤ reachBytes ∧ (∀ z ∈ zs, (Lit.int k z).wf = true) ∧
      (zs = [] ∨ ∃ g o, a = some ⟨g, o, none⟩ ∧ g < W.heap.size ∧ ∀ i, i < zs.length → W.cell? ⟨g, o + i, none⟩ = some (.int k (zs.getD i 0))) := by
  obtain ⟨a0, len0, cap0, rfl⟩ := okWide_slice ht hv
  obtain ⟨fuel, hf⟩ := h
  rcases open_ints ht he hc hf with ⟨hcs, _⟩ | ⟨x, l, c, zs, hcs, _, hl, hm, hz, hx, hcell, hwz⟩
  · simp [Value.cells] at hcs
    obtain ⟨rfl, rfl, rfl⟩ := hcs
    exact ⟨none, 0, [], rfl, Nat.le_refl _, by simp, by simp, .inl rfl⟩
  · simp [Value.cells] at hcs
    obtain ⟨rfl, rfl, rfl⟩ := hcs
    have hz' : zs.length = cap0 := by simpa using hz
    have hlen : (zs.take len0).length = len0 := by rw [List.length_take]; omega
    simp only [Prod.mk.injEq] at hx
    obtain ⟨rfl, _⟩ := hx
    refine ⟨some x, cap0, zs.take len0, by rw [hlen], by rw [hlen]; exact hl, ?_, fun z hz => hwz z (List.mem_of_mem_take hz), ?_⟩
    · have := hw (((lits (H := H) k (zs.take len0)).length + (lits (H := H) k (zs.drop len0)).length) * Tryd.prog.bytesOf e) (by simp [DataW.weights, ht])
      refine Nat.le_trans (Nat.mul_le_mul_right _ ?_) this
      simp [lits]
    · by_cases h00 : zs.take len0 = []
      · exact .inl h00
      · have hpos : 0 < len0 := by
          rcases Nat.eq_zero_or_pos len0 with h | h
          · subst h; simp at h00
          · exact h
        obtain ⟨b, off, spot⟩ := x
        have hc0 := hcell 0 (by omega)
        have hspot : spot = none := by simpa [Addr.add] using World.cell?_spot hc0
        subst hspot
        refine .inr ⟨b, off, rfl, by simpa [Addr.add] using World.block_lt_of_cell? W _ hc0, fun i hi => ?_⟩
        have hi' : i < len0 := by rw [hlen] at hi; exact hi
        have := hcell i (by omega)
        have hadd : (⟨b, off, none⟩ : Addr).add i = ⟨b, off + i, none⟩ := by unfold Addr.add; split <;> simp_all
        rw [hadd] at this
        rw [this]
        simp [List.getD, hi']
set_option maxRecDepth 100000 in
theorem openBytes {H : Type} {enc : TypeId × Value → H} {W : World} {base : Nat} {v : Value} {d : DataW H} {p : List MemPlace} (hv : Value.okWide Tryd.prog W .any base 22 v)
    (h : DataW.Trod enc Tryd.prog W 0 (fun _ => true) true 22 v d p) (hw : ∀ q ∈ DataW.weights Tryd.prog 22 d, q ≤ reachBytes) :
    ∃ l, RB W v l ∧ l.length ≤ 140737488351232 := by
  obtain ⟨a, c, zs, rfl, h0c, h1, h2, h3⟩ := openInts (k := .u8) Tryd.underlying22 Tryd.underlying5 (by kernel_rfl) hv h hw
  have hb : Tryd.prog.bytesOf 5 = 1 := by kernel_rfl
  rw [hb] at h1
  refine ⟨zs.map fun z => UInt8.ofNat z.toNat, ⟨a, c, by rw [List.length_map], by rw [List.length_map]; exact h0c, ?_⟩, by rw [List.length_map]; simpa [reachBytes] using h1⟩
  rcases h3 with rfl | ⟨g, o, rfl, hg, hc⟩
  · exact .inl rfl
  · refine .inr ⟨g, o, rfl, hg, fun i hi => ?_⟩
    rw [List.length_map] at hi
    rw [hc i hi]
    have hm : zs.getD i 0 ∈ zs := by simp [List.getD, List.getElem?_eq_getElem hi]
    have hwf := h2 _ hm
    have h255 : 0 ≤ zs.getD i 0 ∧ zs.getD i 0 ≤ 255 := by simpa [Lit.wf, IntKind.min, IntKind.max, IntKind.signed, IntKind.bits] using hwf
    have e : byt (zs.map fun z => UInt8.ofNat z.toNat) i = UInt8.ofNat (zs.getD i 0).toNat := by
      unfold byt; simp [List.getD, List.getElem?_map, List.getElem?_eq_getElem hi]
    rw [e, UInt8.toNat_ofNat', Nat.mod_eq_of_lt (by omega)]
    congr 2
    omega
theorem star_es : "*" ++ "errors.errorString" = "*errors.errorString" := by decide
theorem row131 (u : TypeId) (h : Tryd.prog.typeName? 3 u = some "*errors.errorString") : u = 144 :=
  typeName_ptr_named (nm := "errors.errorString") (by rw [star_es]; kernel_rfl) (by kernel_rfl) (by decide) u (by rw [star_es]; exact h)
theorem ev_of_laid {W : World} {r : List (String × DataW Unit)} (h : laidMet Tryd.prog (("math/bits.deBruijn32tab", Rows.laid_math_bits_deBruijn32tab) :: ("math/bits.deBruijn64tab", Rows.laid_math_bits_deBruijn64tab) :: ("internal/strconv.uint64pow10", Rows.laid_internal_strconv_uint64pow10) :: ("strconv.ErrRange", Rows.laid_strconv_ErrRange) :: ("strconv.ErrSyntax", Rows.laid_strconv_ErrSyntax) :: r) W) : EVw W := by
  have h3 := laidMet.tail (laidMet.tail (laidMet.tail h))
  have gR : Tryd.prog.globalNamed "strconv.ErrRange" = some 3 := by kernel_rfl
  have gS : Tryd.prog.globalNamed "strconv.ErrSyntax" = some 2 := by kernel_rfl
  have u94 : Tryd.prog.underlying 106 = some (.interface #[("Error", 149)]) := by kernel_rfl
  have u131 : Tryd.prog.underlying 144 = some (.pointer 146) := by kernel_rfl
  obtain ⟨a0, s0, hv0, _, _, _⟩ := laid_sentinel h3 gR (by kernel_rfl) u94 row131 u131 (f := (match Tryd.prog.underlying 146 with | some (.struct fs) => fs.getD 0 default | _ => default)) (by kernel_rfl) (by kernel_rfl) (by kernel_rfl) (ts := 9) (by kernel_rfl) (by kernel_rfl) (by kernel_rfl)
  obtain ⟨a1, s1, hv1, _, _, _⟩ := laid_sentinel (laidMet.tail h3) gS (by kernel_rfl) u94 row131 u131 (f := (match Tryd.prog.underlying 146 with | some (.struct fs) => fs.getD 0 default | _ => default)) (by kernel_rfl) (by kernel_rfl) (by kernel_rfl) (ts := 9) (by kernel_rfl) (by kernel_rfl) (by kernel_rfl)
  exact ⟨⟨_, _, by simpa using World.var?_cell gS hv1 0⟩, ⟨_, _, by simpa using World.var?_cell gR hv0 0⟩⟩
theorem tab_of_laid {W : World} {r : List (String × DataW Unit)} (h : laidMet Tryd.prog (("math/bits.deBruijn32tab", Rows.laid_math_bits_deBruijn32tab) :: ("math/bits.deBruijn64tab", Rows.laid_math_bits_deBruijn64tab) :: ("internal/strconv.uint64pow10", Rows.laid_internal_strconv_uint64pow10) :: r) W) : TB W.heap.size W :=
  Lib.tabBelow_of_tabIs (Lib.tabIs_of_head (g := 1) (t := 133) (e := 120) (n := 20) (by kernel_rfl) (by kernel_rfl) (by kernel_rfl) (by kernel_rfl) (by kernel_rfl) (by kernel_rfl) (laidMet.tail (laidMet.tail h)))
theorem bulk_pos {H : Type} : ∀ d : DataW H, 1 ≤ Rows.uptoBulk d
  | .lit (.string b) => by simp [Rows.uptoBulk]
  | .lit (.int _ _) => by simp [Rows.uptoBulk]
  | .lit (.bool _) => by simp [Rows.uptoBulk]
  | .lit (.float _ _) => by simp [Rows.uptoBulk]
  | .lit .nil => by simp [Rows.uptoBulk]
  | .nil => by simp [Rows.uptoBulk]
  | .ptr d => by simp [Rows.uptoBulk]
  | .slice _ _ => by simp [Rows.uptoBulk]
  | .agg _ => by simp [Rows.uptoBulk]
  | .iface _ d => by simp [Rows.uptoBulk]
  | .map _ => by simp [Rows.uptoBulk]
  | .held _ => by simp [Rows.uptoBulk]
theorem bulk_len {H : Type} : ∀ l : List (DataW H), l.length ≤ Rows.uptoBulkAll l
  | [] => by simp [Rows.uptoBulkAll]
  | d :: l => by
    have := bulk_len l
    have := bulk_pos d
    simp [Rows.uptoBulkAll]; omega
set_option maxRecDepth 100000 in
theorem openBytesU {H : Type} {enc : TypeId × Value → H} {W : World} {base : Nat} {v : Value} {d : DataW H} {p : List MemPlace} (hv : Value.okWide Tryd.prog W .any base 22 v)
    (h : DataW.Trod enc Tryd.prog W 0 (fun _ => true) true 22 v d p) (hw : ∀ q ∈ DataW.weights Tryd.prog 22 d, q ≤ reachBytes) :
    ∃ l, RB W v l ∧ l.length ≤ 140737488351232 ∧ l.length ≤ Rows.uptoBulk d ∧ (v = .slice none 0 0 ∨ ∃ ad n c, v = .slice (some ad) n c) := by
  obtain ⟨l, hr, hl⟩ := openBytes hv h hw
  refine ⟨l, hr, hl, ?_⟩
  obtain ⟨a, len, cap, rfl⟩ := okWide_slice Tryd.underlying22 hv
  obtain ⟨fuel, hf⟩ := h
  have hf' : DataW.trod enc Tryd.prog W 0 (fun _ => true) true fuel 22 [.slice a len cap] = some (d, p) := hf
  obtain ⟨a', c', he, _, _⟩ := hr
  cases he
  rcases DataW.trod_slice Tryd.underlying22 hf' with ⟨h0, h1⟩ | ⟨a1, len1, cap1, elems, rest, m, _, h0, h1, _, _, _, hlen, _, _, _⟩
  · simp at h0
    obtain ⟨rfl, rfl, rfl⟩ := h0
    exact ⟨by simp, .inl (by simp)⟩
  · simp at h0 h1
    obtain ⟨rfl, h2, rfl⟩ := h0
    obtain ⟨rfl, _⟩ := h1
    refine ⟨?_, .inr ⟨_, _, _, rfl⟩⟩
    have := bulk_len (elems.map (·.1))
    rw [List.length_map, hlen] at this
    simp only [Rows.uptoBulk]
    omega
end Go.Proofs.YtegdlkbilgkfoaaDoor
namespace Go.Proofs.YtegdlkbilgkfoaaDoor
open Go.ChangeShapes Go.WideShapes Go.ChangeAt Go.RowKit Go.Deep
set_option maxRecDepth 100000 in
/-- an argument that is a value: its cells, its tree; its numbers are ints -/
theorem openVali {H : Type} {enc : TypeId × Value → H} {W : World} {base : Nat} {v : Value} {d : DataW H} {p : List MemPlace} (hv : Value.okWide Tryd.prog W .any base 27 v)
    (h : DataW.Trod enc Tryd.prog W 0 (fun _ => true) true 27 v d p) (hw : ∀ q ∈ DataW.weights Tryd.prog 27 d, q ≤ reachBytes) :
    ∃ t x y, v = vv t x y ∧ RV (fun _ => True) W t x y ∧ t.ok ∧ t.ints := by
  obtain ⟨cs, rfl, hcs⟩ := okWide_struct Tryd.underlying27 hv
  obtain ⟨fuel, hf⟩ := h
  obtain ⟨t, x, y, hc, hr, hok⟩ := rv_of_trod_i fuel _ _ hf hw
  refine ⟨t, x, y, ?_, hr, hok⟩
  have hc' : cs.toList = [.int .i64 t.k, .int .i64 t.n, .string t.s, x, y] := by simpa [Value.cells] using hc
  unfold vv
  rw [← hc']
end Go.Proofs.YtegdlkbilgkfoaaDoor
