import Derived.Test.YtnpcbcfjnhjmmaaGreatDoorV00
import Derived.LaidMore
import Derived.Lib.LaidTab
import Derived.ProofKit
import Derived.OpenShut
import Derived.ChangeMaps5
import Derived.SizedLaws
import Derived.Carry
import Derived.Test.YtnpcbcfjnhjmmaaGreatDoorV24
import Derived.Lib.AppendIntMem
import Derived.LaidLaws
import Derived.Stop.LaidErr
import Derived.Stop.Joined
namespace Go.Proofs.YtnpcbcfjnhjmmaaGreatDoor
open Go.ChangeShapes Go.WideShapes Go.ChangeAt Go.RowKit
theorem ownKn : ownKnob Tryz.prog.godebug = none := by kernel_rfl
theorem laidO : laidOutB Tryz.prog = true := by kernel_rfl
theorem laid_bools : (Rows.laid_torrent_magnet_bare : DataW Unit) = .agg (tabB.map fun b => .lit (.bool b)) := by kernel_rfl
set_option maxRecDepth 100000 in
theorem bt_of_laid {W : World} {r : List (String × DataW Unit)} (h : laidMet Tryz.prog (("torrent/magnet.bare", Rows.laid_torrent_magnet_bare) :: r) W) : BT W := by
  obtain ⟨ps, ⟨g, t, cs, fuel, p, q, hg, ht, hvar, hd, _, _⟩, _⟩ := h
  have hg0 : Tryz.prog.globalNamed "torrent/magnet.bare" = some 0 := by kernel_rfl
  have ht0 : (Tryz.prog.globals[0]?).map (·.type) = some 137 := by kernel_rfl
  obtain rfl := Option.some.inj (hg0.symm.trans hg)
  obtain rfl := Option.some.inj (ht0.symm.trans ht)
  rw [laid_bools] at hd
  obtain ⟨xs, m, _, hx, hlen, hxs, hget⟩ := DataW.trod_array Tryz.underlying137 hd
  have k4 : Tryz.prog.cellsOf 4 = 1 := by kernel_rfl
  have k39 : Tryz.prog.cellsOf 137 = 128 := by kernel_rfl
  rw [k39] at hlen
  have hxd : (tabB.map fun b => (DataW.lit (.bool b) : DataW Unit)) = xs.map (·.1) := by
    have := congrArg Prod.fst hx
    simpa using this
  have key : ∀ j, j < 128 → cs.toList[j]? = some (.bool (isB (UInt8.ofNat j))) := by
    intro j hj
    have h1 := hget j hj
    rw [k4] at h1
    have h2 : (xs.map (·.1))[j]? = some (DataW.lit (.bool (isB (UInt8.ofNat j)))) := by
      rw [← hxd, List.getElem?_map]
      simp [tabB, hj]
    rw [List.getElem?_map] at h2
    obtain ⟨y, hy, hy2⟩ := Option.map_eq_some_iff.1 h2
    rw [hy] at h1
    obtain ⟨b, e0, q0⟩ := DataW.trod_bool Tryz.underlying4 h1
    rw [q0] at hy2
    simp only [DataW.lit.injEq, Lit.bool.injEq] at hy2
    have h3 := congrArg (·[0]?) e0
    simp [List.getElem?_drop] at h3
    rw [Array.getElem?_toList, h3, hy2]
  have hc : ∀ j, j < 128 → W.cell? ⟨0, j, none⟩ = some (.bool (isB (UInt8.ofNat j))) := fun j hj => by
    have := World.var?_cell hg0 hvar j
    rw [this, ← Array.getElem?_toList]
    exact key j hj
  exact ⟨World.block_lt_of_cell? W _ (hc 0 (by decide)), hc⟩
end Go.Proofs.YtnpcbcfjnhjmmaaGreatDoor
namespace Go.Proofs.YtnpcbcfjnhjmmaaGreatDoor
open Go.ChangeShapes Go.WideShapes Go.ChangeAt Go.RowKit Go.Shelf
theorem star_es : "*" ++ "errors.errorString" = "*errors.errorString" := by decide
theorem rowPes (u : TypeId) (h : Tryz.prog.typeName? 3 u = some "*errors.errorString") : u = 193 :=
  typeName_ptr_named (nm := "errors.errorString") (by rw [star_es]; kernel_rfl) (by kernel_rfl) (by decide) u (by rw [star_es]; exact h)
set_option maxRecDepth 100000 in
theorem tg_of_laid {W : World} {r : List (String × DataW Unit)} (h : laidMet Tryz.prog (("math/bits.deBruijn32tab", Rows.laid_math_bits_deBruijn32tab) :: ("math/bits.deBruijn64tab", Rows.laid_math_bits_deBruijn64tab) :: ("internal/strconv.uint64pow10", Rows.laid_internal_strconv_uint64pow10) :: ("strconv.ErrRange", Rows.laid_strconv_ErrRange) :: ("strconv.ErrSyntax", Rows.laid_strconv_ErrSyntax) :: r) W) : TG W := by
  have h2 := laidMet.tail (laidMet.tail h)
  have h3 := laidMet.tail h2
  have gR : Tryz.prog.globalNamed "strconv.ErrRange" = some 4 := by kernel_rfl
  have gS : Tryz.prog.globalNamed "strconv.ErrSyntax" = some 3 := by kernel_rfl
  have uErr : Tryz.prog.underlying 99 = some (.interface #[("Error", 104)]) := by kernel_rfl
  have uPes : Tryz.prog.underlying 193 = some (.pointer 195) := by kernel_rfl
  obtain ⟨a0, s0, hv0, _, _, _⟩ := laid_sentinel h3 gR (by kernel_rfl) uErr rowPes uPes (f := (match Tryz.prog.underlying 195 with | some (.struct fs) => fs.getD 0 default | _ => default)) (by kernel_rfl) (by kernel_rfl) (by kernel_rfl) (ts := 9) (by kernel_rfl) (by kernel_rfl) (by kernel_rfl)
  obtain ⟨a1, s1, hv1, _, _, _⟩ := laid_sentinel (laidMet.tail h3) gS (by kernel_rfl) uErr rowPes uPes (f := (match Tryz.prog.underlying 195 with | some (.struct fs) => fs.getD 0 default | _ => default)) (by kernel_rfl) (by kernel_rfl) (by kernel_rfl) (ts := 9) (by kernel_rfl) (by kernel_rfl) (by kernel_rfl)
  have e15 : laysAtoi_ren.g 15 = 3 := by kernel_rfl
  have e16 : laysAtoi_ren.g 16 = 4 := by kernel_rfl
  refine ⟨Lib.tabBelow_of_tabIs (Lib.tabIs_of_head (g := 2) (t := 185) (e := 161) (n := 20) (by kernel_rfl) (by kernel_rfl) (by kernel_rfl) (by kernel_rfl) (by kernel_rfl) (by kernel_rfl) h2), ⟨_, by rw [e15]; simpa using World.var?_cell gS hv1 0, .inr ⟨_, _, rfl⟩⟩, ⟨_, by rw [e16]; simpa using World.var?_cell gR hv0 0, .inr ⟨_, _, rfl⟩⟩⟩
end Go.Proofs.YtnpcbcfjnhjmmaaGreatDoor
