import Derived.Test.YtmfbhihjiebagaaDoorMa
import Derived.LaidMore
import Derived.Lib.LaidTab
import Derived.ProofKit
import Derived.OpenShut
import Derived.ChangeMaps5
import Derived.SizedLaws
import Derived.Carry
namespace Go.Proofs.YtmfbhihjiebagaaDoor
open Go.ChangeShapes Go.WideShapes Go.ChangeAt Go.RowKit
theorem ownKn : ownKnob Tryd.prog.godebug = none := by kernel_rfl
theorem laidO : laidOutB Tryd.prog = true := by kernel_rfl
theorem laid_bools : (Rows.laid_torrent_magnet_bare : DataW Unit) = .agg (tabB.map fun b => .lit (.bool b)) := by kernel_rfl
set_option maxRecDepth 100000 in
theorem bt_of_laid {W : World} {r : List (String × DataW Unit)} (h : laidMet Tryd.prog (("torrent/magnet.bare", Rows.laid_torrent_magnet_bare) :: r) W) : BT W := by
  obtain ⟨ps, ⟨g, t, cs, fuel, p, q, hg, ht, hvar, hd, _, _⟩, _⟩ := h
  have hg0 : Tryd.prog.globalNamed "torrent/magnet.bare" = some 1 := by kernel_rfl
  have ht0 : (Tryd.prog.globals[1]?).map (·.type) = some 97 := by kernel_rfl
  obtain rfl := Option.some.inj (hg0.symm.trans hg)
  obtain rfl := Option.some.inj (ht0.symm.trans ht)
  rw [laid_bools] at hd
  obtain ⟨xs, m, _, hx, hlen, hxs, hget⟩ := DataW.trod_array Tryd.underlying97 hd
  have k4 : Tryd.prog.cellsOf 4 = 1 := by kernel_rfl
  have k39 : Tryd.prog.cellsOf 97 = 128 := by kernel_rfl
  rw [k39] at hlen
  have hxd : (tabB.map fun b => (DataW.lit (.bool b) : DataW Unit)) = xs.map (·.1) := by
    have := congrArg Prod.fst hx
    simpa using this
  have key : ∀ j, j < 128 → cs.toList[j]? = some (.bool (isB (UInt8.ofNat j))) := by
    intro j hj
    have h1 := hget j hj
    rw [k4] at h1
    have h2 : (xs.map (·.1))[j]? = some (DataW.lit (.bool (isB (UInt8.ofNat j)))) := by
      rw [← hxd, List.getElem?_map]
      simp [tabB, hj]
    rw [List.getElem?_map] at h2
    obtain ⟨y, hy, hy2⟩ := Option.map_eq_some_iff.1 h2
    rw [hy] at h1
    obtain ⟨b, e0, q0⟩ := DataW.trod_bool Tryd.underlying4 h1
    rw [q0] at hy2
    simp only [DataW.lit.injEq, Lit.bool.injEq] at hy2
    have h3 := congrArg (·[0]?) e0
    simp [List.getElem?_drop] at h3
    rw [Array.getElem?_toList, h3, hy2]
  have hc : ∀ j, j < 128 → W.cell? ⟨1, j, none⟩ = some (.bool (isB (UInt8.ofNat j))) := fun j hj => by
    have := World.var?_cell hg0 hvar j
    rw [this, ← Array.getElem?_toList]
    exact key j hj
  exact ⟨World.block_lt_of_cell? W _ (hc 0 (by decide)), hc⟩
end Go.Proofs.YtmfbhihjiebagaaDoor
