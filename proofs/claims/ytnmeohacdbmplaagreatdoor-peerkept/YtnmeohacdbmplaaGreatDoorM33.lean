import Derived.Test.YtnmeohacdbmplaaGreatDoorM32
import Derived.Test.YtnmeohacdbmplaaGreatDoorM13
import Derived.Lib.LaidTab
import Derived.LaidMore
namespace Go.Proofs.YtnmeohacdbmplaaGreatDoor
open Go.ChangeShapes Go.WideShapes Go.ChangeAt Go.RowKit
/-- what a row of the table reads as -/
def rowD (r : Kr) : DataW Unit := .agg [.lit (.int .i64 r.k), .lit (.int .i64 r.le), .lit (.int .i64 r.mo), .lit (.int .i64 r.st), Lib.tabData .i64 (r.fs.map fun (n : Nat) => (n : Int))]
set_option maxRecDepth 100000 in
theorem row_cellsK {enc : TypeId × Value → Unit} {W : World} {base : Nat} {sp : Nat → Bool} {held : Bool} {fuel : Nat} {cs : List Value} {r : Kr} {p : List MemPlace}
    (h : DataW.trod enc Tryz.prog W base sp held fuel 126 cs = some (rowD r, p)) : cs = r.ls := by
  obtain ⟨xs, n, _, hx, hl, hlen, hf⟩ := DataW.trod_struct Tryz.underlying126 h
  have hL : xs.length = 5 := hlen
  have hd : rowD r = .agg (xs.map (·.1)) := congrArg Prod.fst hx
  have hc : cs.length = 11 := hl.trans (by kernel_rfl)
  have f0 : DataW.trod enc Tryz.prog W base sp held n 3 ((cs.drop 0).take (Tryz.prog.cellsOf 3)) = xs[0]? := hf 0 _ rfl
  have f1 : DataW.trod enc Tryz.prog W base sp held n 3 ((cs.drop 1).take (Tryz.prog.cellsOf 3)) = xs[1]? := hf 1 _ rfl
  have f2 : DataW.trod enc Tryz.prog W base sp held n 3 ((cs.drop 2).take (Tryz.prog.cellsOf 3)) = xs[2]? := hf 2 _ rfl
  have f3 : DataW.trod enc Tryz.prog W base sp held n 3 ((cs.drop 3).take (Tryz.prog.cellsOf 3)) = xs[3]? := hf 3 _ rfl
  have f4 : DataW.trod enc Tryz.prog W base sp held n 124 ((cs.drop 4).take (Tryz.prog.cellsOf 124)) = xs[4]? := hf 4 _ rfl
  obtain ⟨y0, y1, y2, y3, y4, rfl⟩ : ∃ y0 y1 y2 y3 y4, xs = [y0, y1, y2, y3, y4] := by
    match xs, hL with
    | [y0, y1, y2, y3, y4], _ => exact ⟨y0, y1, y2, y3, y4, rfl⟩
  clear hf
  replace f0 : _ = some y0 := f0
  replace f1 : _ = some y1 := f1
  replace f2 : _ = some y2 := f2
  replace f3 : _ = some y3 := f3
  replace f4 : _ = some y4 := f4
  have k3 : Tryz.prog.cellsOf 3 = 1 := by kernel_rfl
  have k50 : Tryz.prog.cellsOf 124 = 7 := by kernel_rfl
  rw [k3] at f0 f1 f2 f3
  rw [k50] at f4
  simp only [rowD, List.map_cons, List.map_nil, DataW.agg.injEq, List.cons.injEq, and_true] at hd
  obtain ⟨d0, d1, d2, d3, d4⟩ := hd
  obtain ⟨a0, e0, q0, _⟩ := DataW.trod_int Tryz.underlying3 f0
  obtain ⟨a1, e1, q1, _⟩ := DataW.trod_int Tryz.underlying3 f1
  obtain ⟨a2, e2, q2, _⟩ := DataW.trod_int Tryz.underlying3 f2
  obtain ⟨a3, e3, q3, _⟩ := DataW.trod_int Tryz.underlying3 f3
  rw [q0] at d0
  rw [q1] at d1
  rw [q2] at d2
  rw [q3] at d3
  simp only [DataW.lit.injEq, Lit.int.injEq, true_and] at d0 d1 d2 d3
  have e4 := Lib.cells_of_tab (zs := r.fs.map fun (n : Nat) => (n : Int)) (p := y4.2) Tryz.underlying124 Tryz.underlying3 k3 k50 (by rw [f4, d4])
  have e11 : cs.drop 11 = [] := List.drop_eq_nil_of_le (by omega)
  have h4 := dsplit cs 4 7
  rw [e11, List.append_nil] at h4
  have e : cs = (cs.drop 0).take 1 ++ ((cs.drop 1).take 1 ++ ((cs.drop 2).take 1 ++ ((cs.drop 3).take 1 ++ (cs.drop 4).take 7))) := by
    conv => lhs; rw [← List.drop_zero (l := cs), dsplit cs 0 1, dsplit cs (0 + 1) 1, dsplit cs (0 + 1 + 1) 1, dsplit cs (0 + 1 + 1 + 1) 1, show 0 + 1 + 1 + 1 + 1 = 4 from rfl, h4]
  rw [e, e0, e1, e2, e3, e4, ← d0, ← d1, ← d2, ← d3]
  simp [Kr.ls, rowL, fcs]
theorem slices_eq {L M : List Value} (hl : L.length = 154) (hm : M.length = 154) (h : ∀ n, n < 14 → (L.drop (n * 11)).take 11 = (M.drop (n * 11)).take 11) : L = M := by
  apply List.ext_getElem?
  intro j
  by_cases hj : j < 154
  · have key : ∀ K : List Value, ((K.drop (j / 11 * 11)).take 11)[j % 11]? = K[j]? := by
      intro K
      rw [List.getElem?_take_of_lt (by omega), List.getElem?_drop, show j / 11 * 11 + j % 11 = j by omega]
    rw [← key L, ← key M, h (j / 11) (by omega)]
  · rw [List.getElem?_eq_none (by omega), List.getElem?_eq_none (by omega)]
theorem laid_rows : (Rows.laid_torrent_message_kinds : DataW Unit) = .agg (rws.map rowD) := rfl
theorem masks_of_laid {W : World} {a : String × DataW Unit} {r : List (String × DataW Unit)} (h0 : laidMet Tryz.prog (a :: ("torrent/bitset.masks", Rows.laid_torrent_bitset_masks) :: r) W) : Bs.MT W := by
  have h : laidMet Tryz.prog (("torrent/bitset.masks", Rows.laid_torrent_bitset_masks) :: r) W := by
    obtain ⟨ps, hv, hn, hc⟩ := h0
    obtain ⟨n, d⟩ := a
    obtain ⟨g, t, cs, fuel, p, q, _, _, _, _, hr, rfl⟩ := hv
    exact ⟨q, hr, (List.nodup_append.1 hn).2.1, fun b off hm => hc b off (by simp [hm])⟩
  have ht : Lib.TabIs Tryz.prog W "torrent/bitset.masks" .u8 [128, 64, 32, 16, 8, 4, 2, 1] := Lib.tabIs_of_head (g := 0) (t := 27) (e := 5) (n := 8) (by kernel_rfl) (by kernel_rfl) (by kernel_rfl) (by kernel_rfl) (by kernel_rfl) (by kernel_rfl) h
  have hc := fun i hi => ht.cell (g := 0) (by kernel_rfl) i hi
  refine ⟨World.block_lt_of_cell? W _ (hc 0 (by decide)), fun j hj => ?_⟩
  rw [hc j hj]
  match j, hj with
  | 0, _ | 1, _ | 2, _ | 3, _ | 4, _ | 5, _ | 6, _ | 7, _ => rfl
  | j + 8, h => omega
set_option maxRecDepth 100000 in
theorem kt_of_laid {W : World} {r : List (String × DataW Unit)} (h : laidMet Tryz.prog (("torrent/message.kinds", Rows.laid_torrent_message_kinds) :: r) W) : KT W := by
  obtain ⟨ps, ⟨g, t, cs, fuel, p, q, hg, ht, hvar, hd, _, _⟩, _⟩ := h
  have hg0 : Tryz.prog.globalNamed "torrent/message.kinds" = some 1 := by kernel_rfl
  have ht0 : (Tryz.prog.globals[1]?).map (·.type) = some 148 := by kernel_rfl
  obtain rfl := Option.some.inj (hg0.symm.trans hg)
  obtain rfl := Option.some.inj (ht0.symm.trans ht)
  rw [laid_rows] at hd
  obtain ⟨xs, m, _, hx, hlen, hxs, hget⟩ := DataW.trod_array Tryz.underlying148 hd
  have k52 : Tryz.prog.cellsOf 126 = 11 := by kernel_rfl
  have k80 : Tryz.prog.cellsOf 148 = 154 := by kernel_rfl
  rw [k80] at hlen
  have hxd : rws.map rowD = xs.map (·.1) := by
    have := congrArg Prod.fst hx
    simpa using this
  have hcs : cs.toList = kindsL := by
    refine slices_eq (M := kindsL) hlen rfl fun n hn => ?_
    obtain ⟨r, hr⟩ : ∃ r, rws[n]? = some r := ⟨_, List.getElem?_eq_getElem hn⟩
    rw [(rws_row n r hr).1]
    have h1 := hget n hn
    rw [k52] at h1
    have h2 : (xs.map (·.1))[n]? = some (rowD r) := by rw [← hxd, List.getElem?_map, hr]; rfl
    rw [List.getElem?_map] at h2
    obtain ⟨y, hy, hy2⟩ := Option.map_eq_some_iff.1 h2
    rw [hy] at h1
    obtain ⟨y1, y2⟩ := y
    simp only at hy2
    subst hy2
    exact row_cellsK h1
  intro j v hj
  have := World.var?_cell hg0 hvar j
  rw [Nat.zero_add, this, ← Array.getElem?_toList, hcs]
  exact hj
end Go.Proofs.YtnmeohacdbmplaaGreatDoor
