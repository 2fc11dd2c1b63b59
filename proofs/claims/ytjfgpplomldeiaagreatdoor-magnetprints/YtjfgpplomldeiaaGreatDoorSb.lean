import Derived.Test.YtjfgpplomldeiaaGreatDoorSa
import Derived.Shelf.Strings.OnBuilder
namespace Go.Proofs.YtjfgpplomldeiaaGreatDoor
open Go.Shelf Go.RowKit Go.Deep Go.Sort
shelf_lay Lays.n156 Nm 156 at Tryz as laysJoin
theorem bxJoin : Builder.Extra Tryz.prog laysJoin_ren where
  sizeBuilder := by kernel_rfl
  liesBuilder := by kernel_rfl
  t5 := Tryz.underlying5
  a5 := Tryz.isAgg5
  z5 := Tryz.sizeOf5
  v5 := Tryz.zeroValue5
  infoByte := by kernel_rfl
  cellsByte := by kernel_rfl
  sizeByte := by kernel_rfl
  neB5 := by decide
theorem own_setR {w : World} {B e s n g i cap : Nat} {u : Value} {us : List Value} (h : w.ownsRow B e s (.slice (some ⟨g, 0, none⟩) n cap) n us) : (w.setCell ⟨g, i, none⟩ u).ownsRow B e s (.slice (some ⟨g, 0, none⟩) n cap) n (us.set i u) := by
  refine ⟨by rw [List.length_set]; exact h.1, ?_⟩
  rcases h.2 with ⟨h', _⟩ | ⟨g', cap', cur, h', h2, h3, h4, h5, h6, h7⟩
  · simp at h'
  · simp only [Value.slice.injEq, Option.some.injEq, Addr.mk.injEq, and_true, true_and] at h'
    obtain ⟨rfl, rfl⟩ := h'
    refine .inr ⟨_, cap, cur.setIfInBounds i u, rfl, h2, by simp [World.setCell, Array.getElem?_modify, h3], h4, h5, by simpa using h6, ?_⟩
    rw [← h7]
    simp [List.take_set]
theorem own_atR {w : World} {B e n g cap : Nat} {us : List Value} (h : w.ownsRow B e 1 (.slice (some ⟨g, 0, none⟩) n cap) n us) (i : Nat) (u : Value) (hu : us[i]? = some u) : w.cell? ⟨g, i, none⟩ = some u ∧ w.frozen? ⟨g, i, none⟩ = false := by
  have h1 := h.cells (g := g) rfl i u hu
  have hadd : (⟨g, 0, none⟩ : Addr).add i = ⟨g, i, none⟩ := by unfold Addr.add; split <;> simp_all
  rw [hadd] at h1
  refine ⟨h1, ?_⟩
  rcases h.2 with ⟨e, _⟩ | ⟨g', cap', cur, e, _, h3, _⟩
  · cases e
  · cases e
    simp [World.frozen?, h3]
/-- the texts of the first k runs, the rest empty -/
def rtC (rs : List (Int × Int)) (k : Nat) : List Value := (rs.take k).map (fun x => Value.string (bs (rnT x))) ++ List.replicate (rs.length - k) (.string ByteArray.empty)
theorem rtC_zero (rs : List (Int × Int)) : rtC rs 0 = List.replicate rs.length (.string ByteArray.empty) := by simp [rtC]
theorem rtC_at (rs : List (Int × Int)) (k : Nat) (h : k < rs.length) : (rtC rs k)[k]? = some (.string ByteArray.empty) := by
  unfold rtC
  have hl : ((rs.take k).map (fun x => Value.string (bs (rnT x)))).length = k := by rw [List.length_map, List.length_take]; omega
  rw [List.getElem?_append_right (by rw [hl]; exact Nat.le_refl _), hl, Nat.sub_self, List.getElem?_replicate, if_pos (by omega)]
theorem rtC_set (rs : List (Int × Int)) (k : Nat) (x : Int × Int) (h : rs[k]? = some x) : (rtC rs k).set k (.string (bs (rnT x))) = rtC rs (k + 1) := by
  have hk := (List.getElem?_eq_some_iff.1 h).1
  unfold rtC
  obtain ⟨m, hm⟩ : ∃ m, rs.length - k = m + 1 := ⟨rs.length - k - 1, by omega⟩
  rw [List.take_add_one, h, hm, show rs.length - (k + 1) = m by omega, List.set_append]
  have hl : ((rs.take k).map (fun x => Value.string (bs (rnT x)))).length = k := by simp; omega
  rw [hl, if_neg (by omega)]
  simp [List.replicate_succ]
theorem rtC_all (rs : List (Int × Int)) : rtC rs rs.length = (rs.map fun x => bs (rnT x)).map Value.string := by simp [rtC]
theorem rnT_len (x : Int × Int) (hx : RnOk x) (hs : x.1 + x.2 ≤ 4096) : (rnT x).length ≤ 43 := by
  obtain ⟨⟨p1, p2⟩, q1, q2⟩ := hx
  have h1 := Lib.itoa_length_le x.1 (by omega) (by omega)
  have h2 := Lib.itoa_length_le (x.1 + x.2 - 1) (by omega) (by omega)
  unfold rnT
  split <;> simp <;> omega
theorem lens_le (l : List (List UInt8)) (n : Nat) (h : ∀ x ∈ l, x.length ≤ n) : Lib.lens l ≤ n * l.length := by
  induction l with
  | nil => simp [Lib.lens]
  | cons a t ih =>
    have h1 := h a (by simp)
    have h2 := ih fun x hx => h x (by simp [hx])
    simp [Lib.lens] at h2 ⊢
    rw [Nat.mul_succ]
    omega
theorem rsT_len (rs : List (Int × Int)) (hok : ∀ x ∈ rs, RnOk x ∧ x.1 + x.2 ≤ 4096) : (rsT rs).length ≤ 44 * rs.length := by
  unfold rsT
  cases rs with
  | nil => simp [Lib.join_nil]
  | cons a t =>
    rw [List.map_cons, Lib.join_length]
    have := lens_le ((a :: t).map rnT) 43 (by
      intro x hx
      obtain ⟨y, hy, rfl⟩ := List.mem_map.1 hx
      exact rnT_len y (hok y hy).1 (hok y hy).2)
    simp at this ⊢
    omega
theorem info9z : (Tryz.prog.info? 9).map (fun i => (i.zero, i.size, i.bytes)) = some (some (.string ByteArray.empty), 1, 16) := by kernel_rfl
theorem mk9 (n : Nat) : (madeCells (Value.string ByteArray.empty).cells (n * 1)).toList = List.replicate n (.string ByteArray.empty) := by
  rw [Nat.mul_one]
  apply List.ext_getElem?
  intro i
  rw [List.getElem?_replicate]
  by_cases h : i < n
  · rw [if_pos h]
    simp [madeCells, Value.cells, h, Nat.mod_one]
  · rw [if_neg h]
    simp [madeCells, Value.cells, h]
end Go.Proofs.YtjfgpplomldeiaaGreatDoor
