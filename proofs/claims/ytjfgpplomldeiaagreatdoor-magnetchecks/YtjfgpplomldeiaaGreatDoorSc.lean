import Derived.Test.YtjfgpplomldeiaaGreatDoorSb
import Derived.OwnWalk
namespace Go.Proofs.YtjfgpplomldeiaaGreatDoor
open Go.Shelf Go.RowKit Go.Deep Go.Sort
set_option maxHeartbeats 4000000 in
set_option maxRecDepth 100000 in
theorem runsText (v : Value) (rs : List (Int × Int)) (w : World) (hr : RR (fun _ => True) w v rs) (hn : rs.length ≤ 4096) (hok : ∀ x ∈ rs, RnOk x ∧ x.1 + x.2 ≤ 4096) (hT : IT w) :
    Calls Tryz.prog 60 #[v] w fun e w' => e = .returned (.string ⟨(rsT rs).toArray⟩) ∧ Below w.heap.size w w' := by
  obtain ⟨i0, hi, hz0, hz1, hz2⟩ := info_parts info9z
  have HL : Hid ((rsT rs).length ≤ 44 * rs.length) := rsT_len rs hok
  have HOK : Hid (∀ x ∈ rs, RnOk x ∧ x.1 + x.2 ≤ 4096) := hok
  have HT : Hid (IT w) := hT
  obtain ⟨a, c, rfl, hx⟩ := hr
  have HX := Lib.hid hx
  clear hx hok hT
  generalize hnn : rs.length = n at *
  have HNN : Hid (rs.length = n) := hnn
  clear hnn
  go_enter Tryz.func60, Tryz.ntmps60
  go_wp2_with (at_make; refine wpList_make_full _ rfl (.tmp 7) (.tmp 7) 24 rfl w.heap.size 9 i0 _ 1 Tryz.underlying24 hi hz0 hz1 .i64 .i64 (n : Int) (n : Int) n rfl rfl rfl rfl (by rw [hz2]; omega) (by unfold maxLen; omega) (Nat.le_refl _) ?_; intro w1 hown hgrow; rw [mk9] at hown; have HO : Hid (Below w.heap.size w w1 ∧ w1.ownsRow w.heap.size 9 1 (.slice (some ⟨w.heap.size, 0, none⟩) n n) n (List.replicate n (.string ByteArray.empty))) := ⟨(Below.refl _ _).grown hgrow (Nat.le_refl _) (fun k e => by cases e), hown⟩; clear hown hgrow)
  go_loopw [11] (fun t wr => ∃ k : Nat, k ≤ n ∧ t = .int .i64 k ∧ Hid (Below w.heap.size w wr ∧ wr.ownsRow w.heap.size 9 1 (.slice (some ⟨w.heap.size, 0, none⟩) n n) n (rtC rs k))) (fun t _ => n - (intOf t).toNat)
  case atStart => exact ⟨0, Nat.zero_le _, rfl, HO.out.1, by rw [rtC_zero, HNN.out]; exact HO.out.2⟩
  case round =>
    clear HO
    obtain ⟨k, hk, rfl, HI⟩ := hrel
    by_cases hlt : k < n
    · obtain ⟨x, hx⟩ : ∃ x, rs[k]? = some x := ⟨_, List.getElem?_eq_getElem (by rw [HNN.out]; exact hlt)⟩
      obtain ⟨g, o, rfl, _, hg, hc⟩ := HX.out.resolve_left (fun e => by omega)
      have g0 := Below.cellS HI.out.1 (Nat.le_refl _) (hc k x hx).1
      have g1 := Below.cellS HI.out.1 (Nat.le_refl _) (hc k x hx).2
      have hko := HOK.out x (List.mem_of_getElem? hx)
      have HXI := Lib.hid hx
      have hba : Below w.heap.size w (wr.alloc (Obj.cells #[.int .i64 x.1, .int .i64 x.2] 53)) := HI.out.1.alloc HI.out.1.size _
      have HR := Lib.hid (runText x (wr.alloc (Obj.cells #[.int .i64 x.1, .int .i64 x.2] 53)) hko.1 hko.2 (HT.out.below hba))
      have HBA := Lib.hid hba
      clear hc hx hko hba
      obtain ⟨xa, xb⟩ := x
      simp only at g0 g1 HR HBA
      go_wp2_with fail
      refine HR.out.mono ?_
      rintro e w2 ⟨rfl, b2⟩
      have hB2 : Below w.heap.size w w2 := HBA.out.trans (b2.mono HBA.out.size)
      have ho2 : w2.ownsRow w.heap.size 9 1 (.slice (some ⟨w.heap.size, 0, none⟩) n n) n (rtC rs k) := own_keep HI.out.2 (fun q e => by
        have hq := World.ownsRow.lt HI.out.2 q e
        rw [b2.block q (by simp; omega), Below.heap_alloc _ _ _ hq.2])
      have hat := own_atR ho2 k _ (rtC_at rs k (by rw [HNN.out]; exact hlt))
      have HS : Hid (Below w.heap.size w (w2.setCell ⟨w.heap.size, k, none⟩ (.string ⟨(rnT (xa, xb)).toArray⟩)) ∧ (w2.setCell ⟨w.heap.size, k, none⟩ (.string ⟨(rnT (xa, xb)).toArray⟩)).ownsRow w.heap.size 9 1 (.slice (some ⟨w.heap.size, 0, none⟩) n n) n (rtC rs (k + 1))) := ⟨hB2.setCell (p := ⟨w.heap.size, k, none⟩) (Nat.le_refl _) _, by
        have h9 := own_setR (i := k) (u := .string ⟨(rnT (xa, xb)).toArray⟩) ho2
        have h8 : (rtC rs k).set k (.string ⟨(rnT (xa, xb)).toArray⟩) = rtC rs (k + 1) := rtC_set rs k (xa, xb) HXI.out
        rw [h8] at h9
        exact h9⟩
      obtain ⟨s1, s2⟩ := hat
      clear HI HR HBA b2 hB2 ho2 g0 g1
      generalize rnT (xa, xb) = tx at *
      go_wp2
      exact ⟨⟨k + 1, by omega, by go_num, HS⟩, by simp [intOf]; omega⟩
    · obtain rfl : k = n := by omega
      have hq := World.ownsRow.lt HI.out.2 w.heap.size rfl
      have e1 : (rs.map fun x => bs (rnT x)).map (fun x => x.data.toList) = rs.map rnT := by
        rw [List.map_map]
        exact List.map_congr_left fun x _ => bs_tl _
      have hJ := Any.strings_Join laysJoin bxJoin w.heap.size 0 k (rs.map fun x => bs (rnT x)) ⟨#[44]⟩ wr (fun j x hj => by
        have h9 := HI.out.2
        have h8 : rtC rs k = (rs.map fun x => bs (rnT x)).map Value.string := by have := rtC_all rs; rw [HNN.out] at this; exact this
        rw [h8] at h9
        have := (own_atR h9 j (.string x) (by rw [List.getElem?_map, hj]; rfl)).1
        rw [Nat.zero_add]
        exact this) hq.2 (by rw [List.length_map, HNN.out]; omega) (by rw [List.length_map, HNN.out]; exact Nat.le_refl _) (by
          rw [e1]
          have := HL.out
          show (rsT rs).length ≤ _
          omega)
      rw [List.length_map, HNN.out, e1] at hJ
      have HJ : Hid (Calls Tryz.prog 71 #[.slice (some ⟨w.heap.size, 0, none⟩) k k, .string ⟨#[44]⟩] wr fun e w' => e = .returned (.string ⟨(rsT rs).toArray⟩) ∧ Below wr.heap.size wr w') := hJ
      have HB : Hid (Below w.heap.size w wr) := HI.out.1
      clear hJ HI hq e1
      go_wp2_with fail
      refine HJ.out.mono ?_
      rintro e w2 ⟨rfl, b2⟩
      have HB2 : Hid (Below w.heap.size w w2) := HB.out.trans (b2.mono HB.out.size)
      clear b2
      go_wp2
      go_ret
      exact ⟨rfl, HB2.out⟩
end Go.Proofs.YtjfgpplomldeiaaGreatDoor
