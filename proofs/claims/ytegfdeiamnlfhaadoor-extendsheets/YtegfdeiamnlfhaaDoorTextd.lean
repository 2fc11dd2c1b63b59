import Derived.Test.YtegfdeiamnlfhaaDoorTexts
namespace Go.Proofs.YtegfdeiamnlfhaaDoor
open Go.RowKit Go.Deep
theorem ow_heap {B : Nat} {w w' : World} {v : Value} {l : List UInt8} (h : OW B w v l) (hh : w'.heap = w.heap) : OW B w' v l := by
  unfold OW World.ownsRow at *
  rw [hh]; exact h
set_option maxRecDepth 10000 in
set_option maxHeartbeats 4000000 in
theorem dict102 (dn : Nat) (ky : Nat → ByteArray) (dv : Nat → T) (ih : ∀ i, TC (dv i)) (B b c : Nat) (sv : Value) (l : List UInt8) (w : World) (hb : NB w b) (hbl : b < w.heap.size) (hel : ∀ i, i < dn → ∃ u, w.cell? ⟨b, i * 2, none⟩ = some (.string (ky i)) ∧ w.cell? ⟨b, i * 2 + 1, none⟩ = some u ∧ RN (NB w) w (dv i) u) (hrng : ∀ i, i < dn → (dv i).rng) (hdn : dn ≤ 2147483647)
    (hown : OW B w sv l) (hB : B ≤ w.heap.size) (hT : TB B w) (hlim : l.length + (catN (fun i => wtx (ky i) ++ txt (dv i)) dn).length + 2 ≤ 100000000000000) :
    Calls Tryd.prog 80 #[.slice (some ⟨b, 0, none⟩) dn c, sv] w fun e w' => ∃ v', e = .returned v' ∧ OW B w' v' (l ++ 100 :: (catN (fun i => wtx (ky i) ++ txt (dv i)) dn ++ [101])) ∧ BW B w w' := by
  have HC : Hid ((∀ i, TC (dv i)) ∧ ∀ i, i < dn → ∃ u, w.cell? ⟨b, i * 2, none⟩ = some (.string (ky i)) ∧ w.cell? ⟨b, i * 2 + 1, none⟩ = some u ∧ RN (NB w) w (dv i) u) := ⟨ih, hel⟩
  clear ih hel
  go_enter Tryd.func80, Tryd.ntmps80
  go_wp2_with (at_builtin; refine append_byte rfl _ _ rfl rfl (hown.alloc _) w.heap.size 100 rfl (by go_simp) (by simp; omega) (by omega) ?_)
  intro v1 w1 ho1 hb1
  have hb1' : BW B w w1 := ((BW.refl B w).alloc hB _).trans hb1
  have hB1 : B ≤ w1.heap.size := Nat.le_trans hB hb1'.1.size
  clear hb1
  go_wp2
  go_loopw [1, 12] (fun o i wr => ∃ (j : Nat), j ≤ dn ∧ i = .int .i64 j ∧ Hid (OW B wr o (l ++ 100 :: catN (fun i => wtx (ky i) ++ txt (dv i)) j) ∧ BW B w wr)) (fun _ i _ => dn - (intOf i).toNat)
  case atStart => exact ⟨0, Nat.zero_le _, rfl, ho1, hb1'⟩
  case round =>
    clear ho1 hb1' hB1
    obtain ⟨j, hj, rfl, HO⟩ := hrel
    by_cases hlt : j < dn
    · obtain ⟨u0, k0, g0, g1⟩ := HC.out.2 j hlt
      have H0 : Hid (∀ i, TC (dv i)) := HC.out.1
      obtain ⟨ty, u, rfl⟩ := g1.iface
      have k0' := (World.cell?_of_block (w := w) (NB.keep HO.out.2 hb hbl)).trans k0
      have g0' := (World.cell?_of_block (w := w) (NB.keep HO.out.2 hb hbl)).trans g0
      clear g0 k0
      have j0 : (0 : Int) ≤ (j : Int) := by omega
      have j1 : (j : Int) < (dn : Int) := by omega
      have hty := g1.ty
      have hle := catN_le (f := fun i => wtx (ky i) ++ txt (dv i)) hlt
      have hrn := hrng j hlt
      have hl2 : (wtx (ky j) ++ txt (dv j)).length = (wtx (ky j)).length + (txt (dv j)).length := List.length_append
      have hl3 : (wtx (ky j)).length = (Lib.itoa (ky j).size).length + ((ky j).size + 1) := by simp [wtx]
      have hB2 : B ≤ wr.heap.size := Nat.le_trans hB HO.out.2.1.size
      have HC : Hid (∀ w', w'.heap = (wr.alloc (Obj.cells #[Value.string (ky j), Value.iface ty u] 75)).heap → w'.os = (wr.alloc (Obj.cells #[Value.string (ky j), Value.iface ty u] 75)).os → w'.tape = (wr.alloc (Obj.cells #[Value.string (ky j), Value.iface ty u] 75)).tape → w'.output = (wr.alloc (Obj.cells #[Value.string (ky j), Value.iface ty u] 75)).output →
          Calls Tryd.prog 78 #[.string (ky j), u1] w' fun e wq => ∃ v2, e = .returned v2 ∧ wq.cell? ⟨wr.heap.size, 0, none⟩ = some (.string (ky j)) ∧ wq.cell? ⟨wr.heap.size, 1, none⟩ = some (.iface ty u) ∧
            Hid (Calls Tryd.prog (mth ty) #[u, v2] wq fun e wz => ∃ v3, e = .returned v3 ∧ wz.cell? ⟨wr.heap.size, 0, none⟩ = some (.string (ky j)) ∧ wz.cell? ⟨wr.heap.size, 1, none⟩ = some (.iface ty u) ∧ Hid (OW B wz v3 (l ++ 100 :: catN (fun i => wtx (ky i) ++ txt (dv i)) (j + 1)) ∧ BW B w wz))) := by
        intro w' hh h1 h2 h3
        obtain ⟨ho, hbw⟩ := HO.out
        have hw3 : Below (wr.heap.size + 1) (wr.alloc (Obj.cells #[Value.string (ky j), Value.iface ty u] 75)) w' := ⟨h1, h2, h3, by rw [hh]; exact Nat.le_refl _, fun q _ => by rw [hh]⟩
        have hbx : blk w' wr.heap.size 75 #[Value.string (ky j), Value.iface ty u] := (show blk (wr.alloc (Obj.cells #[Value.string (ky j), Value.iface ty u] 75)) wr.heap.size 75 _ from heap_new _ _).keep (by rw [hh])
        have hbw' : BW B w w' := (hbw.alloc hB2 _).below (by simp; omega) ⟨h1, h2, h3, by rw [hh]; exact Nat.le_refl _, fun q _ => by rw [hh]⟩
        have ho' : OW B w' u1 (l ++ 100 :: catN (fun i => wtx (ky i) ++ txt (dv i)) j) := ow_heap (ho.alloc _) hh
        have keepx : ∀ wa wb, blk wa wr.heap.size 75 #[Value.string (ky j), Value.iface ty u] → BW B wa wb → blk wb wr.heap.size 75 #[Value.string (ky j), Value.iface ty u] := fun wa wb hx hbb => hbb.2 _ _ hx (by simp) (fun cc fz h => by cases h)
        refine (word100 B (ky j) u1 _ w' ho' (Nat.le_trans hB hbw'.1.size) (hT.on hbw'.1) (by simp only [List.length_append, List.length_cons]; omega)).mono ?_
        rintro e wq ⟨v2, rfl, ho2, hb2⟩
        have hx2 := keepx _ _ hbx hb2
        have hbq := hbw'.trans hb2
        refine ⟨v2, rfl, hx2.cell 0, hx2.cell 1, ?_⟩
        refine Lib.hid (((H0.out j) B ty u v2 _ wq (RN.keepB g1 hbq) hrn ho2 (Nat.le_trans hB hbq.1.size) (hT.on hbq.1) (by simp only [List.length_append, List.length_cons]; omega)).mono ?_)
        rintro e wz ⟨v3, rfl, ho3, hb3⟩
        have hx3 := keepx _ _ hx2 hb3
        exact ⟨v3, rfl, hx3.cell 0, hx3.cell 1, by simpa [catN] using ho3, hbq.trans hb3⟩
      have k0 : (wr.alloc (Obj.cells #[Value.string (ky j), Value.iface ty u] 75)).cell? ⟨wr.heap.size, 0, none⟩ = some (.string (ky j)) := blk.cell (ty := 75) (heap_new _ _) 0
      have k1 : (wr.alloc (Obj.cells #[Value.string (ky j), Value.iface ty u] 75)).cell? ⟨wr.heap.size, 1, none⟩ = some (.iface ty u) := blk.cell (ty := 75) (heap_new _ _) 1
      clear g1 hle hrn hl2 hl3 hB2 HO H0
      rcases hty with rfl | rfl | rfl | rfl
      · have hm := meth55
        go_wp2_with fail
        generalize (wr.alloc (Obj.cells #[Value.string (ky j), Value.iface 59 u] 75)) = w3 at *
        generalize wr.heap.size = xb at *
        clear k0' g0'
        go_region_held3 (fun w' => w'.cell? ⟨xb, 0, none⟩ = some (.string (ky j)) ∧ w'.cell? ⟨xb, 1, none⟩ = some (.iface 59 u))
          (first | (exact ⟨k0, k1⟩) | (exact ⟨q0, q1⟩) | (exact ⟨z0, z1⟩))
          (first | (go_at_call 78; refine (HC.out w3.drew rfl rfl rfl rfl).mono ?_; rintro e wq ⟨v2, rfl, q0, q1, HX⟩) | (go_at_call 74; refine HX.out.mono ?_; rintro e wz ⟨v3, rfl, z0, z1, HN⟩))
        clear k0 k1 q0 q1 z0 z1 HC HX hm
        go_wp2
        go_roundw
        case rel => exact ⟨j + 1, by omega, by go_num, HN⟩
        case measure => simp [intOf]; omega
      · have hm := meth56
        go_wp2_with fail
        generalize (wr.alloc (Obj.cells #[Value.string (ky j), Value.iface 60 u] 75)) = w3 at *
        generalize wr.heap.size = xb at *
        clear k0' g0'
        go_region_held3 (fun w' => w'.cell? ⟨xb, 0, none⟩ = some (.string (ky j)) ∧ w'.cell? ⟨xb, 1, none⟩ = some (.iface 60 u))
          (first | (exact ⟨k0, k1⟩) | (exact ⟨q0, q1⟩) | (exact ⟨z0, z1⟩))
          (first | (go_at_call 78; refine HX.out.mono ?_; rintro e wz ⟨v3, rfl, z0, z1, HN⟩) | (go_at_call 78; refine (HC.out w3.drew rfl rfl rfl rfl).mono ?_; rintro e wq ⟨v2, rfl, q0, q1, HX⟩))
        clear k0 k1 q0 q1 z0 z1 HC HX hm
        go_wp2
        go_roundw
        case rel => exact ⟨j + 1, by omega, by go_num, HN⟩
        case measure => simp [intOf]; omega
      · have hm := meth58
        go_wp2_with fail
        generalize (wr.alloc (Obj.cells #[Value.string (ky j), Value.iface 62 u] 75)) = w3 at *
        generalize wr.heap.size = xb at *
        clear k0' g0'
        go_region_held3 (fun w' => w'.cell? ⟨xb, 0, none⟩ = some (.string (ky j)) ∧ w'.cell? ⟨xb, 1, none⟩ = some (.iface 62 u))
          (first | (exact ⟨k0, k1⟩) | (exact ⟨q0, q1⟩) | (exact ⟨z0, z1⟩))
          (first | (go_at_call 78; refine (HC.out w3.drew rfl rfl rfl rfl).mono ?_; rintro e wq ⟨v2, rfl, q0, q1, HX⟩) | (go_at_call 79; refine HX.out.mono ?_; rintro e wz ⟨v3, rfl, z0, z1, HN⟩))
        clear k0 k1 q0 q1 z0 z1 HC HX hm
        go_wp2
        go_roundw
        case rel => exact ⟨j + 1, by omega, by go_num, HN⟩
        case measure => simp [intOf]; omega
      · have hm := meth61
        go_wp2_with fail
        generalize (wr.alloc (Obj.cells #[Value.string (ky j), Value.iface 65 u] 75)) = w3 at *
        generalize wr.heap.size = xb at *
        clear k0' g0'
        go_region_held3 (fun w' => w'.cell? ⟨xb, 0, none⟩ = some (.string (ky j)) ∧ w'.cell? ⟨xb, 1, none⟩ = some (.iface 65 u))
          (first | (exact ⟨k0, k1⟩) | (exact ⟨q0, q1⟩) | (exact ⟨z0, z1⟩))
          (first | (go_at_call 78; refine (HC.out w3.drew rfl rfl rfl rfl).mono ?_; rintro e wq ⟨v2, rfl, q0, q1, HX⟩) | (go_at_call 80; refine HX.out.mono ?_; rintro e wz ⟨v3, rfl, z0, z1, HN⟩))
        clear k0 k1 q0 q1 z0 z1 HC HX hm
        go_wp2
        go_roundw
        case rel => exact ⟨j + 1, by omega, by go_num, HN⟩
        case measure => simp [intOf]; omega
    · obtain rfl : j = dn := by omega
      obtain ⟨ho, hbw⟩ := HO.out
      have hB2 := Nat.le_trans hB hbw.1.size
      have HBW := Lib.hid hbw
      clear hbw
      go_wp2_with (at_builtin; refine append_byte rfl _ _ rfl rfl (ho.alloc _) _ 101 rfl (by go_simp) (by simp; omega) (by simp; omega) ?_)
      intro v3 w3 ho3 hb3
      go_wp2
      go_ret
      exact ⟨v3, rfl, by simpa using ho3, (HBW.out.alloc hB2 _).trans hb3⟩
end Go.Proofs.YtegfdeiamnlfhaaDoor
