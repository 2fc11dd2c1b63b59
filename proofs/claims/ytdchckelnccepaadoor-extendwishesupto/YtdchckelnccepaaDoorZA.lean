import Derived.Test.YtdchckelnccepaaDoorZ9
namespace Go.Proofs.YtdchckelnccepaaDoor
open Go.RowKit Go.Deep
def mth (ty : TypeId) : Nat := if ty = 81 then 91 else if ty = 82 then 95 else if ty = 84 then 96 else 97
theorem NB.keep {B : Nat} {w w' : World} (h : BW B w w') {b : Nat} (hn : NB w b) (hl : b < w.heap.size) : w'.heap[b]? = w.heap[b]? := by
  have e : w.heap[b]? = some w.heap[b] := Array.getElem?_eq_getElem hl
  rw [e]
  exact h.2 b _ e (by simp) (fun c fz hc => hn c fz (by rw [e, hc]))
def TC (t : T) : Prop := ∀ (B : Nat) (ty : TypeId) (u sv : Value) (l : List UInt8) (w : World), RN (NB w) w t (.iface ty u) → t.rng → OW B w sv l → B ≤ w.heap.size → TB B w → l.length + (txt t).length ≤ 100000000000000 →
  Calls Tryd.prog (mth ty) #[u, sv] w fun e w' => ∃ v', e = .returned v' ∧ OW B w' v' (l ++ txt t) ∧ BW B w w'
theorem RN.keepB {B : Nat} {w w' : World} {t : T} {v : Value} (h : RN (NB w) w t v) (hb : BW B w w') : RN (NB w') w' t v :=
  RN.move (fun b hn hl c fz => by rw [NB.keep hb hn hl]; exact hn c fz) hb.1.size (fun b hn hl => NB.keep hb hn hl) _ _ h
theorem RN.ty {S : Nat → Prop} {w : World} {t : T} {ty : TypeId} {u : Value} (h : RN S w t (.iface ty u)) : ty = 81 ∨ ty = 82 ∨ ty = 84 ∨ ty = 87 := by
  cases t with
  | no => exact h.elim
  | mk k n s ln l dn ky dv =>
    rcases h with ⟨_, h⟩ | ⟨_, h⟩ | ⟨_, b, c, h, _⟩ | ⟨_, b, c, h, _⟩ <;> cases h
    · exact .inl rfl
    · exact .inr (.inl rfl)
    · exact .inr (.inr (.inl rfl))
    · exact .inr (.inr (.inr rfl))
theorem meth55 (u : Value) (w : World) : Sem.run Tryd.prog (method 234 81 u "torrent/bencode.text") w = .ok (91, u) w := by kernel_rfl
theorem meth56 (u : Value) (w : World) : Sem.run Tryd.prog (method 234 82 u "torrent/bencode.text") w = .ok (95, u) w := by kernel_rfl
theorem meth58 (u : Value) (w : World) : Sem.run Tryd.prog (method 234 84 u "torrent/bencode.text") w = .ok (96, u) w := by kernel_rfl
theorem meth61 (u : Value) (w : World) : Sem.run Tryd.prog (method 234 87 u "torrent/bencode.text") w = .ok (97, u) w := by kernel_rfl
theorem catN_le {f : Nat → List UInt8} : ∀ {n j : Nat}, j < n → (catN f j).length + (f j).length ≤ (catN f n).length
  | 0, _, h => absurd h (Nat.not_lt_zero _)
  | n + 1, j, h => by
    show _ ≤ (catN f n ++ f n).length
    rw [List.length_append]
    rcases Nat.lt_succ_iff_lt_or_eq.1 h with h | rfl
    · have := catN_le (f := f) h; omega
    · exact Nat.le_refl _
set_option maxRecDepth 10000 in
set_option maxHeartbeats 1000000 in
theorem list101 (ln : Nat) (ch : Nat → T) (ih : ∀ i, TC (ch i)) (B b c : Nat) (sv : Value) (l : List UInt8) (w : World) (hb : NB w b) (hbl : b < w.heap.size) (hel : ∀ i, i < ln → ∃ u, w.cell? ⟨b, i, none⟩ = some u ∧ RN (NB w) w (ch i) u) (hrng : ∀ i, i < ln → (ch i).rng) (hln : ln ≤ 2147483647)
    (hown : OW B w sv l) (hB : B ≤ w.heap.size) (hT : TB B w) (hlim : l.length + (catN (fun i => txt (ch i)) ln).length + 2 ≤ 100000000000000) :
    Calls Tryd.prog 96 #[.slice (some ⟨b, 0, none⟩) ln c, sv] w fun e w' => ∃ v', e = .returned v' ∧ OW B w' v' (l ++ 108 :: (catN (fun i => txt (ch i)) ln ++ [101])) ∧ BW B w w' := by
  have HC : Hid ((∀ i, TC (ch i)) ∧ ∀ i, i < ln → ∃ u, w.cell? ⟨b, i, none⟩ = some u ∧ RN (NB w) w (ch i) u) := ⟨ih, hel⟩
  clear ih hel
  go_enter Tryd.func96, Tryd.ntmps96
  go_wp2_with (at_builtin; refine append_byte rfl _ _ rfl rfl (hown.alloc _) w.heap.size 108 rfl (by go_simp) (by simp; omega) (by omega) ?_)
  intro v1 w1 ho1 hb1
  have hb1' : BW B w w1 := ((BW.refl B w).alloc hB _).trans hb1
  have hB1 : B ≤ w1.heap.size := Nat.le_trans hB hb1'.1.size
  clear hb1
  go_wp2
  go_loopw [1, 12] (fun o i wr => ∃ (j : Nat), j ≤ ln ∧ i = .int .i64 j ∧ Hid (OW B wr o (l ++ 108 :: catN (fun i => txt (ch i)) j) ∧ BW B w wr)) (fun _ i _ => ln - (intOf i).toNat)
  case atStart => exact ⟨0, Nat.zero_le _, rfl, ho1, hb1'⟩
  case round =>
    clear ho1 hb1' hB1
    obtain ⟨j, hj, rfl, HO⟩ := hrel
    by_cases hlt : j < ln
    · obtain ⟨u0, g0, g1⟩ := HC.out.2 j hlt
      obtain ⟨ty, u, rfl⟩ := g1.iface
      have g0' := (World.cell?_of_block (w := w) (NB.keep HO.out.2 hb hbl)).trans g0
      clear g0
      have j0 : (0 : Int) ≤ (j : Int) := by omega
      have j1 : (j : Int) < (ln : Int) := by omega
      have hty := g1.ty
      have hle := catN_le (f := fun i => txt (ch i)) hlt
      have HX := Lib.hid (HC.out.1 j B ty u _ _ _ (RN.keepB g1 HO.out.2) (hrng j hlt) HO.out.1 (Nat.le_trans hB HO.out.2.1.size) (hT.on HO.out.2.1) (by simp only [List.length_append, List.length_cons]; omega))
      have hrestX : ∀ w2 v2, OW B w2 v2 ((l ++ 108 :: catN (fun i => txt (ch i)) j) ++ txt (ch j)) → BW B _ w2 → Hid (OW B w2 v2 (l ++ 108 :: catN (fun i => txt (ch i)) (j + 1)) ∧ BW B w w2) := fun w2 v2 q1 q2 => ⟨by simpa [catN] using q1, HO.out.2.trans q2⟩
      have HRX := Lib.hid hrestX
      clear HO g1 hrestX hle
      have m1 := meth55
      have m2 := meth56
      have m3 := meth58
      have m4 := meth61
      rcases hty with rfl | rfl | rfl | rfl
      all_goals
        go_wp2_with fail
        refine HX.out.mono ?_
        rintro e w2 ⟨v2, rfl, q1, q2⟩
        have HN := HRX.out w2 v2 q1 q2
        clear q1 q2 HX HRX m1 m2 m3 m4
        go_wp2
        go_roundw
        case rel => exact ⟨j + 1, by omega, by go_num, HN⟩
        case measure => simp [intOf]; omega
    · obtain rfl : j = ln := by omega
      obtain ⟨ho, hbw⟩ := HO.out
      have hB2 := Nat.le_trans hB hbw.1.size
      have HBW := Lib.hid hbw
      clear hbw
      go_wp2_with (at_builtin; refine append_byte rfl _ _ rfl rfl (ho.alloc _) _ 101 rfl (by go_simp) (by simp; omega) (by simp; omega) ?_)
      intro v3 w3 ho3 hb3
      go_wp2
      go_ret
      exact ⟨v3, rfl, by simpa using ho3, (HBW.out.alloc hB2 _).trans hb3⟩
end Go.Proofs.YtdchckelnccepaaDoor
namespace Go.Proofs.YtdchckelnccepaaDoor
open Go.RowKit Go.Deep
theorem ow_heap {B : Nat} {w w' : World} {v : Value} {l : List UInt8} (h : OW B w v l) (hh : w'.heap = w.heap) : OW B w' v l := by
  unfold OW World.ownsRow at *
  rw [hh]; exact h
set_option maxRecDepth 10000 in
set_option maxHeartbeats 4000000 in
theorem dict102 (dn : Nat) (ky : Nat → ByteArray) (dv : Nat → T) (ih : ∀ i, TC (dv i)) (B b c : Nat) (sv : Value) (l : List UInt8) (w : World) (hb : NB w b) (hbl : b < w.heap.size) (hel : ∀ i, i < dn → ∃ u, w.cell? ⟨b, i * 2, none⟩ = some (.string (ky i)) ∧ w.cell? ⟨b, i * 2 + 1, none⟩ = some u ∧ RN (NB w) w (dv i) u) (hrng : ∀ i, i < dn → (dv i).rng) (hdn : dn ≤ 2147483647)
    (hown : OW B w sv l) (hB : B ≤ w.heap.size) (hT : TB B w) (hlim : l.length + (catN (fun i => wtx (ky i) ++ txt (dv i)) dn).length + 2 ≤ 100000000000000) :
    Calls Tryd.prog 97 #[.slice (some ⟨b, 0, none⟩) dn c, sv] w fun e w' => ∃ v', e = .returned v' ∧ OW B w' v' (l ++ 100 :: (catN (fun i => wtx (ky i) ++ txt (dv i)) dn ++ [101])) ∧ BW B w w' := by
  have HC : Hid ((∀ i, TC (dv i)) ∧ ∀ i, i < dn → ∃ u, w.cell? ⟨b, i * 2, none⟩ = some (.string (ky i)) ∧ w.cell? ⟨b, i * 2 + 1, none⟩ = some u ∧ RN (NB w) w (dv i) u) := ⟨ih, hel⟩
  clear ih hel
  go_enter Tryd.func97, Tryd.ntmps97
  go_wp2_with (at_builtin; refine append_byte rfl _ _ rfl rfl (hown.alloc _) w.heap.size 100 rfl (by go_simp) (by simp; omega) (by omega) ?_)
  intro v1 w1 ho1 hb1
  have hb1' : BW B w w1 := ((BW.refl B w).alloc hB _).trans hb1
  have hB1 : B ≤ w1.heap.size := Nat.le_trans hB hb1'.1.size
  clear hb1
  go_wp2
  go_loopw [1, 12] (fun o i wr => ∃ (j : Nat), j ≤ dn ∧ i = .int .i64 j ∧ Hid (OW B wr o (l ++ 100 :: catN (fun i => wtx (ky i) ++ txt (dv i)) j) ∧ BW B w wr)) (fun _ i _ => dn - (intOf i).toNat)
  case atStart => exact ⟨0, Nat.zero_le _, rfl, ho1, hb1'⟩
  case round =>
    clear ho1 hb1' hB1
    obtain ⟨j, hj, rfl, HO⟩ := hrel
    by_cases hlt : j < dn
    · obtain ⟨u0, k0, g0, g1⟩ := HC.out.2 j hlt
      have H0 : Hid (∀ i, TC (dv i)) := HC.out.1
      obtain ⟨ty, u, rfl⟩ := g1.iface
      have k0' := (World.cell?_of_block (w := w) (NB.keep HO.out.2 hb hbl)).trans k0
      have g0' := (World.cell?_of_block (w := w) (NB.keep HO.out.2 hb hbl)).trans g0
      clear g0 k0
      have j0 : (0 : Int) ≤ (j : Int) := by omega
      have j1 : (j : Int) < (dn : Int) := by omega
      have hty := g1.ty
      have hle := catN_le (f := fun i => wtx (ky i) ++ txt (dv i)) hlt
      have hrn := hrng j hlt
      have hl2 : (wtx (ky j) ++ txt (dv j)).length = (wtx (ky j)).length + (txt (dv j)).length := List.length_append
      have hl3 : (wtx (ky j)).length = (Lib.itoa (ky j).size).length + ((ky j).size + 1) := by simp [wtx]
      have hB2 : B ≤ wr.heap.size := Nat.le_trans hB HO.out.2.1.size
      have HC : Hid (∀ w', w'.heap = (wr.alloc (Obj.cells #[Value.string (ky j), Value.iface ty u] 97)).heap → w'.os = (wr.alloc (Obj.cells #[Value.string (ky j), Value.iface ty u] 97)).os → w'.tape = (wr.alloc (Obj.cells #[Value.string (ky j), Value.iface ty u] 97)).tape → w'.output = (wr.alloc (Obj.cells #[Value.string (ky j), Value.iface ty u] 97)).output →
          Calls Tryd.prog 95 #[.string (ky j), u1] w' fun e wq => ∃ v2, e = .returned v2 ∧ wq.cell? ⟨wr.heap.size, 0, none⟩ = some (.string (ky j)) ∧ wq.cell? ⟨wr.heap.size, 1, none⟩ = some (.iface ty u) ∧
            Hid (Calls Tryd.prog (mth ty) #[u, v2] wq fun e wz => ∃ v3, e = .returned v3 ∧ wz.cell? ⟨wr.heap.size, 0, none⟩ = some (.string (ky j)) ∧ wz.cell? ⟨wr.heap.size, 1, none⟩ = some (.iface ty u) ∧ Hid (OW B wz v3 (l ++ 100 :: catN (fun i => wtx (ky i) ++ txt (dv i)) (j + 1)) ∧ BW B w wz))) := by
        intro w' hh h1 h2 h3
        obtain ⟨ho, hbw⟩ := HO.out
        have hw3 : Below (wr.heap.size + 1) (wr.alloc (Obj.cells #[Value.string (ky j), Value.iface ty u] 97)) w' := ⟨h1, h2, h3, by rw [hh]; exact Nat.le_refl _, fun q _ => by rw [hh]⟩
        have hbx : blk w' wr.heap.size 97 #[Value.string (ky j), Value.iface ty u] := (show blk (wr.alloc (Obj.cells #[Value.string (ky j), Value.iface ty u] 97)) wr.heap.size 97 _ from heap_new _ _).keep (by rw [hh])
        have hbw' : BW B w w' := (hbw.alloc hB2 _).below (by simp; omega) ⟨h1, h2, h3, by rw [hh]; exact Nat.le_refl _, fun q _ => by rw [hh]⟩
        have ho' : OW B w' u1 (l ++ 100 :: catN (fun i => wtx (ky i) ++ txt (dv i)) j) := ow_heap (ho.alloc _) hh
        have keepx : ∀ wa wb, blk wa wr.heap.size 97 #[Value.string (ky j), Value.iface ty u] → BW B wa wb → blk wb wr.heap.size 97 #[Value.string (ky j), Value.iface ty u] := fun wa wb hx hbb => hbb.2 _ _ hx (by simp) (fun cc fz h => by cases h)
        refine (word100 B (ky j) u1 _ w' ho' (Nat.le_trans hB hbw'.1.size) (hT.on hbw'.1) (by simp only [List.length_append, List.length_cons]; omega)).mono ?_
        rintro e wq ⟨v2, rfl, ho2, hb2⟩
        have hx2 := keepx _ _ hbx hb2
        have hbq := hbw'.trans hb2
        refine ⟨v2, rfl, hx2.cell 0, hx2.cell 1, ?_⟩
        refine Lib.hid (((H0.out j) B ty u v2 _ wq (RN.keepB g1 hbq) hrn ho2 (Nat.le_trans hB hbq.1.size) (hT.on hbq.1) (by simp only [List.length_append, List.length_cons]; omega)).mono ?_)
        rintro e wz ⟨v3, rfl, ho3, hb3⟩
        have hx3 := keepx _ _ hx2 hb3
        exact ⟨v3, rfl, hx3.cell 0, hx3.cell 1, by simpa [catN] using ho3, hbq.trans hb3⟩
      have k0 : (wr.alloc (Obj.cells #[Value.string (ky j), Value.iface ty u] 97)).cell? ⟨wr.heap.size, 0, none⟩ = some (.string (ky j)) := blk.cell (ty := 97) (heap_new _ _) 0
      have k1 : (wr.alloc (Obj.cells #[Value.string (ky j), Value.iface ty u] 97)).cell? ⟨wr.heap.size, 1, none⟩ = some (.iface ty u) := blk.cell (ty := 97) (heap_new _ _) 1
      clear g1 hle hrn hl2 hl3 hB2 HO H0
      rcases hty with rfl | rfl | rfl | rfl
      · have hm := meth55
        go_wp2_with fail
        generalize (wr.alloc (Obj.cells #[Value.string (ky j), Value.iface 81 u] 97)) = w3 at *
        generalize wr.heap.size = xb at *
        clear k0' g0'
        go_region_held3 (fun w' => w'.cell? ⟨xb, 0, none⟩ = some (.string (ky j)) ∧ w'.cell? ⟨xb, 1, none⟩ = some (.iface 81 u))
          (first | (exact ⟨k0, k1⟩) | (exact ⟨q0, q1⟩) | (exact ⟨z0, z1⟩))
          (first | (go_at_call 95; refine (HC.out w3.drew rfl rfl rfl rfl).mono ?_; rintro e wq ⟨v2, rfl, q0, q1, HX⟩) | (go_at_call 91; refine HX.out.mono ?_; rintro e wz ⟨v3, rfl, z0, z1, HN⟩))
        clear k0 k1 q0 q1 z0 z1 HC HX hm
        go_wp2
        go_roundw
        case rel => exact ⟨j + 1, by omega, by go_num, HN⟩
        case measure => simp [intOf]; omega
      · have hm := meth56
        go_wp2_with fail
        generalize (wr.alloc (Obj.cells #[Value.string (ky j), Value.iface 82 u] 97)) = w3 at *
        generalize wr.heap.size = xb at *
        clear k0' g0'
        go_region_held3 (fun w' => w'.cell? ⟨xb, 0, none⟩ = some (.string (ky j)) ∧ w'.cell? ⟨xb, 1, none⟩ = some (.iface 82 u))
          (first | (exact ⟨k0, k1⟩) | (exact ⟨q0, q1⟩) | (exact ⟨z0, z1⟩))
          (first | (go_at_call 95; refine HX.out.mono ?_; rintro e wz ⟨v3, rfl, z0, z1, HN⟩) | (go_at_call 95; refine (HC.out w3.drew rfl rfl rfl rfl).mono ?_; rintro e wq ⟨v2, rfl, q0, q1, HX⟩))
        clear k0 k1 q0 q1 z0 z1 HC HX hm
        go_wp2
        go_roundw
        case rel => exact ⟨j + 1, by omega, by go_num, HN⟩
        case measure => simp [intOf]; omega
      · have hm := meth58
        go_wp2_with fail
        generalize (wr.alloc (Obj.cells #[Value.string (ky j), Value.iface 84 u] 97)) = w3 at *
        generalize wr.heap.size = xb at *
        clear k0' g0'
        go_region_held3 (fun w' => w'.cell? ⟨xb, 0, none⟩ = some (.string (ky j)) ∧ w'.cell? ⟨xb, 1, none⟩ = some (.iface 84 u))
          (first | (exact ⟨k0, k1⟩) | (exact ⟨q0, q1⟩) | (exact ⟨z0, z1⟩))
          (first | (go_at_call 95; refine (HC.out w3.drew rfl rfl rfl rfl).mono ?_; rintro e wq ⟨v2, rfl, q0, q1, HX⟩) | (go_at_call 96; refine HX.out.mono ?_; rintro e wz ⟨v3, rfl, z0, z1, HN⟩))
        clear k0 k1 q0 q1 z0 z1 HC HX hm
        go_wp2
        go_roundw
        case rel => exact ⟨j + 1, by omega, by go_num, HN⟩
        case measure => simp [intOf]; omega
      · have hm := meth61
        go_wp2_with fail
        generalize (wr.alloc (Obj.cells #[Value.string (ky j), Value.iface 87 u] 97)) = w3 at *
        generalize wr.heap.size = xb at *
        clear k0' g0'
        go_region_held3 (fun w' => w'.cell? ⟨xb, 0, none⟩ = some (.string (ky j)) ∧ w'.cell? ⟨xb, 1, none⟩ = some (.iface 87 u))
          (first | (exact ⟨k0, k1⟩) | (exact ⟨q0, q1⟩) | (exact ⟨z0, z1⟩))
          (first | (go_at_call 95; refine (HC.out w3.drew rfl rfl rfl rfl).mono ?_; rintro e wq ⟨v2, rfl, q0, q1, HX⟩) | (go_at_call 97; refine HX.out.mono ?_; rintro e wz ⟨v3, rfl, z0, z1, HN⟩))
        clear k0 k1 q0 q1 z0 z1 HC HX hm
        go_wp2
        go_roundw
        case rel => exact ⟨j + 1, by omega, by go_num, HN⟩
        case measure => simp [intOf]; omega
    · obtain rfl : j = dn := by omega
      obtain ⟨ho, hbw⟩ := HO.out
      have hB2 := Nat.le_trans hB hbw.1.size
      have HBW := Lib.hid hbw
      clear hbw
      go_wp2_with (at_builtin; refine append_byte rfl _ _ rfl rfl (ho.alloc _) _ 101 rfl (by go_simp) (by simp; omega) (by simp; omega) ?_)
      intro v3 w3 ho3 hb3
      go_wp2
      go_ret
      exact ⟨v3, rfl, by simpa using ho3, (HBW.out.alloc hB2 _).trans hb3⟩
end Go.Proofs.YtdchckelnccepaaDoor
namespace Go.Proofs.YtdchckelnccepaaDoor
open Go.RowKit Go.Deep
/-- a node writes its text -/
theorem texts (t : T) : TC t := by
  induction t with
  | no => intro B ty u sv l w h; exact h.elim
  | mk k n s ln l dn ky dv il id =>
    intro B ty u sv ls w h hrng hown hB hT hlim
    obtain ⟨r1, r2, r3, r4, r5, r6⟩ := hrng
    rcases h with ⟨rfl, h⟩ | ⟨rfl, h⟩ | ⟨rfl, b, c, h, h1, h2, h3⟩ | ⟨rfl, b, c, h, h1, h2, h3⟩ <;> cases h
    · have e : txt (.mk 1 n s ln l dn ky dv) = 105 :: (Lib.itoa n ++ [101]) := if_pos rfl
      rw [e] at hlim ⊢
      exact number96 B n r1 r2 sv ls w hown hB hT (by omega)
    · have e : txt (.mk 2 n s ln l dn ky dv) = wtx s := rfl
      have e2 : (wtx s).length = (Lib.itoa (s.size : Int)).length + (s.size + 1) := by
        show (Lib.itoa (s.size : Int) ++ 58 :: s.data.toList).length = _
        rw [List.length_append, List.length_cons, Array.length_toList]; rfl
      rw [e] at hlim ⊢
      exact word100 B s sv ls w hown hB hT (by omega)
    · have e : txt (.mk 3 n s ln l dn ky dv) = 108 :: (catN (fun i => txt (l i)) ln ++ [101]) := rfl
      rw [e] at hlim ⊢
      exact list101 ln l il B b c sv ls w h1 h2 h3 r5 r3 hown hB hT (by simp only [List.length_cons, List.length_append, List.length_nil] at hlim; omega)
    · have e : txt (.mk 4 n s ln l dn ky dv) = 100 :: (catN (fun i => wtx (ky i) ++ txt (dv i)) dn ++ [101]) := rfl
      rw [e] at hlim ⊢
      exact dict102 dn ky dv id B b c sv ls w h1 h2 h3 r6 r4 hown hB hT (by simp only [List.length_cons, List.length_append, List.length_nil] at hlim; omega)
def RC (t : T) : Prop := ∀ (B : Nat) (x y sv : Value) (l : List UInt8) (w : World), RV (fun b => b < B) w t x y → t.ok → t.rng → OW B w sv l → B ≤ w.heap.size → TB B w → l.length + (txt t).length ≤ 80000000000000 →
  Calls Tryd.prog 35 #[sv, vv t x y] w fun e w' => ∃ v', e = .returned v' ∧ OW B w' v' (l ++ txt t) ∧ BW B w w'
set_option maxRecDepth 10000 in
set_option maxHeartbeats 4000000 in
theorem text19 (t : T) : RC t := by
  induction t with
  | no => intro B x y sv l w h; exact h.elim
  | mk k n s ln l dn ky dv il id =>
    intro B x y sv ls w hr hok hrng hown hB hT hlim
    obtain ⟨⟨xa, xn, xc, rfl⟩, ⟨ya, yn, yc, rfl⟩⟩ := hr.slices
    obtain ⟨r1, r2, r3, r4, r5, r6⟩ := hrng
    obtain ⟨ok1, ok2, ok3, ok4, ok5⟩ := hok
    have hB1 : B ≤ w.heap.size + 1 := by omega
    by_cases hk1 : k = 1
    · subst hk1
      have e : txt (.mk 1 n s ln l dn ky dv) = 105 :: (Lib.itoa n ++ [101]) := rfl
      have hlen := Lib.itoa_length_le n r1 r2
      rw [e] at hlim ⊢
      have hz : (({ data := (Lib.itoa n).toArray } : ByteArray)).size = (Lib.itoa n).length := List.size_toArray
      have HZ := Lib.hid hz
      have hl1 : ls.length ≤ 80000000000000 := by omega
      clear hz hr il id r5 r6 ok4 ok5 e hlim
      show Calls Tryd.prog 35 #[_, .agg #[.int .i64 1, .int .i64 n, .string s, .slice xa xn xc, .slice ya yn yc]] w _
      go_enter Tryd.func35, Tryd.ntmps35
      go_wp2_with (at_builtin; refine append_byte rfl _ _ rfl rfl ((hown.alloc _).alloc _) _ 105 rfl (by go_simp) (by simp; omega) (by omega) ?_)
      intro v1 w1 ho1 hb1
      have hbw0 : BW B w ((w.alloc (Obj.cells #[.int .i64 1, .int .i64 n, .string s, .slice xa xn xc, .slice ya yn yc] 41)).alloc (Obj.cells #[Value.int .u8 105] 5)) := ((BW.refl B w).alloc hB _).alloc (by simp; omega) _
      have hx0 : blk ((w.alloc (Obj.cells #[.int .i64 1, .int .i64 n, .string s, .slice xa xn xc, .slice ya yn yc] 41)).alloc (Obj.cells #[Value.int .u8 105] 5)) w.heap.size 41 #[.int .i64 1, .int .i64 n, .string s, .slice xa xn xc, .slice ya yn yc] := (Below.heap_alloc _ _ _ (by simp)).trans (heap_new _ _)
      have hx1 : blk w1 w.heap.size 41 #[.int .i64 1, .int .i64 n, .string s, .slice xa xn xc, .slice ya yn yc] := hb1.2 _ _ hx0 (by simp) (fun cc fz h => by cases h)
      have hbw1 := Lib.hid (hbw0.trans hb1)
      have hBw1 := Nat.le_trans hB hbw1.out.1.size
      have cn : w1.cell? ⟨w.heap.size, 1, none⟩ = some (.int .i64 n) := hx1.cell 1
      clear hb1 hbw0 hx0 hx1
      go_wp2_with fail
      clear cn
      refine (itoa25 n r1 r2 w1 (tb_up (hT.on hbw1.out.1) hBw1)).mono ?_
      rintro e w2 ⟨rfl, hb2⟩
      have ho2 : OW B w2 v1 _ := ho1.keep hb2
      have hbw2 := Lib.hid (hbw1.out.below hBw1 hb2)
      have hBw2 := Nat.le_trans hB hbw2.out.1.size
      clear hb2 ho1 hbw1
      go_wp2_with fail
      refine (laid30 B _ v1 _ w2 ho2 hBw2 (by rw [HZ.out]; simp; omega)).mono ?_
      rintro e w3 ⟨v3, rfl, ho3, hb3⟩
      have hbw3 := Lib.hid (hbw2.out.trans hb3)
      have hBw3 := Nat.le_trans hB hbw3.out.1.size
      clear hb3 ho2 hbw2
      go_wp2_with (at_builtin; refine append_byte rfl _ _ rfl rfl (ho3.alloc _) _ 101 rfl (by go_simp) (by simp; omega) (by simp; omega) ?_)
      intro v4 w4 ho4 hb4
      go_wp2
      go_ret
      exact ⟨v4, rfl, by simpa using ho4, (hbw3.out.alloc hBw3 _).trans hb4⟩
    by_cases hk2 : k = 2
    · subst hk2
      have e : txt (.mk 2 n s ln l dn ky dv) = wtx s := rfl
      have e2 : (wtx s).length = (Lib.itoa (s.size : Int)).length + (s.size + 1) := by
        show (Lib.itoa (s.size : Int) ++ 58 :: s.data.toList).length = _
        rw [List.length_append, List.length_cons, Array.length_toList]; rfl
      rw [e] at hlim ⊢
      have hl1 : ls.length + s.size ≤ 80000000000000 := by omega
      clear hr il id r5 r6 ok4 ok5 e hlim e2
      show Calls Tryd.prog 35 #[_, .agg #[.int .i64 2, .int .i64 n, .string s, .slice xa xn xc, .slice ya yn yc]] w _
      go_enter Tryd.func35, Tryd.ntmps35
      go_wp2_with fail
      refine (told31 B s sv ls _ (hown.alloc _) (by simp; omega) (hT.on ((Below.refl _ _).alloc hB _)) (by omega)).mono ?_
      rintro e w1 ⟨v1, rfl, ho1, hb1⟩
      go_wp2
      go_ret
      exact ⟨v1, rfl, ho1, ((BW.refl B w).alloc hB _).trans hb1⟩
    have hk1' : (k == 1) = false := by simpa using hk1
    have hk2' : (k == 2) = false := by simpa using hk2
    by_cases hk3 : k = 3
    · subst hk3
      have e : txt (.mk 3 n s ln l dn ky dv) = 108 :: (catN (fun i => txt (l i)) ln ++ [101]) := rfl
      rw [e] at hlim ⊢
      have hl1 : ls.length + (catN (fun i => txt (l i)) ln).length + 2 ≤ 80000000000000 := by simp only [List.length_cons, List.length_append, List.length_nil] at hlim; omega
      obtain ⟨hL, _⟩ := hr
      obtain ⟨a, ca, ha, hL⟩ := hL
      obtain ⟨rfl, rfl, rfl⟩ : a = xa ∧ ln = xn ∧ ca = xc := by cases ha; exact ⟨rfl, rfl, rfl⟩
      clear ha
      have HC : Hid ((∀ i, RC (l i)) ∧ (∀ i, i < ln → (l i).ok) ∧ (∀ i, i < ln → (l i).rng) ∧ (ln = 0 ∨ ∃ b o, a = some ⟨b, o, none⟩ ∧ b < B ∧ b < w.heap.size ∧ ∀ i, i < ln → ∃ x' y', RV (fun b => b < B) w (l i) x' y' ∧ five w b (o + i * 5) (l i) x' y')) := ⟨il, ok4, r5, hL⟩
      clear il id r5 r6 ok4 ok5 e hlim hL hk1 hk2 hk1' hk2'
      show Calls Tryd.prog 35 #[_, .agg #[.int .i64 3, .int .i64 n, .string s, .slice a ln ca, .slice ya yn yc]] w _
      go_enter Tryd.func35, Tryd.ntmps35
      go_wp2_with (at_builtin; refine append_byte rfl _ _ rfl rfl ((hown.alloc _).alloc _) _ 108 rfl (by go_simp) (by simp; omega) (by omega) ?_)
      intro v1 w1 ho1 hb1
      have hbw0 : BW B w ((w.alloc (Obj.cells #[.int .i64 3, .int .i64 n, .string s, .slice a ln ca, .slice ya yn yc] 41)).alloc (Obj.cells #[Value.int .u8 108] 5)) := ((BW.refl B w).alloc hB _).alloc (by simp; omega) _
      have hx0 : blk ((w.alloc (Obj.cells #[.int .i64 3, .int .i64 n, .string s, .slice a ln ca, .slice ya yn yc] 41)).alloc (Obj.cells #[Value.int .u8 108] 5)) w.heap.size 41 #[.int .i64 3, .int .i64 n, .string s, .slice a ln ca, .slice ya yn yc] := (Below.heap_alloc _ _ _ (by simp)).trans (heap_new _ _)
      have hx1 : blk w1 w.heap.size 41 #[.int .i64 3, .int .i64 n, .string s, .slice a ln ca, .slice ya yn yc] := hb1.2 _ _ hx0 (by simp) (fun cc fz h => by cases h)
      have hbw1 := hbw0.trans hb1
      generalize hvb : w.heap.size = vb at *
      have HVB := Lib.hid hvb
      clear hb1 hbw0 hx0 hvb
      go_wp2
      go_loopw [0, 5] (fun o i wr => ∃ (j : Nat), j ≤ ln ∧ i = .int .i64 j ∧ Hid (OW B wr o (ls ++ 108 :: catN (fun i => txt (l i)) j) ∧ BW B w wr ∧ blk wr vb 41 #[.int .i64 3, .int .i64 n, .string s, .slice a ln ca, .slice ya yn yc])) (fun _ i _ => ln - (intOf i).toNat)
      case atStart => exact ⟨0, Nat.zero_le _, rfl, ho1, hbw1, hx1⟩
      case round =>
        clear ho1 hbw1 hx1
        obtain ⟨j, hj, rfl, HO⟩ := hrel
        have cl : _ = some (Value.slice a ln ca) := HO.out.2.2.cell 3
        by_cases hlt : j < ln
        · obtain ⟨il, ok4, r5, hL⟩ := HC.out
          rcases hL with h | ⟨b, o, rfl, hb, hbl, hL⟩
          · omega
          obtain ⟨x1, y1, hv, g1, g2, g3, g4, g5⟩ := hL j hlt
          have hle := catN_le (f := fun i => txt (l i)) hlt
          obtain ⟨ho, hbw, hx⟩ := HO.out
          have hk := hbw.1.block b hb
          replace g1 := (World.cell?_of_block (w := w) hk).trans g1
          replace g2 := (World.cell?_of_block (w := w) hk).trans g2
          replace g3 := (World.cell?_of_block (w := w) hk).trans g3
          replace g4 := (World.cell?_of_block (w := w) hk).trans g4
          replace g5 := (World.cell?_of_block (w := w) hk).trans g5
          have hv' := RV.move (fun _ h _ => h) hbw.1.size (fun b hb' _ => hbw.1.block b hb') _ _ _ hv
          obtain ⟨⟨xa1, xn1, xc1, rfl⟩, ⟨ya1, yn1, yc1, rfl⟩⟩ := hv.slices
          have HX := Lib.hid (il j B _ _ _ _ _ hv' (ok4 j hlt) (r5 j hlt) ho (by have := hbw.1.size; have := HVB.out; omega) (hT.on hbw.1) (by simp only [List.length_append, List.length_cons]; omega))
          have HRX := Lib.hid (show ∀ w2 v2, OW B w2 v2 ((ls ++ 108 :: catN (fun i => txt (l i)) j) ++ txt (l j)) → BW B _ w2 → Hid (OW B w2 v2 (ls ++ 108 :: catN (fun i => txt (l i)) (j + 1)) ∧ BW B w w2 ∧ blk w2 vb 41 #[.int .i64 3, .int .i64 n, .string s, .slice (some ⟨b, o, none⟩) ln ca, .slice ya yn yc]) from fun w2 v2 q1 q2 => ⟨by simpa [catN] using q1, hbw.trans q2, q2.2 _ _ hx (by simp) (fun cc fz h => by cases h)⟩)
          have j0 : (0 : Int) ≤ (j : Int) := by omega
          have j1 : (j : Int) < (ln : Int) := by omega
          clear il ok4 r5 hL hv hv' hle ho hbw hx hk HO
          go_wp2_with fail
          refine HX.out.mono ?_
          rintro e w2 ⟨v2, rfl, q1, q2⟩
          have HN := HRX.out w2 v2 q1 q2
          clear q1 q2 HX HRX g1 g2 g3 g4 g5 cl
          go_wp2
          go_roundw
          case rel => exact ⟨j + 1, by omega, by go_num, HN⟩
          case measure => simp [intOf]; omega
        · obtain rfl : j = ln := by omega
          obtain ⟨ho, hbw, hx⟩ := HO.out
          have HBW := Lib.hid hbw
          have hBw := Nat.le_trans hB (HVB.out ▸ hbw.1.size)
          clear hbw hx HO
          go_wp2_with (at_builtin; refine append_byte rfl _ _ rfl rfl (ho.alloc _) _ 101 rfl (by go_simp) (by simp; omega) (by simp; omega) ?_)
          intro v4 w4 ho4 hb4
          go_wp2
          go_ret
          exact ⟨v4, rfl, by simpa using ho4, (HBW.out.alloc hBw _).trans hb4⟩
    have hk3' : (k == 3) = false := by simpa using hk3
    have e : txt (.mk k n s ln l dn ky dv) = 100 :: (catN (fun i => wtx (ky i) ++ txt (dv i)) dn ++ [101]) := (if_neg hk1).trans ((if_neg hk2).trans (if_neg hk3))
    rw [e] at hlim ⊢
    have hl1 : ls.length + (catN (fun i => wtx (ky i) ++ txt (dv i)) dn).length + 2 ≤ 80000000000000 := by simp only [List.length_cons, List.length_append, List.length_nil] at hlim; omega
    obtain ⟨_, hL⟩ := hr
    obtain ⟨a, ca, ha, hL⟩ := hL
    obtain ⟨rfl, rfl, rfl⟩ : a = ya ∧ dn = yn ∧ ca = yc := by cases ha; exact ⟨rfl, rfl, rfl⟩
    clear ha
    have HC : Hid ((∀ i, RC (dv i)) ∧ (∀ i, i < dn → (ky i).size ≤ 140737488351232 ∧ (dv i).ok) ∧ (∀ i, i < dn → (dv i).rng) ∧ (dn = 0 ∨ ∃ b o, a = some ⟨b, o, none⟩ ∧ b < B ∧ b < w.heap.size ∧ ∀ i, i < dn → ∃ x' y', RV (fun b => b < B) w (dv i) x' y' ∧ w.cell? ⟨b, o + i * 6, none⟩ = some (.string (ky i)) ∧ five w b (o + i * 6 + 1) (dv i) x' y')) := ⟨id, ok5, r6, hL⟩
    clear il id r5 r6 ok4 ok5 e hlim hL hk1 hk2 hk3
    show Calls Tryd.prog 35 #[_, .agg #[.int .i64 k, .int .i64 n, .string s, .slice xa xn xc, .slice a dn ca]] w _
    go_enter Tryd.func35, Tryd.ntmps35
    go_wp2_with (at_builtin; refine append_byte rfl _ _ rfl rfl ((hown.alloc _).alloc _) _ 100 rfl (by go_simp) (by simp; omega) (by omega) ?_)
    intro v1 w1 ho1 hb1
    have hbw0 : BW B w ((w.alloc (Obj.cells #[.int .i64 k, .int .i64 n, .string s, .slice xa xn xc, .slice a dn ca] 41)).alloc (Obj.cells #[Value.int .u8 100] 5)) := ((BW.refl B w).alloc hB _).alloc (by simp; omega) _
    have hx0 : blk ((w.alloc (Obj.cells #[.int .i64 k, .int .i64 n, .string s, .slice xa xn xc, .slice a dn ca] 41)).alloc (Obj.cells #[Value.int .u8 100] 5)) w.heap.size 41 #[.int .i64 k, .int .i64 n, .string s, .slice xa xn xc, .slice a dn ca] := (Below.heap_alloc _ _ _ (by simp)).trans (heap_new _ _)
    have hx1 : blk w1 w.heap.size 41 #[.int .i64 k, .int .i64 n, .string s, .slice xa xn xc, .slice a dn ca] := hb1.2 _ _ hx0 (by simp) (fun cc fz h => by cases h)
    have hbw1 := hbw0.trans hb1
    generalize hvb : w.heap.size = vb at *
    have HVB := Lib.hid hvb
    clear hb1 hbw0 hx0 hvb
    go_wp2
    go_loopw [0, 6] (fun o i wr => ∃ (j : Nat), j ≤ dn ∧ i = .int .i64 j ∧ Hid (OW B wr o (ls ++ 100 :: catN (fun i => wtx (ky i) ++ txt (dv i)) j) ∧ BW B w wr ∧ blk wr vb 41 #[.int .i64 k, .int .i64 n, .string s, .slice xa xn xc, .slice a dn ca])) (fun _ i _ => dn - (intOf i).toNat)
    case atStart => exact ⟨0, Nat.zero_le _, rfl, ho1, hbw1, hx1⟩
    case round =>
      clear ho1 hbw1 hx1
      obtain ⟨j, hj, rfl, HO⟩ := hrel
      have cl : _ = some (Value.slice a dn ca) := HO.out.2.2.cell 4
      by_cases hlt : j < dn
      · obtain ⟨il, ok4, r5, hL⟩ := HC.out
        rcases hL with h | ⟨b, o, rfl, hb, hbl, hL⟩
        · omega
        obtain ⟨x1, y1, hv, g0, g1, g2, g3, g4, g5⟩ := hL j hlt
        have hle := catN_le (f := fun i => wtx (ky i) ++ txt (dv i)) hlt
        have hl2 : (wtx (ky j) ++ txt (dv j)).length = (wtx (ky j)).length + (txt (dv j)).length := List.length_append
        have hl3 : (wtx (ky j)).length = (Lib.itoa ((ky j).size : Int)).length + ((ky j).size + 1) := by
          show (Lib.itoa ((ky j).size : Int) ++ 58 :: (ky j).data.toList).length = _
          rw [List.length_append, List.length_cons, Array.length_toList]; rfl
        obtain ⟨ho, hbw, hx⟩ := HO.out
        have hk := hbw.1.block b hb
        have hBr := Nat.le_trans hB (HVB.out ▸ hbw.1.size)
        replace g0 := (World.cell?_of_block (w := w) hk).trans g0
        obtain ⟨⟨xa1, xn1, xc1, rfl⟩, ⟨ya1, yn1, yc1, rfl⟩⟩ := hv.slices
        have HC1 := Lib.hid (told31 B (ky j) _ _ _ ho hBr (hT.on hbw.1) (by simp only [List.length_append, List.length_cons]; omega))
        have HC2 := Lib.hid (show ∀ w2 v2, OW B w2 v2 ((ls ++ 100 :: catN (fun i => wtx (ky i) ++ txt (dv i)) j) ++ wtx (ky j)) → BW B _ w2 →
            w2.cell? ⟨vb, 4, none⟩ = some (.slice (some ⟨b, o, none⟩) dn ca) ∧ five w2 b (o + j * 6 + 1) (dv j) (.slice xa1 xn1 xc1) (.slice ya1 yn1 yc1) ∧ Hid (Calls Tryd.prog 35 #[v2, vv (dv j) (.slice xa1 xn1 xc1) (.slice ya1 yn1 yc1)] w2 fun e w3 => ∃ v3, e = .returned v3 ∧
              Hid (OW B w3 v3 (ls ++ 100 :: catN (fun i => wtx (ky i) ++ txt (dv i)) (j + 1)) ∧ BW B w w3 ∧ blk w3 vb 41 #[.int .i64 k, .int .i64 n, .string s, .slice xa xn xc, .slice (some ⟨b, o, none⟩) dn ca])) from fun w2 v2 q1 q2 => by
          have hbw2 := hbw.trans q2
          have hx2 : blk w2 vb 41 #[.int .i64 k, .int .i64 n, .string s, .slice xa xn xc, .slice (some ⟨b, o, none⟩) dn ca] := q2.2 _ _ hx (by simp) (fun cc fz h => by cases h)
          have hk2 := hbw2.1.block b hb
          refine ⟨hx2.cell 4, ⟨(World.cell?_of_block (w := w) hk2).trans g1, (World.cell?_of_block (w := w) hk2).trans g2, (World.cell?_of_block (w := w) hk2).trans g3, (World.cell?_of_block (w := w) hk2).trans g4, (World.cell?_of_block (w := w) hk2).trans g5⟩, ?_⟩
          refine Lib.hid ((il j B _ _ v2 _ w2 (RV.move (fun _ h _ => h) hbw2.1.size (fun b hb' _ => hbw2.1.block b hb') _ _ _ hv) (ok4 j hlt).2 (r5 j hlt) q1 (Nat.le_trans hB (HVB.out ▸ hbw2.1.size)) (hT.on hbw2.1) (by simp only [List.length_append, List.length_cons]; omega)).mono ?_)
          rintro e w3 ⟨v3, rfl, q3, q4⟩
          exact ⟨v3, rfl, by simpa [catN] using q3, hbw2.trans q4, q4.2 _ _ hx2 (by simp) (fun cc fz h => by cases h)⟩)
        have j0 : (0 : Int) ≤ (j : Int) := by omega
        have j1 : (j : Int) < (dn : Int) := by omega
        clear il ok4 r5 hL hv hle ho hbw hx hk HO hl2 hl3 g1 g2 g3 g4 g5
        go_wp2_with fail
        refine HC1.out.mono ?_
        rintro e w2 ⟨v2, rfl, q1, q2⟩
        obtain ⟨c2, ⟨g1, g2, g3, g4, g5⟩, HX⟩ := HC2.out w2 v2 q1 q2
        clear q1 q2 HC1 HC2 cl g0
        go_wp2_with fail
        refine HX.out.mono ?_
        rintro e w3 ⟨v3, rfl, HN⟩
        clear HX g1 g2 g3 g4 g5 c2
        go_wp2
        go_roundw
        case rel => exact ⟨j + 1, by omega, by go_num, HN⟩
        case measure => simp [intOf]; omega
      · obtain rfl : j = dn := by omega
        obtain ⟨ho, hbw, hx⟩ := HO.out
        have HBW := Lib.hid hbw
        have hBw := Nat.le_trans hB (HVB.out ▸ hbw.1.size)
        clear hbw hx HO
        go_wp2_with (at_builtin; refine append_byte rfl _ _ rfl rfl (ho.alloc _) _ 101 rfl (by go_simp) (by simp; omega) (by simp; omega) ?_)
        intro v4 w4 ho4 hb4
        go_wp2
        go_ret
        exact ⟨v4, rfl, by simpa using ho4, (HBW.out.alloc hBw _).trans hb4⟩
end Go.Proofs.YtdchckelnccepaaDoor
