import Derived.Test.YtcanbkgcgjaimaaDoorPo
namespace Go.Proofs.YtcanbkgcgjaimaaDoor
open Go.Shelf Go.RowKit
set_option maxHeartbeats 1000000 in
theorem tz64 (x y z : Int) (r j : Nat) (w : World) (hx0 : 2 ≤ x) (hx1 : x ≤ 512) (e1 : IntKind.u64.wrap (-x) = y) (e2 : bits BinOp.and IntKind.u64 x y = x) (e3 : IntKind.u64.wrap (x * 285870213051353865) = z) (e4 : z / 288230376151711744 = (j : Int)) (hj : (j : Int) < 64) (hr : r ≤ 9) (h : w.cell? ⟨1, j, none⟩ = some (.int .u8 r)) :
    Calls Tryd.prog 28 #[.int .u64 x] w fun e w' => e = .returned (.int .i64 r) ∧ w' = w := by
  go_enter Tryd.func28, Tryd.ntmps28
  go_wp2
  go_ret
  exact ⟨rfl, rfl⟩
/-- the table's cells that a power of two up to 512 leads to -/
structure TZ (w : World) : Prop where
  lt : 1 < w.heap.size
  c1 : w.cell? ⟨1, 1, none⟩ = some (.int .u8 (1 : Nat))
  c2 : w.cell? ⟨1, 3, none⟩ = some (.int .u8 (2 : Nat))
  c3 : w.cell? ⟨1, 7, none⟩ = some (.int .u8 (3 : Nat))
  c4 : w.cell? ⟨1, 15, none⟩ = some (.int .u8 (4 : Nat))
  c5 : w.cell? ⟨1, 31, none⟩ = some (.int .u8 (5 : Nat))
  c6 : w.cell? ⟨1, 63, none⟩ = some (.int .u8 (6 : Nat))
  c7 : w.cell? ⟨1, 62, none⟩ = some (.int .u8 (7 : Nat))
  c8 : w.cell? ⟨1, 61, none⟩ = some (.int .u8 (8 : Nat))
  c9 : w.cell? ⟨1, 59, none⟩ = some (.int .u8 (9 : Nat))
theorem TZ.keep {w w' : World} (h : TZ w) (hb : Below w.heap.size w w') : TZ w' where
  lt := Nat.lt_of_lt_of_le h.lt hb.size
  c1 := (hb.cell h.lt).trans h.c1
  c2 := (hb.cell h.lt).trans h.c2
  c3 := (hb.cell h.lt).trans h.c3
  c4 := (hb.cell h.lt).trans h.c4
  c5 := (hb.cell h.lt).trans h.c5
  c6 := (hb.cell h.lt).trans h.c6
  c7 := (hb.cell h.lt).trans h.c7
  c8 := (hb.cell h.lt).trans h.c8
  c9 := (hb.cell h.lt).trans h.c9
theorem tz28 {l : Int} {r : Nat} (hl : LG l r) (hr : 1 ≤ r) (w : World) (h : TZ w) :
    Calls Tryd.prog 28 #[.int .u64 l] w fun e w' => e = .returned (.int .i64 r) ∧ w' = w := by
  rcases hl with ⟨h1, h2, rfl⟩ | ⟨h1, _⟩
  · obtain ⟨e1, e2, e3, e4, e5, e6, e7, e8, e9⟩ := p2s
    match r, h1, h2 with
    | 1, _, _ => rw [e1]; exact tz64 2 _ _ 1 1 w (by decide) (by decide) rfl (by decide +kernel) rfl (by decide +kernel) (by decide) (by decide) h.c1
    | 2, _, _ => rw [e2]; exact tz64 4 _ _ 2 3 w (by decide) (by decide) rfl (by decide +kernel) rfl (by decide +kernel) (by decide) (by decide) h.c2
    | 3, _, _ => rw [e3]; exact tz64 8 _ _ 3 7 w (by decide) (by decide) rfl (by decide +kernel) rfl (by decide +kernel) (by decide) (by decide) h.c3
    | 4, _, _ => rw [e4]; exact tz64 16 _ _ 4 15 w (by decide) (by decide) rfl (by decide +kernel) rfl (by decide +kernel) (by decide) (by decide) h.c4
    | 5, _, _ => rw [e5]; exact tz64 32 _ _ 5 31 w (by decide) (by decide) rfl (by decide +kernel) rfl (by decide +kernel) (by decide) (by decide) h.c5
    | 6, _, _ => rw [e6]; exact tz64 64 _ _ 6 63 w (by decide) (by decide) rfl (by decide +kernel) rfl (by decide +kernel) (by decide) (by decide) h.c6
    | 7, _, _ => rw [e7]; exact tz64 128 _ _ 7 62 w (by decide) (by decide) rfl (by decide +kernel) rfl (by decide +kernel) (by decide) (by decide) h.c7
    | 8, _, _ => rw [e8]; exact tz64 256 _ _ 8 61 w (by decide) (by decide) rfl (by decide +kernel) rfl (by decide +kernel) (by decide) (by decide) h.c8
    | 9, _, _ => rw [e9]; exact tz64 512 _ _ 9 59 w (by decide) (by decide) rfl (by decide +kernel) rfl (by decide +kernel) (by decide) (by decide) h.c9
  · omega
theorem tz21 {l : Int} {r : Nat} (hl : LG l r) (hr : 1 ≤ r) (w : World) (h : TZ w) :
    Calls Tryd.prog 21 #[.int .u64 l] w fun e w' => e = .returned (.int .i64 r) ∧ w' = w := by
  have hg := hl.range hr
  have C := tz28 hl hr w h
  clear h hl
  go_enter Tryd.func21, Tryd.ntmps21
  go_wp2_with (go_at_call 28; refine C.mono ?_; rintro e w' ⟨rfl, rfl⟩)
  go_ret
  exact ⟨rfl, rfl⟩
theorem rowRise14 {cs : Array Value} {b i l p : Int} (q : QF cs b i l p) {r : Nat} (hl : LG l r) (hr : 1 ≤ r) (w : World) (h : TZ w) :
    Calls Tryd.prog 14 #[.agg cs] w fun e w' => e = .returned (.int .i64 r) ∧ Below w.heap.size w w' := by
  have hg := hl.range hr
  have C := tz21 hl hr (w.alloc (Obj.cells cs 25)) (h.keep ((Below.refl _ _).alloc (Nat.le_refl _) _))
  obtain ⟨h32, h33, h34, h35, k1, k2, k3, k4⟩ := q.gets
  clear h hl q
  go_enter Tryd.func14, Tryd.ntmps14
  go_wp2_with (go_at_call 21; refine C.mono ?_; rintro e w' ⟨rfl, rfl⟩)
  go_ret
  exact ⟨rfl, (Below.refl _ _).alloc (Nat.le_refl _) _⟩
/-- how many uncles -/
def un (p : Int) (r : Nat) : Int := if (r : Int) ≤ p then p - r + 1 else 0
theorem un_max (p : Int) (r : Nat) : un p r = max 0 (p - r + 1) := by unfold un; split <;> omega
theorem un_range {p : Int} {r : Nat} (h0 : 0 ≤ p) (h1 : p ≤ 48) (hr : r ≤ 9) (hr1 : 1 ≤ r) : 0 ≤ un p r ∧ un p r ≤ 48 := by unfold un; split <;> omega
theorem QF.lists {cs : Array Value} {b i l p : Int} (q : QF cs b i l p) : cs.toList[32]? = some (.int .i64 b) ∧ cs.toList[33]? = some (.int .i64 i) ∧ cs.toList[34]? = some (.int .i64 l) ∧ cs.toList[35]? = some (.int .i64 p) :=
  ⟨by simpa using q.c32, by simpa using q.c33, by simpa using q.c34, by simpa using q.c35⟩
theorem below_drew (w : World) : Below w.heap.size w w.drew := ⟨rfl, rfl, rfl, Nat.le_refl _, fun _ _ => rfl⟩
set_option maxHeartbeats 1000000 in
theorem uncles15 {cs : Array Value} {b i l p : Int} (q : QF cs b i l p) {r : Nat} (hl : LG l r) (hr : 1 ≤ r) (hr9 : r ≤ 9) (h0 : 0 ≤ p) (h1 : p ≤ 48) (w : World) (h : TZ w) :
    Calls Tryd.prog 15 #[.agg cs] w fun e w' => e = .returned (.int .i64 (un p r)) ∧ Below w.heap.size w w' := by
  obtain ⟨K32, K33, K34, K35⟩ := q.lists
  have hi' : (Tryd.prog.info? 25).map (·.size) = some cs.toList.length := by rw [q.info]; simp
  have C := fun w h => rowRise14 q hl hr w h
  have RG : (w.alloc (Obj.cells cs 25)).rangeAt w.heap.size 0 cs.toList := range_new w cs 25
  have T0 : TZ (w.alloc (Obj.cells cs 25)) := h.keep ((Below.refl _ _).alloc (Nat.le_refl _) _)
  clear hl q
  go_enter Tryd.func15, Tryd.ntmps15
  go_wp2_with fail
  refine wp_region_held_drew (S := fun w' => w'.rangeAt w.heap.size 0 cs.toList) (by kernel_rfl) (RG) (fun hHeld => ?_)
  refine wpAnyH_take (i := 2) (v := _) rfl (by kernel_rfl) (by kernel_rfl) (by kernel_rfl) (fun _ _ _ h => h) (yieldsIf_load_mid (by rfl) _ _ rfl _ _ rfl _ _ (fun _ h => h) Tryd.underlying25 rfl hi') hHeld ?_
  simp only [Act.put, Array.toArray_toList]
  refine wpAnyH_take (i := 0) (v := .pointer (some ⟨w.heap.size, 35, none⟩)) rfl (by kernel_rfl) (by kernel_rfl) (by kernel_rfl) (fun _ _ _ h => h) (Or.inl ⟨by rfl, fun w hw => by go_simp⟩) hHeld ?_
  simp only [Act.put]
  refine wpAnyH_take (i := 1) (v := .int .i64 p) rfl (by kernel_rfl) (by kernel_rfl) (by kernel_rfl) (fun _ _ _ h => h) (Or.inl ⟨by rfl, fun w hw => by have c : w.cell? ⟨_, 35, none⟩ = some (.int .i64 p) := hw 35 _ K35; go_simp⟩) hHeld ?_
  simp only [Act.put]
  refine wpAnyH_ready (rs := [3]) (by kernel_rfl) (by simp) ?_
  refine AllReadyH.cons (o := _) rfl (fun K hK => ?_) AllReadyH.nil
  go_simp
  refine (C _ (T0.keep (below_drew _))).mono ?_
  rintro e w' ⟨rfl, b1⟩
  go_wp2_with fail
  refine hK.out _ _ (range_keep hHeld b1) (fun hHeld => ?_)
  clear hK K
  refine wpAnyH_take (i := 4) (v := .int .i64 (p - r)) rfl (by kernel_rfl) (by kernel_rfl) (by kernel_rfl) (fun _ _ _ h => h) (Or.inl ⟨by rfl, fun w hw => by go_simp; exact IntWalk.i64_in _ ⟨by omega, by omega⟩⟩) hHeld ?_
  simp only [Act.put]
  refine wpAnyH_take (i := 5) (v := .int .i64 (p - r + 1)) rfl (by kernel_rfl) (by kernel_rfl) (by kernel_rfl) (fun _ _ _ h => h) (Or.inl ⟨by rfl, fun w hw => by go_simp; exact IntWalk.i64_in _ ⟨by omega, by omega⟩⟩) hHeld ?_
  simp only [Act.put]
  refine wpAnyH_ready (rs := [6]) (by kernel_rfl) (by simp) ?_
  refine AllReadyH.cons (o := _) rfl (fun K hK => ?_) AllReadyH.nil
  go_simp
  refine hK.out _ _ hHeld (fun hHeld => ?_)
  clear hK K
  refine wpAnyH_ready (rs := [7]) (by kernel_rfl) (by simp) ?_
  refine AllReadyH.cons (o := _) rfl (fun K hK => ?_) AllReadyH.nil
  go_simp
  refine hK.out _ _ hHeld (fun hHeld => ?_)
  clear hK K
  refine wpAnyH_done (by kernel_rfl) ?_ _
  rw [← un_max p r]
  go_wp2
  go_ret
  exact ⟨rfl, ((Below.refl _ _).alloc (Nat.le_refl _) _).drew.trans (b1.mono (by simp))⟩
end Go.Proofs.YtcanbkgcgjaimaaDoor
