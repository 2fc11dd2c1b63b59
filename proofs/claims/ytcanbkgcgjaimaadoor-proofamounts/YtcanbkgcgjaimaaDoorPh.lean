import Derived.Test.YtcanbkgcgjaimaaDoorPg
namespace Go.Proofs.YtcanbkgcgjaimaaDoor
open Go.Shelf Go.RowKit
set_option maxHeartbeats 1000000 in
theorem amount10 {cs : Array Value} {b i l p : Int} (q : QF cs b i l p) {r : Nat} (hl : LG l r) (hr : 1 ≤ r) (hr9 : r ≤ 9) (h0 : 0 ≤ p) (h1 : p ≤ 48) (w : World) (h : TZ w) :
    Calls Tryd.prog 10 #[.agg cs] w fun e w' => e = .returned (.int .i64 (l + un p r)) ∧ Below w.heap.size w w' := by
  obtain ⟨K32, K33, K34, K35⟩ := q.lists
  have hi' : (Tryd.prog.info? 25).map (·.size) = some cs.toList.length := by rw [q.info]; simp
  have C := fun w h => uncles15 q hl hr hr9 h0 h1 w h
  have RG : (w.alloc (Obj.cells cs 25)).rangeAt w.heap.size 0 cs.toList := range_new w cs 25
  have T0 : TZ (w.alloc (Obj.cells cs 25)) := h.keep ((Below.refl _ _).alloc (Nat.le_refl _) _)
  have hg := hl.range hr
  have hu := un_range h0 h1 hr9 hr
  generalize un p r = u at *
  clear hl q
  go_enter Tryd.func10, Tryd.ntmps10
  go_wp2_with fail
  refine wp_region_held_drew (S := fun w' => w'.rangeAt w.heap.size 0 cs.toList) (by kernel_rfl) (RG) (fun hHeld => ?_)
  refine wpAnyH_take (i := 2) (v := _) rfl (by kernel_rfl) (by kernel_rfl) (by kernel_rfl) (fun _ _ _ h => h) (yieldsIf_load_mid (by rfl) _ _ rfl _ _ rfl _ _ (fun _ h => h) Tryd.underlying25 rfl hi') hHeld ?_
  simp only [Act.put, Array.toArray_toList]
  refine wpAnyH_take (i := 0) (v := .pointer (some ⟨w.heap.size, 34, none⟩)) rfl (by kernel_rfl) (by kernel_rfl) (by kernel_rfl) (fun _ _ _ h => h) (Or.inl ⟨by rfl, fun w hw => by go_simp⟩) hHeld ?_
  simp only [Act.put]
  refine wpAnyH_take (i := 1) (v := .int .i64 l) rfl (by kernel_rfl) (by kernel_rfl) (by kernel_rfl) (fun _ _ _ h => h) (Or.inl ⟨by rfl, fun w hw => by have c : w.cell? ⟨_, 34, none⟩ = some (.int .i64 l) := hw 34 _ K34; go_simp⟩) hHeld ?_
  simp only [Act.put]
  refine wpAnyH_ready (rs := [3]) (by kernel_rfl) (by simp) ?_
  refine AllReadyH.cons (o := _) rfl (fun K hK => ?_) AllReadyH.nil
  go_simp
  refine (C _ (T0.keep (below_drew _))).mono ?_
  rintro e w' ⟨rfl, b1⟩
  go_wp2_with fail
  refine hK.out _ _ (range_keep hHeld b1) (fun hHeld => ?_)
  clear hK K
  refine wpAnyH_take (i := 4) (v := .int .i64 (l + u)) rfl (by kernel_rfl) (by kernel_rfl) (by kernel_rfl) (fun _ _ _ h => h) (Or.inl ⟨by rfl, fun w hw => by go_simp; exact IntWalk.i64_in _ ⟨by omega, by omega⟩⟩) hHeld ?_
  simp only [Act.put]
  refine wpAnyH_ready (rs := [5]) (by kernel_rfl) (by simp) ?_
  refine AllReadyH.cons (o := _) rfl (fun K hK => ?_) AllReadyH.nil
  go_simp
  refine hK.out _ _ hHeld (fun hHeld => ?_)
  clear hK K
  refine wpAnyH_done (by kernel_rfl) ?_ _
  go_wp2
  go_ret
  exact ⟨rfl, ((Below.refl _ _).alloc (Nat.le_refl _) _).drew.trans (b1.mono (by simp))⟩
theorem FT.ok {low top b i l p : Int} (h : FT low top b i l p 0) : low ≤ b ∧ b < top ∧ 0 ≤ p ∧ p < top - b ∧ 0 ≤ i ∧ i ≤ p2 (top - b).toNat - l ∧ ∃ r, LG l r ∧ 1 ≤ r ∧ r ≤ 9 := by
  rcases h with ⟨_, h⟩ | ⟨h1, h2, r, h3, h4⟩
  · omega
  · have h9 : r ≤ 9 := by rcases h3 with h | h <;> omega
    refine ⟨h1, h2, by omega, by omega, by omega, by omega, r, h3, by omega, h9⟩
/-- Amount, by its numbers -/
def AM (b i l p n er : Int) : Prop := FT 0 48 b i l p er ∧ (er ≠ 0 ∧ n = 0 ∨ er = 0 ∧ ∃ r, LG l r ∧ n = l + un p r)
theorem AM.unique {b i l p n e n' e' : Int} (h : AM b i l p n e) (g : AM b i l p n' e') : n = n' ∧ e = e' := by
  have := h.1.unique g.1
  subst this
  refine ⟨?_, rfl⟩
  rcases h.2 with ⟨a1, a2⟩ | ⟨a1, r, a2, a3⟩ <;> rcases g.2 with ⟨b1, b2⟩ | ⟨b1, s, b2, b3⟩
  · omega
  · omega
  · omega
  · obtain rfl := a2.unique b2
    omega
set_option maxHeartbeats 1000000 in
theorem amount5 {cs : Array Value} {b i l p : Int} (q : QF cs b i l p) (w : World) (h : TZ w) :
    Calls Tryd.prog 5 #[.agg cs] w fun e w' => ∃ n er, e = .returned (.tuple #[.int .i64 n, .int .i64 er]) ∧ AM b i l p n er ∧ Below w.heap.size w w' := by
  have hi := q.info
  have T0 : TZ (w.alloc (Obj.cells cs 25)) := h.keep ((Below.refl _ _).alloc (Nat.le_refl _) _)
  go_enter Tryd.func5, Tryd.ntmps5
  go_wp2_with (first | (refine wpList_load_row rfl 25 _ rfl w.heap.size rfl 25 cs (0, 0) _ (heap_alloc_last w _) Tryd.underlying25 rfl hi ?_))
  refine (between9 q 0 48 (by decide) (by decide) _).mono ?_
  rintro e w1 ⟨er, rfl, h1, b1⟩
  have hh : w1.heap[w.heap.size]? = some (Obj.cells cs 25) := (b1.block _ (by simp)).trans (heap_alloc_last w _)
  have B1 := ((Below.refl w.heap.size w).alloc (Nat.le_refl _) (Obj.cells cs 25)).trans (b1.mono (by simp))
  have T1 := T0.keep b1
  have F : Hid (FT 0 48 b i l p er) := h1
  clear h1 b1
  by_cases c : er = 0
  · subst c
    obtain ⟨f1, f2, f3, f4, f5, f6, r, f7, f8, f9⟩ := F.out.ok
    have C := fun w h => amount10 q f7 f8 f9 f3 (by omega) w h
    have L : Hid (LG l r) := f7
    generalize hn : l + un p r = n at *
    have HN : Hid (l + un p r = n) := hn
    clear f6 f7 hn T0 h q
    go_wp2_with (first | (refine wpList_load_row rfl 25 _ rfl w.heap.size rfl 25 cs (0, 0) _ hh Tryd.underlying25 rfl hi ?_))
    refine (C _ T1).mono ?_
    rintro e w2 ⟨rfl, b2⟩
    go_wp2
    go_ret2
    exact ⟨n, 0, rfl, ⟨F.out, .inr ⟨rfl, r, L.out, HN.out.symm⟩⟩, B1.trans (b2.mono B1.size)⟩
  · have c' : (er != 0) = true := by simpa using c
    clear T0 T1 h q hh
    go_wp2
    go_ret2
    exact ⟨0, er, rfl, ⟨F.out, .inl ⟨c, rfl⟩⟩, B1⟩
theorem log_of {l : Int} {r : Nat} (h : LG l r) (w : World) : Calls Tryd.prog 17 #[.int .i64 l] w fun e w' => e = .returned (.int .i64 r) ∧ w' = w :=
  (log17 l w).mono fun _ _ ⟨_, h1, h2, h3⟩ => ⟨by rw [h1, h2.unique h], h3⟩
set_option maxHeartbeats 1000000 in
theorem uncles12 {cs : Array Value} {b i l p : Int} (q : QF cs b i l p) {r : Nat} (hl : LG l r) (hr : 1 ≤ r) (hr9 : r ≤ 9) (h0 : 0 ≤ p) (h1 : p ≤ 48) (hb0 : 0 ≤ b) (hb1 : b ≤ 48) (w : World) :
    Calls Tryd.prog 12 #[.agg cs] w fun e w' => e = .returned (.int .i64 (un p r)) ∧ Below w.heap.size w w' := by
  obtain ⟨h32, h33, h34, h35, k1, k2, k3, k4⟩ := q.gets
  have C := log_of hl
  have hu : Hid (un p r = max 0 (p - r + 1)) := un_max p r
  have BL : ∀ nq, Below w.heap.size w ((w.alloc (Obj.cells cs 25)).drewN nq) := fun nq => ((Below.refl _ _).alloc (Nat.le_refl _) _).drewN nq
  clear q hl
  go_enter Tryd.func12, Tryd.ntmps12
  go_wp2_with fail
  go_quiet (first | (go_at_call 17; exact Calls.quiet_of_same (C _)))
  go_wp2_with fail
  go_loop [3, 4] (fun u v => ∃ j : Nat, (j : Int) ≤ 48 ∧ ((j : Int) = 0 ∨ (j : Int) ≤ p - r + 1) ∧ u = .int .i64 j ∧ v = .int .i64 (b + r + j)) (fun u _ => 49 - (intOf u).toNat)
  case atStart => exact ⟨0, by omega, by omega, rfl, by simp⟩
  case round =>
    obtain ⟨j, hj, hj2, rfl, rfl⟩ := hrel
    by_cases hlt : b + r + j ≤ b + p
    · go_wp2
      go_round
      · exact ⟨j + 1, by omega, by omega, by simp, by simp; omega⟩
      · simp [intOf]; omega
    · go_wp2
      go_ret
      refine ⟨?_, BL _⟩
      rw [hu.out, show max 0 (p - (r : Int) + 1) = (j : Int) by omega]
      rfl
set_option maxHeartbeats 1000000 in
theorem amount6 {cs : Array Value} {b i l p : Int} (q : QF cs b i l p) (w : World) :
    Calls Tryd.prog 6 #[.agg cs] w fun e w' => ∃ n er, e = .returned (.tuple #[.int .i64 n, .int .i64 er]) ∧ AM b i l p n er ∧ Below w.heap.size w w' := by
  obtain ⟨K32, K33, K34, K35⟩ := q.lists
  have hi := q.info
  have hi' : (Tryd.prog.info? 25).map (·.size) = some cs.toList.length := by rw [q.info]; simp
  go_enter Tryd.func6, Tryd.ntmps6
  go_wp2_with (first | (refine wpList_load_row rfl 25 _ rfl w.heap.size rfl 25 cs (0, 0) _ (heap_alloc_last w _) Tryd.underlying25 rfl hi ?_))
  refine (fits11 q 0 48 (by decide) (by decide) _).mono ?_
  rintro e w1 ⟨er, rfl, h1, b1⟩
  have RG1 : w1.rangeAt w.heap.size 0 cs.toList := range_keep (range_new w cs 25) b1
  have B1 := ((Below.refl w.heap.size w).alloc (Nat.le_refl _) (Obj.cells cs 25)).trans (b1.mono (by simp))
  have F : Hid (FT 0 48 b i l p er) := h1
  clear h1 b1
  by_cases c : er = 0
  · subst c
    obtain ⟨f1, f2, f3, f4, f5, f6, r, f7, f8, f9⟩ := F.out.ok
    have C := fun w => uncles12 q f7 f8 f9 f3 (by omega) f1 (by omega) w
    have hg := f7.range f8
    have hu := un_range f3 (show p ≤ 48 by omega) f9 f8
    have L : Hid (LG l r) := f7
    have HU : ∃ u, u = un p r := ⟨_, rfl⟩
    obtain ⟨u, hue⟩ := HU
    rw [← hue] at hu C
    have HN : Hid (u = un p r) := hue
    clear f6 f7 hue q
    go_wp2_with fail
    refine wp_region_held_drew (S := fun w' => w'.rangeAt w.heap.size 0 cs.toList) (by kernel_rfl) (RG1) (fun hHeld => ?_)
    refine wpAnyH_take (i := 2) (v := _) rfl (by kernel_rfl) (by kernel_rfl) (by kernel_rfl) (fun _ _ _ h => h) (yieldsIf_load_mid (by rfl) _ _ rfl _ _ rfl _ _ (fun _ h => h) Tryd.underlying25 rfl hi') hHeld ?_
    simp only [Act.put, Array.toArray_toList]
    refine wpAnyH_take (i := 0) (v := .pointer (some ⟨w.heap.size, 34, none⟩)) rfl (by kernel_rfl) (by kernel_rfl) (by kernel_rfl) (fun _ _ _ h => h) (Or.inl ⟨by rfl, fun w hw => by go_simp⟩) hHeld ?_
    simp only [Act.put]
    refine wpAnyH_take (i := 1) (v := .int .i64 l) rfl (by kernel_rfl) (by kernel_rfl) (by kernel_rfl) (fun _ _ _ h => h) (Or.inl ⟨by rfl, fun w hw => by have c : w.cell? ⟨_, 34, none⟩ = some (.int .i64 l) := hw 34 _ K34; go_simp⟩) hHeld ?_
    simp only [Act.put]
    refine wpAnyH_ready (rs := [3]) (by kernel_rfl) (by simp) ?_
    refine AllReadyH.cons (o := _) rfl (fun K hK => ?_) AllReadyH.nil
    go_simp
    refine (C _).mono ?_
    rintro e w' ⟨rfl, b2⟩
    go_wp2_with fail
    refine hK.out _ _ (range_keep hHeld b2) (fun hHeld => ?_)
    clear hK K
    refine wpAnyH_take (i := 4) (v := .int .i64 (l + u)) rfl (by kernel_rfl) (by kernel_rfl) (by kernel_rfl) (fun _ _ _ h => h) (Or.inl ⟨by rfl, fun w hw => by go_simp; exact IntWalk.i64_in _ ⟨by omega, by omega⟩⟩) hHeld ?_
    simp only [Act.put]
    refine wpAnyH_ready (rs := [5]) (by kernel_rfl) (by simp) ?_
    refine AllReadyH.cons (o := _) rfl (fun K hK => ?_) AllReadyH.nil
    go_simp
    refine hK.out _ _ hHeld (fun hHeld => ?_)
    clear hK K
    refine wpAnyH_ready (rs := [6]) (by kernel_rfl) (by simp) ?_
    refine AllReadyH.cons (o := _) rfl (fun K hK => ?_) AllReadyH.nil
    go_simp
    refine hK.out _ _ hHeld (fun hHeld => ?_)
    clear hK K
    refine wpAnyH_done (by kernel_rfl) ?_ _
    go_wp2
    go_ret2
    exact ⟨l + u, 0, rfl, ⟨F.out, .inr ⟨rfl, r, L.out, by rw [HN.out]⟩⟩, B1.drew.trans (b2.mono B1.size)⟩
  · have c' : (er != 0) = true := by simpa using c
    clear q
    go_wp2
    go_ret2
    exact ⟨0, er, rfl, ⟨F.out, .inl ⟨c, rfl⟩⟩, B1⟩
end Go.Proofs.YtcanbkgcgjaimaaDoor
