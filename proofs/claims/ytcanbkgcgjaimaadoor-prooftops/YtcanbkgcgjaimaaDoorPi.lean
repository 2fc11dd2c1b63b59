import Derived.Test.YtcanbkgcgjaimaaDoorPh
import Derived.OwnWalk
namespace Go.Proofs.YtcanbkgcgjaimaaDoor
open Go.Shelf Go.RowKit
theorem CK.ok {n low b i l p : Int} (h : CK n low b i l p 0) : 0 ≤ b ∧ b < 48 ∧ 0 ≤ p ∧ b + p < 48 ∧ 0 ≤ i ∧ i ≤ 281474976710656 ∧ ∃ r, LG l r ∧ 1 ≤ r ∧ r ≤ 9 := by
  obtain ⟨t, e, h1, h2⟩ := h
  rcases h2 with ⟨h2, h3⟩ | ⟨h2, h3⟩
  · omega
  · subst h2
    obtain ⟨g0, g1, _⟩ := h1.range
    obtain ⟨f1, f2, f3, f4, f5, f6, r, f7, f8, f9⟩ := h3.ok
    have := p2_mono (show (t - b).toNat ≤ 48 by omega)
    have e : p2 48 = 281474976710656 := by decide
    have := f7.range f8
    exact ⟨by omega, by omega, f3, by omega, f5, by omega, r, f7, f8, f9⟩
theorem p2_pow (k : Nat) : (2 : Int) ^ k = p2 k := by unfold p2; simp
/-- Top, by its numbers -/
def TP (n low b i l p lv pl er : Int) : Prop := CK n low b i l p er ∧ (er ≠ 0 ∧ lv = 0 ∧ pl = 0 ∨ er = 0 ∧ ∃ r, LG l r ∧ lv = b + (r + un p r) ∧ pl = i / p2 (r + un p r).toNat)
theorem TP.unique {n low b i l p lv pl e lv' pl' e' : Int} (h : TP n low b i l p lv pl e) (g : TP n low b i l p lv' pl' e') : lv = lv' ∧ pl = pl' ∧ e = e' := by
  have := h.1.unique g.1
  subst this
  rcases h.2 with ⟨a1, a2, a3⟩ | ⟨a1, r, a2, a3, a4⟩ <;> rcases g.2 with ⟨b1, b2, b3⟩ | ⟨b1, s, b2, b3, b4⟩
  · exact ⟨by omega, by omega, rfl⟩
  · omega
  · omega
  · obtain rfl := a2.unique b2
    exact ⟨by omega, by rw [a4, b4], rfl⟩
set_option maxHeartbeats 1000000 in
theorem top7 {cs : Array Value} {b i l p : Int} (q : QF cs b i l p) (n low : Int) (w : World) (h : TZ w) :
    Calls Tryd.prog 7 #[.int .i64 n, .int .i64 low, .agg cs] w fun e w' => ∃ lv pl er, e = .returned (.tuple #[.int .i64 lv, .int .i64 pl, .int .i64 er]) ∧ TP n low b i l p lv pl er ∧ Below w.heap.size w w' := by
  obtain ⟨K32, K33, K34, K35⟩ := q.lists
  have hi := q.info
  have hi' : (Tryd.prog.info? 25).map (·.size) = some cs.toList.length := by rw [q.info]; simp
  have T0 : TZ (w.alloc (Obj.cells cs 25)) := h.keep ((Below.refl _ _).alloc (Nat.le_refl _) _)
  go_enter Tryd.func7, Tryd.ntmps7
  go_wp2_with (first | (refine wpList_load_row rfl 25 _ rfl w.heap.size rfl 25 cs (0, 0) _ (heap_alloc_last w _) Tryd.underlying25 rfl hi ?_))
  refine (check13 q n low _).mono ?_
  rintro e w1 ⟨er, rfl, h1, b1⟩
  have RG1 : w1.rangeAt w.heap.size 0 cs.toList := range_keep (range_new w cs 25) b1
  have B1 := ((Below.refl w.heap.size w).alloc (Nat.le_refl _) (Obj.cells cs 25)).trans (b1.mono (by simp))
  have T1 := T0.keep b1
  have F : Hid (CK n low b i l p er) := h1
  clear h1 b1 T0 h
  by_cases c : er = 0
  · subst c
    obtain ⟨f1, f2, f3, f4, f5, f6, r, f7, f8, f9⟩ := F.out.ok
    have C1 := fun w h => rowRise14 q f7 f8 w h
    have C2 := fun w h => uncles15 q f7 f8 f9 f3 (by omega) w h
    have hu := un_range f3 (show p ≤ 48 by omega) f9 f8
    have hs : r + un p r ≤ 48 := by unfold un; split <;> omega
    have L : Hid (LG l r) := f7
    have HU : ∃ u, u = un p r := ⟨_, rfl⟩
    obtain ⟨u, hue⟩ := HU
    rw [← hue] at hu C2 hs
    have HN : Hid (u = un p r) := hue
    clear f7 hue q
    go_wp2_with fail
    refine wp_region_held_drew (S := fun w' => w'.rangeAt w.heap.size 0 cs.toList) (by kernel_rfl) (RG1) (fun hHeld => ?_)
    refine wpAnyH_take (i := 0) (v := _) rfl (by kernel_rfl) (by kernel_rfl) (by kernel_rfl) (fun _ _ _ h => h) (yieldsIf_load_mid (by rfl) _ _ rfl _ _ rfl _ _ (fun _ h => h) Tryd.underlying25 rfl hi') hHeld ?_
    simp only [Act.put, Array.toArray_toList]
    refine wpAnyH_take (i := 2) (v := _) rfl (by kernel_rfl) (by kernel_rfl) (by kernel_rfl) (fun _ _ _ h => h) (yieldsIf_load_mid (by rfl) _ _ rfl _ _ rfl _ _ (fun _ h => h) Tryd.underlying25 rfl hi') hHeld ?_
    simp only [Act.put, Array.toArray_toList]
    refine wpAnyH_ready (rs := [1]) (by kernel_rfl) (by simp) ?_
    refine AllReadyH.cons (o := _) rfl (fun K hK => ?_) AllReadyH.nil
    go_simp
    refine (C1 _ (T1.keep (below_drew _))).mono ?_
    rintro e w' ⟨rfl, b2⟩
    have T2 := (T1.keep (below_drew _)).keep b2
    go_wp2_with fail
    refine hK.out _ _ (range_keep hHeld b2) (fun hHeld => ?_)
    clear hK K
    refine wpAnyH_ready (rs := [3]) (by kernel_rfl) (by simp) ?_
    refine AllReadyH.cons (o := _) rfl (fun K hK => ?_) AllReadyH.nil
    go_simp
    refine (C2 _ T2).mono ?_
    rintro e w' ⟨rfl, b3⟩
    go_wp2_with fail
    refine hK.out _ _ (range_keep hHeld b3) (fun hHeld => ?_)
    clear hK K
    refine wpAnyH_take (i := 4) (v := .int .i64 (r + u)) rfl (by kernel_rfl) (by kernel_rfl) (by kernel_rfl) (fun _ _ _ h => h) (Or.inl ⟨by rfl, fun w hw => by go_simp; exact IntWalk.i64_in _ ⟨by omega, by omega⟩⟩) hHeld ?_
    simp only [Act.put]
    refine wpAnyH_ready (rs := [5]) (by kernel_rfl) (by simp) ?_
    refine AllReadyH.cons (o := _) rfl (fun K hK => ?_) AllReadyH.nil
    go_simp
    refine hK.out _ _ hHeld (fun hHeld => ?_)
    clear hK K
    refine wpAnyH_done (by kernel_rfl) ?_ _
    have c32 : (_ : World).cell? ⟨w.heap.size, 32, none⟩ = some (.int .i64 b) := hHeld 32 _ K32
    have c33 : (_ : World).cell? ⟨w.heap.size, 33, none⟩ = some (.int .i64 i) := hHeld 33 _ K33
    go_wp2_with fail
    go_quiet (fail)
    go_wp2
    go_ret3
    exact ⟨b + (r + u), i / p2 (r + u).toNat, 0, by rw [← p2_pow]; rfl, ⟨F.out, .inr ⟨rfl, r, L.out, by rw [HN.out], by rw [HN.out]⟩⟩, ((B1.drew.trans (b2.mono B1.size)).trans (b3.mono (Nat.le_trans B1.size b2.size))).drewN _⟩
  · have c' : (er != 0) = true := by simpa using c
    clear q T1
    go_wp2
    go_ret3
    exact ⟨0, 0, er, rfl, ⟨F.out, .inl ⟨c, rfl, rfl⟩⟩, B1⟩
set_option maxHeartbeats 1000000 in
theorem top8 {cs : Array Value} {b i l p : Int} (q : QF cs b i l p) (n low : Int) (w : World) :
    Calls Tryd.prog 8 #[.int .i64 n, .int .i64 low, .agg cs] w fun e w' => ∃ lv pl er, e = .returned (.tuple #[.int .i64 lv, .int .i64 pl, .int .i64 er]) ∧ TP n low b i l p lv pl er ∧ Below w.heap.size w w' := by
  obtain ⟨K32, K33, K34, K35⟩ := q.lists
  have hi := q.info
  have hi' : (Tryd.prog.info? 25).map (·.size) = some cs.toList.length := by rw [q.info]; simp
  go_enter Tryd.func8, Tryd.ntmps8
  go_wp2_with (first | (refine wpList_load_row rfl 25 _ rfl w.heap.size rfl 25 cs (0, 0) _ (heap_alloc_last w _) Tryd.underlying25 rfl hi ?_))
  refine (check16 q n low _).mono ?_
  rintro e w1 ⟨er, rfl, h1, b1⟩
  have RG1 : w1.rangeAt w.heap.size 0 cs.toList := range_keep (range_new w cs 25) b1
  have B1 := ((Below.refl w.heap.size w).alloc (Nat.le_refl _) (Obj.cells cs 25)).trans (b1.mono (by simp))
  have F : Hid (CK n low b i l p er) := h1
  clear h1 b1
  by_cases c : er = 0
  · subst c
    obtain ⟨f1, f2, f3, f4, f5, f6, r, f7, f8, f9⟩ := F.out.ok
    have C1 := log_of f7
    have C2 := fun w => uncles12 q f7 f8 f9 f3 (by omega) f1 (by omega) w
    have hu := un_range f3 (show p ≤ 48 by omega) f9 f8
    have hs : r + un p r ≤ 48 := by unfold un; split <;> omega
    have L : Hid (LG l r) := f7
    have HU : ∃ u, u = un p r := ⟨_, rfl⟩
    obtain ⟨u, hue⟩ := HU
    rw [← hue] at hu C2 hs
    have HN : Hid (u = un p r) := hue
    have tb : (((r + u).toNat : Nat) : Int) = r + u := by omega
    have C3 : ∀ w, Calls Tryd.prog 18 #[.int .i64 (r + u)] w fun e w' => e = .returned (.int .i64 (p2 (r + u).toNat)) ∧ w' = w := fun w => by
      have := power18 (r + u).toNat (by omega) w
      rw [tb] at this
      exact this
    have hP : 1 ≤ p2 (r + u).toNat ∧ p2 (r + u).toNat ≤ 281474976710656 := by
      have := p2_mono (show (r + u).toNat ≤ 48 by omega)
      have e : p2 48 = 281474976710656 := by decide
      have := p2_pos (r + u).toNat
      omega
    have HP : ∃ P, P = p2 (r + u).toNat := ⟨_, rfl⟩
    obtain ⟨P, hpe⟩ := HP
    rw [← hpe] at hP C3
    have HPE : Hid (P = p2 (r + u).toNat) := hpe
    clear f7 hue q tb hpe
    go_wp2_with fail
    refine wp_region_held_drew (S := fun w' => w'.rangeAt w.heap.size 0 cs.toList) (by kernel_rfl) (RG1) (fun hHeld => ?_)
    refine wpAnyH_take (i := 3) (v := _) rfl (by kernel_rfl) (by kernel_rfl) (by kernel_rfl) (fun _ _ _ h => h) (yieldsIf_load_mid (by rfl) _ _ rfl _ _ rfl _ _ (fun _ h => h) Tryd.underlying25 rfl hi') hHeld ?_
    simp only [Act.put, Array.toArray_toList]
    refine wpAnyH_take (i := 0) (v := .pointer (some ⟨w.heap.size, 34, none⟩)) rfl (by kernel_rfl) (by kernel_rfl) (by kernel_rfl) (fun _ _ _ h => h) (Or.inl ⟨by rfl, fun w hw => by go_simp⟩) hHeld ?_
    simp only [Act.put]
    refine wpAnyH_take (i := 1) (v := .int .i64 l) rfl (by kernel_rfl) (by kernel_rfl) (by kernel_rfl) (fun _ _ _ h => h) (Or.inl ⟨by rfl, fun w hw => by have c : w.cell? ⟨_, 34, none⟩ = some (.int .i64 l) := hw 34 _ K34; go_simp⟩) hHeld ?_
    simp only [Act.put]
    refine wpAnyH_ready (rs := [2]) (by kernel_rfl) (by simp) ?_
    refine AllReadyH.cons (o := _) rfl (fun K hK => ?_) AllReadyH.nil
    go_simp
    refine (C1 _).mono ?_
    rintro e w' ⟨rfl, rfl⟩
    go_wp2_with fail
    refine hK.out _ _ (hHeld) (fun hHeld => ?_)
    clear hK K
    refine wpAnyH_ready (rs := [4]) (by kernel_rfl) (by simp) ?_
    refine AllReadyH.cons (o := _) rfl (fun K hK => ?_) AllReadyH.nil
    go_simp
    refine (C2 _).mono ?_
    rintro e w' ⟨rfl, b3⟩
    go_wp2_with fail
    refine hK.out _ _ (range_keep hHeld b3) (fun hHeld => ?_)
    clear hK K
    refine wpAnyH_take (i := 5) (v := .int .i64 (r + u)) rfl (by kernel_rfl) (by kernel_rfl) (by kernel_rfl) (fun _ _ _ h => h) (Or.inl ⟨by rfl, fun w hw => by go_simp; exact IntWalk.i64_in _ ⟨by omega, by omega⟩⟩) hHeld ?_
    simp only [Act.put]
    refine wpAnyH_ready (rs := [6]) (by kernel_rfl) (by simp) ?_
    refine AllReadyH.cons (o := _) rfl (fun K hK => ?_) AllReadyH.nil
    go_simp
    refine hK.out _ _ hHeld (fun hHeld => ?_)
    clear hK K
    refine wpAnyH_done (by kernel_rfl) ?_ _
    have c32 : (_ : World).cell? ⟨w.heap.size, 32, none⟩ = some (.int .i64 b) := hHeld 32 _ K32
    have c33 : (_ : World).cell? ⟨w.heap.size, 33, none⟩ = some (.int .i64 i) := hHeld 33 _ K33
    clear C1 C2
    go_wp2_with fail
    go_quiet (first | (go_at_call 18; exact Calls.quiet_of_same (C3 _)))
    go_wp2
    go_ret3
    exact ⟨b + (r + u), i / p2 (r + u).toNat, 0, by rw [← HPE.out]; rfl, ⟨F.out, .inr ⟨rfl, r, L.out, by rw [HN.out], by rw [HN.out]⟩⟩, (B1.drew.trans (b3.mono B1.size)).drewN _⟩
  · have c' : (er != 0) = true := by simpa using c
    clear q
    go_wp2
    go_ret3
    exact ⟨0, 0, er, rfl, ⟨F.out, .inl ⟨c, rfl, rfl⟩⟩, B1⟩
end Go.Proofs.YtcanbkgcgjaimaaDoor
