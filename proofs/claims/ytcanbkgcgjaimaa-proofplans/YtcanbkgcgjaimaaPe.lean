import Derived.Test.YtcanbkgcgjaimaaPd
import Derived.Deep.WholeRow
import Derived.Deep.RegionHeld3
namespace Go.Proofs.Ytcanbkgcgjaimaa
open Go.Shelf Go.RowKit
set_option maxHeartbeats 1000000 in
theorem fits15 {cs : Array Value} {b i l p : Int} (q : QF cs b i l p) (low top : Int) (h0 : 0 ≤ low) (h1 : top ≤ 48) (w : World) :
    Calls Try.prog 15 #[.int .i64 low, .int .i64 top, .agg cs] w fun e w' => ∃ er, e = .returned (.int .i64 er) ∧ FT low top b i l p er ∧ Below w.heap.size w w' := by
  obtain ⟨h32, h33, h34, h35, k1, k2, k3, k4⟩ := q.gets
  clear q
  by_cases c1 : b < low
  · go_enter Try.func15, Try.ntmps15
    go_wp2
    go_ret
    exact ⟨70, rfl, .inl ⟨.inl c1, rfl⟩, (Below.refl _ _).alloc (Nat.le_refl _) _⟩
  · by_cases c2 : top ≤ b
    · go_enter Try.func15, Try.ntmps15
      go_wp2
      go_ret
      exact ⟨70, rfl, .inl ⟨.inr c2, rfl⟩, (Below.refl _ _).alloc (Nat.le_refl _) _⟩
    · have BL : ∀ nq, Below w.heap.size w ((w.alloc (Obj.cells cs 31)).drewN nq) := fun nq => ((Below.refl _ _).alloc (Nat.le_refl _) _).drewN nq
      go_enter Try.func15, Try.ntmps15
      go_wp2_with fail
      refine (log18 l _).mono ?_
      rintro e w' ⟨r, rfl, hr, rfl⟩
      have MK : Hid (∀ er, (r = 0 ∧ er = 71 ∨ 1 ≤ r ∧
    ((i < 0 ∨ i.tmod l ≠ 0 ∨ p2 (top - b).toNat - l < i) ∧ er = 72 ∨ 0 ≤ i ∧ i.tmod l = 0 ∧ i ≤ p2 (top - b).toNat - l ∧
      ((p < 0 ∨ top - b ≤ p) ∧ er = 73 ∨ 0 ≤ p ∧ p < top - b ∧ er = 0))) → FT low top b i l p er) := fun er h => .inr ⟨by omega, by omega, r, hr, h⟩
      by_cases c3 : r = 0
      · subst c3
        clear hr
        go_wp2
        go_ret
        exact ⟨71, rfl, MK.out _ (.inl (by simp)), (Below.refl _ _).alloc (Nat.le_refl _) _⟩
      · have e1 : 1 ≤ r := by omega
        obtain ⟨c4, c5⟩ := hr.range e1
        have c3' : ((r : Int) == 0) = false := by simp; omega
        clear hr
        by_cases c6 : i < 0
        · go_wp2
          go_quiet (fail)
          go_wp2
          go_ret
          exact ⟨72, rfl, MK.out _ (.inr ⟨e1, .inl ⟨.inl c6, rfl⟩⟩), BL _⟩
        · have g6 : decide (i < 0) = false := decide_eq_false c6
          by_cases c7 : i.tmod l = 0
          · have g7 : (i.tmod l != 0) = false := by rw [c7]; rfl
            have hP : Hid (1 ≤ p2 (top - b).toNat ∧ p2 (top - b).toNat ≤ 281474976710656) := by
              have := p2_mono (show (top - b).toNat ≤ 48 by omega)
              have e : p2 48 = 281474976710656 := by decide
              have := p2_pos (top - b).toNat
              show _ ∧ _
              omega
            obtain ⟨q0, q1⟩ := hP.out
            clear hP
            have tb : (((top - b).toNat : Nat) : Int) = top - b := by omega
            have C : ∀ w, Calls Try.prog 13 #[.int .i64 (top - b)] w fun e w' => e = .returned (.int .i64 (p2 (top - b).toNat)) ∧ w' = w := fun w => by
              have := power13 (top - b).toNat (by omega) w
              rw [tb] at this
              exact this
            clear tb
            generalize p2 (top - b).toNat = P at *
            go_wp2
            go_quiet (first | (go_at_call 13; exact Calls.quiet_of_same (C _)))
            by_cases c8 : P - l < i
            · go_wp2
              go_ret
              exact ⟨72, rfl, MK.out _ (.inr ⟨e1, .inl ⟨.inr (.inr c8), rfl⟩⟩), BL _⟩
            · by_cases c9 : p < 0
              · go_wp2
                go_ret
                exact ⟨73, rfl, MK.out _ (.inr ⟨e1, .inr ⟨by omega, c7, by omega, .inl ⟨.inl c9, rfl⟩⟩⟩), BL _⟩
              · by_cases c10 : top - b ≤ p
                · go_wp2
                  go_ret
                  exact ⟨73, rfl, MK.out _ (.inr ⟨e1, .inr ⟨by omega, c7, by omega, .inl ⟨.inr c10, rfl⟩⟩⟩), BL _⟩
                · go_wp2
                  go_ret
                  exact ⟨0, rfl, MK.out _ (.inr ⟨e1, .inr ⟨by omega, c7, by omega, .inr ⟨by omega, by omega, rfl⟩⟩⟩), BL _⟩
          · have C7 : Hid (i.tmod l ≠ 0) := c7
            have em : i.tmod l = i % l := Int.tmod_eq_emod_of_nonneg (by omega)
            rw [em] at c7
            have g7 : (i % l != 0) = true := by simpa using c7
            have t0 := Int.emod_nonneg i (show l ≠ 0 by omega)
            have t1 := Int.emod_lt_of_pos i (show 0 < l by omega)
            clear em c7
            go_wp2
            go_quiet (fail)
            go_wp2
            go_ret
            exact ⟨72, rfl, MK.out _ (.inr ⟨e1, .inl ⟨.inr (.inl C7.out), rfl⟩⟩), BL _⟩
theorem FT.unique {low top b i l p e e' : Int} (h : FT low top b i l p e) (g : FT low top b i l p e') : e = e' := by
  rcases h with ⟨a1, a2⟩ | ⟨a1, a2, r, a3, a4⟩ <;> rcases g with ⟨b1, b2⟩ | ⟨b1, b2, s, b3, b4⟩
  · omega
  · omega
  · omega
  · obtain rfl := a3.unique b3
    omega
/-- Check, by its numbers -/
def CK (n low b i l p er : Int) : Prop := ∃ h e, HT n low h e ∧ (e ≠ 0 ∧ er = e ∨ e = 0 ∧ FT low h b i l p er)
theorem CK.unique {n low b i l p e e' : Int} (h : CK n low b i l p e) (g : CK n low b i l p e') : e = e' := by
  obtain ⟨h1, e1, a1, a2⟩ := h
  obtain ⟨h2, e2, b1, b2⟩ := g
  obtain ⟨rfl, rfl⟩ := a1.unique b1
  rcases a2 with ⟨a2, a3⟩ | ⟨a2, a3⟩ <;> rcases b2 with ⟨b2, b3⟩ | ⟨b2, b3⟩
  · omega
  · omega
  · omega
  · exact a3.unique b3
theorem HT.range {n low h : Int} (a : HT n low h 0) : 0 ≤ low ∧ h ≤ 48 ∧ 1 ≤ n ∧ n ≤ 1048576 ∧ ∃ r : Nat, RI n r ∧ h = low + r := by
  rcases a with ⟨_, _, a3⟩ | ⟨a1, a2, r, a3, a4⟩
  · omega
  · refine ⟨by omega, by omega, a1, a2, r, a3, by omega⟩
theorem range_new (w : World) (cs : Array Value) (t : TypeId) : (w.alloc (Obj.cells cs t)).rangeAt w.heap.size 0 cs.toList := fun j v hv => by
  rw [cell_of_row _ _ _ cs t (0, 0) (heap_alloc_last w _)]
  simpa using hv
theorem range_keep {w w' : World} {g o : Nat} {cs : List Value} (h : w.rangeAt g o cs) (hb : Below w.heap.size w w') : w'.rangeAt g o cs := fun j v hv => by
  have := h j v hv
  exact (hb.cell (World.block_lt_of_cell? w _ this)).trans this
theorem QF.info {cs : Array Value} {b i l p : Int} (q : QF cs b i l p) : (Try.prog.info? 31).map (·.size) = some cs.size := by rw [q.size]; kernel_rfl
set_option maxHeartbeats 1000000 in
theorem check8 {cs : Array Value} {b i l p : Int} (q : QF cs b i l p) (n low : Int) (w : World) :
    Calls Try.prog 8 #[.int .i64 n, .int .i64 low, .agg cs] w fun e w' => ∃ er, e = .returned (.int .i64 er) ∧ CK n low b i l p er ∧ Below w.heap.size w w' := by
  have hi := q.info
  go_enter Try.func8, Try.ntmps8
  go_wp2_with fail
  refine (height10 n low _).mono ?_
  rintro e w' ⟨h, er, rfl, hh, rfl⟩
  by_cases c : er = 0
  · subst c
    have hg := hh.range
    have C := fun w => between14 q low h hg.1 hg.2.1 w
    have H : Hid (HT n low h 0) := hh
    clear hh hg
    go_wp2_with (first | (refine wpList_load_row rfl 31 _ rfl w.heap.size rfl 31 cs (0, 0) _ (heap_alloc_last w _) Try.underlying31 rfl hi ?_))
    refine (C _).mono ?_
    rintro e w' ⟨er, rfl, hf, hb⟩
    have F : Hid (FT low h b i l p er) := hf
    clear hf
    go_wp2
    go_ret
    exact ⟨er, rfl, ⟨h, 0, H.out, .inr ⟨rfl, F.out⟩⟩, ((Below.refl _ _).alloc (Nat.le_refl _) _).trans (hb.mono (by simp))⟩
  · have H : Hid (HT n low h er) := hh
    have c' : (er != 0) = true := by simpa using c
    clear hh
    go_wp2
    go_ret
    exact ⟨er, rfl, ⟨h, er, H.out, .inl ⟨c, rfl⟩⟩, (Below.refl _ _).alloc (Nat.le_refl _) _⟩
set_option maxHeartbeats 1000000 in
theorem check9 {cs : Array Value} {b i l p : Int} (q : QF cs b i l p) (n low : Int) (w : World) :
    Calls Try.prog 9 #[.int .i64 n, .int .i64 low, .agg cs] w fun e w' => ∃ er, e = .returned (.int .i64 er) ∧ CK n low b i l p er ∧ Below w.heap.size w w' := by
  have hi := q.info
  have hi' : (Try.prog.info? 31).map (·.size) = some cs.toList.length := by rw [hi]; simp
  go_enter Try.func9, Try.ntmps9
  go_wp2_with fail
  refine (tree11 n low _).mono ?_
  rintro e w' ⟨h, er, rfl, hh, rfl⟩
  by_cases c : er = 0
  · subst c
    obtain ⟨g0, g1, g2, g3, r, g4, g5⟩ := hh.range
    have C := fun w => fits15 q low h g0 g1 w
    have H : Hid (HT n low h 0) := hh
    have R : Hid (RI n r) := g4
    have RG : (w.alloc (Obj.cells cs 31)).rangeAt w.heap.size 0 cs.toList := range_new w cs 31
    have e5 : low + (r : Int) = h := g5.symm
    clear hh g4 g5
    go_wp2_with fail
    refine wp_region_held_drew (S := fun w' => w'.rangeAt w.heap.size 0 cs.toList) (by kernel_rfl) (RG) (fun hHeld => ?_)
    refine wpAnyH_take (i := 5) (v := _) rfl (by kernel_rfl) (by kernel_rfl) (by kernel_rfl) (fun _ _ _ h => h) (yieldsIf_load_mid (by rfl) _ _ rfl _ _ rfl _ _ (fun _ h => h) Try.underlying31 rfl hi') hHeld ?_
    simp only [Act.put, Array.toArray_toList]
    refine wpAnyH_take (i := 0) (v := .int .i64 low) rfl (by kernel_rfl) (by kernel_rfl) (by kernel_rfl) (fun _ _ _ h => h) (Or.inl ⟨by rfl, fun w hw => by go_simp⟩) hHeld ?_
    simp only [Act.put]
    refine wpAnyH_take (i := 1) (v := .int .i64 low) rfl (by kernel_rfl) (by kernel_rfl) (by kernel_rfl) (fun _ _ _ h => h) (Or.inl ⟨by rfl, fun w hw => by go_simp⟩) hHeld ?_
    simp only [Act.put]
    refine wpAnyH_take (i := 2) (v := .int .i64 n) rfl (by kernel_rfl) (by kernel_rfl) (by kernel_rfl) (fun _ _ _ h => h) (Or.inl ⟨by rfl, fun w hw => by go_simp⟩) hHeld ?_
    simp only [Act.put]
    refine wpAnyH_ready (rs := [3]) (by kernel_rfl) (by simp) ?_
    refine AllReadyH.cons (o := _) rfl (fun K hK => ?_) AllReadyH.nil
    go_simp
    refine (rise12 n g2 g3 _).mono ?_
    rintro e w' ⟨s, rfl, hs, rfl⟩
    obtain rfl := hs.unique R.out
    clear R hs
    go_wp2_with fail
    refine hK.out _ _ (RG) (fun hHeld => ?_)
    clear hK K
    refine wpAnyH_take (i := 4) (v := .int .i64 h) rfl (by kernel_rfl) (by kernel_rfl) (by kernel_rfl) (fun _ _ _ h => h) (Or.inl ⟨by rfl, fun w hw => by go_simp; exact IntWalk.i64_in _ ⟨by omega, by omega⟩⟩) hHeld ?_
    simp only [Act.put]
    refine wpAnyH_ready (rs := [6]) (by kernel_rfl) (by simp) ?_
    refine AllReadyH.cons (o := _) rfl (fun K hK => ?_) AllReadyH.nil
    go_simp
    refine (C _).mono ?_
    rintro e w' ⟨er, rfl, hf, hb⟩
    have F : Hid (FT low h b i l p er) := hf
    clear hf
    go_wp2_with fail
    refine hK.out _ _ (range_keep hHeld hb) (fun hHeld => ?_)
    clear hK K
    refine wpAnyH_ready (rs := [7]) (by kernel_rfl) (by simp) ?_
    refine AllReadyH.cons (o := _) rfl (fun K hK => ?_) AllReadyH.nil
    go_simp
    refine hK.out _ _ hHeld (fun hHeld => ?_)
    clear hK K
    refine wpAnyH_done (by kernel_rfl) ?_ _
    go_wp2
    go_ret
    exact ⟨er, rfl, ⟨h, 0, H.out, .inr ⟨rfl, F.out⟩⟩, ((Below.refl _ _).alloc (Nat.le_refl _) _).drew.trans (hb.mono (by simp))⟩
  · have H : Hid (HT n low h er) := hh
    have c' : (er != 0) = true := by simpa using c
    clear hh
    go_wp2
    go_ret
    exact ⟨er, rfl, ⟨h, er, H.out, .inl ⟨c, rfl⟩⟩, (Below.refl _ _).alloc (Nat.le_refl _) _⟩
end Go.Proofs.Ytcanbkgcgjaimaa
