import Derived.Test.YtcanbkgcgjaimaaPp
namespace Go.Proofs.Ytcanbkgcgjaimaa
open Go.Shelf Go.RowKit
theorem yieldsIf_build {P : Program} {ops : Array Oper} {S : World → Prop} {o : Oper} {a : Act} (hw : Region.wanted o (yielded ops a.tmps) = true) (t : TypeId) (parts : Array (Nat × Operand)) (ho : o.op = .build t parts) (cells : Array Value)
    (hf : P.built t (parts.map fun (i, x) => (i, a.eval x)).toList = some cells) : YieldsIf P ops S o (.agg cells) a :=
  .inl ⟨hw, fun w _ => by unfold execOp; simp only [ho, Sem.run_bind, run_build w t _ cells hf, Result.andThen_ok, Sem.run_pure]⟩
theorem yieldsIf_build4 {ops : Array Oper} {S : World → Prop} {o : Oper} {a : Act} (hw : Region.wanted o (yielded ops a.tmps) = true) (parts : Array (Nat × Operand)) (ho : o.op = .build 31 parts) (z : Nat → Int) (b l p : Int)
    (hp : (parts.map fun (i, x) => (i, a.eval x)).toList = [(0, .agg (hs z)), (1, .int .i64 b), (3, .int .i64 l), (4, .int .i64 p)]) : YieldsIf Try.prog ops S o (.agg (qc z b 0 l p)) a :=
  yieldsIf_build hw 31 parts ho _ (by rw [hp]; exact built4 z b l p)
theorem set_q {w : World} {g : Nat} {z : Nat → Int} {b i l p : Int} (h : w.heap[g]? = some (Obj.cells (qc z b i l p) 31)) (i' : Int) : (w.setCell ⟨g, 33, none⟩ (.int .i64 i')).heap[g]? = some (Obj.cells (qc z b i' l p) 31) := by
  have e : (qc z b i l p).setIfInBounds 33 (.int .i64 i') = qc z b i' l p := rfl
  rw [← e]
  simp [World.setCell, Array.getElem?_modify, h]
theorem setCell_size (w : World) (p : Addr) (v : Value) : (w.setCell p v).heap.size = w.heap.size := by simp [World.setCell]
theorem below_set {B g o : Nat} {w w1 : World} {u : Value} (h : Below B w w1) (hg : B ≤ g) : Below B w (w1.setCell ⟨g, o, none⟩ u) :=
  ⟨h.os, h.tape, h.output, by rw [setCell_size]; exact h.size, fun k hk => by rw [Below.heap_setCell _ _ _ _ (show k ≠ g by omega)]; exact h.block k hk⟩
def lenOf : Value → Nat
  | .slice _ n _ => n
  | _ => 0
set_option maxHeartbeats 1000000 in
theorem plan5 (z : Nat → Int) (n low : Int) (w : World) :
    Calls Try.prog 5 #[.int .i64 n, .int .i64 low, .agg (hs z)] w fun e w' => ∃ v er, e = .returned (.tuple #[v, .int .i64 er]) ∧ PL z n low w' v er ∧ Below w.heap.size w w' := by
  have BL : Below w.heap.size w (w.alloc (Obj.cells (hs z) 23)) := (Below.refl _ _).alloc (Nat.le_refl _) _
  have RG : (w.alloc (Obj.cells (hs z) 23)).rangeAt w.heap.size 0 (hs z).toList := range_new w (hs z) 23
  have RGH : Hid _ := RG
  go_enter Try.func5, Try.ntmps5
  go_wp2_with fail
  refine (height10 n low _).mono ?_
  rintro e w' ⟨h, er, rfl, hh, rfl⟩
  have H : Hid (HT n low h er) := hh
  by_cases c : er = 0
  · subst c
    by_cases c1 : n = 1
    · subst c1
      clear hh
      go_wp2
      go_ret2
      exact ⟨.slice none 0 0, 0, rfl, ⟨h, H.out, .inl ⟨.inr rfl, rfl⟩⟩, BL⟩
    · obtain ⟨g0, g1, g2, g3, r, g4, g5⟩ := hh.range
      have n1 : (n == 1) = false := by simpa using c1
      have hr20 := g4.le g3
      have hP : 1 ≤ p2 (h - low).toNat ∧ p2 (h - low).toNat ≤ 281474976710656 := by
        have := p2_mono (show (h - low).toNat ≤ 48 by omega)
        have e : p2 48 = 281474976710656 := by decide
        have := p2_pos (h - low).toNat
        omega
      have PE : ∃ P, P = p2 (h - low).toNat := ⟨_, rfl⟩
      obtain ⟨P, hpe⟩ := PE
      have HP : Hid (wrap64 (2 ^ (h - low).toNat) = P) := by
        have e : ((2 : Int) ^ (h - low).toNat) = p2 (h - low).toNat := by unfold p2; simp
        show _ = _
        rw [e, hpe, wrap_in _ (by omega) (by omega)]
      rw [← hpe] at hP
      have LE : ∃ len, len = min 8 P := ⟨_, rfl⟩
      obtain ⟨len, hlen⟩ := LE
      have HL : Hid (min 8 P = len) := hlen.symm
      have l0 : 1 ≤ len := by omega
      have l1 : len ≤ 8 := by omega
      have EQ : Hid (min 8 (p2 (h - low).toNat) = len) := by show _ = _; rw [hlen, hpe]
      have gh : low ≤ h := by omega
      clear g5 g4 hh hlen hpe
      go_wp2_with fail
      refine wp_region_held_drew (S := fun w' => w'.rangeAt w.heap.size 0 (hs z).toList) (by kernel_rfl) (RG) (fun hHeld => ?_)
      refine wpAnyH_take (i := 0) (v := _) rfl (by kernel_rfl) (by kernel_rfl) (by kernel_rfl) (fun _ _ _ h => h) (yieldsIf_load_mid (by rfl) _ _ rfl _ _ rfl _ _ (fun _ h => h) Try.underlying23 rfl (info23 z)) hHeld ?_
      simp only [Act.put, List.getElem_toArray, List.getElem_cons_zero, List.setIfInBounds_toArray, List.set_cons_zero, List.set_cons_succ, Array.toArray_toList]
      refine wpAnyH_take (i := 1) (v := .int .i64 low) rfl (by kernel_rfl) (by kernel_rfl) (by kernel_rfl) (fun _ _ _ h => h) (Or.inl ⟨by rfl, fun w hw => by go_simp⟩) hHeld ?_
      simp only [Act.put, List.getElem_toArray, List.getElem_cons_zero, List.getElem_cons_succ, List.setIfInBounds_toArray, List.set_cons_zero, List.set_cons_succ]
      refine wpAnyH_take (i := 2) (v := .int .i64 h) rfl (by kernel_rfl) (by kernel_rfl) (by kernel_rfl) (fun _ _ _ h => h) (Or.inl ⟨by rfl, fun w hw => by go_simp⟩) hHeld ?_
      simp only [Act.put, List.getElem_toArray, List.getElem_cons_zero, List.getElem_cons_succ, List.setIfInBounds_toArray, List.set_cons_zero, List.set_cons_succ]
      refine wpAnyH_take (i := 3) (v := .int .i64 low) rfl (by kernel_rfl) (by kernel_rfl) (by kernel_rfl) (fun _ _ _ h => h) (Or.inl ⟨by rfl, fun w hw => by go_simp⟩) hHeld ?_
      simp only [Act.put, List.getElem_toArray, List.getElem_cons_zero, List.getElem_cons_succ, List.setIfInBounds_toArray, List.set_cons_zero, List.set_cons_succ]
      refine wpAnyH_take (i := 4) (v := .int .i64 (h - low)) rfl (by kernel_rfl) (by kernel_rfl) (by kernel_rfl) (fun _ _ _ h => h) (Or.inl ⟨by rfl, fun w hw => by go_simp; exact IntWalk.i64_in _ ⟨by omega, by omega⟩⟩) hHeld ?_
      simp only [Act.put, List.getElem_toArray, List.getElem_cons_zero, List.getElem_cons_succ, List.setIfInBounds_toArray, List.set_cons_zero, List.set_cons_succ]
      refine wpAnyH_take (i := 5) (v := .int .i64 P) rfl (by kernel_rfl) (by kernel_rfl) (by kernel_rfl) (fun _ _ _ h => h) (Or.inl ⟨by rfl, fun w hw => by go_simp; exact (IntWalk.i64_left _).trans HP.out⟩) hHeld ?_
      simp only [Act.put, List.getElem_toArray, List.getElem_cons_zero, List.getElem_cons_succ, List.setIfInBounds_toArray, List.set_cons_zero, List.set_cons_succ]
      refine wpAnyH_take (i := 6) (v := .int .i64 len) rfl (by kernel_rfl) (by kernel_rfl) (by kernel_rfl) (fun _ _ _ h => h) (Or.inl ⟨by rfl, fun w hw => by go_simp; exact HL.out⟩) hHeld ?_
      simp only [Act.put, List.getElem_toArray, List.getElem_cons_zero, List.getElem_cons_succ, List.setIfInBounds_toArray, List.set_cons_zero, List.set_cons_succ]
      refine wpAnyH_take (i := 7) (v := .int .i64 h) rfl (by kernel_rfl) (by kernel_rfl) (by kernel_rfl) (fun _ _ _ h => h) (Or.inl ⟨by rfl, fun w hw => by go_simp⟩) hHeld ?_
      simp only [Act.put, List.getElem_toArray, List.getElem_cons_zero, List.getElem_cons_succ, List.setIfInBounds_toArray, List.set_cons_zero, List.set_cons_succ]
      refine wpAnyH_take (i := 8) (v := .int .i64 (h - 1)) rfl (by kernel_rfl) (by kernel_rfl) (by kernel_rfl) (fun _ _ _ h => h) (Or.inl ⟨by rfl, fun w hw => by go_simp; exact IntWalk.i64_in _ ⟨by omega, by omega⟩⟩) hHeld ?_
      simp only [Act.put, List.getElem_toArray, List.getElem_cons_zero, List.getElem_cons_succ, List.setIfInBounds_toArray, List.set_cons_zero, List.set_cons_succ]
      refine wpAnyH_take (i := 9) (v := .int .i64 low) rfl (by kernel_rfl) (by kernel_rfl) (by kernel_rfl) (fun _ _ _ h => h) (Or.inl ⟨by rfl, fun w hw => by go_simp⟩) hHeld ?_
      simp only [Act.put, List.getElem_toArray, List.getElem_cons_zero, List.getElem_cons_succ, List.setIfInBounds_toArray, List.set_cons_zero, List.set_cons_succ]
      refine wpAnyH_take (i := 10) (v := .int .i64 (h - 1 - low)) rfl (by kernel_rfl) (by kernel_rfl) (by kernel_rfl) (fun _ _ _ h => h) (Or.inl ⟨by rfl, fun w hw => by go_simp; exact IntWalk.i64_in _ ⟨by omega, by omega⟩⟩) hHeld ?_
      simp only [Act.put, List.getElem_toArray, List.getElem_cons_zero, List.getElem_cons_succ, List.setIfInBounds_toArray, List.set_cons_zero, List.set_cons_succ]
      refine wpAnyH_take (i := 11) (v := .agg (qc z low 0 len (h - 1 - low))) rfl (by kernel_rfl) (by kernel_rfl) (by kernel_rfl) (fun _ _ _ h => h) (yieldsIf_build4 (by rfl) _ rfl z low len (h - 1 - low) (by rw [Array.toList_map]; rfl)) hHeld ?_
      simp only [Act.put, List.getElem_toArray, List.getElem_cons_zero, List.getElem_cons_succ, List.setIfInBounds_toArray, List.set_cons_zero, List.set_cons_succ]
      refine wpAnyH_ready (rs := [12]) (by kernel_rfl) (by simp) ?_
      refine AllReadyH.cons (o := _) rfl (fun K hK => ?_) AllReadyH.nil
      clear RG
      go_simp
      have hKeep : ((w.alloc (Obj.cells (hs z) 23)).alloc (Obj.cells (qc (fun _ => 0) 0 0 0 0) 31)).drew.rangeAt w.heap.size 0 (hs z).toList := range_keep RGH.out ((Below.refl _ _).alloc (Nat.le_refl _) _).drew
      refine hK.out _ _ hKeep (fun hHeld => ?_)
      clear hK K
      refine wpAnyH_ready (rs := [13]) (by kernel_rfl) (by simp) ?_
      refine AllReadyH.cons (o := _) rfl (fun K hK => ?_) AllReadyH.nil
      rw [if_pos (by rfl)]
      have sz : (w.alloc (Obj.cells (hs z) 23)).heap.size = w.heap.size + 1 := by simp
      have eW : ∀ c, (((w.alloc (Obj.cells (hs z) 23)).alloc (Obj.cells c 31)).drew).setRow (w.heap.size + 1) (qc z low 0 len (h - 1 - low)) = ((w.alloc (Obj.cells (hs z) 23)).alloc (Obj.cells (qc z low 0 len (h - 1 - low)) 31)).drew := fun c => by
        have := congrArg World.drew (World.setRow_alloc_new (w.alloc (Obj.cells (hs z) 23)) c (qc z low 0 len (h - 1 - low)) 31)
        rw [sz] at this
        exact this
      have hZ : ((w.alloc (Obj.cells (hs z) 23)).alloc (Obj.cells (qc (fun _ => 0) 0 0 0 0) 31)).drew.heap[w.heap.size + 1]? = some (Obj.cells (qc (fun _ => 0) 0 0 0 0) 31) := by
        have := heap_alloc_last (w.alloc (Obj.cells (hs z) 23)) (Obj.cells (qc (fun _ => 0) 0 0 0 0) 31)
        rw [sz] at this
        exact this
      refine wp_store_row 31 _ _ rfl (w.heap.size + 1) (qc z low 0 len (h - 1 - low)) rfl rfl 31 (qc (fun _ => 0) 0 0 0 0) hZ (info31q ..) rfl (qc_one ..) ?_
      rw [eW]
      have hQ : ((w.alloc (Obj.cells (hs z) 23)).alloc (Obj.cells (qc z low 0 len (h - 1 - low)) 31)).drew.heap[w.heap.size + 1]? = some (Obj.cells (qc z low 0 len (h - 1 - low)) 31) := by
        have := heap_alloc_last (w.alloc (Obj.cells (hs z) 23)) (Obj.cells (qc z low 0 len (h - 1 - low)) 31)
        rw [sz] at this
        exact this
      have BW : Below w.heap.size w ((w.alloc (Obj.cells (hs z) 23)).alloc (Obj.cells (qc z low 0 len (h - 1 - low)) 31)).drew := (BL.trans ((Below.refl _ _).alloc (by omega) _)).drew
      have SZ : ((w.alloc (Obj.cells (hs z) 23)).alloc (Obj.cells (qc z low 0 len (h - 1 - low)) 31)).drew.heap.size = w.heap.size + 2 := by simp [World.drew]
      refine hK.out _ _ (range_keep RGH.out ((Below.refl _ _).alloc (Nat.le_refl _) _).drew) (fun hHeld => ?_)
      clear hK K hHeld hKeep hZ eW sz
      refine wpAnyH_done (by kernel_rfl) ?_ _
      simp only [Act.put, List.getElem_toArray, List.getElem_cons_zero, List.getElem_cons_succ]
      generalize ((w.alloc (Obj.cells (hs z) 23)).alloc (Obj.cells (qc z low 0 len (h - 1 - low)) 31)).drew = W1 at *
      generalize hpr : h - 1 - low = pr at *
      have HPR : Hid (h - 1 - low = pr) := hpr
      clear hpr BL RGH
      go_wp2_with fail
      go_loopw [11] (fun lv wr => ∃ k : Nat, Hid (∀ j : Nat, j < k → (j : Int) * len < n) ∧ Hid (wr.ownsRow (w.heap.size + 2) 31 36 lv k (qrow z low len pr k) ∧ Below w.heap.size w wr ∧ wr.heap[w.heap.size + 1]? = some (Obj.cells (qc z low ((k : Int) * len) len pr) 31)) ∧ w.heap.size + 2 ≤ wr.heap.size ∧ (k : Int) ≤ n ∧ (k : Int) * len ≤ n + 8) (fun lv _ => n.toNat + 1 - lenOf lv)
      case atStart => exact ⟨0, fun j hj => by omega, ⟨World.ownsRow_nil _ _ _ _, BW, by simpa using hQ⟩, by omega, by omega, by omega⟩
      case round =>
        obtain ⟨k, HJ, HW, hsz, hkn, hk8⟩ := hrel
        obtain ⟨la, lc, rfl⟩ := own_form HW.out.1
        have hq := HW.out.2.2
        have hml : (k : Int) * len < n → (k : Int) < n := mul_lim (by omega)
        have HM : ∃ m0 : Int, m0 = (k : Int) * len := ⟨_, rfl⟩
        obtain ⟨m0, hm⟩ := HM
        have k0 : 0 ≤ m0 := by rw [hm]; exact Int.mul_nonneg (by omega) (by omega)
        rw [← hm] at hk8 hml hq
        have HMH : Hid (m0 = (k : Int) * len) := hm
        have c33 : wr.cell? ⟨w.heap.size + 1, 33, none⟩ = some (.int .i64 m0) := cell_of_row wr _ 33 _ 31 (0, 0) hq
        clear hm
        by_cases hlt : m0 < n
        · have hkl := hml hlt
          clear hml
          go_wp2_with (first | (refine wpList_load_row rfl 31 _ rfl (w.heap.size + 1) rfl 31 (qc z low m0 len pr) (0, 0) _ hq Try.underlying31 rfl (info31q ..) ?_) | (refine slice_q rfl _ rfl z low m0 len pr (by rw [Array.toList_map]; rfl) ?_) | (at_builtin; refine append_q rfl _ _ rfl rfl (HW.out.1.alloc _) wr.heap.size z low m0 len pr rfl (heap_alloc_last wr _) (by simp; omega) (by omega) ?_; (intro v' w3 ho' hb'; obtain ⟨a4, c4, rfl⟩ := own_form ho'; have hq3 : w3.heap[w.heap.size + 1]? = some (Obj.cells (qc z low m0 len pr) 31) := (hb'.block _ (by omega)).trans (((Below.refl _ wr).alloc (Nat.le_refl _) _).block _ (by omega) |>.trans hq); have d33 : w3.cell? ⟨w.heap.size + 1, 33, none⟩ = some (.int .i64 m0) := cell_of_row w3 _ 33 _ 31 (0, 0) hq3; have d34 : w3.cell? ⟨w.heap.size + 1, 34, none⟩ = some (.int .i64 len) := cell_of_row w3 _ 34 _ 31 (0, 0) hq3; have f33 : w3.frozen? ⟨w.heap.size + 1, 33, none⟩ = false := by simp [World.frozen?, hq3])))
          have e1 : ((k + 1 : Nat) : Int) * len = m0 + len := by rw [HMH.out, Int.natCast_add, Int.add_mul]; omega
          have hs3 : w.heap.size + 2 ≤ w3.heap.size := by have := hb'.size; simp at this; omega
          refine ⟨⟨k + 1, fun j hj => ?_, ⟨?_, ?_, ?_⟩, by rw [setCell_size]; exact hs3, by omega, by omega⟩, by show n.toNat + 1 - (k + 1) < n.toNat + 1 - k; omega⟩
          · rcases Nat.lt_or_eq_of_le (Nat.le_of_lt_succ hj) with g | g
            · exact HJ.out j g
            · rw [g, ← HMH.out]; exact hlt
          · rw [qrow_succ, ← HMH.out]; exact ownsRow_setCell_below ho' (by show w.heap.size + 1 < w.heap.size + 2; omega) _
          · exact below_set ((HW.out.2.1.trans ((Below.refl _ wr).alloc (by omega) _)).trans (hb'.mono (by omega))) (by omega)
          · rw [e1]; exact set_q hq3 (m0 + len)
        · clear hml
          go_wp2
          go_ret2
          refine ⟨_, 0, rfl, ⟨h, H.out, .inr ⟨rfl, c1, k, by omega, ?_, ?_⟩⟩, HW.out.2.1⟩
          · rw [EQ.out]; exact ⟨by rw [← HMH.out]; omega, HJ.out⟩
          · rw [EQ.out, HPR.out]; exact RQ.of_owns HW.out.1
  · have c' : (er != 0) = true := by simpa using c
    clear hh RG
    go_wp2
    go_ret2
    exact ⟨.slice none 0 0, er, rfl, ⟨h, H.out, .inl ⟨.inl c, rfl⟩⟩, BL⟩
end Go.Proofs.Ytcanbkgcgjaimaa
