import Derived.Test.YtkeemkjokdbhlaaGreatDoorNb
import Derived.Laws.CopyOwn
import Derived.Deep.RegionHeld3
import Derived.Deep.Cut
import Derived.Deep.CutRange
namespace Go.Proofs.YtkeemkjokdbhlaaGreatDoor
open Go.RowKit
/-- what New answers -/
def nwE (b v : Int) (L : List Int) : Int := if gd b v = 0 then (if 65536 < L.length ∨ L.any (bad b) = true then 2 else 0) else 10
def PP (p : Value) (e : Int) : Prop := (e = 0 → ∃ a, p = .pointer (some a)) ∧ (e ≠ 0 → p = .pointer none)
theorem gd_ten {b v : Int} (h : gd b v ≠ 0) : gd b v = 10 := by
  unfold gd at h ⊢
  split at h
  · exact absurd rfl h
  · rename_i hh; rw [if_neg hh]
theorem gd_zero {b v : Int} (h : gd b v = 0) : 64 ≤ b ∧ b ≤ 16384 := by
  unfold gd at h
  split at h
  · rename_i hh; exact pw_bd hh.1
  · cases h
theorem heapNew (w : World) (o : Obj) : (w.alloc o).heap[w.heap.size]? = some o := by show (w.heap.push o)[w.heap.size]? = some o; simp
theorem heapOld (w : World) (o : Obj) (i : Nat) (h : i < w.heap.size) : (w.alloc o).heap[i]? = w.heap[i]? := by show (w.heap.push o)[i]? = w.heap[i]?; simp [Array.getElem?_push, Nat.ne_of_lt h]
theorem allocSize (w : World) (o : Obj) : (w.alloc o).heap.size = w.heap.size + 1 := by show (w.heap.push o).size = _; simp
/-- the boxes of the arguments stand -/
structure SB (w : World) (b : Int) (hs : Array Value) (u : World) : Prop where
  bel : Below w.heap.size w u
  blk : u.cell? ⟨w.heap.size, 0, none⟩ = some (.int .i64 b)
  inf : u.heap[w.heap.size + 1]? = some (.cells hs 25 (0, 0))
  sz : w.heap.size + 2 ≤ u.heap.size
theorem SB.next {w : World} {b : Int} {hs : Array Value} {u u' : World} (h : SB w b hs u) (hb : Below u.heap.size u u') : SB w b hs u' :=
  ⟨h.bel.trans (hb.mono h.bel.size), (World.cell?_of_block (w := u) (hb.block w.heap.size (by have := h.sz; omega))).trans h.blk, (hb.block (w.heap.size + 1) (by have := h.sz; omega)).trans h.inf, Nat.le_trans h.sz hb.size⟩
theorem SB.start (b v : Int) (hs : Array Value) (w : World) : SB w b hs ((w.alloc (.cells #[.int .i64 b, .int .i64 v] 23)).alloc (.cells hs 25)) := by
  refine ⟨((Below.refl w.heap.size w).alloc (Nat.le_refl _) _).alloc (by rw [allocSize]; omega) _, ?_, ?_, ?_⟩
  · have h : ((w.alloc (.cells #[.int .i64 b, .int .i64 v] 23)).alloc (.cells hs 25)).heap[w.heap.size]? = some (.cells #[.int .i64 b, .int .i64 v] 23) := by
      rw [heapOld _ _ _ (by rw [allocSize]; omega), heapNew]
    simp [World.cell?, h]
  · have h := heapNew (w.alloc (.cells #[.int .i64 b, .int .i64 v] 23)) (.cells hs 25)
    rw [allocSize] at h
    exact h
  · rw [allocSize, allocSize]; omega
theorem SB.next2 {w : World} {b : Int} {hs : Array Value} {u u' : World} (h : SB w b hs u) (hb : Below (w.heap.size + 2) u u') : SB w b hs u' :=
  ⟨h.bel.trans (hb.mono (by omega)), (World.cell?_of_block (w := u) (hb.block w.heap.size (by omega))).trans h.blk, (hb.block (w.heap.size + 1) (by omega)).trans h.inf, Nat.le_trans h.sz hb.size⟩
/-- the connection that is made -/
def PB (w : World) (g : Nat) (u : World) : Prop := w.heap.size + 2 ≤ g ∧ ∃ cs : Array Value, u.heap[g]? = some (.cells cs 57 (0, 0)) ∧ cs.size = 32
theorem yieldsIf_built2 {ops : Array Oper} {S : World → Prop} {op : Oper} {a : Act} (hw : Region.wanted op (yielded ops a.tmps) = true) (t : TypeId) (i0 i1 : Nat) (x0 x1 : Operand) (ho : op.op = .build t #[(i0, x0), (i1, x1)]) (v0 v1 : Value) (h0 : a.eval x0 = v0) (h1 : a.eval x1 = v1) (T : Array Value)
    (hT : Tryz.prog.built t [(i0, v0), (i1, v1)] = some T) : YieldsIf Tryz.prog ops S op (.agg T) a :=
  .inl ⟨hw, fun w _ => by
    have hf : Tryz.prog.built t (#[(i0, x0), (i1, x1)].map fun (i, x) => (i, a.eval x)).toList = some T := by
      rw [← hT]
      simp [h0, h1]
    have h := run_build w t _ T hf
    unfold execOp
    simp only [ho, Sem.run_bind, h, Result.andThen_ok, Sem.run_pure]⟩
theorem blk_lt {w : World} {g : Nat} {o : Obj} (h : w.heap[g]? = some o) : g < w.heap.size := (Array.getElem?_eq_some_iff.1 h).1
theorem cell_of {w : World} {g k : Nat} {cs : Array Value} {t : TypeId} (h : w.heap[g]? = some (.cells cs t (0, 0))) (hk : k < cs.size) : ∃ x, w.cell? ⟨g, k, none⟩ = some x ∧ w.frozen? ⟨g, k, none⟩ = false :=
  ⟨cs[k], by simp [World.cell?, h, hk], by simp [World.frozen?, h]⟩
theorem copy_src {w5 : World} {B : Nat} {hs : Array Value} (hi : w5.heap[B]? = some (.cells hs 25 (0, 0))) (j : Nat) (v : Value) (hj : (hs.toList.take 20)[j]? = some v) : w5.drew.cell? ((⟨B, 0, none⟩ : Addr).add j) = some v := by
  have hj' : j < 20 := by
    have := (List.getElem?_eq_some_iff.1 hj).1
    rw [List.length_take] at this
    omega
  have hadd : (⟨B, 0, none⟩ : Addr).add j = ⟨B, j, none⟩ := by unfold Addr.add; split <;> simp_all
  rw [List.getElem?_take_of_lt hj'] at hj
  rw [hadd]
  show w5.cell? ⟨B, j, none⟩ = some v
  simp only [World.cell?, hi]
  simpa using hj
def t52 (b : Int) (a : Option Addr) (n c : Nat) : Array Value := (List.replicate 20 (Value.int .u8 0) ++ ([Value.int .i64 b, Value.slice a n c] : List Value)).toArray
theorem t52_built (b : Int) (a : Option Addr) (n c : Nat) : Tryz.prog.built 52 [(1, .int .i64 b), (2, .slice a n c)] = some (t52 b a n c) := by kernel_rfl
def t57 (b : Int) (a : Option Addr) (n c : Nat) (a' : Option Addr) (n' c' : Nat) : Array Value := (List.replicate 20 (Value.int .u8 0) ++ ([Value.int .i64 b, Value.slice a n c, .pointer none, .bool false, .int .i64 0, .bool false, .bool false, .bool false, .bool false, .bool false, .bool false, .slice a' n' c'] : List Value)).toArray
theorem t57_built (b : Int) (a : Option Addr) (n c : Nat) (a' : Option Addr) (n' c' : Nat) : Tryz.prog.built 57 [(0, .agg (t52 b a n c)), (6, .slice a' n' c')] = some (t57 b a n c a' n' c') := by kernel_rfl
set_option maxHeartbeats 2000000 in
set_option maxRecDepth 100000 in
theorem new5 (b v : Int) (hs : Array Value) (lv : Value) (L : List Int) (w : World) (hl : L.length * 8 ≤ 140737488351232) (hr : RZ w lv L) (h32 : hs.size = 32) (h1c : hs.all (·.oneCell') = true) :
    Calls Tryz.prog 5 #[sc b v, .agg hs, lv] w fun e w' => ∃ p, e = .returned (.tuple #[p, .int .i64 (nwE b v L)]) ∧ PP p (nwE b v L) ∧ Below w.heap.size w w' := by
  have HG : Hid (∀ u, Calls Tryz.prog 8 #[sc b v] u fun e w' => e = .returned (.int .i64 (gd b v)) ∧ Below u.heap.size u w') := fun u => good6 b v u
  have HR : Hid (RZ w lv L ∧ hs.size = 32 ∧ hs.all (·.oneCell') = true) := ⟨hr, h32, h1c⟩
  obtain ⟨a1, c1, rfl, _, _⟩ := hr
  clear h32 h1c
  by_cases hg : gd b v = 0
  · obtain ⟨b0, b1⟩ := gd_zero hg
    have HGz : Hid (gd b v = 0) := hg
    rw [hg] at HG
    clear hg
    have hmf : ∀ (fn : Fn) (first cap : Array Value) (w : World), (Instr.makeFunc fn first cap).run Tryz.prog w = .ok (.func fn first cap) w := fun _ _ _ _ => rfl
    by_cases hlen : 65536 < L.length
    · have hE : nwE b v L = 2 := by unfold nwE; rw [HGz.out, if_pos rfl, if_pos (.inl hlen)]
      rw [hE]
      clear hE
      go_enter Tryz.func5, Tryz.ntmps5
      go_wp2_with fail
      refine (HG.out _).mono ?_
      rintro e w1 ⟨rfl, hb1⟩
      have HB := Lib.hid ((SB.start b v hs w).next hb1)
      clear hb1
      go_wp2
      go_ret2
      exact ⟨_, rfl, ⟨fun h => by omega, fun _ => rfl⟩, HB.out.bel⟩
    · have HCA : Hid (∀ u, SB w b hs u → Calls Tryz.prog 10 #[.slice a1 L.length c1, .func (.func 9) #[] #[.pointer (some ⟨w.heap.size, 0, none⟩)]] u fun e w' => e = .returned (.bool (L.any (bad b))) ∧ ∃ n, w' = u.drewN n) := fun u hu =>
        contains10 (.slice a1 L.length c1) L b b0 b1 w.heap.size u (by omega) (HR.out.1.keep hu.bel) hu.blk
      cases hbad : L.any (bad b)
      · have hE : nwE b v L = 0 := by unfold nwE; rw [HGz.out, if_pos rfl, if_neg (by rw [hbad]; simp; omega)]
        rw [hE]
        rw [hbad] at HCA
        clear hE hbad
        go_enter Tryz.func5, Tryz.ntmps5
        go_wp2_with fail
        refine (HG.out _).mono ?_
        rintro e w1 ⟨rfl, hb1⟩
        have HB := Lib.hid ((SB.start b v hs w).next hb1)
        clear hb1
        go_wp2_with fail
        refine (HCA.out _ HB.out).mono ?_
        rintro e w2 ⟨rfl, n2, rfl⟩
        have HB2 := Lib.hid (HB.out.next (belowDrew w1 n2))
        have HM : Hid (Calls Tryz.prog 11 #[.int .i64 (L.length : Int)] (w1.drewN n2) fun e w' => ∃ v, e = .returned (.tuple #[v, .int .i64 0]) ∧ OW (w1.drewN n2).heap.size w' v (List.replicate ((L.length + 7) / 8) 0) ∧ Below (w1.drewN n2).heap.size (w1.drewN n2) w') := make13_ow L.length (by omega) _
        clear HCA HB
        go_wp2_with fail
        refine HM.out.mono ?_
        rintro e w3 ⟨hv, rfl, ho3, hb3⟩
        obtain ⟨a3, c3, rfl⟩ := ho3.form
        have HB3 := Lib.hid (HB2.out.next hb3)
        rw [List.length_replicate] at *
        generalize (L.length + 7) / 8 = n3 at *
        clear HM hb3 ho3 HB2
        have HCL : Hid (∀ u, SB w b hs u → Calls Tryz.prog 12 #[.slice a1 L.length c1] u fun e w' => ∃ v', e = .returned v' ∧ OZ u.heap.size w' v' L ∧ Below u.heap.size u w') := fun u hu => clone12 _ L u (HR.out.1.keep hu.bel) hl
        go_upto_region 10 with fail
        refine wp_region_held_drew (S := SB w b hs) (by kernel_rfl) (HB3.out.next (belowDrew w3 1)) (fun hHeld => ?_)
        refine wpAnyH_take (i := 0) (v := .pointer (some ⟨w.heap.size, 0, none⟩)) rfl (by kernel_rfl) (by kernel_rfl) (by kernel_rfl) (fun _ _ _ h => h) (Or.inl ⟨by rfl, fun w hw => by go_simp⟩) hHeld ?_
        simp only [Act.put, List.getElem_toArray, List.getElem_cons_zero, List.setIfInBounds_toArray, List.set_cons_zero, List.set_cons_succ]
        refine wpAnyH_take (i := 1) (v := .int .i64 b) rfl (by kernel_rfl) (by kernel_rfl) (by kernel_rfl) (fun _ _ _ h => h) (Or.inl ⟨by rfl, fun w hw => by have hq := hw.blk; go_simp⟩) hHeld ?_
        simp only [Act.put, List.getElem_toArray, List.getElem_cons_zero, List.getElem_cons_succ, List.setIfInBounds_toArray, List.set_cons_zero, List.set_cons_succ]
        refine wpAnyH_take (i := 2) (v := .slice a1 L.length c1) rfl (by kernel_rfl) (by kernel_rfl) (by kernel_rfl) (fun _ _ _ h => h) (Or.inl ⟨by rfl, fun w hw => by go_simp⟩) hHeld ?_
        simp only [Act.put, List.getElem_toArray, List.getElem_cons_zero, List.getElem_cons_succ, List.setIfInBounds_toArray, List.set_cons_zero, List.set_cons_succ]
        refine wpAnyH_take (i := 5) (v := .slice a3 n3 c3) rfl (by kernel_rfl) (by kernel_rfl) (by kernel_rfl) (fun _ _ _ h => h) (Or.inl ⟨by rfl, fun w hw => by go_simp⟩) hHeld ?_
        simp only [Act.put, List.getElem_toArray, List.getElem_cons_zero, List.getElem_cons_succ, List.setIfInBounds_toArray, List.set_cons_zero, List.set_cons_succ]
        refine wpAnyH_ready (rs := [3]) (by kernel_rfl) (by simp) ?_
        refine AllReadyH.cons (o := _) rfl (fun K hK => ?_) AllReadyH.nil
        go_simp
        refine (HCL.out _ (HB3.out.next (belowDrew w3 1))).mono ?_
        rintro e w4 ⟨v4, rfl, o4, b4⟩
        obtain ⟨a4, c4, rfl⟩ := o4.form
        have HB4 := Lib.hid ((HB3.out.next (belowDrew w3 1)).next b4)
        clear o4 b4 HB3 HCL
        go_wp2_with fail
        refine hK.out _ _ HB4.out (fun hHeld => ?_)
        clear hK K
        refine wpAnyH_take (i := 4) (v := .agg (t52 b a4 L.length c4)) rfl (by kernel_rfl) (by kernel_rfl) (by kernel_rfl) (fun _ _ _ h => h) (yieldsIf_built2 (by rfl) 52 1 2 _ _ rfl (.int .i64 b) (.slice a4 L.length c4) rfl rfl _ (t52_built b a4 L.length c4)) hHeld ?_
        simp only [Act.put, List.getElem_toArray, List.getElem_cons_zero, List.getElem_cons_succ, List.setIfInBounds_toArray, List.set_cons_zero, List.set_cons_succ]
        refine wpAnyH_take (i := 6) (v := .agg (t57 b a4 L.length c4 a3 n3 c3)) rfl (by kernel_rfl) (by kernel_rfl) (by kernel_rfl) (fun _ _ _ h => h) (yieldsIf_built2 (by rfl) 57 0 6 _ _ rfl (.agg (t52 b a4 L.length c4)) (.slice a3 n3 c3) rfl rfl _ (t57_built b a4 L.length c4 a3 n3 c3)) hHeld ?_
        simp only [Act.put, List.getElem_toArray, List.getElem_cons_zero, List.getElem_cons_succ, List.setIfInBounds_toArray, List.set_cons_zero, List.set_cons_succ]
        refine wpAnyH_ready (rs := [7]) (by kernel_rfl) (by simp) ?_
        refine AllReadyH.cons (o := _) rfl (fun K hK => ?_) AllReadyH.nil
        go_simp
        have HB5 : Hid (SB w b hs (w4.alloc (.cells (t57 b a4 L.length c4 a3 n3 c3) 57))) := HB4.out.next ((Below.refl _ _).alloc (Nat.le_refl _) _)
        have HP5 : Hid (PB w w4.heap.size (w4.alloc (.cells (t57 b a4 L.length c4 a3 n3 c3) 57))) := ⟨HB4.out.sz, _, heapNew _ _, rfl⟩
        obtain ⟨w5, hw5⟩ : ∃ x, x = w4.alloc (.cells (t57 b a4 L.length c4 a3 n3 c3) 57) := ⟨_, rfl⟩
        rw [← hw5] at HB5 HP5 ⊢
        clear hw5
        generalize w4.heap.size = g at *
        refine hK.out _ _ HB5.out (fun hHeld => ?_)
        clear hK K HB4
        refine wpAnyH_take (i := 8) (v := .pointer (some ⟨g, 0, none⟩)) rfl (by kernel_rfl) (by kernel_rfl) (by kernel_rfl) (fun _ _ _ h => h) (Or.inl ⟨by rfl, fun w hw => by go_simp⟩) hHeld ?_
        simp only [Act.put, List.getElem_toArray, List.getElem_cons_zero, List.getElem_cons_succ, List.setIfInBounds_toArray, List.set_cons_zero, List.set_cons_succ]
        refine wpAnyH_done (by kernel_rfl) ?_ _
        clear hHeld
        generalize t52 b a4 L.length c4 = T52 at *
        generalize t57 b a4 L.length c4 a3 n3 c3 = T57 at *
        obtain ⟨cs, hcs, hcsz⟩ := HP5.out.2
        have HC5 : Hid (w5.heap[g]? = some (.cells cs 57 (0, 0))) := hcs
        have hcp : ∀ ty, (Builtin.copy_ #[37, 37] ty #[.slice (some ⟨g, 0, none⟩) 20 20, .slice (some ⟨w.heap.size + 1, 0, none⟩) 32 32]).run Tryz.prog w5.drew = .ok (goInt (hs.toList.take 20).length) (w5.drew.setRow g (cs.toList.take 0 ++ hs.toList.take 20 ++ cs.toList.drop (0 + (hs.toList.take 20).length)).toArray) := fun ty =>
          run_copy_row (P := Tryz.prog) w5.drew 37 37 ty 5 g 0 20 20 ⟨w.heap.size + 1, 0, none⟩ 32 32 cs 57 (hs.toList.take 20) Tryz.underlying37 (by kernel_rfl) hcs (by rw [List.length_take, Array.length_toList, HR.out.2.1]; rfl)
            (fun j v hj => copy_src HB5.out.inf j v hj) (by rw [List.length_take, Array.length_toList, HR.out.2.1]; omega) (fun v hv => Array.all_eq_true_iff_forall_mem.1 HR.out.2.2 v (by simpa using List.mem_of_mem_take hv))
        obtain ⟨n20, hn20⟩ : ∃ n, n = (hs.toList.take 20).length := ⟨_, rfl⟩
        rw [← hn20] at hcp
        have hz6 : (cs.toList.take 0 ++ hs.toList.take 20 ++ cs.toList.drop (0 + n20)).toArray.size = 32 := by
          have h0 := HR.out.2.1
          rw [List.length_take, Array.length_toList] at hn20
          simp
          omega
        obtain ⟨ct, hct⟩ : ∃ x, x = (cs.toList.take 0 ++ hs.toList.take 20 ++ cs.toList.drop (0 + n20)).toArray := ⟨_, rfl⟩
        rw [← hct] at hcp hz6
        have HB6 : Hid (SB w b hs (w5.drew.setRow g ct)) := (HB5.out.next (belowDrew w5 1)).next2 (below_setRow (Below.refl _ _) HP5.out.1 ct)
        have HP6 : Hid ((w5.drew.setRow g ct).heap[g]? = some (.cells ct 57 (0, 0)) ∧ ct.size = 32 ∧ w.heap.size + 2 ≤ g) := ⟨setRow_heap w5.drew g cs ct 57 _ hcs, hz6, HP5.out.1⟩
        obtain ⟨w6, hw6⟩ : ∃ x, x = w5.drew.setRow g ct := ⟨_, rfl⟩
        rw [← hw6] at hcp HB6 HP6
        clear hct hn20 hz6 hcs hcsz HC5 hw6 HP5
        go_upto_region 11 with fail
        refine wp_region_held_drew (S := SB w b hs) (by kernel_rfl) (HB5.out.next (belowDrew w5 1)) (fun hHeld => ?_)
        refine wpAnyH_take (i := 0) (v := .pointer (some ⟨g, 0, none⟩)) rfl (by kernel_rfl) (by kernel_rfl) (by kernel_rfl) (fun _ _ _ h => h) (Or.inl ⟨by rfl, fun w hw => by go_simp⟩) hHeld ?_
        simp only [Act.put, List.getElem_toArray, List.getElem_cons_zero, List.setIfInBounds_toArray, List.set_cons_zero, List.set_cons_succ]
        refine wpAnyH_take (i := 1) (v := .pointer (some ⟨g, 0, none⟩)) rfl (by kernel_rfl) (by kernel_rfl) (by kernel_rfl) (fun _ _ _ h => h) (Or.inl ⟨by rfl, fun w hw => by go_simp⟩) hHeld ?_
        simp only [Act.put, List.getElem_toArray, List.getElem_cons_zero, List.getElem_cons_succ, List.setIfInBounds_toArray, List.set_cons_zero, List.set_cons_succ]
        refine wpAnyH_take (i := 2) (v := .pointer (some ⟨g, 0, none⟩)) rfl (by kernel_rfl) (by kernel_rfl) (by kernel_rfl) (fun _ _ _ h => h) (Or.inl ⟨by rfl, fun w hw => by go_simp⟩) hHeld ?_
        simp only [Act.put, List.getElem_toArray, List.getElem_cons_zero, List.getElem_cons_succ, List.setIfInBounds_toArray, List.set_cons_zero, List.set_cons_succ]
        refine wpAnyH_take (i := 3) (v := .pointer (some ⟨g, 0, none⟩)) rfl (by kernel_rfl) (by kernel_rfl) (by kernel_rfl) (fun _ _ _ h => h) (Or.inl ⟨by rfl, fun w hw => by go_simp⟩) hHeld ?_
        simp only [Act.put, List.getElem_toArray, List.getElem_cons_zero, List.getElem_cons_succ, List.setIfInBounds_toArray, List.set_cons_zero, List.set_cons_succ]
        refine wpAnyH_take (i := 4) (v := .slice (some ⟨g, 0, none⟩) 20 20) rfl (by kernel_rfl) (by kernel_rfl) (by kernel_rfl) (fun _ _ _ h => h) (Or.inl ⟨by rfl, fun w hw => by go_simp⟩) hHeld ?_
        simp only [Act.put, List.getElem_toArray, List.getElem_cons_zero, List.getElem_cons_succ, List.setIfInBounds_toArray, List.set_cons_zero, List.set_cons_succ]
        refine wpAnyH_take (i := 5) (v := .slice (some ⟨w.heap.size + 1, 0, none⟩) 32 32) rfl (by kernel_rfl) (by kernel_rfl) (by kernel_rfl) (fun _ _ _ h => h) (Or.inl ⟨by rfl, fun w hw => by go_simp⟩) hHeld ?_
        simp only [Act.put, List.getElem_toArray, List.getElem_cons_zero, List.getElem_cons_succ, List.setIfInBounds_toArray, List.set_cons_zero, List.set_cons_succ]
        refine wpAnyH_ready (rs := [6]) (by kernel_rfl) (by simp) ?_
        refine AllReadyH.cons (o := _) rfl (fun K hK => ?_) AllReadyH.nil
        go_simp
        refine hK.out _ _ HB6.out (fun hHeld => ?_)
        clear hK K hcp HB5
        refine wpAnyH_done (by kernel_rfl) ?_ _
        clear hHeld
        go_wp2_with fail
        refine (fnew13 w6).mono ?_
        rintro e w7 ⟨p7, rfl, b7⟩
        have HB7 := Lib.hid (HB6.out.next b7)
        have hg7 := (b7.block g (blk_lt HP6.out.1)).trans HP6.out.1
        obtain ⟨x22, c22, f22⟩ := cell_of hg7 (k := 22) (by rw [HP6.out.2.1]; omega)
        obtain ⟨x25, c25, f25⟩ := cell_of hg7 (k := 25) (by rw [HP6.out.2.1]; omega)
        obtain ⟨x28, c28, f28⟩ := cell_of hg7 (k := 28) (by rw [HP6.out.2.1]; omega)
        clear b7 hg7 HB6
        go_wp2
        go_ret2
        have hgg : w.heap.size ≤ g := by have := HP6.out.2.2; omega
        exact ⟨_, rfl, ⟨fun _ => ⟨_, rfl⟩, fun h => absurd rfl h⟩, (((HB7.out.bel.setCell (p := ⟨g, 22, none⟩) hgg _).setCell (p := ⟨g, 25, none⟩) hgg _).setCell (p := ⟨g, 28, none⟩) hgg _)⟩
      · have hE : nwE b v L = 2 := by unfold nwE; rw [HGz.out, if_pos rfl, if_pos (.inr hbad)]
        rw [hE]
        rw [hbad] at HCA
        clear hE hbad
        go_enter Tryz.func5, Tryz.ntmps5
        go_wp2_with fail
        refine (HG.out _).mono ?_
        rintro e w1 ⟨rfl, hb1⟩
        have HB := Lib.hid ((SB.start b v hs w).next hb1)
        clear hb1
        go_wp2_with fail
        refine (HCA.out _ HB.out).mono ?_
        rintro e w2 ⟨rfl, n2, rfl⟩
        have HB2 := Lib.hid (HB.out.next (belowDrew w1 n2))
        clear HCA HB
        go_wp2
        go_ret2
        exact ⟨_, rfl, ⟨fun h => by omega, fun _ => rfl⟩, HB2.out.bel⟩
  · have ht := gd_ten hg
    have hE : nwE b v L = 10 := by unfold nwE; rw [if_neg hg]
    rw [ht] at HG
    rw [hE]
    clear hg ht hE
    go_enter Tryz.func5, Tryz.ntmps5
    go_wp2_with fail
    refine (HG.out _).mono ?_
    rintro e w1 ⟨rfl, hb1⟩
    have HB := Lib.hid ((SB.start b v hs w).next hb1)
    clear hb1
    go_wp2
    go_ret2
    exact ⟨_, rfl, ⟨fun h => by omega, fun _ => rfl⟩, HB.out.bel⟩
end Go.Proofs.YtkeemkjokdbhlaaGreatDoor
