import Derived.Test.YtnmeohacdbmplaaGreatDoorM20
import Derived.Laws.CopyOwn
import Derived.Deep.RegionHeld3
import Derived.Deep.Cut
import Derived.Deep.CutRange
namespace Go.Proofs.YtnmeohacdbmplaaGreatDoor
open Go.RowKit
/-- behind a Feed that ends without an error the connection is at rest again -/
theorem FP.after {w w1 w2 : World} {g R : Nat} {P : Pv} {L : List Int} {H : List UInt8} {p s : Nat} {held : List UInt8} {hv : Value} (hf : FP w g R P L H p s held hv) {T : List UInt8} {h0 : Bool} {mv bsv : Value} {met bs : List (List UInt8)} {h' : Bool} {r : List UInt8} {p' s' : Nat} {held' : List UInt8} {hv' : Value} (po : Fm.PO w R h0 T hv mv bsv 0 met bs h' r p' s' held' hv' w1)
    (fr2 : Fm.Fr (fun k => k ≠ g) w1 w2) {P' : Pv} {H' : List UInt8} (hc : HC w2 g P' L H') (hln : P'.ln = P.ln) (hst : P'.st = P.st) (hwy : P'.why = P.why) (ho : (P'.hs = P.hs ∧ H' = H) ∨ OW w1.heap.size w2 P'.hs H') : FP w2 g R P' L H' p' s' held' hv' := by
  obtain ⟨_, hlo, hho⟩ := hf.hc po.fr
  have hgR := hf.gR
  have hgl := hf.pk.lt
  have hsz := po.fr.size
  have hRl : R < w1.heap.size := po.rk.lt
  have hRw : R < w.heap.size := hf.rk.lt
  have hat : ∀ k, k < w.heap.size → hv.ownBlock ≠ some k → hv'.ownBlock ≠ some k := fun k hk hn e => by
    rcases po.at_ with h | h
    · rw [h] at e; exact hn e
    · have := h k e; omega
  refine ⟨hc.pk, hst.trans hf.stp, hwy.trans hf.why, hgR, hf.g1, hc.b0, hc.b1, hf.lok, ?_, ?_, ?_, ?_, hc.hl, (fr2.block R hRl (by omega)).trans po.rk, (po.st rfl).1, own_at po.ow (fun k hk _ => fr2.block k (own_ge po.ow hk).2 (by have := (own_ge po.ow hk).1; omega)), po.nil, hc.kt, hc.mt⟩
  · rw [hln]
    exact own_at hlo (fun k hk _ => fr2.block k (own_ge hlo hk).2 (hf.lj k hk).1)
  · rw [hln]
    exact fun k hk => ⟨(hf.lj k hk).1, (hf.lj k hk).2.1, hat k (own_ge hf.lo hk).2 (hf.lj k hk).2.2⟩
  · rcases ho with ⟨e1, rfl⟩ | ho
    · rw [e1]
      exact own_at hho (fun k hk _ => fr2.block k (own_ge hho hk).2 (hf.hj k hk).1)
    · exact ho.mono (Nat.zero_le _)
  · rcases ho with ⟨e1, rfl⟩ | ho
    · rw [e1]
      exact fun k hk => ⟨(hf.hj k hk).1, (hf.hj k hk).2.1, hat k (own_ge hf.ho hk).2 (hf.hj k hk).2.2⟩
    · intro k hk
      have h1 := (own_ge ho hk).1
      exact ⟨by omega, by omega, fun e => by have := (own_ge po.ow e).2; omega⟩
end Go.Proofs.YtnmeohacdbmplaaGreatDoor
namespace Go.Proofs.YtnmeohacdbmplaaGreatDoor
open Go.RowKit
def setR : Array Value → Nat → List Value → Array Value
  | cur, _, [] => cur
  | cur, o, u :: us => setR (cur.setIfInBounds o u) (o + 1) us
theorem setCells_other : ∀ (us : List Value) (w : World) (g o k : Nat), k ≠ g → (w.setCells g o us).heap[k]? = w.heap[k]?
  | [], _, _, _, _, _ => rfl
  | u :: us, w, g, o, k, h => by
    unfold World.setCells
    rw [setCells_other us _ g (o + 1) k h]
    exact Below.heap_setCell _ _ _ _ (fun e => h e)
theorem setCells_rest : ∀ (us : List Value) (w : World) (g o : Nat), (w.setCells g o us).os = w.os ∧ (w.setCells g o us).tape = w.tape ∧ (w.setCells g o us).output = w.output ∧ (w.setCells g o us).heap.size = w.heap.size
  | [], _, _, _ => ⟨rfl, rfl, rfl, rfl⟩
  | u :: us, w, g, o => by
    unfold World.setCells
    obtain ⟨h1, h2, h3, h4⟩ := setCells_rest us (w.setCell ⟨g, o, none⟩ u) g (o + 1)
    exact ⟨h1, h2, h3, by rw [h4]; simp⟩
theorem setCells_heap : ∀ (us : List Value) (w : World) (g o : Nat) (cur : Array Value) (t : TypeId), w.heap[g]? = some (.cells cur t (0, 0)) → (w.setCells g o us).heap[g]? = some (.cells (setR cur o us) t (0, 0))
  | [], _, _, _, _, _, h => h
  | u :: us, w, g, o, cur, t, h => by
    unfold World.setCells setR
    exact setCells_heap us _ g (o + 1) _ t (heap_setCell_same w g o cur t u h)
theorem if_tt {c : Prop} [Decidable c] {A B : Prop} (hc : c) (h : A) : if c then A else B := by rw [if_pos hc]; exact h
theorem yieldsIf_built8 {ops : Array Oper} {S : World → Prop} {op : Oper} {a : Act} (hw : Region.wanted op (yielded ops a.tmps) = true) (t : TypeId) (x0 x1 x2 x3 x4 x5 x6 x7 : Operand) (ho : op.op = .build t #[(0, x0), (1, x1), (2, x2), (3, x3), (4, x4), (5, x5), (6, x6), (7, x7)]) (v0 v1 v2 v3 v4 v5 v6 v7 : Value)
    (h0 : a.eval x0 = v0) (h1 : a.eval x1 = v1) (h2 : a.eval x2 = v2) (h3 : a.eval x3 = v3) (h4 : a.eval x4 = v4) (h5 : a.eval x5 = v5) (h6 : a.eval x6 = v6) (h7 : a.eval x7 = v7) (T : Array Value)
    (hT : Tryz.prog.built t [(0, v0), (1, v1), (2, v2), (3, v3), (4, v4), (5, v5), (6, v6), (7, v7)] = some T) : YieldsIf Tryz.prog ops S op (.agg T) a :=
  .inl ⟨hw, fun w _ => by
    have hf : Tryz.prog.built t (#[(0, x0), (1, x1), (2, x2), (3, x3), (4, x4), (5, x5), (6, x6), (7, x7)].map fun (i, x) => (i, a.eval x)).toList = some T := by
      rw [← hT]
      simp [h0, h1, h2, h3, h4, h5, h6, h7]
    have h := run_build w t _ T hf
    unfold execOp
    simp only [ho, Sem.run_bind, h, Result.andThen_ok, Sem.run_pure]⟩
theorem st_built (a b : Bool) (y : Int) (c d e f : Bool) (x : Option Addr) (n k : Nat) : Tryz.prog.built 43 [(0, .bool a), (1, .bool b), (2, .int .i64 y), (3, .bool c), (4, .bool d), (5, .bool e), (6, .bool f), (7, .slice x n k)] = some #[.bool a, .bool b, .int .i64 y, .bool c, .bool d, .bool e, .bool f, .slice x n k] := by kernel_rfl
theorem st_info : (Tryz.prog.info? 43).map (·.size) = some 8 := by kernel_rfl
theorem there_row {w : World} {b o n : Nat} {cs : Array Value} {t : TypeId} (hg : w.heap[b]? = some (.cells cs t (0, 0))) (h : o + n ≤ cs.size) : w.there b o n := fun j hj => by
  have hlt : o + j < cs.size := by omega
  exact ⟨by simp [World.cell?, hg, hlt], by simp [World.frozen?, hg]⟩
theorem results_state {fn : Func} {p : Tmp} (h : fn.results = #[.cell p 43]) (tmps : Array Value) (w : World) (g : Nat) (cs : Array Value)
    (hp : tmps.getD p undef = .pointer (some ⟨g, 0, none⟩)) (hg : w.heap[g]? = some (.cells cs 43 (0, 0))) (hs : cs.size = 8) : (results fn tmps).run Tryz.prog w = .ok (.agg cs) w := by
  have hp' : tmps[p]?.getD undef = .pointer (some ⟨g, 0, none⟩) := by simpa using hp
  simp [results, h, hp', asAddr, run_loadVar_row w g 43 43 cs (0, 0) _ hg Tryz.underlying43 rfl (by rw [hs]; exact st_info)]
def z8 : Array Value := #[.bool false, .bool false, .int .i64 0, .bool false, .bool false, .bool false, .bool false, .slice none 0 0]
set_option maxHeartbeats 2000000 in
set_option maxRecDepth 100000 in
theorem stateT (w : World) (g : Nat) (P : Pv) (h : PK w g P) (hb : 0 < P.b) (H : List UInt8) (hr : RB w P.hs H) (hH : H.length ≤ 140737488351232) :
    Calls Tryz.prog 14 #[.pointer (some ⟨g, 0, none⟩)] w fun e w' => ∃ hv, e = .returned (.agg #[.bool P.sh, .bool (P.why != 0), .int .i64 P.why, .bool P.wc, .bool P.wi, .bool P.ic, .bool P.ii, hv]) ∧ OW w.heap.size w' hv H ∧ Below w.heap.size w w' := by
  have bA : Below w.heap.size w (w.alloc (.cells z8 43)) := (Below.refl _ _).alloc (Nat.le_refl _) _
  have HBA := Lib.hid bA
  have HK1 := Lib.hid (h.keep (bA.block g h.lt))
  have HM : Hid (Calls Tryz.prog 41 #[.pointer (some ⟨g, 0, none⟩)] (w.alloc (.cells z8 43)) fun e w' => e = .returned (.bool false) ∧ w' = w.alloc (.cells z8 43)) := missingT _ g P HK1.out hb
  obtain ⟨ha, hcp, hhs, _⟩ := id hr
  have HCl : Hid (Calls Tryz.prog 42 #[.slice ha H.length hcp] (w.alloc (.cells z8 43)).drew fun e w' => ∃ v', e = .returned v' ∧ Bs.OW (w.alloc (.cells z8 43)).drew.heap.size w' v' H ∧ Below (w.alloc (.cells z8 43)).drew.heap.size (w.alloc (.cells z8 43)).drew w') := by
    have h9 := Bs.clone34 P.hs H (w.alloc (.cells z8 43)).drew (bsRB ((hr.keep bA).keep (belowDrew _ 1))) hH
    rw [hhs] at h9
    exact h9
  have hres2 : ∀ w2, Below (w.alloc (.cells z8 43)).drew.heap.size (w.alloc (.cells z8 43)).drew w2 → w2.heap[w.heap.size]? = some (.cells z8 43 (0, 0)) := fun w2 b2 => (b2.block w.heap.size (by show w.heap.size < (w.heap.push _).size; simp)).trans (heapNew w _)
  have hgl := h.lt
  have hkeep : ∀ w2, Below (w.alloc (.cells z8 43)).drew.heap.size (w.alloc (.cells z8 43)).drew w2 → ∀ us, PK (w2.setCells w.heap.size 0 us) g P := fun w2 b2 us => (HK1.out.keep (b2.block g HK1.out.lt)).keep (setCells_other us w2 w.heap.size 0 g (by omega))
  clear bA h hr
  go_enter Tryz.func14, Tryz.ntmps14
  go_wp2_with fail
  refine HM.out.mono ?_
  rintro e w1 ⟨rfl, rfl⟩
  go_upto_region 3 with fail
  refine wp_region_held_drew (S := fun u => PK u g P) (by kernel_rfl) (HK1.out.keep rfl) (fun hHeld => ?_)
  refine wpAnyH_take (i := 0) (v := .pointer (some ⟨g, 0, none⟩)) rfl (by kernel_rfl) (by kernel_rfl) (by kernel_rfl) (fun _ _ _ h => h) (Or.inl ⟨by rfl, fun w hw => by go_simp⟩) hHeld ?_
  simp only [Act.put, List.getElem_toArray, List.getElem_cons_zero, List.setIfInBounds_toArray, List.set_cons_zero, List.set_cons_succ]
  refine wpAnyH_take (i := 1) (v := .pointer (some ⟨g, 0, none⟩)) rfl (by kernel_rfl) (by kernel_rfl) (by kernel_rfl) (fun _ _ _ h => h) (Or.inl ⟨by rfl, fun w hw => by go_simp⟩) hHeld ?_
  simp only [Act.put, List.getElem_toArray, List.getElem_cons_zero, List.getElem_cons_succ, List.setIfInBounds_toArray, List.set_cons_zero, List.set_cons_succ]
  refine wpAnyH_take (i := 2) (v := .pointer (some ⟨g, 23, none⟩)) rfl (by kernel_rfl) (by kernel_rfl) (by kernel_rfl) (fun _ _ _ h => h) (Or.inl ⟨by rfl, fun w hw => by go_simp⟩) hHeld ?_
  simp only [Act.put, List.getElem_toArray, List.getElem_cons_zero, List.getElem_cons_succ, List.setIfInBounds_toArray, List.set_cons_zero, List.set_cons_succ]
  refine wpAnyH_take (i := 3) (v := .bool P.sh) rfl (by kernel_rfl) (by kernel_rfl) (by kernel_rfl) (fun _ _ _ h => h) (Or.inl ⟨by rfl, fun w hw => by have hq := hw.cells.2.2.2.1; go_simp⟩) hHeld ?_
  simp only [Act.put, List.getElem_toArray, List.getElem_cons_zero, List.getElem_cons_succ, List.setIfInBounds_toArray, List.set_cons_zero, List.set_cons_succ]
  refine wpAnyH_take (i := 4) (v := .pointer (some ⟨g, 0, none⟩)) rfl (by kernel_rfl) (by kernel_rfl) (by kernel_rfl) (fun _ _ _ h => h) (Or.inl ⟨by rfl, fun w hw => by go_simp⟩) hHeld ?_
  simp only [Act.put, List.getElem_toArray, List.getElem_cons_zero, List.getElem_cons_succ, List.setIfInBounds_toArray, List.set_cons_zero, List.set_cons_succ]
  refine wpAnyH_take (i := 5) (v := .pointer (some ⟨g, 0, none⟩)) rfl (by kernel_rfl) (by kernel_rfl) (by kernel_rfl) (fun _ _ _ h => h) (Or.inl ⟨by rfl, fun w hw => by go_simp⟩) hHeld ?_
  simp only [Act.put, List.getElem_toArray, List.getElem_cons_zero, List.getElem_cons_succ, List.setIfInBounds_toArray, List.set_cons_zero, List.set_cons_succ]
  refine wpAnyH_take (i := 6) (v := .pointer (some ⟨g, 24, none⟩)) rfl (by kernel_rfl) (by kernel_rfl) (by kernel_rfl) (fun _ _ _ h => h) (Or.inl ⟨by rfl, fun w hw => by go_simp⟩) hHeld ?_
  simp only [Act.put, List.getElem_toArray, List.getElem_cons_zero, List.getElem_cons_succ, List.setIfInBounds_toArray, List.set_cons_zero, List.set_cons_succ]
  refine wpAnyH_take (i := 7) (v := .int .i64 P.why) rfl (by kernel_rfl) (by kernel_rfl) (by kernel_rfl) (fun _ _ _ h => h) (Or.inl ⟨by rfl, fun w hw => by have hq := hw.cells.2.2.2.2.1; go_simp⟩) hHeld ?_
  simp only [Act.put, List.getElem_toArray, List.getElem_cons_zero, List.getElem_cons_succ, List.setIfInBounds_toArray, List.set_cons_zero, List.set_cons_succ]
  refine wpAnyH_take (i := 8) (v := .bool (P.why != 0)) rfl (by kernel_rfl) (by kernel_rfl) (by kernel_rfl) (fun _ _ _ h => h) (Or.inl ⟨by rfl, fun w hw => by go_simp⟩) hHeld ?_
  simp only [Act.put, List.getElem_toArray, List.getElem_cons_zero, List.getElem_cons_succ, List.setIfInBounds_toArray, List.set_cons_zero, List.set_cons_succ]
  refine wpAnyH_take (i := 9) (v := .pointer (some ⟨g, 0, none⟩)) rfl (by kernel_rfl) (by kernel_rfl) (by kernel_rfl) (fun _ _ _ h => h) (Or.inl ⟨by rfl, fun w hw => by go_simp⟩) hHeld ?_
  simp only [Act.put, List.getElem_toArray, List.getElem_cons_zero, List.getElem_cons_succ, List.setIfInBounds_toArray, List.set_cons_zero, List.set_cons_succ]
  refine wpAnyH_take (i := 10) (v := .pointer (some ⟨g, 0, none⟩)) rfl (by kernel_rfl) (by kernel_rfl) (by kernel_rfl) (fun _ _ _ h => h) (Or.inl ⟨by rfl, fun w hw => by go_simp⟩) hHeld ?_
  simp only [Act.put, List.getElem_toArray, List.getElem_cons_zero, List.getElem_cons_succ, List.setIfInBounds_toArray, List.set_cons_zero, List.set_cons_succ]
  refine wpAnyH_take (i := 11) (v := .pointer (some ⟨g, 24, none⟩)) rfl (by kernel_rfl) (by kernel_rfl) (by kernel_rfl) (fun _ _ _ h => h) (Or.inl ⟨by rfl, fun w hw => by go_simp⟩) hHeld ?_
  simp only [Act.put, List.getElem_toArray, List.getElem_cons_zero, List.getElem_cons_succ, List.setIfInBounds_toArray, List.set_cons_zero, List.set_cons_succ]
  refine wpAnyH_take (i := 12) (v := .int .i64 P.why) rfl (by kernel_rfl) (by kernel_rfl) (by kernel_rfl) (fun _ _ _ h => h) (Or.inl ⟨by rfl, fun w hw => by have hq := hw.cells.2.2.2.2.1; go_simp⟩) hHeld ?_
  simp only [Act.put, List.getElem_toArray, List.getElem_cons_zero, List.getElem_cons_succ, List.setIfInBounds_toArray, List.set_cons_zero, List.set_cons_succ]
  refine wpAnyH_take (i := 13) (v := .pointer (some ⟨g, 0, none⟩)) rfl (by kernel_rfl) (by kernel_rfl) (by kernel_rfl) (fun _ _ _ h => h) (Or.inl ⟨by rfl, fun w hw => by go_simp⟩) hHeld ?_
  simp only [Act.put, List.getElem_toArray, List.getElem_cons_zero, List.getElem_cons_succ, List.setIfInBounds_toArray, List.set_cons_zero, List.set_cons_succ]
  refine wpAnyH_take (i := 14) (v := .pointer (some ⟨g, 0, none⟩)) rfl (by kernel_rfl) (by kernel_rfl) (by kernel_rfl) (fun _ _ _ h => h) (Or.inl ⟨by rfl, fun w hw => by go_simp⟩) hHeld ?_
  simp only [Act.put, List.getElem_toArray, List.getElem_cons_zero, List.getElem_cons_succ, List.setIfInBounds_toArray, List.set_cons_zero, List.set_cons_succ]
  refine wpAnyH_take (i := 15) (v := .pointer (some ⟨g, 25, none⟩)) rfl (by kernel_rfl) (by kernel_rfl) (by kernel_rfl) (fun _ _ _ h => h) (Or.inl ⟨by rfl, fun w hw => by go_simp⟩) hHeld ?_
  simp only [Act.put, List.getElem_toArray, List.getElem_cons_zero, List.getElem_cons_succ, List.setIfInBounds_toArray, List.set_cons_zero, List.set_cons_succ]
  refine wpAnyH_take (i := 16) (v := .pointer (some ⟨g, 25, none⟩)) rfl (by kernel_rfl) (by kernel_rfl) (by kernel_rfl) (fun _ _ _ h => h) (Or.inl ⟨by rfl, fun w hw => by go_simp⟩) hHeld ?_
  simp only [Act.put, List.getElem_toArray, List.getElem_cons_zero, List.getElem_cons_succ, List.setIfInBounds_toArray, List.set_cons_zero, List.set_cons_succ]
  refine wpAnyH_take (i := 17) (v := .bool P.wc) rfl (by kernel_rfl) (by kernel_rfl) (by kernel_rfl) (fun _ _ _ h => h) (Or.inl ⟨by rfl, fun w hw => by have hq := hw.sides.1; go_simp⟩) hHeld ?_
  simp only [Act.put, List.getElem_toArray, List.getElem_cons_zero, List.getElem_cons_succ, List.setIfInBounds_toArray, List.set_cons_zero, List.set_cons_succ]
  refine wpAnyH_take (i := 18) (v := .pointer (some ⟨g, 0, none⟩)) rfl (by kernel_rfl) (by kernel_rfl) (by kernel_rfl) (fun _ _ _ h => h) (Or.inl ⟨by rfl, fun w hw => by go_simp⟩) hHeld ?_
  simp only [Act.put, List.getElem_toArray, List.getElem_cons_zero, List.getElem_cons_succ, List.setIfInBounds_toArray, List.set_cons_zero, List.set_cons_succ]
  refine wpAnyH_take (i := 19) (v := .pointer (some ⟨g, 0, none⟩)) rfl (by kernel_rfl) (by kernel_rfl) (by kernel_rfl) (fun _ _ _ h => h) (Or.inl ⟨by rfl, fun w hw => by go_simp⟩) hHeld ?_
  simp only [Act.put, List.getElem_toArray, List.getElem_cons_zero, List.getElem_cons_succ, List.setIfInBounds_toArray, List.set_cons_zero, List.set_cons_succ]
  refine wpAnyH_take (i := 20) (v := .pointer (some ⟨g, 25, none⟩)) rfl (by kernel_rfl) (by kernel_rfl) (by kernel_rfl) (fun _ _ _ h => h) (Or.inl ⟨by rfl, fun w hw => by go_simp⟩) hHeld ?_
  simp only [Act.put, List.getElem_toArray, List.getElem_cons_zero, List.getElem_cons_succ, List.setIfInBounds_toArray, List.set_cons_zero, List.set_cons_succ]
  refine wpAnyH_take (i := 21) (v := .pointer (some ⟨g, 26, none⟩)) rfl (by kernel_rfl) (by kernel_rfl) (by kernel_rfl) (fun _ _ _ h => h) (Or.inl ⟨by rfl, fun w hw => by go_simp⟩) hHeld ?_
  simp only [Act.put, List.getElem_toArray, List.getElem_cons_zero, List.getElem_cons_succ, List.setIfInBounds_toArray, List.set_cons_zero, List.set_cons_succ]
  refine wpAnyH_take (i := 22) (v := .bool P.wi) rfl (by kernel_rfl) (by kernel_rfl) (by kernel_rfl) (fun _ _ _ h => h) (Or.inl ⟨by rfl, fun w hw => by have hq := hw.sides.2.1; go_simp⟩) hHeld ?_
  simp only [Act.put, List.getElem_toArray, List.getElem_cons_zero, List.getElem_cons_succ, List.setIfInBounds_toArray, List.set_cons_zero, List.set_cons_succ]
  refine wpAnyH_take (i := 23) (v := .pointer (some ⟨g, 0, none⟩)) rfl (by kernel_rfl) (by kernel_rfl) (by kernel_rfl) (fun _ _ _ h => h) (Or.inl ⟨by rfl, fun w hw => by go_simp⟩) hHeld ?_
  simp only [Act.put, List.getElem_toArray, List.getElem_cons_zero, List.getElem_cons_succ, List.setIfInBounds_toArray, List.set_cons_zero, List.set_cons_succ]
  refine wpAnyH_take (i := 24) (v := .pointer (some ⟨g, 0, none⟩)) rfl (by kernel_rfl) (by kernel_rfl) (by kernel_rfl) (fun _ _ _ h => h) (Or.inl ⟨by rfl, fun w hw => by go_simp⟩) hHeld ?_
  simp only [Act.put, List.getElem_toArray, List.getElem_cons_zero, List.getElem_cons_succ, List.setIfInBounds_toArray, List.set_cons_zero, List.set_cons_succ]
  refine wpAnyH_take (i := 25) (v := .pointer (some ⟨g, 28, none⟩)) rfl (by kernel_rfl) (by kernel_rfl) (by kernel_rfl) (fun _ _ _ h => h) (Or.inl ⟨by rfl, fun w hw => by go_simp⟩) hHeld ?_
  simp only [Act.put, List.getElem_toArray, List.getElem_cons_zero, List.getElem_cons_succ, List.setIfInBounds_toArray, List.set_cons_zero, List.set_cons_succ]
  refine wpAnyH_take (i := 26) (v := .pointer (some ⟨g, 28, none⟩)) rfl (by kernel_rfl) (by kernel_rfl) (by kernel_rfl) (fun _ _ _ h => h) (Or.inl ⟨by rfl, fun w hw => by go_simp⟩) hHeld ?_
  simp only [Act.put, List.getElem_toArray, List.getElem_cons_zero, List.getElem_cons_succ, List.setIfInBounds_toArray, List.set_cons_zero, List.set_cons_succ]
  refine wpAnyH_take (i := 27) (v := .bool P.ic) rfl (by kernel_rfl) (by kernel_rfl) (by kernel_rfl) (fun _ _ _ h => h) (Or.inl ⟨by rfl, fun w hw => by have hq := hw.sides.2.2.2.1; go_simp⟩) hHeld ?_
  simp only [Act.put, List.getElem_toArray, List.getElem_cons_zero, List.getElem_cons_succ, List.setIfInBounds_toArray, List.set_cons_zero, List.set_cons_succ]
  refine wpAnyH_take (i := 28) (v := .pointer (some ⟨g, 0, none⟩)) rfl (by kernel_rfl) (by kernel_rfl) (by kernel_rfl) (fun _ _ _ h => h) (Or.inl ⟨by rfl, fun w hw => by go_simp⟩) hHeld ?_
  simp only [Act.put, List.getElem_toArray, List.getElem_cons_zero, List.getElem_cons_succ, List.setIfInBounds_toArray, List.set_cons_zero, List.set_cons_succ]
  refine wpAnyH_take (i := 29) (v := .pointer (some ⟨g, 0, none⟩)) rfl (by kernel_rfl) (by kernel_rfl) (by kernel_rfl) (fun _ _ _ h => h) (Or.inl ⟨by rfl, fun w hw => by go_simp⟩) hHeld ?_
  simp only [Act.put, List.getElem_toArray, List.getElem_cons_zero, List.getElem_cons_succ, List.setIfInBounds_toArray, List.set_cons_zero, List.set_cons_succ]
  refine wpAnyH_take (i := 30) (v := .pointer (some ⟨g, 28, none⟩)) rfl (by kernel_rfl) (by kernel_rfl) (by kernel_rfl) (fun _ _ _ h => h) (Or.inl ⟨by rfl, fun w hw => by go_simp⟩) hHeld ?_
  simp only [Act.put, List.getElem_toArray, List.getElem_cons_zero, List.getElem_cons_succ, List.setIfInBounds_toArray, List.set_cons_zero, List.set_cons_succ]
  refine wpAnyH_take (i := 31) (v := .pointer (some ⟨g, 29, none⟩)) rfl (by kernel_rfl) (by kernel_rfl) (by kernel_rfl) (fun _ _ _ h => h) (Or.inl ⟨by rfl, fun w hw => by go_simp⟩) hHeld ?_
  simp only [Act.put, List.getElem_toArray, List.getElem_cons_zero, List.getElem_cons_succ, List.setIfInBounds_toArray, List.set_cons_zero, List.set_cons_succ]
  refine wpAnyH_take (i := 32) (v := .bool P.ii) rfl (by kernel_rfl) (by kernel_rfl) (by kernel_rfl) (fun _ _ _ h => h) (Or.inl ⟨by rfl, fun w hw => by have hq := hw.sides.2.2.2.2.1; go_simp⟩) hHeld ?_
  simp only [Act.put, List.getElem_toArray, List.getElem_cons_zero, List.getElem_cons_succ, List.setIfInBounds_toArray, List.set_cons_zero, List.set_cons_succ]
  refine wpAnyH_take (i := 33) (v := .pointer (some ⟨g, 0, none⟩)) rfl (by kernel_rfl) (by kernel_rfl) (by kernel_rfl) (fun _ _ _ h => h) (Or.inl ⟨by rfl, fun w hw => by go_simp⟩) hHeld ?_
  simp only [Act.put, List.getElem_toArray, List.getElem_cons_zero, List.getElem_cons_succ, List.setIfInBounds_toArray, List.set_cons_zero, List.set_cons_succ]
  refine wpAnyH_take (i := 34) (v := .pointer (some ⟨g, 0, none⟩)) rfl (by kernel_rfl) (by kernel_rfl) (by kernel_rfl) (fun _ _ _ h => h) (Or.inl ⟨by rfl, fun w hw => by go_simp⟩) hHeld ?_
  simp only [Act.put, List.getElem_toArray, List.getElem_cons_zero, List.getElem_cons_succ, List.setIfInBounds_toArray, List.set_cons_zero, List.set_cons_succ]
  refine wpAnyH_take (i := 35) (v := .pointer (some ⟨g, 31, none⟩)) rfl (by kernel_rfl) (by kernel_rfl) (by kernel_rfl) (fun _ _ _ h => h) (Or.inl ⟨by rfl, fun w hw => by go_simp⟩) hHeld ?_
  simp only [Act.put, List.getElem_toArray, List.getElem_cons_zero, List.getElem_cons_succ, List.setIfInBounds_toArray, List.set_cons_zero, List.set_cons_succ]
  refine wpAnyH_take (i := 36) (v := .slice ha H.length hcp) rfl (by kernel_rfl) (by kernel_rfl) (by kernel_rfl) (fun _ _ _ h => h) (Or.inl ⟨by rfl, fun w hw => by have hq := hw.cells.2.2.2.2.2; rw [hhs] at hq; go_simp⟩) hHeld ?_
  simp only [Act.put, List.getElem_toArray, List.getElem_cons_zero, List.getElem_cons_succ, List.setIfInBounds_toArray, List.set_cons_zero, List.set_cons_succ]
  refine wpAnyH_ready (rs := [37]) (by kernel_rfl) (by simp) ?_
  refine AllReadyH.cons (o := _) rfl (fun K hK => ?_) AllReadyH.nil
  go_simp
  refine HCl.out.mono ?_
  rintro e w2 ⟨v2, rfl, o2, b2⟩
  obtain ⟨a2, c2, rfl⟩ := (bsOW o2).form
  have HO2 := Lib.hid (And.intro o2 b2)
  have K2 := HK1.out.keep (b2.block g HK1.out.lt)
  clear o2 b2
  go_wp2_with fail
  refine hK.out _ _ K2 (fun hHeld => ?_)
  clear hK K K2
  refine wpAnyH_take (i := 38) (v := .agg #[.bool P.sh, .bool (P.why != 0), .int .i64 P.why, .bool P.wc, .bool P.wi, .bool P.ic, .bool P.ii, .slice a2 H.length c2]) rfl (by kernel_rfl) (by kernel_rfl) (by kernel_rfl) (fun _ _ _ h => h) (yieldsIf_built8 (by rfl) 43 _ _ _ _ _ _ _ _ rfl (.bool P.sh) (.bool (P.why != 0)) (.int .i64 P.why) (.bool P.wc) (.bool P.wi) (.bool P.ic) (.bool P.ii) (.slice a2 H.length c2) rfl rfl rfl rfl rfl rfl rfl rfl _ (st_built _ _ _ _ _ _ _ _ _ _)) hHeld ?_
  simp only [Act.put, List.getElem_toArray, List.getElem_cons_zero, List.getElem_cons_succ, List.setIfInBounds_toArray, List.set_cons_zero, List.set_cons_succ]
  refine wpAnyH_ready (rs := [39]) (by kernel_rfl) (by simp) ?_
  refine AllReadyH.cons (o := _) rfl (fun K hK => ?_) AllReadyH.nil
  refine if_tt (by rfl) ?_
  refine wp_store_mid 43 _ _ rfl w.heap.size 0 #[.bool P.sh, .bool (P.why != 0), .int .i64 P.why, .bool P.wc, .bool P.wi, .bool P.ic, .bool P.ii, .slice a2 H.length c2] rfl rfl ?_ st_info (by simp [Value.oneCell']) ?_
  · exact there_row (o := 0) (n := 8) (hres2 w2 HO2.out.2) (by decide)
  have K3 : PK (w2.setCells w.heap.size 0 (#[.bool P.sh, .bool (P.why != 0), .int .i64 P.why, .bool P.wc, .bool P.wi, .bool P.ic, .bool P.ii, .slice a2 H.length c2] : Array Value).toList) g P := hkeep w2 HO2.out.2 _
  refine hK.out _ _ K3 (fun hHeld => ?_)
  clear hK K K3
  refine wpAnyH_done (by kernel_rfl) ?_ _
  clear hHeld
  have hset : (w2.setCells w.heap.size 0 (#[Value.bool P.sh, .bool (P.why != 0), .int .i64 P.why, .bool P.wc, .bool P.wi, .bool P.ic, .bool P.ii, .slice a2 H.length c2] : Array Value).toList).heap[w.heap.size]? = some (.cells #[.bool P.sh, .bool (P.why != 0), .int .i64 P.why, .bool P.wc, .bool P.wi, .bool P.ic, .bool P.ii, .slice a2 H.length c2] 43 (0, 0)) := setCells_heap _ w2 w.heap.size 0 z8 43 (hres2 w2 HO2.out.2)
  have hrest := setCells_rest (#[Value.bool P.sh, .bool (P.why != 0), .int .i64 P.why, .bool P.wc, .bool P.wi, .bool P.ic, .bool P.ii, .slice a2 H.length c2] : Array Value).toList w2 w.heap.size 0
  have hoth := fun k hk => setCells_other (#[Value.bool P.sh, .bool (P.why != 0), .int .i64 P.why, .bool P.wc, .bool P.wi, .bool P.ic, .bool P.ii, .slice a2 H.length c2] : Array Value).toList w2 w.heap.size 0 k hk
  have HS9 := Lib.hid (And.intro hset (And.intro hrest hoth))
  obtain ⟨w9, hw9⟩ : ∃ u, u = w2.setCells w.heap.size 0 (#[Value.bool P.sh, .bool (P.why != 0), .int .i64 P.why, .bool P.wc, .bool P.wi, .bool P.ic, .bool P.ii, .slice a2 H.length c2] : Array Value).toList := ⟨_, rfl⟩
  rw [← hw9] at HS9 ⊢
  clear hset hrest hoth hw9 hkeep
  have hsz1 : (w.alloc (.cells z8 43)).drew.heap.size = w.heap.size + 1 := by show (w.heap.push _).size = _; simp
  have HEnd : Hid (OW w.heap.size w9 (.slice a2 H.length c2) H ∧ Below w.heap.size w w9) := by
    have b2 := HO2.out.2
    have bT : Below w.heap.size w w2 := (belowN HBA.out 1).trans (b2.mono (by rw [hsz1]; omega))
    refine ⟨OW.mono (B := w.heap.size + 1) (ownsRow_fr (w := w2) ((bsOW HO2.out.1).mono (by rw [hsz1]; exact Nat.le_refl _)) (fun k hk _ => HS9.out.2.2 k (by omega))) (by omega), ⟨HS9.out.2.1.1.trans bT.os, HS9.out.2.1.2.1.trans bT.tape, HS9.out.2.1.2.2.1.trans bT.output, by rw [HS9.out.2.1.2.2.2]; exact bT.size, fun k hk => (HS9.out.2.2 k (by omega)).trans (bT.block k hk)⟩⟩
  go_wp2_with fail
  (try simp only [Exit.inBlock, Exit.then]); refine bodyPost_ret (results_state rfl _ _ w.heap.size _ rfl HS9.out.1 rfl) rfl ?_
  exact ⟨_, rfl, HEnd.out.1, HEnd.out.2⟩
end Go.Proofs.YtnmeohacdbmplaaGreatDoor
namespace Go.Proofs.YtnmeohacdbmplaaGreatDoor
open Go.RowKit
theorem fnewP (w : World) : Calls Tryz.prog 36 #[.bool true] w fun e w' => ∃ p, e = .returned (.pointer (some p)) ∧ Below w.heap.size w w' := (Fm.new w true).mono (fun _ _ h => ⟨_, h.1, h.2.2⟩)
/-- what New answers -/
def nwE (b v : Int) (L : List Int) : Int := if Bs.gd b v = 0 then (if 65536 < L.length ∨ L.any (Bs.bad b) = true then 2 else 0) else 10
def PP (p : Value) (e : Int) : Prop := (e = 0 → ∃ a, p = .pointer (some a)) ∧ (e ≠ 0 → p = .pointer none)
theorem gd_ten {b v : Int} (h : Bs.gd b v ≠ 0) : Bs.gd b v = 10 := by
  unfold Bs.gd at h ⊢
  split at h
  · exact absurd rfl h
  · rename_i hh; rw [if_neg hh]
theorem gd_zero {b v : Int} (h : Bs.gd b v = 0) : 64 ≤ b ∧ b ≤ 16384 := by
  unfold Bs.gd at h
  split at h
  · rename_i hh; exact Bs.pw_bd hh.1
  · cases h
theorem heapOldP (w : World) (o : Obj) (i : Nat) (h : i < w.heap.size) : (w.alloc o).heap[i]? = w.heap[i]? := by show (w.heap.push o)[i]? = w.heap[i]?; simp [Array.getElem?_push, Nat.ne_of_lt h]
theorem allocSize (w : World) (o : Obj) : (w.alloc o).heap.size = w.heap.size + 1 := by show (w.heap.push o).size = _; simp
/-- the boxes of the arguments stand -/
structure SB (w : World) (b : Int) (hs : Array Value) (u : World) : Prop where
  bel : Below w.heap.size w u
  blk : u.cell? ⟨w.heap.size, 0, none⟩ = some (.int .i64 b)
  inf : u.heap[w.heap.size + 1]? = some (.cells hs 25 (0, 0))
  sz : w.heap.size + 2 ≤ u.heap.size
theorem SB.next {w : World} {b : Int} {hs : Array Value} {u u' : World} (h : SB w b hs u) (hb : Below u.heap.size u u') : SB w b hs u' :=
  ⟨h.bel.trans (hb.mono h.bel.size), (World.cell?_of_block (w := u) (hb.block w.heap.size (by have := h.sz; omega))).trans h.blk, (hb.block (w.heap.size + 1) (by have := h.sz; omega)).trans h.inf, Nat.le_trans h.sz hb.size⟩
theorem SB.start (b v : Int) (hs : Array Value) (w : World) : SB w b hs ((w.alloc (.cells #[.int .i64 b, .int .i64 v] 23)).alloc (.cells hs 25)) := by
  refine ⟨((Below.refl w.heap.size w).alloc (Nat.le_refl _) _).alloc (by rw [allocSize]; omega) _, ?_, ?_, ?_⟩
  · have h : ((w.alloc (.cells #[.int .i64 b, .int .i64 v] 23)).alloc (.cells hs 25)).heap[w.heap.size]? = some (.cells #[.int .i64 b, .int .i64 v] 23) := by
      rw [heapOldP _ _ _ (by rw [allocSize]; omega), heapNew]
    simp [World.cell?, h]
  · have h := heapNew (w.alloc (.cells #[.int .i64 b, .int .i64 v] 23)) (.cells hs 25)
    rw [allocSize] at h
    exact h
  · rw [allocSize, allocSize]; omega
theorem SB.next2 {w : World} {b : Int} {hs : Array Value} {u u' : World} (h : SB w b hs u) (hb : Below (w.heap.size + 2) u u') : SB w b hs u' :=
  ⟨h.bel.trans (hb.mono (by omega)), (World.cell?_of_block (w := u) (hb.block w.heap.size (by omega))).trans h.blk, (hb.block (w.heap.size + 1) (by omega)).trans h.inf, Nat.le_trans h.sz hb.size⟩
/-- the connection that is made -/
def PB (w : World) (g : Nat) (u : World) : Prop := w.heap.size + 2 ≤ g ∧ ∃ cs : Array Value, u.heap[g]? = some (.cells cs 87 (0, 0)) ∧ cs.size = 32
theorem yieldsIf_built2 {ops : Array Oper} {S : World → Prop} {op : Oper} {a : Act} (hw : Region.wanted op (yielded ops a.tmps) = true) (t : TypeId) (i0 i1 : Nat) (x0 x1 : Operand) (ho : op.op = .build t #[(i0, x0), (i1, x1)]) (v0 v1 : Value) (h0 : a.eval x0 = v0) (h1 : a.eval x1 = v1) (T : Array Value)
    (hT : Tryz.prog.built t [(i0, v0), (i1, v1)] = some T) : YieldsIf Tryz.prog ops S op (.agg T) a :=
  .inl ⟨hw, fun w _ => by
    have hf : Tryz.prog.built t (#[(i0, x0), (i1, x1)].map fun (i, x) => (i, a.eval x)).toList = some T := by
      rw [← hT]
      simp [h0, h1]
    have h := run_build w t _ T hf
    unfold execOp
    simp only [ho, Sem.run_bind, h, Result.andThen_ok, Sem.run_pure]⟩
theorem blk_lt {w : World} {g : Nat} {o : Obj} (h : w.heap[g]? = some o) : g < w.heap.size := (Array.getElem?_eq_some_iff.1 h).1
theorem cell_of {w : World} {g k : Nat} {cs : Array Value} {t : TypeId} (h : w.heap[g]? = some (.cells cs t (0, 0))) (hk : k < cs.size) : ∃ x, w.cell? ⟨g, k, none⟩ = some x ∧ w.frozen? ⟨g, k, none⟩ = false :=
  ⟨cs[k], by simp [World.cell?, h, hk], by simp [World.frozen?, h]⟩
theorem copy_src {w5 : World} {B : Nat} {hs : Array Value} (hi : w5.heap[B]? = some (.cells hs 25 (0, 0))) (j : Nat) (v : Value) (hj : (hs.toList.take 20)[j]? = some v) : w5.drew.cell? ((⟨B, 0, none⟩ : Addr).add j) = some v := by
  have hj' : j < 20 := by
    have := (List.getElem?_eq_some_iff.1 hj).1
    rw [List.length_take] at this
    omega
  have hadd : (⟨B, 0, none⟩ : Addr).add j = ⟨B, j, none⟩ := by unfold Addr.add; split <;> simp_all
  rw [List.getElem?_take_of_lt hj'] at hj
  rw [hadd]
  show w5.cell? ⟨B, j, none⟩ = some v
  simp only [World.cell?, hi]
  simpa using hj
def t52 (b : Int) (a : Option Addr) (n c : Nat) : Array Value := (List.replicate 20 (Value.int .u8 0) ++ ([Value.int .i64 b, Value.slice a n c] : List Value)).toArray
theorem t52_built (b : Int) (a : Option Addr) (n c : Nat) : Tryz.prog.built 82 [(1, .int .i64 b), (2, .slice a n c)] = some (t52 b a n c) := by kernel_rfl
def t57 (b : Int) (a : Option Addr) (n c : Nat) (a' : Option Addr) (n' c' : Nat) : Array Value := (List.replicate 20 (Value.int .u8 0) ++ ([Value.int .i64 b, Value.slice a n c, .pointer none, .bool false, .int .i64 0, .bool false, .bool false, .bool false, .bool false, .bool false, .bool false, .slice a' n' c'] : List Value)).toArray
theorem t57_built (b : Int) (a : Option Addr) (n c : Nat) (a' : Option Addr) (n' c' : Nat) : Tryz.prog.built 87 [(0, .agg (t52 b a n c)), (6, .slice a' n' c')] = some (t57 b a n c a' n' c') := by kernel_rfl
set_option maxHeartbeats 2000000 in
set_option maxRecDepth 100000 in
theorem new5 (b v : Int) (hs : Array Value) (lv : Value) (L : List Int) (w : World) (hl : L.length * 8 ≤ 140737488351232) (hr : Bs.RZ w lv L) (h32 : hs.size = 32) (h1c : hs.all (·.oneCell') = true) :
    Calls Tryz.prog 10 #[Bs.sc b v, .agg hs, lv] w fun e w' => ∃ p, e = .returned (.tuple #[p, .int .i64 (nwE b v L)]) ∧ PP p (nwE b v L) ∧ Below w.heap.size w w' := by
  have HG : Hid (∀ u, Calls Tryz.prog 32 #[Bs.sc b v] u fun e w' => e = .returned (.int .i64 (Bs.gd b v)) ∧ Below u.heap.size u w') := fun u => Bs.good6 b v u
  have HR : Hid (Bs.RZ w lv L ∧ hs.size = 32 ∧ hs.all (·.oneCell') = true) := ⟨hr, h32, h1c⟩
  obtain ⟨a1, c1, rfl, _, _⟩ := hr
  clear h32 h1c
  by_cases hg : Bs.gd b v = 0
  · obtain ⟨b0, b1⟩ := gd_zero hg
    have HGz : Hid (Bs.gd b v = 0) := hg
    rw [hg] at HG
    clear hg
    have hmf : ∀ (fn : Fn) (first cap : Array Value) (w : World), (Instr.makeFunc fn first cap).run Tryz.prog w = .ok (.func fn first cap) w := fun _ _ _ _ => rfl
    by_cases hlen : 65536 < L.length
    · have hE : nwE b v L = 2 := by unfold nwE; rw [HGz.out, if_pos rfl, if_pos (.inl hlen)]
      rw [hE]
      clear hE
      go_enter Tryz.func10, Tryz.ntmps10
      go_wp2_with fail
      refine (HG.out _).mono ?_
      rintro e w1 ⟨rfl, hb1⟩
      have HB := Lib.hid ((SB.start b v hs w).next hb1)
      clear hb1
      go_wp2
      go_ret2
      exact ⟨_, rfl, ⟨fun h => by omega, fun _ => rfl⟩, HB.out.bel⟩
    · have HCA : Hid (∀ u, SB w b hs u → Calls Tryz.prog 34 #[.slice a1 L.length c1, .func (.func 33) #[] #[.pointer (some ⟨w.heap.size, 0, none⟩)]] u fun e w' => e = .returned (.bool (L.any (Bs.bad b))) ∧ ∃ n, w' = u.drewN n) := fun u hu =>
        Bs.contains10 (.slice a1 L.length c1) L b b0 b1 w.heap.size u (by omega) (HR.out.1.keep hu.bel) hu.blk
      cases hbad : L.any (Bs.bad b)
      · have hE : nwE b v L = 0 := by unfold nwE; rw [HGz.out, if_pos rfl, if_neg (by rw [hbad]; simp; omega)]
        rw [hE]
        rw [hbad] at HCA
        clear hE hbad
        go_enter Tryz.func10, Tryz.ntmps10
        go_wp2_with fail
        refine (HG.out _).mono ?_
        rintro e w1 ⟨rfl, hb1⟩
        have HB := Lib.hid ((SB.start b v hs w).next hb1)
        clear hb1
        go_wp2_with fail
        refine (HCA.out _ HB.out).mono ?_
        rintro e w2 ⟨rfl, n2, rfl⟩
        have HB2 := Lib.hid (HB.out.next (belowDrew w1 n2))
        have HM : Hid (Calls Tryz.prog 17 #[.int .i64 (L.length : Int)] (w1.drewN n2) fun e w' => ∃ v, e = .returned (.tuple #[v, .int .i64 0]) ∧ OW (w1.drewN n2).heap.size w' v (List.replicate ((L.length + 7) / 8) 0) ∧ Below (w1.drewN n2).heap.size (w1.drewN n2) w') := Bs.make13_ow L.length (by omega) _
        clear HCA HB
        go_wp2_with fail
        refine HM.out.mono ?_
        rintro e w3 ⟨hv, rfl, ho3, hb3⟩
        obtain ⟨a3, c3, rfl⟩ := ho3.form
        have HB3 := Lib.hid (HB2.out.next hb3)
        rw [List.length_replicate] at *
        generalize (L.length + 7) / 8 = n3 at *
        clear HM hb3 ho3 HB2
        have HCL : Hid (∀ u, SB w b hs u → Calls Tryz.prog 35 #[.slice a1 L.length c1] u fun e w' => ∃ v', e = .returned v' ∧ Bs.OZ u.heap.size w' v' L ∧ Below u.heap.size u w') := fun u hu => Bs.clone12 _ L u (HR.out.1.keep hu.bel) hl
        go_upto_region 10 with fail
        refine wp_region_held_drew (S := SB w b hs) (by kernel_rfl) (HB3.out.next (belowDrew w3 1)) (fun hHeld => ?_)
        refine wpAnyH_take (i := 0) (v := .pointer (some ⟨w.heap.size, 0, none⟩)) rfl (by kernel_rfl) (by kernel_rfl) (by kernel_rfl) (fun _ _ _ h => h) (Or.inl ⟨by rfl, fun w hw => by go_simp⟩) hHeld ?_
        simp only [Act.put, List.getElem_toArray, List.getElem_cons_zero, List.setIfInBounds_toArray, List.set_cons_zero, List.set_cons_succ]
        refine wpAnyH_take (i := 1) (v := .int .i64 b) rfl (by kernel_rfl) (by kernel_rfl) (by kernel_rfl) (fun _ _ _ h => h) (Or.inl ⟨by rfl, fun w hw => by have hq := hw.blk; go_simp⟩) hHeld ?_
        simp only [Act.put, List.getElem_toArray, List.getElem_cons_zero, List.getElem_cons_succ, List.setIfInBounds_toArray, List.set_cons_zero, List.set_cons_succ]
        refine wpAnyH_take (i := 2) (v := .slice a1 L.length c1) rfl (by kernel_rfl) (by kernel_rfl) (by kernel_rfl) (fun _ _ _ h => h) (Or.inl ⟨by rfl, fun w hw => by go_simp⟩) hHeld ?_
        simp only [Act.put, List.getElem_toArray, List.getElem_cons_zero, List.getElem_cons_succ, List.setIfInBounds_toArray, List.set_cons_zero, List.set_cons_succ]
        refine wpAnyH_take (i := 5) (v := .slice a3 n3 c3) rfl (by kernel_rfl) (by kernel_rfl) (by kernel_rfl) (fun _ _ _ h => h) (Or.inl ⟨by rfl, fun w hw => by go_simp⟩) hHeld ?_
        simp only [Act.put, List.getElem_toArray, List.getElem_cons_zero, List.getElem_cons_succ, List.setIfInBounds_toArray, List.set_cons_zero, List.set_cons_succ]
        refine wpAnyH_ready (rs := [3]) (by kernel_rfl) (by simp) ?_
        refine AllReadyH.cons (o := _) rfl (fun K hK => ?_) AllReadyH.nil
        go_simp
        refine (HCL.out _ (HB3.out.next (belowDrew w3 1))).mono ?_
        rintro e w4 ⟨v4, rfl, o4, b4⟩
        obtain ⟨a4, c4, rfl⟩ := o4.form
        have HB4 := Lib.hid ((HB3.out.next (belowDrew w3 1)).next b4)
        clear o4 b4 HB3 HCL
        go_wp2_with fail
        refine hK.out _ _ HB4.out (fun hHeld => ?_)
        clear hK K
        refine wpAnyH_take (i := 4) (v := .agg (t52 b a4 L.length c4)) rfl (by kernel_rfl) (by kernel_rfl) (by kernel_rfl) (fun _ _ _ h => h) (yieldsIf_built2 (by rfl) 82 1 2 _ _ rfl (.int .i64 b) (.slice a4 L.length c4) rfl rfl _ (t52_built b a4 L.length c4)) hHeld ?_
        simp only [Act.put, List.getElem_toArray, List.getElem_cons_zero, List.getElem_cons_succ, List.setIfInBounds_toArray, List.set_cons_zero, List.set_cons_succ]
        refine wpAnyH_take (i := 6) (v := .agg (t57 b a4 L.length c4 a3 n3 c3)) rfl (by kernel_rfl) (by kernel_rfl) (by kernel_rfl) (fun _ _ _ h => h) (yieldsIf_built2 (by rfl) 87 0 6 _ _ rfl (.agg (t52 b a4 L.length c4)) (.slice a3 n3 c3) rfl rfl _ (t57_built b a4 L.length c4 a3 n3 c3)) hHeld ?_
        simp only [Act.put, List.getElem_toArray, List.getElem_cons_zero, List.getElem_cons_succ, List.setIfInBounds_toArray, List.set_cons_zero, List.set_cons_succ]
        refine wpAnyH_ready (rs := [7]) (by kernel_rfl) (by simp) ?_
        refine AllReadyH.cons (o := _) rfl (fun K hK => ?_) AllReadyH.nil
        go_simp
        have HB5 : Hid (SB w b hs (w4.alloc (.cells (t57 b a4 L.length c4 a3 n3 c3) 87))) := HB4.out.next ((Below.refl _ _).alloc (Nat.le_refl _) _)
        have HP5 : Hid (PB w w4.heap.size (w4.alloc (.cells (t57 b a4 L.length c4 a3 n3 c3) 87))) := ⟨HB4.out.sz, _, heapNew _ _, rfl⟩
        obtain ⟨w5, hw5⟩ : ∃ x, x = w4.alloc (.cells (t57 b a4 L.length c4 a3 n3 c3) 87) := ⟨_, rfl⟩
        rw [← hw5] at HB5 HP5 ⊢
        clear hw5
        generalize w4.heap.size = g at *
        refine hK.out _ _ HB5.out (fun hHeld => ?_)
        clear hK K HB4
        refine wpAnyH_take (i := 8) (v := .pointer (some ⟨g, 0, none⟩)) rfl (by kernel_rfl) (by kernel_rfl) (by kernel_rfl) (fun _ _ _ h => h) (Or.inl ⟨by rfl, fun w hw => by go_simp⟩) hHeld ?_
        simp only [Act.put, List.getElem_toArray, List.getElem_cons_zero, List.getElem_cons_succ, List.setIfInBounds_toArray, List.set_cons_zero, List.set_cons_succ]
        refine wpAnyH_done (by kernel_rfl) ?_ _
        clear hHeld
        generalize t52 b a4 L.length c4 = T52 at *
        generalize t57 b a4 L.length c4 a3 n3 c3 = T57 at *
        obtain ⟨cs, hcs, hcsz⟩ := HP5.out.2
        have HC5 : Hid (w5.heap[g]? = some (.cells cs 87 (0, 0))) := hcs
        have hcp : ∀ ty, (Builtin.copy_ #[31, 31] ty #[.slice (some ⟨g, 0, none⟩) 20 20, .slice (some ⟨w.heap.size + 1, 0, none⟩) 32 32]).run Tryz.prog w5.drew = .ok (goInt (hs.toList.take 20).length) (w5.drew.setRow g (cs.toList.take 0 ++ hs.toList.take 20 ++ cs.toList.drop (0 + (hs.toList.take 20).length)).toArray) := fun ty =>
          run_copy_row (P := Tryz.prog) w5.drew 31 31 ty 5 g 0 20 20 ⟨w.heap.size + 1, 0, none⟩ 32 32 cs 87 (hs.toList.take 20) Tryz.underlying31 (by kernel_rfl) hcs (by rw [List.length_take, Array.length_toList, HR.out.2.1]; rfl)
            (fun j v hj => copy_src HB5.out.inf j v hj) (by rw [List.length_take, Array.length_toList, HR.out.2.1]; omega) (fun v hv => Array.all_eq_true_iff_forall_mem.1 HR.out.2.2 v (by simpa using List.mem_of_mem_take hv))
        obtain ⟨n20, hn20⟩ : ∃ n, n = (hs.toList.take 20).length := ⟨_, rfl⟩
        rw [← hn20] at hcp
        have hz6 : (cs.toList.take 0 ++ hs.toList.take 20 ++ cs.toList.drop (0 + n20)).toArray.size = 32 := by
          have h0 := HR.out.2.1
          rw [List.length_take, Array.length_toList] at hn20
          simp
          omega
        obtain ⟨ct, hct⟩ : ∃ x, x = (cs.toList.take 0 ++ hs.toList.take 20 ++ cs.toList.drop (0 + n20)).toArray := ⟨_, rfl⟩
        rw [← hct] at hcp hz6
        have HB6 : Hid (SB w b hs (w5.drew.setRow g ct)) := (HB5.out.next (belowDrew w5 1)).next2 (below_setRow (Below.refl _ _) HP5.out.1 ct)
        have HP6 : Hid ((w5.drew.setRow g ct).heap[g]? = some (.cells ct 87 (0, 0)) ∧ ct.size = 32 ∧ w.heap.size + 2 ≤ g) := ⟨setRow_heap w5.drew g cs ct 87 _ hcs, hz6, HP5.out.1⟩
        obtain ⟨w6, hw6⟩ : ∃ x, x = w5.drew.setRow g ct := ⟨_, rfl⟩
        rw [← hw6] at hcp HB6 HP6
        clear hct hn20 hz6 hcs hcsz HC5 hw6 HP5
        go_upto_region 11 with fail
        refine wp_region_held_drew (S := SB w b hs) (by kernel_rfl) (HB5.out.next (belowDrew w5 1)) (fun hHeld => ?_)
        refine wpAnyH_take (i := 0) (v := .pointer (some ⟨g, 0, none⟩)) rfl (by kernel_rfl) (by kernel_rfl) (by kernel_rfl) (fun _ _ _ h => h) (Or.inl ⟨by rfl, fun w hw => by go_simp⟩) hHeld ?_
        simp only [Act.put, List.getElem_toArray, List.getElem_cons_zero, List.setIfInBounds_toArray, List.set_cons_zero, List.set_cons_succ]
        refine wpAnyH_take (i := 1) (v := .pointer (some ⟨g, 0, none⟩)) rfl (by kernel_rfl) (by kernel_rfl) (by kernel_rfl) (fun _ _ _ h => h) (Or.inl ⟨by rfl, fun w hw => by go_simp⟩) hHeld ?_
        simp only [Act.put, List.getElem_toArray, List.getElem_cons_zero, List.getElem_cons_succ, List.setIfInBounds_toArray, List.set_cons_zero, List.set_cons_succ]
        refine wpAnyH_take (i := 2) (v := .pointer (some ⟨g, 0, none⟩)) rfl (by kernel_rfl) (by kernel_rfl) (by kernel_rfl) (fun _ _ _ h => h) (Or.inl ⟨by rfl, fun w hw => by go_simp⟩) hHeld ?_
        simp only [Act.put, List.getElem_toArray, List.getElem_cons_zero, List.getElem_cons_succ, List.setIfInBounds_toArray, List.set_cons_zero, List.set_cons_succ]
        refine wpAnyH_take (i := 3) (v := .pointer (some ⟨g, 0, none⟩)) rfl (by kernel_rfl) (by kernel_rfl) (by kernel_rfl) (fun _ _ _ h => h) (Or.inl ⟨by rfl, fun w hw => by go_simp⟩) hHeld ?_
        simp only [Act.put, List.getElem_toArray, List.getElem_cons_zero, List.getElem_cons_succ, List.setIfInBounds_toArray, List.set_cons_zero, List.set_cons_succ]
        refine wpAnyH_take (i := 4) (v := .slice (some ⟨g, 0, none⟩) 20 20) rfl (by kernel_rfl) (by kernel_rfl) (by kernel_rfl) (fun _ _ _ h => h) (Or.inl ⟨by rfl, fun w hw => by go_simp⟩) hHeld ?_
        simp only [Act.put, List.getElem_toArray, List.getElem_cons_zero, List.getElem_cons_succ, List.setIfInBounds_toArray, List.set_cons_zero, List.set_cons_succ]
        refine wpAnyH_take (i := 5) (v := .slice (some ⟨w.heap.size + 1, 0, none⟩) 32 32) rfl (by kernel_rfl) (by kernel_rfl) (by kernel_rfl) (fun _ _ _ h => h) (Or.inl ⟨by rfl, fun w hw => by go_simp⟩) hHeld ?_
        simp only [Act.put, List.getElem_toArray, List.getElem_cons_zero, List.getElem_cons_succ, List.setIfInBounds_toArray, List.set_cons_zero, List.set_cons_succ]
        refine wpAnyH_ready (rs := [6]) (by kernel_rfl) (by simp) ?_
        refine AllReadyH.cons (o := _) rfl (fun K hK => ?_) AllReadyH.nil
        go_simp
        refine hK.out _ _ HB6.out (fun hHeld => ?_)
        clear hK K hcp HB5
        refine wpAnyH_done (by kernel_rfl) ?_ _
        clear hHeld
        go_wp2_with fail
        refine (fnewP w6).mono ?_
        rintro e w7 ⟨p7, rfl, b7⟩
        have HB7 := Lib.hid (HB6.out.next b7)
        have hg7 := (b7.block g (blk_lt HP6.out.1)).trans HP6.out.1
        obtain ⟨x22, c22, f22⟩ := cell_of hg7 (k := 22) (by rw [HP6.out.2.1]; omega)
        obtain ⟨x25, c25, f25⟩ := cell_of hg7 (k := 25) (by rw [HP6.out.2.1]; omega)
        obtain ⟨x28, c28, f28⟩ := cell_of hg7 (k := 28) (by rw [HP6.out.2.1]; omega)
        clear b7 hg7 HB6
        go_wp2
        go_ret2
        have hgg : w.heap.size ≤ g := by have := HP6.out.2.2; omega
        exact ⟨_, rfl, ⟨fun _ => ⟨_, rfl⟩, fun h => absurd rfl h⟩, (((HB7.out.bel.setCell (p := ⟨g, 22, none⟩) hgg _).setCell (p := ⟨g, 25, none⟩) hgg _).setCell (p := ⟨g, 28, none⟩) hgg _)⟩
      · have hE : nwE b v L = 2 := by unfold nwE; rw [HGz.out, if_pos rfl, if_pos (.inr hbad)]
        rw [hE]
        rw [hbad] at HCA
        clear hE hbad
        go_enter Tryz.func10, Tryz.ntmps10
        go_wp2_with fail
        refine (HG.out _).mono ?_
        rintro e w1 ⟨rfl, hb1⟩
        have HB := Lib.hid ((SB.start b v hs w).next hb1)
        clear hb1
        go_wp2_with fail
        refine (HCA.out _ HB.out).mono ?_
        rintro e w2 ⟨rfl, n2, rfl⟩
        have HB2 := Lib.hid (HB.out.next (belowDrew w1 n2))
        clear HCA HB
        go_wp2
        go_ret2
        exact ⟨_, rfl, ⟨fun h => by omega, fun _ => rfl⟩, HB2.out.bel⟩
  · have ht := gd_ten hg
    have hE : nwE b v L = 10 := by unfold nwE; rw [if_neg hg]
    rw [ht] at HG
    rw [hE]
    clear hg ht hE
    go_enter Tryz.func10, Tryz.ntmps10
    go_wp2_with fail
    refine (HG.out _).mono ?_
    rintro e w1 ⟨rfl, hb1⟩
    have HB := Lib.hid ((SB.start b v hs w).next hb1)
    clear hb1
    go_wp2
    go_ret2
    exact ⟨_, rfl, ⟨fun h => by omega, fun _ => rfl⟩, HB.out.bel⟩
end Go.Proofs.YtnmeohacdbmplaaGreatDoor
