import Derived.Test.YtnpcbcfjnhjmmaaGreatDoorV34
import Derived.Test.YtnpcbcfjnhjmmaaGreatDoorV35
import Derived.Test.YtnpcbcfjnhjmmaaGreatDoorV36
namespace Go.Proofs.YtnpcbcfjnhjmmaaGreatDoor
open Go.Shelf Go.RowKit Go.Deep
attribute [local go_sem] Oper.semAt_some
theorem wpListIn_load_row {F : Fence} {n : Nat} {ops : Array Oper} {rest : List Oper} {o : Oper} {a : Act} {w : World} {Q : Exit → Act → World → Prop} (hgd : o.guard = none) (x : Operand) (ho : o.op = .load 28 x)
    (g : Nat) (hx : a.eval x = .pointer (some ⟨g, 0, none⟩)) {l : List UInt8} {nm : ByteArray} {tr pe on mo : Value} (hg : LB w g l nm tr pe on mo) (hl : l.length = 32)
    (h : wpListIn F n Tryz.prog ops Q rest (a.put o.dst (.agg (lkC l nm tr pe on mo))) w) : wpListIn F n Tryz.prog ops Q (o :: rest) a w := by
  refine wpListIn_plain hgd fun K hK' => ?_
  unfold Oper.wpIn
  refine ⟨?_, ?_⟩
  · simp [Oper.about, ho]
  · rw [Oper.semAt_plain F _ _ (by rw [ho]; intro c hc'; cases hc')]
    unfold execOp
    simp only [ho, hx, Instr.loadAt, Instr.sureAddr, Sem.run_bind, Sem.run_pure, Result.andThen_ok, run_loadVar_row w g 28 28 _ (0, 0) _ hg Tryz.underlying28 rfl (infoLk hl)]
    exact hK' _ _ h
theorem isAgg9 (u : World) : (isAgg 9).run Tryz.prog u = .ok false u := by kernel_rfl
theorem iter58_stops (n : Nat) (hn : 1 ≤ n) (w0 : World) (k : Lk) (hk : k.ok) (hrn : k.rs.length ≤ 4096) (hok : ∀ x ∈ k.rs, RnOk x ∧ x.1 + x.2 ≤ 4096) (tr pe on mo : Value) (hr : RL4 (fun _ => True) w0 k tr pe on mo) (hT : IT w0) (g : Nat) (w : World) (hw : KW w0 g k tr pe on mo w) :
    SeqStopsK Fence.wide n Tryz.prog 74 #[.pointer (some ⟨g, 0, none⟩)] kvV (KG w0 g) (fun ys => ys = prm k) (fun pre => pre <+: prm k) (3 + k.ts.length + k.ps.length + k.dn + 1) w := fun lp J Jx W hW hJ _ hY h0 =>
  iter58 n hn w0 k hk hrn hok tr pe on mo hr hT lp g J Jx W hJ (hw.below hW) hY h0
/-- what stands ahead of a parameter -/
def ahL (pre : List KV) : List UInt8 := if pre.isEmpty then scm else [38]
theorem wS_ah (pre : List KV) (x : KV) : wS (pre ++ [x]) = wS pre ++ ahL pre ++ pcT x := by
  cases pre with
  | nil => rw [List.nil_append, wS_one]; simp [wS, ahL]
  | cons a t => rw [wS_snoc _ _ (by simp)]; simp [ahL]
theorem ahL_snoc (pre : List KV) (x : KV) : ahL (pre ++ [x]) = [38] := by cases pre <;> rfl
theorem ahL_len (pre : List KV) : (ahL pre).length ≤ 8 := by cases pre <;> simp [ahL, scm]
def wrE (k : Lk) : Ending := if (wS (prm k)).length ≤ 4096 then .returned (.tuple #[.string (bs (wS (prm k))), .bool true]) else .returned (.tuple #[.string ⟨#[]⟩, .bool false])
theorem prm_ne (k : Lk) : wS (prm k) ≠ [] := by
  rw [prm_eq, wS_app _ _ (by simp [p1]), wS_p1]
  simp [bgn]
theorem wpIn_share {F : Fence} {n : Nat} {P : Program} {id : Nat} {ops : Array Oper} {Q : Exit → Act → World → Prop} {a : Act} {w : World} (fr : Act) (C : World → Prop) (h1 : ∀ w9, C w9 → Q .normal fr w9) (h2 : (∀ w9, C w9 → Q .normal fr w9) → (Code.region id ops true).wpIn F n P Q a w) : (Code.region id ops true).wpIn F n P Q a w := h2 h1
theorem app_bs (a b : List UInt8) : bs a ++ bs b = bs (a ++ b) := app_str a b
/-- the world behind a write -/
structure FN (w : World) (H g : Nat) (pre : List KV) (x : KV) (w2 W w9 : World) : Prop where
  ko : KeepsOthers W w9
  kg : KG w g W w9
  b1 : Boxed w9 (H + 1) 9 (.string ⟨#[]⟩)
  b2 : Boxed w9 (H + 1 + 1) 4 (.bool false)
  bd : BD w2.heap.size (H + 1 + 1 + 1) (wS (pre ++ [x])) w9
  b4 : Boxed w9 (H + 1 + 1 + 1 + 1) 9 (.string (bs (ahL pre)))
  bl : Below H w w9
  sz : w2.heap.size ≤ w9.heap.size
  gg : w9.heap[g]? = w2.heap[g]?
theorem fn_of {w w2 W w9 u : World} {H g : Nat} {pre : List KV} {x : KV} (h5 : H + 1 + 1 + 1 + 1 < g) (hgs : g < w2.heap.size) (hsz : H ≤ w2.heap.size) (hH : w.heap.size = H)
    (hi : (wS pre).length ≤ 4096 ∧ Boxed W (H + 1) 9 (.string ⟨#[]⟩) ∧ Boxed W (H + 1 + 1) 4 (.bool false) ∧ BD w2.heap.size (H + 1 + 1 + 1) (wS pre) W ∧ Boxed W (H + 1 + 1 + 1 + 1) 9 (.string (bs (ahL pre))) ∧ Below H w W ∧ w2.heap.size ≤ W.heap.size ∧ W.heap[g]? = w2.heap[g]?)
    (hu : Below W.heap.size W u) (hbd : BD w2.heap.size (H + 1 + 1 + 1) (wS (pre ++ [x])) w9) (hk : KX w2.heap.size (H + 1 + 1 + 1) u w9) : FN w H g pre x w2 W w9 := by
  obtain ⟨_, h1, h2, _, h4, hB, hs, hg⟩ := hi
  have hx : KX w2.heap.size (H + 1 + 1 + 1) W w9 := (KX.below hu).trans hk
  have lo : ∀ j, j < w2.heap.size → j ≠ H + 1 + 1 + 1 → w9.heap[j]? = W.heap[j]? := fun j hj hn => hx.low j hj (by omega) hn
  have hbb : Below H W w9 := ⟨hx.os, hx.tape, hx.output, hx.size, fun j hj => lo j (by omega) (by omega)⟩
  exact ⟨⟨hx.size, hx.same⟩, ⟨by rw [hH]; exact hbb, lo g hgs (by omega)⟩, (lo _ (by omega) (by omega)).trans h1, (lo _ (by omega) (by omega)).trans h2, hbd, (lo _ (by omega) (by omega)).trans h4, hB.trans hbb, Nat.le_trans hs hx.size, (lo g hgs (by omega)).trans hg⟩
theorem fn_next {w w2 W w9 : World} {H g : Nat} {pre : List KV} {x : KV} (h5 : H + 1 + 1 + 1 + 1 < g) (hgs : g < w2.heap.size) (hsz : H ≤ w2.heap.size) (hH : w.heap.size = H) (h : FN w H g pre x w2 W w9) (hz : ¬ 4096 < (wS (pre ++ [x])).length) :
    KeepsOthers W (w9.setCell ⟨H + 1 + 1 + 1 + 1, 0, none⟩ (.string ⟨#[38]⟩)) ∧ KG w g W (w9.setCell ⟨H + 1 + 1 + 1 + 1, 0, none⟩ (.string ⟨#[38]⟩)) ∧
    ((wS (pre ++ [x])).length ≤ 4096 ∧ Boxed (w9.setCell ⟨H + 1 + 1 + 1 + 1, 0, none⟩ (.string ⟨#[38]⟩)) (H + 1) 9 (.string ⟨#[]⟩) ∧ Boxed (w9.setCell ⟨H + 1 + 1 + 1 + 1, 0, none⟩ (.string ⟨#[38]⟩)) (H + 1 + 1) 4 (.bool false) ∧ BD w2.heap.size (H + 1 + 1 + 1) (wS (pre ++ [x])) (w9.setCell ⟨H + 1 + 1 + 1 + 1, 0, none⟩ (.string ⟨#[38]⟩)) ∧ Boxed (w9.setCell ⟨H + 1 + 1 + 1 + 1, 0, none⟩ (.string ⟨#[38]⟩)) (H + 1 + 1 + 1 + 1) 9 (.string (bs (ahL (pre ++ [x])))) ∧ Below H w (w9.setCell ⟨H + 1 + 1 + 1 + 1, 0, none⟩ (.string ⟨#[38]⟩)) ∧ w2.heap.size ≤ (w9.setCell ⟨H + 1 + 1 + 1 + 1, 0, none⟩ (.string ⟨#[38]⟩)).heap.size ∧ (w9.setCell ⟨H + 1 + 1 + 1 + 1, 0, none⟩ (.string ⟨#[38]⟩)).heap[g]? = w2.heap[g]?) := by
  have hbl : ∀ {A : World}, Below H A w9 → Below H A (w9.setCell ⟨H + 1 + 1 + 1 + 1, 0, none⟩ (.string ⟨#[38]⟩)) := fun hb => hb.setCell (p := ⟨H + 1 + 1 + 1 + 1, 0, none⟩) (by show H ≤ H + 1 + 1 + 1 + 1; omega) _
  have hoth : ∀ j, j ≠ H + 1 + 1 + 1 + 1 → (w9.setCell ⟨H + 1 + 1 + 1 + 1, 0, none⟩ (.string ⟨#[38]⟩)).heap[j]? = w9.heap[j]? := fun j hj => Below.heap_setCell _ _ _ _ hj
  refine ⟨h.ko.trans (KeepsOthers.setCell _ _ _), ⟨?_, (hoth g (by omega)).trans h.kg.2⟩, Nat.le_of_not_lt hz, h.b1.other (by omega) _, h.b2.other (by omega) _, h.bd.kx (hoth _ (by omega)) (fun j hj _ => hoth j (by omega)), ?_, hbl h.bl, by simpa using h.sz, (hoth g (by omega)).trans h.gg⟩
  · have h9 := h.kg.1
    rw [hH] at h9 ⊢
    exact hbl h9
  · rw [ahL_snoc]
    exact h.b4.set _
set_option maxRecDepth 100000 in
set_option maxHeartbeats 4000000 in
theorem written (k : Lk) (tr pe on mo : Value) (w : World) (hk : k.ok) (hrn : k.rs.length ≤ 4096) (hok : ∀ x ∈ k.rs, RnOk x ∧ x.1 + x.2 ≤ 4096) (hT : IT w) (hBT : BT w) (hr : RL4 (fun _ => True) w k tr pe on mo) :
    Calls Tryz.prog 28 #[.agg (lkC k.l k.nm tr pe on mo)] w fun e w' => e = wrE k ∧ Below w.heap.size w w' := by
  refine (callsIn_wide (n := 6)).1 ?_
  have hl := hk.l
  have b0 : LB (w.alloc (.cells (lkC k.l k.nm tr pe on mo) 28)) w.heap.size k.l k.nm tr pe on mo := heap_new _ _
  have b1 := Boxed.new (w.alloc (.cells (lkC k.l k.nm tr pe on mo) 28)) 9 (.string ⟨#[]⟩)
  have b2 := Boxed.new ((w.alloc (.cells (lkC k.l k.nm tr pe on mo) 28)).alloc (.cells #[.string ⟨#[]⟩] 9)) 4 (.bool false)
  have b3 := fun B : Nat => BD.fresh B (((w.alloc (.cells (lkC k.l k.nm tr pe on mo) 28)).alloc (.cells #[.string ⟨#[]⟩] 9)).alloc (.cells #[.bool false] 4))
  have b4 := Boxed.new ((((w.alloc (.cells (lkC k.l k.nm tr pe on mo) 28)).alloc (.cells #[.string ⟨#[]⟩] 9)).alloc (.cells #[.bool false] 4)).alloc (.cells #[.pointer none, .slice none 0 0] 94)) 9 (.string ⟨#[109, 97, 103, 110, 101, 116, 58, 63]⟩)
  simp only [World.size_alloc] at b0 b1 b2 b3 b4
  have HA : Hid (Below w.heap.size w (((((w.alloc (.cells (lkC k.l k.nm tr pe on mo) 28)).alloc (.cells #[.string ⟨#[]⟩] 9)).alloc (.cells #[.bool false] 4)).alloc (.cells #[.pointer none, .slice none 0 0] 94)).alloc (.cells #[.string ⟨#[109, 97, 103, 110, 101, 116, 58, 63]⟩] 9)) ∧
      LB (((((w.alloc (.cells (lkC k.l k.nm tr pe on mo) 28)).alloc (.cells #[.string ⟨#[]⟩] 9)).alloc (.cells #[.bool false] 4)).alloc (.cells #[.pointer none, .slice none 0 0] 94)).alloc (.cells #[.string ⟨#[109, 97, 103, 110, 101, 116, 58, 63]⟩] 9)) w.heap.size k.l k.nm tr pe on mo ∧
      Boxed (((((w.alloc (.cells (lkC k.l k.nm tr pe on mo) 28)).alloc (.cells #[.string ⟨#[]⟩] 9)).alloc (.cells #[.bool false] 4)).alloc (.cells #[.pointer none, .slice none 0 0] 94)).alloc (.cells #[.string ⟨#[109, 97, 103, 110, 101, 116, 58, 63]⟩] 9)) (w.heap.size + 1) 9 (.string ⟨#[]⟩) ∧
      Boxed (((((w.alloc (.cells (lkC k.l k.nm tr pe on mo) 28)).alloc (.cells #[.string ⟨#[]⟩] 9)).alloc (.cells #[.bool false] 4)).alloc (.cells #[.pointer none, .slice none 0 0] 94)).alloc (.cells #[.string ⟨#[109, 97, 103, 110, 101, 116, 58, 63]⟩] 9)) (w.heap.size + 1 + 1) 4 (.bool false) ∧
      (∀ B, BD B (w.heap.size + 1 + 1 + 1) [] (((((w.alloc (.cells (lkC k.l k.nm tr pe on mo) 28)).alloc (.cells #[.string ⟨#[]⟩] 9)).alloc (.cells #[.bool false] 4)).alloc (.cells #[.pointer none, .slice none 0 0] 94)).alloc (.cells #[.string ⟨#[109, 97, 103, 110, 101, 116, 58, 63]⟩] 9))) ∧
      Boxed (((((w.alloc (.cells (lkC k.l k.nm tr pe on mo) 28)).alloc (.cells #[.string ⟨#[]⟩] 9)).alloc (.cells #[.bool false] 4)).alloc (.cells #[.pointer none, .slice none 0 0] 94)).alloc (.cells #[.string ⟨#[109, 97, 103, 110, 101, 116, 58, 63]⟩] 9)) (w.heap.size + 1 + 1 + 1 + 1) 9 (.string ⟨#[109, 97, 103, 110, 101, 116, 58, 63]⟩)) :=
    ⟨(((((Below.refl _ _).alloc (Nat.le_refl _) _).alloc (by simp only [World.size_alloc]; omega) _).alloc (by simp only [World.size_alloc]; omega) _).alloc (by simp only [World.size_alloc]; omega) _).alloc (by simp only [World.size_alloc]; omega) _,
      b0.keep (by rw [Below.heap_alloc _ _ _ (by simp only [World.size_alloc]; omega), Below.heap_alloc _ _ _ (by simp only [World.size_alloc]; omega), Below.heap_alloc _ _ _ (by simp only [World.size_alloc]; omega), Below.heap_alloc _ _ _ (by simp only [World.size_alloc]; omega)]), ((b1.alloc _).alloc _).alloc _, (b2.alloc _).alloc _, fun B => (b3 B).kx (Below.heap_alloc _ _ _ (by simp only [World.size_alloc]; omega)) (fun j _ h2 => Below.heap_alloc _ _ _ h2), b4⟩
  have HG : Hid (k.ok ∧ k.rs.length ≤ 4096 ∧ (∀ x ∈ k.rs, RnOk x ∧ x.1 + x.2 ≤ 4096) ∧ IT w ∧ BT w ∧ RL4 (fun _ => True) w k tr pe on mo) := ⟨hk, hrn, hok, hT, hBT, hr⟩
  clear b0 b1 b2 b3 b4 hk hrn hok hT hBT hr
  refine callsIn_of_wp_marks Tryz.func28 rfl trivial ?_ rfl
  simp only [Tryz.ntmps28, List.size_toArray, List.length_cons, List.length_nil, Nat.reduceAdd, Nat.reduceSub, Array.replicate_succ, Array.replicate_zero, List.push_toArray, List.append_toArray, List.nil_append, List.cons_append]
  gi_upto_region 3 with fail
  generalize (((((w.alloc (.cells (lkC k.l k.nm tr pe on mo) 28)).alloc (.cells #[.string ⟨#[]⟩] 9)).alloc (.cells #[.bool false] 4)).alloc (.cells #[.pointer none, .slice none 0 0] 94)).alloc (.cells #[.string ⟨#[109, 97, 103, 110, 101, 116, 58, 63]⟩] 9)) = wA at *
  obtain ⟨H, hH⟩ : ∃ H, w.heap.size = H := ⟨_, rfl⟩
  rw [hH] at HA ⊢
  have HH : Hid (w.heap.size = H) := hH
  clear hH
  gi_wp2_with (first | (refine wpListIn_load_row rfl _ rfl H rfl HA.out.2.1 hl ?_))
  refine ⟨trivial, ?_⟩
  refine (callsIn_wide.2 (parameters k tr pe on mo wA)).mono ?_
  rintro e w2 ⟨rfl, hlb, hb2⟩
  obtain ⟨q0, _, q2, q3, q4, q5⟩ := HA.out
  have l5 := q5.lt
  have bx1 : Boxed w2 (H + 1) 9 (.string ⟨#[]⟩) := (hb2.block _ q2.lt).trans q2
  have bx2 : Boxed w2 (H + 1 + 1) 4 (.bool false) := (hb2.block _ q3.lt).trans q3
  have bx4 : Boxed w2 (H + 1 + 1 + 1 + 1) 9 (.string ⟨#[109, 97, 103, 110, 101, 116, 58, 63]⟩) := (hb2.block _ q5.lt).trans q5
  have hbw : Below H w w2 := q0.trans (hb2.mono (by omega))
  have hgs : wA.heap.size < w2.heap.size := hlb.lt
  have bd : BD w2.heap.size (H + 1 + 1 + 1) [] w2 := (q4 w2.heap.size).kx (hb2.block _ (q4 0).lt) (fun j _ hj => hb2.block j hj)
  clear q0 q2 q3 q4 q5 hb2 HA
  have hG5 : H + 1 + 1 + 1 + 1 < wA.heap.size := l5
  obtain ⟨g, hg⟩ : ∃ g, wA.heap.size = g := ⟨_, rfl⟩
  rw [hg] at hlb hgs hG5 l5 ⊢
  clear hg l5
  have HLB := Lib.hid hlb
  have hsz0 : H ≤ w2.heap.size := by omega
  clear hlb
  have hB0 : Below w.heap.size w w2 := by rw [HH.out]; exact hbw
  gi_wp2
  refine wpIn_rangeFunc_ownF rfl (by omega) (gf := 74) (lb := #[.pointer (some ⟨g, 0, none⟩)]) rfl trivial (enters_of Tryz.func74 (by kernel_rfl) rfl)
    (iter58_stops 5 (by omega) w k HG.out.1 HG.out.2.1 HG.out.2.2.1 tr pe on mo HG.out.2.2.2.2.2 HG.out.2.2.2.1 g w2 (KW.of hB0 HLB.out)) KG.trans (KG.put (by rw [HH.out]; omega) hgs) (Below.refl _ _) (fun _ => rfl)
    (fun pre W => (wS pre).length ≤ 4096 ∧ Boxed W (H + 1) 9 (.string ⟨#[]⟩) ∧ Boxed W (H + 1 + 1) 4 (.bool false) ∧ BD w2.heap.size (H + 1 + 1 + 1) (wS pre) W ∧ Boxed W (H + 1 + 1 + 1 + 1) 9 (.string (bs (ahL pre))) ∧ Below H w W ∧ w2.heap.size ≤ W.heap.size ∧ W.heap[g]? = w2.heap[g]?)
    (fun c pre W => c = .ret ∧ 4096 < (wS pre).length ∧ Boxed W (H + 1) 9 (.string ⟨#[]⟩) ∧ Boxed W (H + 1 + 1) 4 (.bool false) ∧ Below H w W)
    (fun pre X Y row hs hg hr => by
      obtain ⟨h0, h1, h2, h3, h4, h5, h6, h7⟩ := hs
      have hr' : ∀ r, row = some r → ∃ o : Obj, X.heap[r]? = some o ∧ o.isCells = false := fun r e => (hr r e).2
      have hx5 := h5.size
      exact ⟨h0, boxed_gr h1 hg hr', boxed_gr h2 hg hr', h3.gr hg hr', boxed_gr h4 hg hr', h5.grown hg (by omega) (fun k e => by have := (hr k e).1; omega), Nat.le_trans h6 hg.size, (hg.block g (by omega) (fun e => by have := (hr g e.symm).1; omega)).trans h7⟩)
    (fun c pre X Y row hs hg hr => by
      obtain ⟨h0, h1, h2, h3, h4⟩ := hs
      have hr' : ∀ r, row = some r → ∃ o : Obj, X.heap[r]? = some o ∧ o.isCells = false := fun r e => (hr r e).2
      exact ⟨h0, h1, boxed_gr h2 hg hr', boxed_gr h3 hg hr', h4.grown hg (by have := h4.size; rw [HH.out] at this; exact this) (fun k e => by have := (hr k e).1; omega)⟩)
    ⟨Nat.zero_le _, bx1, bx2, bd, bx4, hbw, Nat.le_refl _, rfl⟩
    (fun x => { tmps := #[.agg (lkC k.l k.nm tr pe on mo), .pointer (some ⟨H, 0, none⟩), .pointer (some ⟨H + 1, 0, none⟩), .pointer (some ⟨H + 1 + 1, 0, none⟩), .pointer (some ⟨H + 1 + 1 + 1, 0, none⟩), .pointer (some ⟨H + 1 + 1 + 1 + 1, 0, none⟩), .string x.1, .string x.2, .agg (lkC k.l k.nm tr pe on mo), .func (.func 74) #[] #[.pointer (some ⟨g, 0, none⟩)], .string x.1, .string x.2, undef, undef, undef, undef, undef, undef, undef, undef, undef, undef, undef, undef, undef, undef, undef, undef, undef, undef, undef, undef], defers := [] }) ?assign ?body ?done ?stop
  case assign =>
    intro lp x W K hK
    gi_wp2
    exact hK
  case body =>
    rintro lp pre x W ⟨hlen, hb1, hb2, hbd, hb4, hB, hsz, hgg⟩ hlt
    have HI := Lib.hid (And.intro hlen (And.intro hb1 (And.intro hb2 (And.intro hbd (And.intro hb4 (And.intro hB (And.intro hsz hgg)))))))
    have s1 := hb1.cell
    have s1f := hb1.frozen
    have s2 := (hb2.other (B' := H + 1) (by omega) (.string ⟨#[]⟩)).cell
    have s2f := (hb2.other (B' := H + 1) (by omega) (.string ⟨#[]⟩)).frozen
    have HS7 : Hid (KeepsOthers W ((W.setCell ⟨H + 1, 0, none⟩ (.string ⟨#[]⟩)).setCell ⟨H + 1 + 1, 0, none⟩ (.bool false)) ∧ Boxed ((W.setCell ⟨H + 1, 0, none⟩ (.string ⟨#[]⟩)).setCell ⟨H + 1 + 1, 0, none⟩ (.bool false)) (H + 1) 9 (.string ⟨#[]⟩) ∧ Boxed ((W.setCell ⟨H + 1, 0, none⟩ (.string ⟨#[]⟩)).setCell ⟨H + 1 + 1, 0, none⟩ (.bool false)) (H + 1 + 1) 4 (.bool false) ∧ Below H w ((W.setCell ⟨H + 1, 0, none⟩ (.string ⟨#[]⟩)).setCell ⟨H + 1 + 1, 0, none⟩ (.bool false))) :=
      ⟨(KeepsOthers.setCell _ _ _).trans (KeepsOthers.setCell _ _ _), (hb1.set _).other (by omega) _, (hb2.other (by omega) _).set _, (hB.setCell (p := ⟨H + 1, 0, none⟩) (Nat.le_succ _) _).setCell (p := ⟨H + 1 + 1, 0, none⟩) (by show H ≤ H + 1 + 1; omega) _⟩
    clear hlen hb1 hb2 hbd hb4 hB hsz hgg
    by_cases hx1 : 4096 < x.1.size
    · have HBG := Lib.hid (wS_big (ps := pre) (p := x) (.inl hx1))
      clear HI
      gi_wp2
      exact ⟨HS7.out.1, rfl, HBG.out, HS7.out.2⟩
    by_cases hx2 : 4096 < x.2.size
    · have HBG := Lib.hid (wS_big (ps := pre) (p := x) (.inr hx2))
      clear HI
      gi_wp2
      exact ⟨HS7.out.1, rfl, HBG.out, HS7.out.2⟩
    clear s1 s1f s2 s2f
    obtain ⟨ah, hah⟩ : ∃ ah, bs (ahL pre) = ah := ⟨_, rfl⟩
    obtain ⟨ek, hek⟩ : ∃ ek, bs (esc x.1.data.toList) = ek := ⟨_, rfl⟩
    obtain ⟨ev, hev⟩ : ∃ ev, bs (esc x.2.data.toList) = ev := ⟨_, rfl⟩
    have zah : ah.size ≤ 8 := by rw [← hah, bs_size]; exact ahL_len pre
    have zek : ek.size ≤ 12288 := by rw [← hek, bs_size]; have := esc_len x.1.data.toList; rw [tl_len] at this; omega
    have zev : ev.size ≤ 12288 := by rw [← hev, bs_size]; have := esc_len x.2.data.toList; rw [tl_len] at this; omega
    have HTX : Hid ((ah ++ ek ++ ({ data := #[61] } : ByteArray) ++ ev).data.toList = ahL pre ++ pcT x) := by
      have h9 : (ah ++ ek ++ ({ data := #[61] } : ByteArray) ++ ev).data.toList = ahL pre ++ pcT x := by
        rw [← hah, ← hek, ← hev, show ({ data := #[61] } : ByteArray) = bs [61] from rfl, app_bs, app_bs, app_bs, bs_tl]
        simp [pcT]
      exact h9
    have hBw : Below w.heap.size w W := by rw [HH.out]; exact HI.out.2.2.2.2.2.1
    have HE1 : Hid (∀ u, Below W.heap.size W u → Calls Tryz.prog 53 #[.string x.1] u fun e w' => e = .returned (.string ek) ∧ Below u.heap.size u w') := fun u hu => (escape x.1 u (HG.out.2.2.2.2.1.keep (hBw.trans (hu.mono hBw.size))) (by omega)).mono fun e w' ⟨h1, h2⟩ => ⟨h1.trans (by rw [← hek]; rfl), h2⟩
    have HE2 : Hid (∀ u, Below W.heap.size W u → Calls Tryz.prog 53 #[.string x.2] u fun e w' => e = .returned (.string ev) ∧ Below u.heap.size u w') := fun u hu => (escape x.2 u (HG.out.2.2.2.2.1.keep (hBw.trans (hu.mono hBw.size))) (by omega)).mono fun e w' ⟨h1, h2⟩ => ⟨h1.trans (by rw [← hev]; rfl), h2⟩
    have HWS : Hid (∀ u, Below W.heap.size W u → Calls Tryz.prog 52 #[.pointer (some ⟨H + 1 + 1 + 1, 0, none⟩), .string (ah ++ ek ++ { data := #[61] } ++ ev)] u fun e w' => e = .returned (.tuple #[.int .i64 ((ah ++ ek ++ ({ data := #[61] } : ByteArray) ++ ev).size : Int), .nilIface]) ∧ BD w2.heap.size (H + 1 + 1 + 1) (wS pre ++ (ah ++ ek ++ ({ data := #[61] } : ByteArray) ++ ev).data.toList) w' ∧ KX w2.heap.size (H + 1 + 1 + 1) u w') := fun u hu =>
      writeStr w2.heap.size (H + 1 + 1 + 1) (wS pre) _ u (HI.out.2.2.2.1.kx (hu.block _ HI.out.2.2.2.1.lt) (fun j _ hj => hu.block j hj)) (by omega) (by have := HI.out.2.2.2.2.2.2.1; have := hu.size; omega) (by
        have h1 := HI.out.1
        rw [ByteArray.size_append, ByteArray.size_append, ByteArray.size_append]
        have : (({ data := #[61] } : ByteArray)).size = 1 := rfl
        omega)
    have HC : Hid (∀ u, Below W.heap.size W u → u.cell? ⟨H + 1 + 1 + 1 + 1, 0, none⟩ = some (.string ah)) := fun u hu => by
      have h9 := HI.out.2.2.2.2.1
      rw [hah] at h9
      exact Below.cellS hu (Nat.le_refl _) h9.cell
    have HBW0 : Hid (Below W.heap.size W W.drew) := ⟨rfl, rfl, rfl, Nat.le_refl _, fun _ _ => rfl⟩
    have HFN : Hid (∀ u w9, Below W.heap.size W u → BD w2.heap.size (H + 1 + 1 + 1) (wS pre ++ (ah ++ ek ++ ({ data := #[61] } : ByteArray) ++ ev).data.toList) w9 → KX w2.heap.size (H + 1 + 1 + 1) u w9 → FN w H g pre x w2 W w9) := fun u w9 hu hbd hkx => fn_of hG5 hgs hsz0 HH.out HI.out hu (by rw [HTX.out] at hbd; rw [wS_ah, List.append_assoc]; exact hbd) hkx
    have hz3 : ah.size + ek.size ≤ 9223372036854775807 := by omega
    have hz4 : ah.size + ek.size ≤ 9223372036854775806 := by omega
    have hz7 : ah.size + ek.size + 1 + ev.size ≤ 9223372036854775807 := by omega
    clear hek hev hah hBw zah zek zev
    gi_wp2
    refine wpIn_share { tmps := #[.agg (lkC k.l k.nm tr pe on mo), .pointer (some ⟨H, 0, none⟩), .pointer (some ⟨H + 1, 0, none⟩), .pointer (some ⟨H + 1 + 1, 0, none⟩), .pointer (some ⟨H + 1 + 1 + 1, 0, none⟩), .pointer (some ⟨H + 1 + 1 + 1 + 1, 0, none⟩), .string x.1, .string x.2, .agg (lkC k.l k.nm tr pe on mo), .func (.func 74) #[] #[.pointer (some ⟨g, 0, none⟩)], .string x.1, .string x.2, .string x.1, .int .i64 (x.1.size : Int), .bool (decide ((4096 : Int) < (x.1.size : Int))), .bool (decide ((4096 : Int) < (x.1.size : Int))), .string x.2, .int .i64 (x.2.size : Int), .bool (decide ((4096 : Int) < (x.2.size : Int))), .bool (decide ((4096 : Int) < (x.1.size : Int)) || decide ((4096 : Int) < (x.2.size : Int))), .string ah, .string x.1, .string ek, .string (ah ++ ek), .string (ah ++ ek ++ { data := #[61] }), .string x.2, .string ev, .string (ah ++ ek ++ { data := #[61] } ++ ev), .tuple #[.int .i64 ((ah ++ ek ++ ({ data := #[61] } : ByteArray) ++ ev).size : Int), .nilIface], undef, undef, undef], defers := [] } (fun w9 => FN w H g pre x w2 W w9) ?_ (fun HQE0 => ?_)
    · intro w9 hf
      have HF := Lib.hid hf
      have HL := Lib.hid (bLen w2.heap.size (H + 1 + 1 + 1) (wS (pre ++ [x])) w9 hf.bd)
      have e1 := hf.b1.cell
      have e1f := hf.b1.frozen
      have e2 := (hf.b2.other (B' := H + 1) (by omega) (.string ⟨#[]⟩)).cell
      have e2f := (hf.b2.other (B' := H + 1) (by omega) (.string ⟨#[]⟩)).frozen
      have e4 := hf.b4.cell
      have e4f := hf.b4.frozen
      clear hf HE1 HE2 HWS HC HBW0 HFN HS7 HTX hz3 hz4 hz7
      generalize hq : (ah ++ ek ++ ({ data := #[61] } : ByteArray) ++ ev) = tx at *
      clear hq
      by_cases hz : 4096 < (wS (pre ++ [x])).length
      · have HZ := Lib.hid hz
        have hz1 : (4096 : Int) < ((wS (pre ++ [x])).length : Int) := by omega
        generalize hzl : (wS (pre ++ [x])).length = zl at *
        have HZL : Hid ((wS (pre ++ [x])).length = zl) := hzl
        clear hz hzl
        gi_wp2
        refine ⟨trivial, ?_⟩
        refine (CallsIn.inRound lp (callsIn_wide.2 HL.out)).mono ?_
        rintro e w10 ⟨rfl, rfl⟩
        clear HL
        gi_wp2
        exact ⟨HF.out.ko.trans ((KeepsOthers.setCell _ _ _).trans (KeepsOthers.setCell _ _ _)), rfl, by rw [HZL.out]; exact HZ.out, (HF.out.b1.set _).other (by omega) _, (HF.out.b2.other (by omega) _).set _, (HF.out.bl.setCell (p := ⟨H + 1, 0, none⟩) (Nat.le_succ _) _).setCell (p := ⟨H + 1 + 1, 0, none⟩) (by show H ≤ H + 1 + 1; omega) _⟩
      · have HZ : Hid ((wS (pre ++ [x])).length ≤ 4096) := Nat.le_of_not_lt hz
        have hz1 : ¬ (4096 : Int) < ((wS (pre ++ [x])).length : Int) := by omega
        have HNX := Lib.hid (fn_next hG5 hgs hsz0 HH.out HF.out hz)
        generalize hzl : (wS (pre ++ [x])).length = zl at *
        have HZL : Hid ((wS (pre ++ [x])).length = zl) := hzl
        clear hz hzl HF
        gi_wp2
        refine ⟨trivial, ?_⟩
        refine (CallsIn.inRound lp (callsIn_wide.2 HL.out)).mono ?_
        rintro e w10 ⟨rfl, rfl⟩
        clear HL
        gi_wp2
        have h9 := HNX.out
        rw [← HZL.out] at h9
        exact h9
    have HQE := Lib.hid HQE0
    clear HQE0
    refine wpIn_region_any (by kernel_rfl) ?_
    change wpAnyIn _ _ _ _ _ _ _ _ _ (World.drew _)
    refine wpAnyIn_ready (rs := [0, 1, 5]) (by kernel_rfl) (by simp) ?_
    refine AllReadyIn.cons rfl (fun K hK => ?_) ?_
    · have hc := HC.out _ HBW0.out
      go_simp
      refine hK _ _ ?_
      clear hK K hc
      refine wpAnyIn_ready (rs := [1, 5]) (by kernel_rfl) (by simp) ?_
      refine AllReadyIn.cons rfl (fun K hK => ?_) ?_
      · go_simp
        refine hK _ _ ?_
        clear hK K
        refine wpAnyIn_ready (rs := [2, 5]) (by kernel_rfl) (by simp) ?_
        refine AllReadyIn.cons rfl (fun K hK => ?_) ?_
        · go_simp
          refine ⟨trivial, ?_⟩
          refine (CallsIn.inRound lp (callsIn_wide.2 (HE1.out _ HBW0.out))).mono ?_
          rintro e w3 ⟨rfl, b3⟩
          have HBw3 : Hid (Below W.heap.size W w3) := HBW0.out.trans (b3.mono HBW0.out.size)
          clear b3
          refine hK _ _ ?_
          clear hK K
          refine wpAnyIn_ready (rs := [3, 5]) (by kernel_rfl) (by simp) ?_
          refine AllReadyIn.cons rfl (fun K hK => ?_) ?_
          · go_simp
            rw [if_neg (by omega)]
            go_simp
            refine hK _ _ ?_
            clear hK K
            refine wpAnyIn_ready (rs := [4, 5]) (by kernel_rfl) (by simp) ?_
            refine AllReadyIn.cons rfl (fun K hK => ?_) ?_
            · go_simp
              rw [if_neg (by omega)]
              go_simp
              refine hK _ _ ?_
              clear hK K
              refine wpAnyIn_ready (rs := [5]) (by kernel_rfl) (by simp) ?_
              refine AllReadyIn.cons rfl (fun K hK => ?_) AllReadyIn.nil
              go_simp
              refine hK _ _ ?_
              clear hK K
              refine wpAnyIn_ready (rs := [6]) (by kernel_rfl) (by simp) ?_
              refine AllReadyIn.cons rfl (fun K hK => ?_) AllReadyIn.nil
              go_simp
              refine ⟨trivial, ?_⟩
              refine (CallsIn.inRound lp (callsIn_wide.2 (HE2.out _ HBw3.out))).mono ?_
              rintro e w4 ⟨rfl, b4⟩
              have HBw4 : Hid (Below W.heap.size W w4) := HBw3.out.trans (b4.mono HBw3.out.size)
              clear b4
              refine hK _ _ ?_
              clear hK K
              refine wpAnyIn_ready (rs := [7]) (by kernel_rfl) (by simp) ?_
              refine AllReadyIn.cons rfl (fun K hK => ?_) AllReadyIn.nil
              go_simp
              rw [if_neg (by omega)]
              go_simp
              refine hK _ _ ?_
              clear hK K
              refine wpAnyIn_ready (rs := [8]) (by kernel_rfl) (by simp) ?_
              refine AllReadyIn.cons rfl (fun K hK => ?_) AllReadyIn.nil
              go_simp
              refine ⟨trivial, ?_⟩
              refine (CallsIn.inRound lp (callsIn_wide.2 (HWS.out _ HBw4.out))).mono ?_
              rintro e w9 ⟨rfl, hbd9, hkx9⟩
              have HF9 := Lib.hid (HFN.out _ w9 HBw4.out hbd9 hkx9)
              clear hbd9 hkx9
              refine hK _ _ ?_
              clear hK K
              refine wpAnyIn_done (by kernel_rfl) ?_ _
              exact HQE.out w9 HF9.out
            refine AllReadyIn.cons rfl (fun K hK => ?_) AllReadyIn.nil
            go_simp
            refine hK _ _ ?_
            clear hK K
            refine wpAnyIn_ready (rs := [4, 6]) (by kernel_rfl) (by simp) ?_
            refine AllReadyIn.cons rfl (fun K hK => ?_) ?_
            · go_simp
              rw [if_neg (by omega)]
              go_simp
              refine hK _ _ ?_
              clear hK K
              refine wpAnyIn_ready (rs := [6]) (by kernel_rfl) (by simp) ?_
              refine AllReadyIn.cons rfl (fun K hK => ?_) AllReadyIn.nil
              go_simp
              refine ⟨trivial, ?_⟩
              refine (CallsIn.inRound lp (callsIn_wide.2 (HE2.out _ HBw3.out))).mono ?_
              rintro e w4 ⟨rfl, b4⟩
              have HBw4 : Hid (Below W.heap.size W w4) := HBw3.out.trans (b4.mono HBw3.out.size)
              clear b4
              refine hK _ _ ?_
              clear hK K
              refine wpAnyIn_ready (rs := [7]) (by kernel_rfl) (by simp) ?_
              refine AllReadyIn.cons rfl (fun K hK => ?_) AllReadyIn.nil
              go_simp
              rw [if_neg (by omega)]
              go_simp
              refine hK _ _ ?_
              clear hK K
              refine wpAnyIn_ready (rs := [8]) (by kernel_rfl) (by simp) ?_
              refine AllReadyIn.cons rfl (fun K hK => ?_) AllReadyIn.nil
              go_simp
              refine ⟨trivial, ?_⟩
              refine (CallsIn.inRound lp (callsIn_wide.2 (HWS.out _ HBw4.out))).mono ?_
              rintro e w9 ⟨rfl, hbd9, hkx9⟩
              have HF9 := Lib.hid (HFN.out _ w9 HBw4.out hbd9 hkx9)
              clear hbd9 hkx9
              refine hK _ _ ?_
              clear hK K
              refine wpAnyIn_done (by kernel_rfl) ?_ _
              exact HQE.out w9 HF9.out
            refine AllReadyIn.cons rfl (fun K hK => ?_) AllReadyIn.nil
            go_simp
            refine ⟨trivial, ?_⟩
            refine (CallsIn.inRound lp (callsIn_wide.2 (HE2.out _ HBw3.out))).mono ?_
            rintro e w4 ⟨rfl, b4⟩
            have HBw4 : Hid (Below W.heap.size W w4) := HBw3.out.trans (b4.mono HBw3.out.size)
            clear b4
            refine hK _ _ ?_
            clear hK K
            refine wpAnyIn_ready (rs := [4]) (by kernel_rfl) (by simp) ?_
            refine AllReadyIn.cons rfl (fun K hK => ?_) AllReadyIn.nil
            go_simp
            rw [if_neg (by omega)]
            go_simp
            refine hK _ _ ?_
            clear hK K
            refine wpAnyIn_ready (rs := [7]) (by kernel_rfl) (by simp) ?_
            refine AllReadyIn.cons rfl (fun K hK => ?_) AllReadyIn.nil
            go_simp
            rw [if_neg (by omega)]
            go_simp
            refine hK _ _ ?_
            clear hK K
            refine wpAnyIn_ready (rs := [8]) (by kernel_rfl) (by simp) ?_
            refine AllReadyIn.cons rfl (fun K hK => ?_) AllReadyIn.nil
            go_simp
            refine ⟨trivial, ?_⟩
            refine (CallsIn.inRound lp (callsIn_wide.2 (HWS.out _ HBw4.out))).mono ?_
            rintro e w9 ⟨rfl, hbd9, hkx9⟩
            have HF9 := Lib.hid (HFN.out _ w9 HBw4.out hbd9 hkx9)
            clear hbd9 hkx9
            refine hK _ _ ?_
            clear hK K
            refine wpAnyIn_done (by kernel_rfl) ?_ _
            exact HQE.out w9 HF9.out
          refine AllReadyIn.cons rfl (fun K hK => ?_) AllReadyIn.nil
          go_simp
          refine hK _ _ ?_
          clear hK K
          refine wpAnyIn_ready (rs := [3, 6]) (by kernel_rfl) (by simp) ?_
          refine AllReadyIn.cons rfl (fun K hK => ?_) ?_
          · go_simp
            rw [if_neg (by omega)]
            go_simp
            refine hK _ _ ?_
            clear hK K
            refine wpAnyIn_ready (rs := [4, 6]) (by kernel_rfl) (by simp) ?_
            refine AllReadyIn.cons rfl (fun K hK => ?_) ?_
            · go_simp
              rw [if_neg (by omega)]
              go_simp
              refine hK _ _ ?_
              clear hK K
              refine wpAnyIn_ready (rs := [6]) (by kernel_rfl) (by simp) ?_
              refine AllReadyIn.cons rfl (fun K hK => ?_) AllReadyIn.nil
              go_simp
              refine ⟨trivial, ?_⟩
              refine (CallsIn.inRound lp (callsIn_wide.2 (HE2.out _ HBw3.out))).mono ?_
              rintro e w4 ⟨rfl, b4⟩
              have HBw4 : Hid (Below W.heap.size W w4) := HBw3.out.trans (b4.mono HBw3.out.size)
              clear b4
              refine hK _ _ ?_
              clear hK K
              refine wpAnyIn_ready (rs := [7]) (by kernel_rfl) (by simp) ?_
              refine AllReadyIn.cons rfl (fun K hK => ?_) AllReadyIn.nil
              go_simp
              rw [if_neg (by omega)]
              go_simp
              refine hK _ _ ?_
              clear hK K
              refine wpAnyIn_ready (rs := [8]) (by kernel_rfl) (by simp) ?_
              refine AllReadyIn.cons rfl (fun K hK => ?_) AllReadyIn.nil
              go_simp
              refine ⟨trivial, ?_⟩
              refine (CallsIn.inRound lp (callsIn_wide.2 (HWS.out _ HBw4.out))).mono ?_
              rintro e w9 ⟨rfl, hbd9, hkx9⟩
              have HF9 := Lib.hid (HFN.out _ w9 HBw4.out hbd9 hkx9)
              clear hbd9 hkx9
              refine hK _ _ ?_
              clear hK K
              refine wpAnyIn_done (by kernel_rfl) ?_ _
              exact HQE.out w9 HF9.out
            refine AllReadyIn.cons rfl (fun K hK => ?_) AllReadyIn.nil
            go_simp
            refine ⟨trivial, ?_⟩
            refine (CallsIn.inRound lp (callsIn_wide.2 (HE2.out _ HBw3.out))).mono ?_
            rintro e w4 ⟨rfl, b4⟩
            have HBw4 : Hid (Below W.heap.size W w4) := HBw3.out.trans (b4.mono HBw3.out.size)
            clear b4
            refine hK _ _ ?_
            clear hK K
            refine wpAnyIn_ready (rs := [4]) (by kernel_rfl) (by simp) ?_
            refine AllReadyIn.cons rfl (fun K hK => ?_) AllReadyIn.nil
            go_simp
            rw [if_neg (by omega)]
            go_simp
            refine hK _ _ ?_
            clear hK K
            refine wpAnyIn_ready (rs := [7]) (by kernel_rfl) (by simp) ?_
            refine AllReadyIn.cons rfl (fun K hK => ?_) AllReadyIn.nil
            go_simp
            rw [if_neg (by omega)]
            go_simp
            refine hK _ _ ?_
            clear hK K
            refine wpAnyIn_ready (rs := [8]) (by kernel_rfl) (by simp) ?_
            refine AllReadyIn.cons rfl (fun K hK => ?_) AllReadyIn.nil
            go_simp
            refine ⟨trivial, ?_⟩
            refine (CallsIn.inRound lp (callsIn_wide.2 (HWS.out _ HBw4.out))).mono ?_
            rintro e w9 ⟨rfl, hbd9, hkx9⟩
            have HF9 := Lib.hid (HFN.out _ w9 HBw4.out hbd9 hkx9)
            clear hbd9 hkx9
            refine hK _ _ ?_
            clear hK K
            refine wpAnyIn_done (by kernel_rfl) ?_ _
            exact HQE.out w9 HF9.out
          refine AllReadyIn.cons rfl (fun K hK => ?_) AllReadyIn.nil
          go_simp
          refine ⟨trivial, ?_⟩
          refine (CallsIn.inRound lp (callsIn_wide.2 (HE2.out _ HBw3.out))).mono ?_
          rintro e w4 ⟨rfl, b4⟩
          have HBw4 : Hid (Below W.heap.size W w4) := HBw3.out.trans (b4.mono HBw3.out.size)
          clear b4
          refine hK _ _ ?_
          clear hK K
          refine wpAnyIn_ready (rs := [3]) (by kernel_rfl) (by simp) ?_
          refine AllReadyIn.cons rfl (fun K hK => ?_) AllReadyIn.nil
          go_simp
          rw [if_neg (by omega)]
          go_simp
          refine hK _ _ ?_
          clear hK K
          refine wpAnyIn_ready (rs := [4]) (by kernel_rfl) (by simp) ?_
          refine AllReadyIn.cons rfl (fun K hK => ?_) AllReadyIn.nil
          go_simp
          rw [if_neg (by omega)]
          go_simp
          refine hK _ _ ?_
          clear hK K
          refine wpAnyIn_ready (rs := [7]) (by kernel_rfl) (by simp) ?_
          refine AllReadyIn.cons rfl (fun K hK => ?_) AllReadyIn.nil
          go_simp
          rw [if_neg (by omega)]
          go_simp
          refine hK _ _ ?_
          clear hK K
          refine wpAnyIn_ready (rs := [8]) (by kernel_rfl) (by simp) ?_
          refine AllReadyIn.cons rfl (fun K hK => ?_) AllReadyIn.nil
          go_simp
          refine ⟨trivial, ?_⟩
          refine (CallsIn.inRound lp (callsIn_wide.2 (HWS.out _ HBw4.out))).mono ?_
          rintro e w9 ⟨rfl, hbd9, hkx9⟩
          have HF9 := Lib.hid (HFN.out _ w9 HBw4.out hbd9 hkx9)
          clear hbd9 hkx9
          refine hK _ _ ?_
          clear hK K
          refine wpAnyIn_done (by kernel_rfl) ?_ _
          exact HQE.out w9 HF9.out
        refine AllReadyIn.cons rfl (fun K hK => ?_) AllReadyIn.nil
        go_simp
        refine hK _ _ ?_
        clear hK K
        refine wpAnyIn_ready (rs := [2]) (by kernel_rfl) (by simp) ?_
        refine AllReadyIn.cons rfl (fun K hK => ?_) AllReadyIn.nil
        go_simp
        refine ⟨trivial, ?_⟩
        refine (CallsIn.inRound lp (callsIn_wide.2 (HE1.out _ HBW0.out))).mono ?_
        rintro e w3 ⟨rfl, b3⟩
        have HBw3 : Hid (Below W.heap.size W w3) := HBW0.out.trans (b3.mono HBW0.out.size)
        clear b3
        refine hK _ _ ?_
        clear hK K
        refine wpAnyIn_ready (rs := [3, 6]) (by kernel_rfl) (by simp) ?_
        refine AllReadyIn.cons rfl (fun K hK => ?_) ?_
        · go_simp
          rw [if_neg (by omega)]
          go_simp
          refine hK _ _ ?_
          clear hK K
          refine wpAnyIn_ready (rs := [4, 6]) (by kernel_rfl) (by simp) ?_
          refine AllReadyIn.cons rfl (fun K hK => ?_) ?_
          · go_simp
            rw [if_neg (by omega)]
            go_simp
            refine hK _ _ ?_
            clear hK K
            refine wpAnyIn_ready (rs := [6]) (by kernel_rfl) (by simp) ?_
            refine AllReadyIn.cons rfl (fun K hK => ?_) AllReadyIn.nil
            go_simp
            refine ⟨trivial, ?_⟩
            refine (CallsIn.inRound lp (callsIn_wide.2 (HE2.out _ HBw3.out))).mono ?_
            rintro e w4 ⟨rfl, b4⟩
            have HBw4 : Hid (Below W.heap.size W w4) := HBw3.out.trans (b4.mono HBw3.out.size)
            clear b4
            refine hK _ _ ?_
            clear hK K
            refine wpAnyIn_ready (rs := [7]) (by kernel_rfl) (by simp) ?_
            refine AllReadyIn.cons rfl (fun K hK => ?_) AllReadyIn.nil
            go_simp
            rw [if_neg (by omega)]
            go_simp
            refine hK _ _ ?_
            clear hK K
            refine wpAnyIn_ready (rs := [8]) (by kernel_rfl) (by simp) ?_
            refine AllReadyIn.cons rfl (fun K hK => ?_) AllReadyIn.nil
            go_simp
            refine ⟨trivial, ?_⟩
            refine (CallsIn.inRound lp (callsIn_wide.2 (HWS.out _ HBw4.out))).mono ?_
            rintro e w9 ⟨rfl, hbd9, hkx9⟩
            have HF9 := Lib.hid (HFN.out _ w9 HBw4.out hbd9 hkx9)
            clear hbd9 hkx9
            refine hK _ _ ?_
            clear hK K
            refine wpAnyIn_done (by kernel_rfl) ?_ _
            exact HQE.out w9 HF9.out
          refine AllReadyIn.cons rfl (fun K hK => ?_) AllReadyIn.nil
          go_simp
          refine ⟨trivial, ?_⟩
          refine (CallsIn.inRound lp (callsIn_wide.2 (HE2.out _ HBw3.out))).mono ?_
          rintro e w4 ⟨rfl, b4⟩
          have HBw4 : Hid (Below W.heap.size W w4) := HBw3.out.trans (b4.mono HBw3.out.size)
          clear b4
          refine hK _ _ ?_
          clear hK K
          refine wpAnyIn_ready (rs := [4]) (by kernel_rfl) (by simp) ?_
          refine AllReadyIn.cons rfl (fun K hK => ?_) AllReadyIn.nil
          go_simp
          rw [if_neg (by omega)]
          go_simp
          refine hK _ _ ?_
          clear hK K
          refine wpAnyIn_ready (rs := [7]) (by kernel_rfl) (by simp) ?_
          refine AllReadyIn.cons rfl (fun K hK => ?_) AllReadyIn.nil
          go_simp
          rw [if_neg (by omega)]
          go_simp
          refine hK _ _ ?_
          clear hK K
          refine wpAnyIn_ready (rs := [8]) (by kernel_rfl) (by simp) ?_
          refine AllReadyIn.cons rfl (fun K hK => ?_) AllReadyIn.nil
          go_simp
          refine ⟨trivial, ?_⟩
          refine (CallsIn.inRound lp (callsIn_wide.2 (HWS.out _ HBw4.out))).mono ?_
          rintro e w9 ⟨rfl, hbd9, hkx9⟩
          have HF9 := Lib.hid (HFN.out _ w9 HBw4.out hbd9 hkx9)
          clear hbd9 hkx9
          refine hK _ _ ?_
          clear hK K
          refine wpAnyIn_done (by kernel_rfl) ?_ _
          exact HQE.out w9 HF9.out
        refine AllReadyIn.cons rfl (fun K hK => ?_) AllReadyIn.nil
        go_simp
        refine ⟨trivial, ?_⟩
        refine (CallsIn.inRound lp (callsIn_wide.2 (HE2.out _ HBw3.out))).mono ?_
        rintro e w4 ⟨rfl, b4⟩
        have HBw4 : Hid (Below W.heap.size W w4) := HBw3.out.trans (b4.mono HBw3.out.size)
        clear b4
        refine hK _ _ ?_
        clear hK K
        refine wpAnyIn_ready (rs := [3]) (by kernel_rfl) (by simp) ?_
        refine AllReadyIn.cons rfl (fun K hK => ?_) AllReadyIn.nil
        go_simp
        rw [if_neg (by omega)]
        go_simp
        refine hK _ _ ?_
        clear hK K
        refine wpAnyIn_ready (rs := [4]) (by kernel_rfl) (by simp) ?_
        refine AllReadyIn.cons rfl (fun K hK => ?_) AllReadyIn.nil
        go_simp
        rw [if_neg (by omega)]
        go_simp
        refine hK _ _ ?_
        clear hK K
        refine wpAnyIn_ready (rs := [7]) (by kernel_rfl) (by simp) ?_
        refine AllReadyIn.cons rfl (fun K hK => ?_) AllReadyIn.nil
        go_simp
        rw [if_neg (by omega)]
        go_simp
        refine hK _ _ ?_
        clear hK K
        refine wpAnyIn_ready (rs := [8]) (by kernel_rfl) (by simp) ?_
        refine AllReadyIn.cons rfl (fun K hK => ?_) AllReadyIn.nil
        go_simp
        refine ⟨trivial, ?_⟩
        refine (CallsIn.inRound lp (callsIn_wide.2 (HWS.out _ HBw4.out))).mono ?_
        rintro e w9 ⟨rfl, hbd9, hkx9⟩
        have HF9 := Lib.hid (HFN.out _ w9 HBw4.out hbd9 hkx9)
        clear hbd9 hkx9
        refine hK _ _ ?_
        clear hK K
        refine wpAnyIn_done (by kernel_rfl) ?_ _
        exact HQE.out w9 HF9.out
      refine AllReadyIn.cons rfl (fun K hK => ?_) AllReadyIn.nil
      go_simp
      refine hK _ _ ?_
      clear hK K
      refine wpAnyIn_ready (rs := [1]) (by kernel_rfl) (by simp) ?_
      refine AllReadyIn.cons rfl (fun K hK => ?_) AllReadyIn.nil
      go_simp
      refine hK _ _ ?_
      clear hK K
      refine wpAnyIn_ready (rs := [2]) (by kernel_rfl) (by simp) ?_
      refine AllReadyIn.cons rfl (fun K hK => ?_) AllReadyIn.nil
      go_simp
      refine ⟨trivial, ?_⟩
      refine (CallsIn.inRound lp (callsIn_wide.2 (HE1.out _ HBW0.out))).mono ?_
      rintro e w3 ⟨rfl, b3⟩
      have HBw3 : Hid (Below W.heap.size W w3) := HBW0.out.trans (b3.mono HBW0.out.size)
      clear b3
      refine hK _ _ ?_
      clear hK K
      refine wpAnyIn_ready (rs := [3, 6]) (by kernel_rfl) (by simp) ?_
      refine AllReadyIn.cons rfl (fun K hK => ?_) ?_
      · go_simp
        rw [if_neg (by omega)]
        go_simp
        refine hK _ _ ?_
        clear hK K
        refine wpAnyIn_ready (rs := [4, 6]) (by kernel_rfl) (by simp) ?_
        refine AllReadyIn.cons rfl (fun K hK => ?_) ?_
        · go_simp
          rw [if_neg (by omega)]
          go_simp
          refine hK _ _ ?_
          clear hK K
          refine wpAnyIn_ready (rs := [6]) (by kernel_rfl) (by simp) ?_
          refine AllReadyIn.cons rfl (fun K hK => ?_) AllReadyIn.nil
          go_simp
          refine ⟨trivial, ?_⟩
          refine (CallsIn.inRound lp (callsIn_wide.2 (HE2.out _ HBw3.out))).mono ?_
          rintro e w4 ⟨rfl, b4⟩
          have HBw4 : Hid (Below W.heap.size W w4) := HBw3.out.trans (b4.mono HBw3.out.size)
          clear b4
          refine hK _ _ ?_
          clear hK K
          refine wpAnyIn_ready (rs := [7]) (by kernel_rfl) (by simp) ?_
          refine AllReadyIn.cons rfl (fun K hK => ?_) AllReadyIn.nil
          go_simp
          rw [if_neg (by omega)]
          go_simp
          refine hK _ _ ?_
          clear hK K
          refine wpAnyIn_ready (rs := [8]) (by kernel_rfl) (by simp) ?_
          refine AllReadyIn.cons rfl (fun K hK => ?_) AllReadyIn.nil
          go_simp
          refine ⟨trivial, ?_⟩
          refine (CallsIn.inRound lp (callsIn_wide.2 (HWS.out _ HBw4.out))).mono ?_
          rintro e w9 ⟨rfl, hbd9, hkx9⟩
          have HF9 := Lib.hid (HFN.out _ w9 HBw4.out hbd9 hkx9)
          clear hbd9 hkx9
          refine hK _ _ ?_
          clear hK K
          refine wpAnyIn_done (by kernel_rfl) ?_ _
          exact HQE.out w9 HF9.out
        refine AllReadyIn.cons rfl (fun K hK => ?_) AllReadyIn.nil
        go_simp
        refine ⟨trivial, ?_⟩
        refine (CallsIn.inRound lp (callsIn_wide.2 (HE2.out _ HBw3.out))).mono ?_
        rintro e w4 ⟨rfl, b4⟩
        have HBw4 : Hid (Below W.heap.size W w4) := HBw3.out.trans (b4.mono HBw3.out.size)
        clear b4
        refine hK _ _ ?_
        clear hK K
        refine wpAnyIn_ready (rs := [4]) (by kernel_rfl) (by simp) ?_
        refine AllReadyIn.cons rfl (fun K hK => ?_) AllReadyIn.nil
        go_simp
        rw [if_neg (by omega)]
        go_simp
        refine hK _ _ ?_
        clear hK K
        refine wpAnyIn_ready (rs := [7]) (by kernel_rfl) (by simp) ?_
        refine AllReadyIn.cons rfl (fun K hK => ?_) AllReadyIn.nil
        go_simp
        rw [if_neg (by omega)]
        go_simp
        refine hK _ _ ?_
        clear hK K
        refine wpAnyIn_ready (rs := [8]) (by kernel_rfl) (by simp) ?_
        refine AllReadyIn.cons rfl (fun K hK => ?_) AllReadyIn.nil
        go_simp
        refine ⟨trivial, ?_⟩
        refine (CallsIn.inRound lp (callsIn_wide.2 (HWS.out _ HBw4.out))).mono ?_
        rintro e w9 ⟨rfl, hbd9, hkx9⟩
        have HF9 := Lib.hid (HFN.out _ w9 HBw4.out hbd9 hkx9)
        clear hbd9 hkx9
        refine hK _ _ ?_
        clear hK K
        refine wpAnyIn_done (by kernel_rfl) ?_ _
        exact HQE.out w9 HF9.out
      refine AllReadyIn.cons rfl (fun K hK => ?_) AllReadyIn.nil
      go_simp
      refine ⟨trivial, ?_⟩
      refine (CallsIn.inRound lp (callsIn_wide.2 (HE2.out _ HBw3.out))).mono ?_
      rintro e w4 ⟨rfl, b4⟩
      have HBw4 : Hid (Below W.heap.size W w4) := HBw3.out.trans (b4.mono HBw3.out.size)
      clear b4
      refine hK _ _ ?_
      clear hK K
      refine wpAnyIn_ready (rs := [3]) (by kernel_rfl) (by simp) ?_
      refine AllReadyIn.cons rfl (fun K hK => ?_) AllReadyIn.nil
      go_simp
      rw [if_neg (by omega)]
      go_simp
      refine hK _ _ ?_
      clear hK K
      refine wpAnyIn_ready (rs := [4]) (by kernel_rfl) (by simp) ?_
      refine AllReadyIn.cons rfl (fun K hK => ?_) AllReadyIn.nil
      go_simp
      rw [if_neg (by omega)]
      go_simp
      refine hK _ _ ?_
      clear hK K
      refine wpAnyIn_ready (rs := [7]) (by kernel_rfl) (by simp) ?_
      refine AllReadyIn.cons rfl (fun K hK => ?_) AllReadyIn.nil
      go_simp
      rw [if_neg (by omega)]
      go_simp
      refine hK _ _ ?_
      clear hK K
      refine wpAnyIn_ready (rs := [8]) (by kernel_rfl) (by simp) ?_
      refine AllReadyIn.cons rfl (fun K hK => ?_) AllReadyIn.nil
      go_simp
      refine ⟨trivial, ?_⟩
      refine (CallsIn.inRound lp (callsIn_wide.2 (HWS.out _ HBw4.out))).mono ?_
      rintro e w9 ⟨rfl, hbd9, hkx9⟩
      have HF9 := Lib.hid (HFN.out _ w9 HBw4.out hbd9 hkx9)
      clear hbd9 hkx9
      refine hK _ _ ?_
      clear hK K
      refine wpAnyIn_done (by kernel_rfl) ?_ _
      exact HQE.out w9 HF9.out
    refine AllReadyIn.cons rfl (fun K hK => ?_) ?_
    · go_simp
      refine hK _ _ ?_
      clear hK K
      refine wpAnyIn_ready (rs := [0, 2, 5]) (by kernel_rfl) (by simp) ?_
      refine AllReadyIn.cons rfl (fun K hK => ?_) ?_
      · have hc := HC.out _ HBW0.out
        go_simp
        refine hK _ _ ?_
        clear hK K hc
        refine wpAnyIn_ready (rs := [2, 5]) (by kernel_rfl) (by simp) ?_
        refine AllReadyIn.cons rfl (fun K hK => ?_) ?_
        · go_simp
          refine ⟨trivial, ?_⟩
          refine (CallsIn.inRound lp (callsIn_wide.2 (HE1.out _ HBW0.out))).mono ?_
          rintro e w3 ⟨rfl, b3⟩
          have HBw3 : Hid (Below W.heap.size W w3) := HBW0.out.trans (b3.mono HBW0.out.size)
          clear b3
          refine hK _ _ ?_
          clear hK K
          refine wpAnyIn_ready (rs := [3, 5]) (by kernel_rfl) (by simp) ?_
          refine AllReadyIn.cons rfl (fun K hK => ?_) ?_
          · go_simp
            rw [if_neg (by omega)]
            go_simp
            refine hK _ _ ?_
            clear hK K
            refine wpAnyIn_ready (rs := [4, 5]) (by kernel_rfl) (by simp) ?_
            refine AllReadyIn.cons rfl (fun K hK => ?_) ?_
            · go_simp
              rw [if_neg (by omega)]
              go_simp
              refine hK _ _ ?_
              clear hK K
              refine wpAnyIn_ready (rs := [5]) (by kernel_rfl) (by simp) ?_
              refine AllReadyIn.cons rfl (fun K hK => ?_) AllReadyIn.nil
              go_simp
              refine hK _ _ ?_
              clear hK K
              refine wpAnyIn_ready (rs := [6]) (by kernel_rfl) (by simp) ?_
              refine AllReadyIn.cons rfl (fun K hK => ?_) AllReadyIn.nil
              go_simp
              refine ⟨trivial, ?_⟩
              refine (CallsIn.inRound lp (callsIn_wide.2 (HE2.out _ HBw3.out))).mono ?_
              rintro e w4 ⟨rfl, b4⟩
              have HBw4 : Hid (Below W.heap.size W w4) := HBw3.out.trans (b4.mono HBw3.out.size)
              clear b4
              refine hK _ _ ?_
              clear hK K
              refine wpAnyIn_ready (rs := [7]) (by kernel_rfl) (by simp) ?_
              refine AllReadyIn.cons rfl (fun K hK => ?_) AllReadyIn.nil
              go_simp
              rw [if_neg (by omega)]
              go_simp
              refine hK _ _ ?_
              clear hK K
              refine wpAnyIn_ready (rs := [8]) (by kernel_rfl) (by simp) ?_
              refine AllReadyIn.cons rfl (fun K hK => ?_) AllReadyIn.nil
              go_simp
              refine ⟨trivial, ?_⟩
              refine (CallsIn.inRound lp (callsIn_wide.2 (HWS.out _ HBw4.out))).mono ?_
              rintro e w9 ⟨rfl, hbd9, hkx9⟩
              have HF9 := Lib.hid (HFN.out _ w9 HBw4.out hbd9 hkx9)
              clear hbd9 hkx9
              refine hK _ _ ?_
              clear hK K
              refine wpAnyIn_done (by kernel_rfl) ?_ _
              exact HQE.out w9 HF9.out
            refine AllReadyIn.cons rfl (fun K hK => ?_) AllReadyIn.nil
            go_simp
            refine hK _ _ ?_
            clear hK K
            refine wpAnyIn_ready (rs := [4, 6]) (by kernel_rfl) (by simp) ?_
            refine AllReadyIn.cons rfl (fun K hK => ?_) ?_
            · go_simp
              rw [if_neg (by omega)]
              go_simp
              refine hK _ _ ?_
              clear hK K
              refine wpAnyIn_ready (rs := [6]) (by kernel_rfl) (by simp) ?_
              refine AllReadyIn.cons rfl (fun K hK => ?_) AllReadyIn.nil
              go_simp
              refine ⟨trivial, ?_⟩
              refine (CallsIn.inRound lp (callsIn_wide.2 (HE2.out _ HBw3.out))).mono ?_
              rintro e w4 ⟨rfl, b4⟩
              have HBw4 : Hid (Below W.heap.size W w4) := HBw3.out.trans (b4.mono HBw3.out.size)
              clear b4
              refine hK _ _ ?_
              clear hK K
              refine wpAnyIn_ready (rs := [7]) (by kernel_rfl) (by simp) ?_
              refine AllReadyIn.cons rfl (fun K hK => ?_) AllReadyIn.nil
              go_simp
              rw [if_neg (by omega)]
              go_simp
              refine hK _ _ ?_
              clear hK K
              refine wpAnyIn_ready (rs := [8]) (by kernel_rfl) (by simp) ?_
              refine AllReadyIn.cons rfl (fun K hK => ?_) AllReadyIn.nil
              go_simp
              refine ⟨trivial, ?_⟩
              refine (CallsIn.inRound lp (callsIn_wide.2 (HWS.out _ HBw4.out))).mono ?_
              rintro e w9 ⟨rfl, hbd9, hkx9⟩
              have HF9 := Lib.hid (HFN.out _ w9 HBw4.out hbd9 hkx9)
              clear hbd9 hkx9
              refine hK _ _ ?_
              clear hK K
              refine wpAnyIn_done (by kernel_rfl) ?_ _
              exact HQE.out w9 HF9.out
            refine AllReadyIn.cons rfl (fun K hK => ?_) AllReadyIn.nil
            go_simp
            refine ⟨trivial, ?_⟩
            refine (CallsIn.inRound lp (callsIn_wide.2 (HE2.out _ HBw3.out))).mono ?_
            rintro e w4 ⟨rfl, b4⟩
            have HBw4 : Hid (Below W.heap.size W w4) := HBw3.out.trans (b4.mono HBw3.out.size)
            clear b4
            refine hK _ _ ?_
            clear hK K
            refine wpAnyIn_ready (rs := [4]) (by kernel_rfl) (by simp) ?_
            refine AllReadyIn.cons rfl (fun K hK => ?_) AllReadyIn.nil
            go_simp
            rw [if_neg (by omega)]
            go_simp
            refine hK _ _ ?_
            clear hK K
            refine wpAnyIn_ready (rs := [7]) (by kernel_rfl) (by simp) ?_
            refine AllReadyIn.cons rfl (fun K hK => ?_) AllReadyIn.nil
            go_simp
            rw [if_neg (by omega)]
            go_simp
            refine hK _ _ ?_
            clear hK K
            refine wpAnyIn_ready (rs := [8]) (by kernel_rfl) (by simp) ?_
            refine AllReadyIn.cons rfl (fun K hK => ?_) AllReadyIn.nil
            go_simp
            refine ⟨trivial, ?_⟩
            refine (CallsIn.inRound lp (callsIn_wide.2 (HWS.out _ HBw4.out))).mono ?_
            rintro e w9 ⟨rfl, hbd9, hkx9⟩
            have HF9 := Lib.hid (HFN.out _ w9 HBw4.out hbd9 hkx9)
            clear hbd9 hkx9
            refine hK _ _ ?_
            clear hK K
            refine wpAnyIn_done (by kernel_rfl) ?_ _
            exact HQE.out w9 HF9.out
          refine AllReadyIn.cons rfl (fun K hK => ?_) AllReadyIn.nil
          go_simp
          refine hK _ _ ?_
          clear hK K
          refine wpAnyIn_ready (rs := [3, 6]) (by kernel_rfl) (by simp) ?_
          refine AllReadyIn.cons rfl (fun K hK => ?_) ?_
          · go_simp
            rw [if_neg (by omega)]
            go_simp
            refine hK _ _ ?_
            clear hK K
            refine wpAnyIn_ready (rs := [4, 6]) (by kernel_rfl) (by simp) ?_
            refine AllReadyIn.cons rfl (fun K hK => ?_) ?_
            · go_simp
              rw [if_neg (by omega)]
              go_simp
              refine hK _ _ ?_
              clear hK K
              refine wpAnyIn_ready (rs := [6]) (by kernel_rfl) (by simp) ?_
              refine AllReadyIn.cons rfl (fun K hK => ?_) AllReadyIn.nil
              go_simp
              refine ⟨trivial, ?_⟩
              refine (CallsIn.inRound lp (callsIn_wide.2 (HE2.out _ HBw3.out))).mono ?_
              rintro e w4 ⟨rfl, b4⟩
              have HBw4 : Hid (Below W.heap.size W w4) := HBw3.out.trans (b4.mono HBw3.out.size)
              clear b4
              refine hK _ _ ?_
              clear hK K
              refine wpAnyIn_ready (rs := [7]) (by kernel_rfl) (by simp) ?_
              refine AllReadyIn.cons rfl (fun K hK => ?_) AllReadyIn.nil
              go_simp
              rw [if_neg (by omega)]
              go_simp
              refine hK _ _ ?_
              clear hK K
              refine wpAnyIn_ready (rs := [8]) (by kernel_rfl) (by simp) ?_
              refine AllReadyIn.cons rfl (fun K hK => ?_) AllReadyIn.nil
              go_simp
              refine ⟨trivial, ?_⟩
              refine (CallsIn.inRound lp (callsIn_wide.2 (HWS.out _ HBw4.out))).mono ?_
              rintro e w9 ⟨rfl, hbd9, hkx9⟩
              have HF9 := Lib.hid (HFN.out _ w9 HBw4.out hbd9 hkx9)
              clear hbd9 hkx9
              refine hK _ _ ?_
              clear hK K
              refine wpAnyIn_done (by kernel_rfl) ?_ _
              exact HQE.out w9 HF9.out
            refine AllReadyIn.cons rfl (fun K hK => ?_) AllReadyIn.nil
            go_simp
            refine ⟨trivial, ?_⟩
            refine (CallsIn.inRound lp (callsIn_wide.2 (HE2.out _ HBw3.out))).mono ?_
            rintro e w4 ⟨rfl, b4⟩
            have HBw4 : Hid (Below W.heap.size W w4) := HBw3.out.trans (b4.mono HBw3.out.size)
            clear b4
            refine hK _ _ ?_
            clear hK K
            refine wpAnyIn_ready (rs := [4]) (by kernel_rfl) (by simp) ?_
            refine AllReadyIn.cons rfl (fun K hK => ?_) AllReadyIn.nil
            go_simp
            rw [if_neg (by omega)]
            go_simp
            refine hK _ _ ?_
            clear hK K
            refine wpAnyIn_ready (rs := [7]) (by kernel_rfl) (by simp) ?_
            refine AllReadyIn.cons rfl (fun K hK => ?_) AllReadyIn.nil
            go_simp
            rw [if_neg (by omega)]
            go_simp
            refine hK _ _ ?_
            clear hK K
            refine wpAnyIn_ready (rs := [8]) (by kernel_rfl) (by simp) ?_
            refine AllReadyIn.cons rfl (fun K hK => ?_) AllReadyIn.nil
            go_simp
            refine ⟨trivial, ?_⟩
            refine (CallsIn.inRound lp (callsIn_wide.2 (HWS.out _ HBw4.out))).mono ?_
            rintro e w9 ⟨rfl, hbd9, hkx9⟩
            have HF9 := Lib.hid (HFN.out _ w9 HBw4.out hbd9 hkx9)
            clear hbd9 hkx9
            refine hK _ _ ?_
            clear hK K
            refine wpAnyIn_done (by kernel_rfl) ?_ _
            exact HQE.out w9 HF9.out
          refine AllReadyIn.cons rfl (fun K hK => ?_) AllReadyIn.nil
          go_simp
          refine ⟨trivial, ?_⟩
          refine (CallsIn.inRound lp (callsIn_wide.2 (HE2.out _ HBw3.out))).mono ?_
          rintro e w4 ⟨rfl, b4⟩
          have HBw4 : Hid (Below W.heap.size W w4) := HBw3.out.trans (b4.mono HBw3.out.size)
          clear b4
          refine hK _ _ ?_
          clear hK K
          refine wpAnyIn_ready (rs := [3]) (by kernel_rfl) (by simp) ?_
          refine AllReadyIn.cons rfl (fun K hK => ?_) AllReadyIn.nil
          go_simp
          rw [if_neg (by omega)]
          go_simp
          refine hK _ _ ?_
          clear hK K
          refine wpAnyIn_ready (rs := [4]) (by kernel_rfl) (by simp) ?_
          refine AllReadyIn.cons rfl (fun K hK => ?_) AllReadyIn.nil
          go_simp
          rw [if_neg (by omega)]
          go_simp
          refine hK _ _ ?_
          clear hK K
          refine wpAnyIn_ready (rs := [7]) (by kernel_rfl) (by simp) ?_
          refine AllReadyIn.cons rfl (fun K hK => ?_) AllReadyIn.nil
          go_simp
          rw [if_neg (by omega)]
          go_simp
          refine hK _ _ ?_
          clear hK K
          refine wpAnyIn_ready (rs := [8]) (by kernel_rfl) (by simp) ?_
          refine AllReadyIn.cons rfl (fun K hK => ?_) AllReadyIn.nil
          go_simp
          refine ⟨trivial, ?_⟩
          refine (CallsIn.inRound lp (callsIn_wide.2 (HWS.out _ HBw4.out))).mono ?_
          rintro e w9 ⟨rfl, hbd9, hkx9⟩
          have HF9 := Lib.hid (HFN.out _ w9 HBw4.out hbd9 hkx9)
          clear hbd9 hkx9
          refine hK _ _ ?_
          clear hK K
          refine wpAnyIn_done (by kernel_rfl) ?_ _
          exact HQE.out w9 HF9.out
        refine AllReadyIn.cons rfl (fun K hK => ?_) AllReadyIn.nil
        go_simp
        refine hK _ _ ?_
        clear hK K
        refine wpAnyIn_ready (rs := [2]) (by kernel_rfl) (by simp) ?_
        refine AllReadyIn.cons rfl (fun K hK => ?_) AllReadyIn.nil
        go_simp
        refine ⟨trivial, ?_⟩
        refine (CallsIn.inRound lp (callsIn_wide.2 (HE1.out _ HBW0.out))).mono ?_
        rintro e w3 ⟨rfl, b3⟩
        have HBw3 : Hid (Below W.heap.size W w3) := HBW0.out.trans (b3.mono HBW0.out.size)
        clear b3
        refine hK _ _ ?_
        clear hK K
        refine wpAnyIn_ready (rs := [3, 6]) (by kernel_rfl) (by simp) ?_
        refine AllReadyIn.cons rfl (fun K hK => ?_) ?_
        · go_simp
          rw [if_neg (by omega)]
          go_simp
          refine hK _ _ ?_
          clear hK K
          refine wpAnyIn_ready (rs := [4, 6]) (by kernel_rfl) (by simp) ?_
          refine AllReadyIn.cons rfl (fun K hK => ?_) ?_
          · go_simp
            rw [if_neg (by omega)]
            go_simp
            refine hK _ _ ?_
            clear hK K
            refine wpAnyIn_ready (rs := [6]) (by kernel_rfl) (by simp) ?_
            refine AllReadyIn.cons rfl (fun K hK => ?_) AllReadyIn.nil
            go_simp
            refine ⟨trivial, ?_⟩
            refine (CallsIn.inRound lp (callsIn_wide.2 (HE2.out _ HBw3.out))).mono ?_
            rintro e w4 ⟨rfl, b4⟩
            have HBw4 : Hid (Below W.heap.size W w4) := HBw3.out.trans (b4.mono HBw3.out.size)
            clear b4
            refine hK _ _ ?_
            clear hK K
            refine wpAnyIn_ready (rs := [7]) (by kernel_rfl) (by simp) ?_
            refine AllReadyIn.cons rfl (fun K hK => ?_) AllReadyIn.nil
            go_simp
            rw [if_neg (by omega)]
            go_simp
            refine hK _ _ ?_
            clear hK K
            refine wpAnyIn_ready (rs := [8]) (by kernel_rfl) (by simp) ?_
            refine AllReadyIn.cons rfl (fun K hK => ?_) AllReadyIn.nil
            go_simp
            refine ⟨trivial, ?_⟩
            refine (CallsIn.inRound lp (callsIn_wide.2 (HWS.out _ HBw4.out))).mono ?_
            rintro e w9 ⟨rfl, hbd9, hkx9⟩
            have HF9 := Lib.hid (HFN.out _ w9 HBw4.out hbd9 hkx9)
            clear hbd9 hkx9
            refine hK _ _ ?_
            clear hK K
            refine wpAnyIn_done (by kernel_rfl) ?_ _
            exact HQE.out w9 HF9.out
          refine AllReadyIn.cons rfl (fun K hK => ?_) AllReadyIn.nil
          go_simp
          refine ⟨trivial, ?_⟩
          refine (CallsIn.inRound lp (callsIn_wide.2 (HE2.out _ HBw3.out))).mono ?_
          rintro e w4 ⟨rfl, b4⟩
          have HBw4 : Hid (Below W.heap.size W w4) := HBw3.out.trans (b4.mono HBw3.out.size)
          clear b4
          refine hK _ _ ?_
          clear hK K
          refine wpAnyIn_ready (rs := [4]) (by kernel_rfl) (by simp) ?_
          refine AllReadyIn.cons rfl (fun K hK => ?_) AllReadyIn.nil
          go_simp
          rw [if_neg (by omega)]
          go_simp
          refine hK _ _ ?_
          clear hK K
          refine wpAnyIn_ready (rs := [7]) (by kernel_rfl) (by simp) ?_
          refine AllReadyIn.cons rfl (fun K hK => ?_) AllReadyIn.nil
          go_simp
          rw [if_neg (by omega)]
          go_simp
          refine hK _ _ ?_
          clear hK K
          refine wpAnyIn_ready (rs := [8]) (by kernel_rfl) (by simp) ?_
          refine AllReadyIn.cons rfl (fun K hK => ?_) AllReadyIn.nil
          go_simp
          refine ⟨trivial, ?_⟩
          refine (CallsIn.inRound lp (callsIn_wide.2 (HWS.out _ HBw4.out))).mono ?_
          rintro e w9 ⟨rfl, hbd9, hkx9⟩
          have HF9 := Lib.hid (HFN.out _ w9 HBw4.out hbd9 hkx9)
          clear hbd9 hkx9
          refine hK _ _ ?_
          clear hK K
          refine wpAnyIn_done (by kernel_rfl) ?_ _
          exact HQE.out w9 HF9.out
        refine AllReadyIn.cons rfl (fun K hK => ?_) AllReadyIn.nil
        go_simp
        refine ⟨trivial, ?_⟩
        refine (CallsIn.inRound lp (callsIn_wide.2 (HE2.out _ HBw3.out))).mono ?_
        rintro e w4 ⟨rfl, b4⟩
        have HBw4 : Hid (Below W.heap.size W w4) := HBw3.out.trans (b4.mono HBw3.out.size)
        clear b4
        refine hK _ _ ?_
        clear hK K
        refine wpAnyIn_ready (rs := [3]) (by kernel_rfl) (by simp) ?_
        refine AllReadyIn.cons rfl (fun K hK => ?_) AllReadyIn.nil
        go_simp
        rw [if_neg (by omega)]
        go_simp
        refine hK _ _ ?_
        clear hK K
        refine wpAnyIn_ready (rs := [4]) (by kernel_rfl) (by simp) ?_
        refine AllReadyIn.cons rfl (fun K hK => ?_) AllReadyIn.nil
        go_simp
        rw [if_neg (by omega)]
        go_simp
        refine hK _ _ ?_
        clear hK K
        refine wpAnyIn_ready (rs := [7]) (by kernel_rfl) (by simp) ?_
        refine AllReadyIn.cons rfl (fun K hK => ?_) AllReadyIn.nil
        go_simp
        rw [if_neg (by omega)]
        go_simp
        refine hK _ _ ?_
        clear hK K
        refine wpAnyIn_ready (rs := [8]) (by kernel_rfl) (by simp) ?_
        refine AllReadyIn.cons rfl (fun K hK => ?_) AllReadyIn.nil
        go_simp
        refine ⟨trivial, ?_⟩
        refine (CallsIn.inRound lp (callsIn_wide.2 (HWS.out _ HBw4.out))).mono ?_
        rintro e w9 ⟨rfl, hbd9, hkx9⟩
        have HF9 := Lib.hid (HFN.out _ w9 HBw4.out hbd9 hkx9)
        clear hbd9 hkx9
        refine hK _ _ ?_
        clear hK K
        refine wpAnyIn_done (by kernel_rfl) ?_ _
        exact HQE.out w9 HF9.out
      refine AllReadyIn.cons rfl (fun K hK => ?_) ?_
      · go_simp
        refine ⟨trivial, ?_⟩
        refine (CallsIn.inRound lp (callsIn_wide.2 (HE1.out _ HBW0.out))).mono ?_
        rintro e w3 ⟨rfl, b3⟩
        have HBw3 : Hid (Below W.heap.size W w3) := HBW0.out.trans (b3.mono HBW0.out.size)
        clear b3
        refine hK _ _ ?_
        clear hK K
        refine wpAnyIn_ready (rs := [0, 5]) (by kernel_rfl) (by simp) ?_
        refine AllReadyIn.cons rfl (fun K hK => ?_) ?_
        · have hc := HC.out _ HBw3.out
          go_simp
          refine hK _ _ ?_
          clear hK K hc
          refine wpAnyIn_ready (rs := [3, 5]) (by kernel_rfl) (by simp) ?_
          refine AllReadyIn.cons rfl (fun K hK => ?_) ?_
          · go_simp
            rw [if_neg (by omega)]
            go_simp
            refine hK _ _ ?_
            clear hK K
            refine wpAnyIn_ready (rs := [4, 5]) (by kernel_rfl) (by simp) ?_
            refine AllReadyIn.cons rfl (fun K hK => ?_) ?_
            · go_simp
              rw [if_neg (by omega)]
              go_simp
              refine hK _ _ ?_
              clear hK K
              refine wpAnyIn_ready (rs := [5]) (by kernel_rfl) (by simp) ?_
              refine AllReadyIn.cons rfl (fun K hK => ?_) AllReadyIn.nil
              go_simp
              refine hK _ _ ?_
              clear hK K
              refine wpAnyIn_ready (rs := [6]) (by kernel_rfl) (by simp) ?_
              refine AllReadyIn.cons rfl (fun K hK => ?_) AllReadyIn.nil
              go_simp
              refine ⟨trivial, ?_⟩
              refine (CallsIn.inRound lp (callsIn_wide.2 (HE2.out _ HBw3.out))).mono ?_
              rintro e w4 ⟨rfl, b4⟩
              have HBw4 : Hid (Below W.heap.size W w4) := HBw3.out.trans (b4.mono HBw3.out.size)
              clear b4
              refine hK _ _ ?_
              clear hK K
              refine wpAnyIn_ready (rs := [7]) (by kernel_rfl) (by simp) ?_
              refine AllReadyIn.cons rfl (fun K hK => ?_) AllReadyIn.nil
              go_simp
              rw [if_neg (by omega)]
              go_simp
              refine hK _ _ ?_
              clear hK K
              refine wpAnyIn_ready (rs := [8]) (by kernel_rfl) (by simp) ?_
              refine AllReadyIn.cons rfl (fun K hK => ?_) AllReadyIn.nil
              go_simp
              refine ⟨trivial, ?_⟩
              refine (CallsIn.inRound lp (callsIn_wide.2 (HWS.out _ HBw4.out))).mono ?_
              rintro e w9 ⟨rfl, hbd9, hkx9⟩
              have HF9 := Lib.hid (HFN.out _ w9 HBw4.out hbd9 hkx9)
              clear hbd9 hkx9
              refine hK _ _ ?_
              clear hK K
              refine wpAnyIn_done (by kernel_rfl) ?_ _
              exact HQE.out w9 HF9.out
            refine AllReadyIn.cons rfl (fun K hK => ?_) AllReadyIn.nil
            go_simp
            refine hK _ _ ?_
            clear hK K
            refine wpAnyIn_ready (rs := [4, 6]) (by kernel_rfl) (by simp) ?_
            refine AllReadyIn.cons rfl (fun K hK => ?_) ?_
            · go_simp
              rw [if_neg (by omega)]
              go_simp
              refine hK _ _ ?_
              clear hK K
              refine wpAnyIn_ready (rs := [6]) (by kernel_rfl) (by simp) ?_
              refine AllReadyIn.cons rfl (fun K hK => ?_) AllReadyIn.nil
              go_simp
              refine ⟨trivial, ?_⟩
              refine (CallsIn.inRound lp (callsIn_wide.2 (HE2.out _ HBw3.out))).mono ?_
              rintro e w4 ⟨rfl, b4⟩
              have HBw4 : Hid (Below W.heap.size W w4) := HBw3.out.trans (b4.mono HBw3.out.size)
              clear b4
              refine hK _ _ ?_
              clear hK K
              refine wpAnyIn_ready (rs := [7]) (by kernel_rfl) (by simp) ?_
              refine AllReadyIn.cons rfl (fun K hK => ?_) AllReadyIn.nil
              go_simp
              rw [if_neg (by omega)]
              go_simp
              refine hK _ _ ?_
              clear hK K
              refine wpAnyIn_ready (rs := [8]) (by kernel_rfl) (by simp) ?_
              refine AllReadyIn.cons rfl (fun K hK => ?_) AllReadyIn.nil
              go_simp
              refine ⟨trivial, ?_⟩
              refine (CallsIn.inRound lp (callsIn_wide.2 (HWS.out _ HBw4.out))).mono ?_
              rintro e w9 ⟨rfl, hbd9, hkx9⟩
              have HF9 := Lib.hid (HFN.out _ w9 HBw4.out hbd9 hkx9)
              clear hbd9 hkx9
              refine hK _ _ ?_
              clear hK K
              refine wpAnyIn_done (by kernel_rfl) ?_ _
              exact HQE.out w9 HF9.out
            refine AllReadyIn.cons rfl (fun K hK => ?_) AllReadyIn.nil
            go_simp
            refine ⟨trivial, ?_⟩
            refine (CallsIn.inRound lp (callsIn_wide.2 (HE2.out _ HBw3.out))).mono ?_
            rintro e w4 ⟨rfl, b4⟩
            have HBw4 : Hid (Below W.heap.size W w4) := HBw3.out.trans (b4.mono HBw3.out.size)
            clear b4
            refine hK _ _ ?_
            clear hK K
            refine wpAnyIn_ready (rs := [4]) (by kernel_rfl) (by simp) ?_
            refine AllReadyIn.cons rfl (fun K hK => ?_) AllReadyIn.nil
            go_simp
            rw [if_neg (by omega)]
            go_simp
            refine hK _ _ ?_
            clear hK K
            refine wpAnyIn_ready (rs := [7]) (by kernel_rfl) (by simp) ?_
            refine AllReadyIn.cons rfl (fun K hK => ?_) AllReadyIn.nil
            go_simp
            rw [if_neg (by omega)]
            go_simp
            refine hK _ _ ?_
            clear hK K
            refine wpAnyIn_ready (rs := [8]) (by kernel_rfl) (by simp) ?_
            refine AllReadyIn.cons rfl (fun K hK => ?_) AllReadyIn.nil
            go_simp
            refine ⟨trivial, ?_⟩
            refine (CallsIn.inRound lp (callsIn_wide.2 (HWS.out _ HBw4.out))).mono ?_
            rintro e w9 ⟨rfl, hbd9, hkx9⟩
            have HF9 := Lib.hid (HFN.out _ w9 HBw4.out hbd9 hkx9)
            clear hbd9 hkx9
            refine hK _ _ ?_
            clear hK K
            refine wpAnyIn_done (by kernel_rfl) ?_ _
            exact HQE.out w9 HF9.out
          refine AllReadyIn.cons rfl (fun K hK => ?_) AllReadyIn.nil
          go_simp
          refine hK _ _ ?_
          clear hK K
          refine wpAnyIn_ready (rs := [3, 6]) (by kernel_rfl) (by simp) ?_
          refine AllReadyIn.cons rfl (fun K hK => ?_) ?_
          · go_simp
            rw [if_neg (by omega)]
            go_simp
            refine hK _ _ ?_
            clear hK K
            refine wpAnyIn_ready (rs := [4, 6]) (by kernel_rfl) (by simp) ?_
            refine AllReadyIn.cons rfl (fun K hK => ?_) ?_
            · go_simp
              rw [if_neg (by omega)]
              go_simp
              refine hK _ _ ?_
              clear hK K
              refine wpAnyIn_ready (rs := [6]) (by kernel_rfl) (by simp) ?_
              refine AllReadyIn.cons rfl (fun K hK => ?_) AllReadyIn.nil
              go_simp
              refine ⟨trivial, ?_⟩
              refine (CallsIn.inRound lp (callsIn_wide.2 (HE2.out _ HBw3.out))).mono ?_
              rintro e w4 ⟨rfl, b4⟩
              have HBw4 : Hid (Below W.heap.size W w4) := HBw3.out.trans (b4.mono HBw3.out.size)
              clear b4
              refine hK _ _ ?_
              clear hK K
              refine wpAnyIn_ready (rs := [7]) (by kernel_rfl) (by simp) ?_
              refine AllReadyIn.cons rfl (fun K hK => ?_) AllReadyIn.nil
              go_simp
              rw [if_neg (by omega)]
              go_simp
              refine hK _ _ ?_
              clear hK K
              refine wpAnyIn_ready (rs := [8]) (by kernel_rfl) (by simp) ?_
              refine AllReadyIn.cons rfl (fun K hK => ?_) AllReadyIn.nil
              go_simp
              refine ⟨trivial, ?_⟩
              refine (CallsIn.inRound lp (callsIn_wide.2 (HWS.out _ HBw4.out))).mono ?_
              rintro e w9 ⟨rfl, hbd9, hkx9⟩
              have HF9 := Lib.hid (HFN.out _ w9 HBw4.out hbd9 hkx9)
              clear hbd9 hkx9
              refine hK _ _ ?_
              clear hK K
              refine wpAnyIn_done (by kernel_rfl) ?_ _
              exact HQE.out w9 HF9.out
            refine AllReadyIn.cons rfl (fun K hK => ?_) AllReadyIn.nil
            go_simp
            refine ⟨trivial, ?_⟩
            refine (CallsIn.inRound lp (callsIn_wide.2 (HE2.out _ HBw3.out))).mono ?_
            rintro e w4 ⟨rfl, b4⟩
            have HBw4 : Hid (Below W.heap.size W w4) := HBw3.out.trans (b4.mono HBw3.out.size)
            clear b4
            refine hK _ _ ?_
            clear hK K
            refine wpAnyIn_ready (rs := [4]) (by kernel_rfl) (by simp) ?_
            refine AllReadyIn.cons rfl (fun K hK => ?_) AllReadyIn.nil
            go_simp
            rw [if_neg (by omega)]
            go_simp
            refine hK _ _ ?_
            clear hK K
            refine wpAnyIn_ready (rs := [7]) (by kernel_rfl) (by simp) ?_
            refine AllReadyIn.cons rfl (fun K hK => ?_) AllReadyIn.nil
            go_simp
            rw [if_neg (by omega)]
            go_simp
            refine hK _ _ ?_
            clear hK K
            refine wpAnyIn_ready (rs := [8]) (by kernel_rfl) (by simp) ?_
            refine AllReadyIn.cons rfl (fun K hK => ?_) AllReadyIn.nil
            go_simp
            refine ⟨trivial, ?_⟩
            refine (CallsIn.inRound lp (callsIn_wide.2 (HWS.out _ HBw4.out))).mono ?_
            rintro e w9 ⟨rfl, hbd9, hkx9⟩
            have HF9 := Lib.hid (HFN.out _ w9 HBw4.out hbd9 hkx9)
            clear hbd9 hkx9
            refine hK _ _ ?_
            clear hK K
            refine wpAnyIn_done (by kernel_rfl) ?_ _
            exact HQE.out w9 HF9.out
          refine AllReadyIn.cons rfl (fun K hK => ?_) AllReadyIn.nil
          go_simp
          refine ⟨trivial, ?_⟩
          refine (CallsIn.inRound lp (callsIn_wide.2 (HE2.out _ HBw3.out))).mono ?_
          rintro e w4 ⟨rfl, b4⟩
          have HBw4 : Hid (Below W.heap.size W w4) := HBw3.out.trans (b4.mono HBw3.out.size)
          clear b4
          refine hK _ _ ?_
          clear hK K
          refine wpAnyIn_ready (rs := [3]) (by kernel_rfl) (by simp) ?_
          refine AllReadyIn.cons rfl (fun K hK => ?_) AllReadyIn.nil
          go_simp
          rw [if_neg (by omega)]
          go_simp
          refine hK _ _ ?_
          clear hK K
          refine wpAnyIn_ready (rs := [4]) (by kernel_rfl) (by simp) ?_
          refine AllReadyIn.cons rfl (fun K hK => ?_) AllReadyIn.nil
          go_simp
          rw [if_neg (by omega)]
          go_simp
          refine hK _ _ ?_
          clear hK K
          refine wpAnyIn_ready (rs := [7]) (by kernel_rfl) (by simp) ?_
          refine AllReadyIn.cons rfl (fun K hK => ?_) AllReadyIn.nil
          go_simp
          rw [if_neg (by omega)]
          go_simp
          refine hK _ _ ?_
          clear hK K
          refine wpAnyIn_ready (rs := [8]) (by kernel_rfl) (by simp) ?_
          refine AllReadyIn.cons rfl (fun K hK => ?_) AllReadyIn.nil
          go_simp
          refine ⟨trivial, ?_⟩
          refine (CallsIn.inRound lp (callsIn_wide.2 (HWS.out _ HBw4.out))).mono ?_
          rintro e w9 ⟨rfl, hbd9, hkx9⟩
          have HF9 := Lib.hid (HFN.out _ w9 HBw4.out hbd9 hkx9)
          clear hbd9 hkx9
          refine hK _ _ ?_
          clear hK K
          refine wpAnyIn_done (by kernel_rfl) ?_ _
          exact HQE.out w9 HF9.out
        refine AllReadyIn.cons rfl (fun K hK => ?_) AllReadyIn.nil
        go_simp
        refine hK _ _ ?_
        clear hK K
        refine wpAnyIn_ready (rs := [0, 6]) (by kernel_rfl) (by simp) ?_
        refine AllReadyIn.cons rfl (fun K hK => ?_) ?_
        · have hc := HC.out _ HBw3.out
          go_simp
          refine hK _ _ ?_
          clear hK K hc
          refine wpAnyIn_ready (rs := [3, 6]) (by kernel_rfl) (by simp) ?_
          refine AllReadyIn.cons rfl (fun K hK => ?_) ?_
          · go_simp
            rw [if_neg (by omega)]
            go_simp
            refine hK _ _ ?_
            clear hK K
            refine wpAnyIn_ready (rs := [4, 6]) (by kernel_rfl) (by simp) ?_
            refine AllReadyIn.cons rfl (fun K hK => ?_) ?_
            · go_simp
              rw [if_neg (by omega)]
              go_simp
              refine hK _ _ ?_
              clear hK K
              refine wpAnyIn_ready (rs := [6]) (by kernel_rfl) (by simp) ?_
              refine AllReadyIn.cons rfl (fun K hK => ?_) AllReadyIn.nil
              go_simp
              refine ⟨trivial, ?_⟩
              refine (CallsIn.inRound lp (callsIn_wide.2 (HE2.out _ HBw3.out))).mono ?_
              rintro e w4 ⟨rfl, b4⟩
              have HBw4 : Hid (Below W.heap.size W w4) := HBw3.out.trans (b4.mono HBw3.out.size)
              clear b4
              refine hK _ _ ?_
              clear hK K
              refine wpAnyIn_ready (rs := [7]) (by kernel_rfl) (by simp) ?_
              refine AllReadyIn.cons rfl (fun K hK => ?_) AllReadyIn.nil
              go_simp
              rw [if_neg (by omega)]
              go_simp
              refine hK _ _ ?_
              clear hK K
              refine wpAnyIn_ready (rs := [8]) (by kernel_rfl) (by simp) ?_
              refine AllReadyIn.cons rfl (fun K hK => ?_) AllReadyIn.nil
              go_simp
              refine ⟨trivial, ?_⟩
              refine (CallsIn.inRound lp (callsIn_wide.2 (HWS.out _ HBw4.out))).mono ?_
              rintro e w9 ⟨rfl, hbd9, hkx9⟩
              have HF9 := Lib.hid (HFN.out _ w9 HBw4.out hbd9 hkx9)
              clear hbd9 hkx9
              refine hK _ _ ?_
              clear hK K
              refine wpAnyIn_done (by kernel_rfl) ?_ _
              exact HQE.out w9 HF9.out
            refine AllReadyIn.cons rfl (fun K hK => ?_) AllReadyIn.nil
            go_simp
            refine ⟨trivial, ?_⟩
            refine (CallsIn.inRound lp (callsIn_wide.2 (HE2.out _ HBw3.out))).mono ?_
            rintro e w4 ⟨rfl, b4⟩
            have HBw4 : Hid (Below W.heap.size W w4) := HBw3.out.trans (b4.mono HBw3.out.size)
            clear b4
            refine hK _ _ ?_
            clear hK K
            refine wpAnyIn_ready (rs := [4]) (by kernel_rfl) (by simp) ?_
            refine AllReadyIn.cons rfl (fun K hK => ?_) AllReadyIn.nil
            go_simp
            rw [if_neg (by omega)]
            go_simp
            refine hK _ _ ?_
            clear hK K
            refine wpAnyIn_ready (rs := [7]) (by kernel_rfl) (by simp) ?_
            refine AllReadyIn.cons rfl (fun K hK => ?_) AllReadyIn.nil
            go_simp
            rw [if_neg (by omega)]
            go_simp
            refine hK _ _ ?_
            clear hK K
            refine wpAnyIn_ready (rs := [8]) (by kernel_rfl) (by simp) ?_
            refine AllReadyIn.cons rfl (fun K hK => ?_) AllReadyIn.nil
            go_simp
            refine ⟨trivial, ?_⟩
            refine (CallsIn.inRound lp (callsIn_wide.2 (HWS.out _ HBw4.out))).mono ?_
            rintro e w9 ⟨rfl, hbd9, hkx9⟩
            have HF9 := Lib.hid (HFN.out _ w9 HBw4.out hbd9 hkx9)
            clear hbd9 hkx9
            refine hK _ _ ?_
            clear hK K
            refine wpAnyIn_done (by kernel_rfl) ?_ _
            exact HQE.out w9 HF9.out
          refine AllReadyIn.cons rfl (fun K hK => ?_) AllReadyIn.nil
          go_simp
          refine ⟨trivial, ?_⟩
          refine (CallsIn.inRound lp (callsIn_wide.2 (HE2.out _ HBw3.out))).mono ?_
          rintro e w4 ⟨rfl, b4⟩
          have HBw4 : Hid (Below W.heap.size W w4) := HBw3.out.trans (b4.mono HBw3.out.size)
          clear b4
          refine hK _ _ ?_
          clear hK K
          refine wpAnyIn_ready (rs := [3]) (by kernel_rfl) (by simp) ?_
          refine AllReadyIn.cons rfl (fun K hK => ?_) AllReadyIn.nil
          go_simp
          rw [if_neg (by omega)]
          go_simp
          refine hK _ _ ?_
          clear hK K
          refine wpAnyIn_ready (rs := [4]) (by kernel_rfl) (by simp) ?_
          refine AllReadyIn.cons rfl (fun K hK => ?_) AllReadyIn.nil
          go_simp
          rw [if_neg (by omega)]
          go_simp
          refine hK _ _ ?_
          clear hK K
          refine wpAnyIn_ready (rs := [7]) (by kernel_rfl) (by simp) ?_
          refine AllReadyIn.cons rfl (fun K hK => ?_) AllReadyIn.nil
          go_simp
          rw [if_neg (by omega)]
          go_simp
          refine hK _ _ ?_
          clear hK K
          refine wpAnyIn_ready (rs := [8]) (by kernel_rfl) (by simp) ?_
          refine AllReadyIn.cons rfl (fun K hK => ?_) AllReadyIn.nil
          go_simp
          refine ⟨trivial, ?_⟩
          refine (CallsIn.inRound lp (callsIn_wide.2 (HWS.out _ HBw4.out))).mono ?_
          rintro e w9 ⟨rfl, hbd9, hkx9⟩
          have HF9 := Lib.hid (HFN.out _ w9 HBw4.out hbd9 hkx9)
          clear hbd9 hkx9
          refine hK _ _ ?_
          clear hK K
          refine wpAnyIn_done (by kernel_rfl) ?_ _
          exact HQE.out w9 HF9.out
        refine AllReadyIn.cons rfl (fun K hK => ?_) AllReadyIn.nil
        go_simp
        refine ⟨trivial, ?_⟩
        refine (CallsIn.inRound lp (callsIn_wide.2 (HE2.out _ HBw3.out))).mono ?_
        rintro e w4 ⟨rfl, b4⟩
        have HBw4 : Hid (Below W.heap.size W w4) := HBw3.out.trans (b4.mono HBw3.out.size)
        clear b4
        refine hK _ _ ?_
        clear hK K
        refine wpAnyIn_ready (rs := [0]) (by kernel_rfl) (by simp) ?_
        refine AllReadyIn.cons rfl (fun K hK => ?_) AllReadyIn.nil
        have hc := HC.out _ HBw4.out
        go_simp
        refine hK _ _ ?_
        clear hK K hc
        refine wpAnyIn_ready (rs := [3]) (by kernel_rfl) (by simp) ?_
        refine AllReadyIn.cons rfl (fun K hK => ?_) AllReadyIn.nil
        go_simp
        rw [if_neg (by omega)]
        go_simp
        refine hK _ _ ?_
        clear hK K
        refine wpAnyIn_ready (rs := [4]) (by kernel_rfl) (by simp) ?_
        refine AllReadyIn.cons rfl (fun K hK => ?_) AllReadyIn.nil
        go_simp
        rw [if_neg (by omega)]
        go_simp
        refine hK _ _ ?_
        clear hK K
        refine wpAnyIn_ready (rs := [7]) (by kernel_rfl) (by simp) ?_
        refine AllReadyIn.cons rfl (fun K hK => ?_) AllReadyIn.nil
        go_simp
        rw [if_neg (by omega)]
        go_simp
        refine hK _ _ ?_
        clear hK K
        refine wpAnyIn_ready (rs := [8]) (by kernel_rfl) (by simp) ?_
        refine AllReadyIn.cons rfl (fun K hK => ?_) AllReadyIn.nil
        go_simp
        refine ⟨trivial, ?_⟩
        refine (CallsIn.inRound lp (callsIn_wide.2 (HWS.out _ HBw4.out))).mono ?_
        rintro e w9 ⟨rfl, hbd9, hkx9⟩
        have HF9 := Lib.hid (HFN.out _ w9 HBw4.out hbd9 hkx9)
        clear hbd9 hkx9
        refine hK _ _ ?_
        clear hK K
        refine wpAnyIn_done (by kernel_rfl) ?_ _
        exact HQE.out w9 HF9.out
      refine AllReadyIn.cons rfl (fun K hK => ?_) AllReadyIn.nil
      go_simp
      refine hK _ _ ?_
      clear hK K
      refine wpAnyIn_ready (rs := [0, 2]) (by kernel_rfl) (by simp) ?_
      refine AllReadyIn.cons rfl (fun K hK => ?_) ?_
      · have hc := HC.out _ HBW0.out
        go_simp
        refine hK _ _ ?_
        clear hK K hc
        refine wpAnyIn_ready (rs := [2]) (by kernel_rfl) (by simp) ?_
        refine AllReadyIn.cons rfl (fun K hK => ?_) AllReadyIn.nil
        go_simp
        refine ⟨trivial, ?_⟩
        refine (CallsIn.inRound lp (callsIn_wide.2 (HE1.out _ HBW0.out))).mono ?_
        rintro e w3 ⟨rfl, b3⟩
        have HBw3 : Hid (Below W.heap.size W w3) := HBW0.out.trans (b3.mono HBW0.out.size)
        clear b3
        refine hK _ _ ?_
        clear hK K
        refine wpAnyIn_ready (rs := [3, 6]) (by kernel_rfl) (by simp) ?_
        refine AllReadyIn.cons rfl (fun K hK => ?_) ?_
        · go_simp
          rw [if_neg (by omega)]
          go_simp
          refine hK _ _ ?_
          clear hK K
          refine wpAnyIn_ready (rs := [4, 6]) (by kernel_rfl) (by simp) ?_
          refine AllReadyIn.cons rfl (fun K hK => ?_) ?_
          · go_simp
            rw [if_neg (by omega)]
            go_simp
            refine hK _ _ ?_
            clear hK K
            refine wpAnyIn_ready (rs := [6]) (by kernel_rfl) (by simp) ?_
            refine AllReadyIn.cons rfl (fun K hK => ?_) AllReadyIn.nil
            go_simp
            refine ⟨trivial, ?_⟩
            refine (CallsIn.inRound lp (callsIn_wide.2 (HE2.out _ HBw3.out))).mono ?_
            rintro e w4 ⟨rfl, b4⟩
            have HBw4 : Hid (Below W.heap.size W w4) := HBw3.out.trans (b4.mono HBw3.out.size)
            clear b4
            refine hK _ _ ?_
            clear hK K
            refine wpAnyIn_ready (rs := [7]) (by kernel_rfl) (by simp) ?_
            refine AllReadyIn.cons rfl (fun K hK => ?_) AllReadyIn.nil
            go_simp
            rw [if_neg (by omega)]
            go_simp
            refine hK _ _ ?_
            clear hK K
            refine wpAnyIn_ready (rs := [8]) (by kernel_rfl) (by simp) ?_
            refine AllReadyIn.cons rfl (fun K hK => ?_) AllReadyIn.nil
            go_simp
            refine ⟨trivial, ?_⟩
            refine (CallsIn.inRound lp (callsIn_wide.2 (HWS.out _ HBw4.out))).mono ?_
            rintro e w9 ⟨rfl, hbd9, hkx9⟩
            have HF9 := Lib.hid (HFN.out _ w9 HBw4.out hbd9 hkx9)
            clear hbd9 hkx9
            refine hK _ _ ?_
            clear hK K
            refine wpAnyIn_done (by kernel_rfl) ?_ _
            exact HQE.out w9 HF9.out
          refine AllReadyIn.cons rfl (fun K hK => ?_) AllReadyIn.nil
          go_simp
          refine ⟨trivial, ?_⟩
          refine (CallsIn.inRound lp (callsIn_wide.2 (HE2.out _ HBw3.out))).mono ?_
          rintro e w4 ⟨rfl, b4⟩
          have HBw4 : Hid (Below W.heap.size W w4) := HBw3.out.trans (b4.mono HBw3.out.size)
          clear b4
          refine hK _ _ ?_
          clear hK K
          refine wpAnyIn_ready (rs := [4]) (by kernel_rfl) (by simp) ?_
          refine AllReadyIn.cons rfl (fun K hK => ?_) AllReadyIn.nil
          go_simp
          rw [if_neg (by omega)]
          go_simp
          refine hK _ _ ?_
          clear hK K
          refine wpAnyIn_ready (rs := [7]) (by kernel_rfl) (by simp) ?_
          refine AllReadyIn.cons rfl (fun K hK => ?_) AllReadyIn.nil
          go_simp
          rw [if_neg (by omega)]
          go_simp
          refine hK _ _ ?_
          clear hK K
          refine wpAnyIn_ready (rs := [8]) (by kernel_rfl) (by simp) ?_
          refine AllReadyIn.cons rfl (fun K hK => ?_) AllReadyIn.nil
          go_simp
          refine ⟨trivial, ?_⟩
          refine (CallsIn.inRound lp (callsIn_wide.2 (HWS.out _ HBw4.out))).mono ?_
          rintro e w9 ⟨rfl, hbd9, hkx9⟩
          have HF9 := Lib.hid (HFN.out _ w9 HBw4.out hbd9 hkx9)
          clear hbd9 hkx9
          refine hK _ _ ?_
          clear hK K
          refine wpAnyIn_done (by kernel_rfl) ?_ _
          exact HQE.out w9 HF9.out
        refine AllReadyIn.cons rfl (fun K hK => ?_) AllReadyIn.nil
        go_simp
        refine ⟨trivial, ?_⟩
        refine (CallsIn.inRound lp (callsIn_wide.2 (HE2.out _ HBw3.out))).mono ?_
        rintro e w4 ⟨rfl, b4⟩
        have HBw4 : Hid (Below W.heap.size W w4) := HBw3.out.trans (b4.mono HBw3.out.size)
        clear b4
        refine hK _ _ ?_
        clear hK K
        refine wpAnyIn_ready (rs := [3]) (by kernel_rfl) (by simp) ?_
        refine AllReadyIn.cons rfl (fun K hK => ?_) AllReadyIn.nil
        go_simp
        rw [if_neg (by omega)]
        go_simp
        refine hK _ _ ?_
        clear hK K
        refine wpAnyIn_ready (rs := [4]) (by kernel_rfl) (by simp) ?_
        refine AllReadyIn.cons rfl (fun K hK => ?_) AllReadyIn.nil
        go_simp
        rw [if_neg (by omega)]
        go_simp
        refine hK _ _ ?_
        clear hK K
        refine wpAnyIn_ready (rs := [7]) (by kernel_rfl) (by simp) ?_
        refine AllReadyIn.cons rfl (fun K hK => ?_) AllReadyIn.nil
        go_simp
        rw [if_neg (by omega)]
        go_simp
        refine hK _ _ ?_
        clear hK K
        refine wpAnyIn_ready (rs := [8]) (by kernel_rfl) (by simp) ?_
        refine AllReadyIn.cons rfl (fun K hK => ?_) AllReadyIn.nil
        go_simp
        refine ⟨trivial, ?_⟩
        refine (CallsIn.inRound lp (callsIn_wide.2 (HWS.out _ HBw4.out))).mono ?_
        rintro e w9 ⟨rfl, hbd9, hkx9⟩
        have HF9 := Lib.hid (HFN.out _ w9 HBw4.out hbd9 hkx9)
        clear hbd9 hkx9
        refine hK _ _ ?_
        clear hK K
        refine wpAnyIn_done (by kernel_rfl) ?_ _
        exact HQE.out w9 HF9.out
      refine AllReadyIn.cons rfl (fun K hK => ?_) AllReadyIn.nil
      go_simp
      refine ⟨trivial, ?_⟩
      refine (CallsIn.inRound lp (callsIn_wide.2 (HE1.out _ HBW0.out))).mono ?_
      rintro e w3 ⟨rfl, b3⟩
      have HBw3 : Hid (Below W.heap.size W w3) := HBW0.out.trans (b3.mono HBW0.out.size)
      clear b3
      refine hK _ _ ?_
      clear hK K
      refine wpAnyIn_ready (rs := [0, 6]) (by kernel_rfl) (by simp) ?_
      refine AllReadyIn.cons rfl (fun K hK => ?_) ?_
      · have hc := HC.out _ HBw3.out
        go_simp
        refine hK _ _ ?_
        clear hK K hc
        refine wpAnyIn_ready (rs := [3, 6]) (by kernel_rfl) (by simp) ?_
        refine AllReadyIn.cons rfl (fun K hK => ?_) ?_
        · go_simp
          rw [if_neg (by omega)]
          go_simp
          refine hK _ _ ?_
          clear hK K
          refine wpAnyIn_ready (rs := [4, 6]) (by kernel_rfl) (by simp) ?_
          refine AllReadyIn.cons rfl (fun K hK => ?_) ?_
          · go_simp
            rw [if_neg (by omega)]
            go_simp
            refine hK _ _ ?_
            clear hK K
            refine wpAnyIn_ready (rs := [6]) (by kernel_rfl) (by simp) ?_
            refine AllReadyIn.cons rfl (fun K hK => ?_) AllReadyIn.nil
            go_simp
            refine ⟨trivial, ?_⟩
            refine (CallsIn.inRound lp (callsIn_wide.2 (HE2.out _ HBw3.out))).mono ?_
            rintro e w4 ⟨rfl, b4⟩
            have HBw4 : Hid (Below W.heap.size W w4) := HBw3.out.trans (b4.mono HBw3.out.size)
            clear b4
            refine hK _ _ ?_
            clear hK K
            refine wpAnyIn_ready (rs := [7]) (by kernel_rfl) (by simp) ?_
            refine AllReadyIn.cons rfl (fun K hK => ?_) AllReadyIn.nil
            go_simp
            rw [if_neg (by omega)]
            go_simp
            refine hK _ _ ?_
            clear hK K
            refine wpAnyIn_ready (rs := [8]) (by kernel_rfl) (by simp) ?_
            refine AllReadyIn.cons rfl (fun K hK => ?_) AllReadyIn.nil
            go_simp
            refine ⟨trivial, ?_⟩
            refine (CallsIn.inRound lp (callsIn_wide.2 (HWS.out _ HBw4.out))).mono ?_
            rintro e w9 ⟨rfl, hbd9, hkx9⟩
            have HF9 := Lib.hid (HFN.out _ w9 HBw4.out hbd9 hkx9)
            clear hbd9 hkx9
            refine hK _ _ ?_
            clear hK K
            refine wpAnyIn_done (by kernel_rfl) ?_ _
            exact HQE.out w9 HF9.out
          refine AllReadyIn.cons rfl (fun K hK => ?_) AllReadyIn.nil
          go_simp
          refine ⟨trivial, ?_⟩
          refine (CallsIn.inRound lp (callsIn_wide.2 (HE2.out _ HBw3.out))).mono ?_
          rintro e w4 ⟨rfl, b4⟩
          have HBw4 : Hid (Below W.heap.size W w4) := HBw3.out.trans (b4.mono HBw3.out.size)
          clear b4
          refine hK _ _ ?_
          clear hK K
          refine wpAnyIn_ready (rs := [4]) (by kernel_rfl) (by simp) ?_
          refine AllReadyIn.cons rfl (fun K hK => ?_) AllReadyIn.nil
          go_simp
          rw [if_neg (by omega)]
          go_simp
          refine hK _ _ ?_
          clear hK K
          refine wpAnyIn_ready (rs := [7]) (by kernel_rfl) (by simp) ?_
          refine AllReadyIn.cons rfl (fun K hK => ?_) AllReadyIn.nil
          go_simp
          rw [if_neg (by omega)]
          go_simp
          refine hK _ _ ?_
          clear hK K
          refine wpAnyIn_ready (rs := [8]) (by kernel_rfl) (by simp) ?_
          refine AllReadyIn.cons rfl (fun K hK => ?_) AllReadyIn.nil
          go_simp
          refine ⟨trivial, ?_⟩
          refine (CallsIn.inRound lp (callsIn_wide.2 (HWS.out _ HBw4.out))).mono ?_
          rintro e w9 ⟨rfl, hbd9, hkx9⟩
          have HF9 := Lib.hid (HFN.out _ w9 HBw4.out hbd9 hkx9)
          clear hbd9 hkx9
          refine hK _ _ ?_
          clear hK K
          refine wpAnyIn_done (by kernel_rfl) ?_ _
          exact HQE.out w9 HF9.out
        refine AllReadyIn.cons rfl (fun K hK => ?_) AllReadyIn.nil
        go_simp
        refine ⟨trivial, ?_⟩
        refine (CallsIn.inRound lp (callsIn_wide.2 (HE2.out _ HBw3.out))).mono ?_
        rintro e w4 ⟨rfl, b4⟩
        have HBw4 : Hid (Below W.heap.size W w4) := HBw3.out.trans (b4.mono HBw3.out.size)
        clear b4
        refine hK _ _ ?_
        clear hK K
        refine wpAnyIn_ready (rs := [3]) (by kernel_rfl) (by simp) ?_
        refine AllReadyIn.cons rfl (fun K hK => ?_) AllReadyIn.nil
        go_simp
        rw [if_neg (by omega)]
        go_simp
        refine hK _ _ ?_
        clear hK K
        refine wpAnyIn_ready (rs := [4]) (by kernel_rfl) (by simp) ?_
        refine AllReadyIn.cons rfl (fun K hK => ?_) AllReadyIn.nil
        go_simp
        rw [if_neg (by omega)]
        go_simp
        refine hK _ _ ?_
        clear hK K
        refine wpAnyIn_ready (rs := [7]) (by kernel_rfl) (by simp) ?_
        refine AllReadyIn.cons rfl (fun K hK => ?_) AllReadyIn.nil
        go_simp
        rw [if_neg (by omega)]
        go_simp
        refine hK _ _ ?_
        clear hK K
        refine wpAnyIn_ready (rs := [8]) (by kernel_rfl) (by simp) ?_
        refine AllReadyIn.cons rfl (fun K hK => ?_) AllReadyIn.nil
        go_simp
        refine ⟨trivial, ?_⟩
        refine (CallsIn.inRound lp (callsIn_wide.2 (HWS.out _ HBw4.out))).mono ?_
        rintro e w9 ⟨rfl, hbd9, hkx9⟩
        have HF9 := Lib.hid (HFN.out _ w9 HBw4.out hbd9 hkx9)
        clear hbd9 hkx9
        refine hK _ _ ?_
        clear hK K
        refine wpAnyIn_done (by kernel_rfl) ?_ _
        exact HQE.out w9 HF9.out
      refine AllReadyIn.cons rfl (fun K hK => ?_) AllReadyIn.nil
      go_simp
      refine ⟨trivial, ?_⟩
      refine (CallsIn.inRound lp (callsIn_wide.2 (HE2.out _ HBw3.out))).mono ?_
      rintro e w4 ⟨rfl, b4⟩
      have HBw4 : Hid (Below W.heap.size W w4) := HBw3.out.trans (b4.mono HBw3.out.size)
      clear b4
      refine hK _ _ ?_
      clear hK K
      refine wpAnyIn_ready (rs := [0]) (by kernel_rfl) (by simp) ?_
      refine AllReadyIn.cons rfl (fun K hK => ?_) AllReadyIn.nil
      have hc := HC.out _ HBw4.out
      go_simp
      refine hK _ _ ?_
      clear hK K hc
      refine wpAnyIn_ready (rs := [3]) (by kernel_rfl) (by simp) ?_
      refine AllReadyIn.cons rfl (fun K hK => ?_) AllReadyIn.nil
      go_simp
      rw [if_neg (by omega)]
      go_simp
      refine hK _ _ ?_
      clear hK K
      refine wpAnyIn_ready (rs := [4]) (by kernel_rfl) (by simp) ?_
      refine AllReadyIn.cons rfl (fun K hK => ?_) AllReadyIn.nil
      go_simp
      rw [if_neg (by omega)]
      go_simp
      refine hK _ _ ?_
      clear hK K
      refine wpAnyIn_ready (rs := [7]) (by kernel_rfl) (by simp) ?_
      refine AllReadyIn.cons rfl (fun K hK => ?_) AllReadyIn.nil
      go_simp
      rw [if_neg (by omega)]
      go_simp
      refine hK _ _ ?_
      clear hK K
      refine wpAnyIn_ready (rs := [8]) (by kernel_rfl) (by simp) ?_
      refine AllReadyIn.cons rfl (fun K hK => ?_) AllReadyIn.nil
      go_simp
      refine ⟨trivial, ?_⟩
      refine (CallsIn.inRound lp (callsIn_wide.2 (HWS.out _ HBw4.out))).mono ?_
      rintro e w9 ⟨rfl, hbd9, hkx9⟩
      have HF9 := Lib.hid (HFN.out _ w9 HBw4.out hbd9 hkx9)
      clear hbd9 hkx9
      refine hK _ _ ?_
      clear hK K
      refine wpAnyIn_done (by kernel_rfl) ?_ _
      exact HQE.out w9 HF9.out
    refine AllReadyIn.cons rfl (fun K hK => ?_) AllReadyIn.nil
    go_simp
    refine hK _ _ ?_
    clear hK K
    refine wpAnyIn_ready (rs := [0, 1]) (by kernel_rfl) (by simp) ?_
    refine AllReadyIn.cons rfl (fun K hK => ?_) ?_
    · have hc := HC.out _ HBW0.out
      go_simp
      refine hK _ _ ?_
      clear hK K hc
      refine wpAnyIn_ready (rs := [1]) (by kernel_rfl) (by simp) ?_
      refine AllReadyIn.cons rfl (fun K hK => ?_) AllReadyIn.nil
      go_simp
      refine hK _ _ ?_
      clear hK K
      refine wpAnyIn_ready (rs := [2]) (by kernel_rfl) (by simp) ?_
      refine AllReadyIn.cons rfl (fun K hK => ?_) AllReadyIn.nil
      go_simp
      refine ⟨trivial, ?_⟩
      refine (CallsIn.inRound lp (callsIn_wide.2 (HE1.out _ HBW0.out))).mono ?_
      rintro e w3 ⟨rfl, b3⟩
      have HBw3 : Hid (Below W.heap.size W w3) := HBW0.out.trans (b3.mono HBW0.out.size)
      clear b3
      refine hK _ _ ?_
      clear hK K
      refine wpAnyIn_ready (rs := [3, 6]) (by kernel_rfl) (by simp) ?_
      refine AllReadyIn.cons rfl (fun K hK => ?_) ?_
      · go_simp
        rw [if_neg (by omega)]
        go_simp
        refine hK _ _ ?_
        clear hK K
        refine wpAnyIn_ready (rs := [4, 6]) (by kernel_rfl) (by simp) ?_
        refine AllReadyIn.cons rfl (fun K hK => ?_) ?_
        · go_simp
          rw [if_neg (by omega)]
          go_simp
          refine hK _ _ ?_
          clear hK K
          refine wpAnyIn_ready (rs := [6]) (by kernel_rfl) (by simp) ?_
          refine AllReadyIn.cons rfl (fun K hK => ?_) AllReadyIn.nil
          go_simp
          refine ⟨trivial, ?_⟩
          refine (CallsIn.inRound lp (callsIn_wide.2 (HE2.out _ HBw3.out))).mono ?_
          rintro e w4 ⟨rfl, b4⟩
          have HBw4 : Hid (Below W.heap.size W w4) := HBw3.out.trans (b4.mono HBw3.out.size)
          clear b4
          refine hK _ _ ?_
          clear hK K
          refine wpAnyIn_ready (rs := [7]) (by kernel_rfl) (by simp) ?_
          refine AllReadyIn.cons rfl (fun K hK => ?_) AllReadyIn.nil
          go_simp
          rw [if_neg (by omega)]
          go_simp
          refine hK _ _ ?_
          clear hK K
          refine wpAnyIn_ready (rs := [8]) (by kernel_rfl) (by simp) ?_
          refine AllReadyIn.cons rfl (fun K hK => ?_) AllReadyIn.nil
          go_simp
          refine ⟨trivial, ?_⟩
          refine (CallsIn.inRound lp (callsIn_wide.2 (HWS.out _ HBw4.out))).mono ?_
          rintro e w9 ⟨rfl, hbd9, hkx9⟩
          have HF9 := Lib.hid (HFN.out _ w9 HBw4.out hbd9 hkx9)
          clear hbd9 hkx9
          refine hK _ _ ?_
          clear hK K
          refine wpAnyIn_done (by kernel_rfl) ?_ _
          exact HQE.out w9 HF9.out
        refine AllReadyIn.cons rfl (fun K hK => ?_) AllReadyIn.nil
        go_simp
        refine ⟨trivial, ?_⟩
        refine (CallsIn.inRound lp (callsIn_wide.2 (HE2.out _ HBw3.out))).mono ?_
        rintro e w4 ⟨rfl, b4⟩
        have HBw4 : Hid (Below W.heap.size W w4) := HBw3.out.trans (b4.mono HBw3.out.size)
        clear b4
        refine hK _ _ ?_
        clear hK K
        refine wpAnyIn_ready (rs := [4]) (by kernel_rfl) (by simp) ?_
        refine AllReadyIn.cons rfl (fun K hK => ?_) AllReadyIn.nil
        go_simp
        rw [if_neg (by omega)]
        go_simp
        refine hK _ _ ?_
        clear hK K
        refine wpAnyIn_ready (rs := [7]) (by kernel_rfl) (by simp) ?_
        refine AllReadyIn.cons rfl (fun K hK => ?_) AllReadyIn.nil
        go_simp
        rw [if_neg (by omega)]
        go_simp
        refine hK _ _ ?_
        clear hK K
        refine wpAnyIn_ready (rs := [8]) (by kernel_rfl) (by simp) ?_
        refine AllReadyIn.cons rfl (fun K hK => ?_) AllReadyIn.nil
        go_simp
        refine ⟨trivial, ?_⟩
        refine (CallsIn.inRound lp (callsIn_wide.2 (HWS.out _ HBw4.out))).mono ?_
        rintro e w9 ⟨rfl, hbd9, hkx9⟩
        have HF9 := Lib.hid (HFN.out _ w9 HBw4.out hbd9 hkx9)
        clear hbd9 hkx9
        refine hK _ _ ?_
        clear hK K
        refine wpAnyIn_done (by kernel_rfl) ?_ _
        exact HQE.out w9 HF9.out
      refine AllReadyIn.cons rfl (fun K hK => ?_) AllReadyIn.nil
      go_simp
      refine ⟨trivial, ?_⟩
      refine (CallsIn.inRound lp (callsIn_wide.2 (HE2.out _ HBw3.out))).mono ?_
      rintro e w4 ⟨rfl, b4⟩
      have HBw4 : Hid (Below W.heap.size W w4) := HBw3.out.trans (b4.mono HBw3.out.size)
      clear b4
      refine hK _ _ ?_
      clear hK K
      refine wpAnyIn_ready (rs := [3]) (by kernel_rfl) (by simp) ?_
      refine AllReadyIn.cons rfl (fun K hK => ?_) AllReadyIn.nil
      go_simp
      rw [if_neg (by omega)]
      go_simp
      refine hK _ _ ?_
      clear hK K
      refine wpAnyIn_ready (rs := [4]) (by kernel_rfl) (by simp) ?_
      refine AllReadyIn.cons rfl (fun K hK => ?_) AllReadyIn.nil
      go_simp
      rw [if_neg (by omega)]
      go_simp
      refine hK _ _ ?_
      clear hK K
      refine wpAnyIn_ready (rs := [7]) (by kernel_rfl) (by simp) ?_
      refine AllReadyIn.cons rfl (fun K hK => ?_) AllReadyIn.nil
      go_simp
      rw [if_neg (by omega)]
      go_simp
      refine hK _ _ ?_
      clear hK K
      refine wpAnyIn_ready (rs := [8]) (by kernel_rfl) (by simp) ?_
      refine AllReadyIn.cons rfl (fun K hK => ?_) AllReadyIn.nil
      go_simp
      refine ⟨trivial, ?_⟩
      refine (CallsIn.inRound lp (callsIn_wide.2 (HWS.out _ HBw4.out))).mono ?_
      rintro e w9 ⟨rfl, hbd9, hkx9⟩
      have HF9 := Lib.hid (HFN.out _ w9 HBw4.out hbd9 hkx9)
      clear hbd9 hkx9
      refine hK _ _ ?_
      clear hK K
      refine wpAnyIn_done (by kernel_rfl) ?_ _
      exact HQE.out w9 HF9.out
    refine AllReadyIn.cons rfl (fun K hK => ?_) AllReadyIn.nil
    go_simp
    refine hK _ _ ?_
    clear hK K
    refine wpAnyIn_ready (rs := [0, 2]) (by kernel_rfl) (by simp) ?_
    refine AllReadyIn.cons rfl (fun K hK => ?_) ?_
    · have hc := HC.out _ HBW0.out
      go_simp
      refine hK _ _ ?_
      clear hK K hc
      refine wpAnyIn_ready (rs := [2]) (by kernel_rfl) (by simp) ?_
      refine AllReadyIn.cons rfl (fun K hK => ?_) AllReadyIn.nil
      go_simp
      refine ⟨trivial, ?_⟩
      refine (CallsIn.inRound lp (callsIn_wide.2 (HE1.out _ HBW0.out))).mono ?_
      rintro e w3 ⟨rfl, b3⟩
      have HBw3 : Hid (Below W.heap.size W w3) := HBW0.out.trans (b3.mono HBW0.out.size)
      clear b3
      refine hK _ _ ?_
      clear hK K
      refine wpAnyIn_ready (rs := [3, 6]) (by kernel_rfl) (by simp) ?_
      refine AllReadyIn.cons rfl (fun K hK => ?_) ?_
      · go_simp
        rw [if_neg (by omega)]
        go_simp
        refine hK _ _ ?_
        clear hK K
        refine wpAnyIn_ready (rs := [4, 6]) (by kernel_rfl) (by simp) ?_
        refine AllReadyIn.cons rfl (fun K hK => ?_) ?_
        · go_simp
          rw [if_neg (by omega)]
          go_simp
          refine hK _ _ ?_
          clear hK K
          refine wpAnyIn_ready (rs := [6]) (by kernel_rfl) (by simp) ?_
          refine AllReadyIn.cons rfl (fun K hK => ?_) AllReadyIn.nil
          go_simp
          refine ⟨trivial, ?_⟩
          refine (CallsIn.inRound lp (callsIn_wide.2 (HE2.out _ HBw3.out))).mono ?_
          rintro e w4 ⟨rfl, b4⟩
          have HBw4 : Hid (Below W.heap.size W w4) := HBw3.out.trans (b4.mono HBw3.out.size)
          clear b4
          refine hK _ _ ?_
          clear hK K
          refine wpAnyIn_ready (rs := [7]) (by kernel_rfl) (by simp) ?_
          refine AllReadyIn.cons rfl (fun K hK => ?_) AllReadyIn.nil
          go_simp
          rw [if_neg (by omega)]
          go_simp
          refine hK _ _ ?_
          clear hK K
          refine wpAnyIn_ready (rs := [8]) (by kernel_rfl) (by simp) ?_
          refine AllReadyIn.cons rfl (fun K hK => ?_) AllReadyIn.nil
          go_simp
          refine ⟨trivial, ?_⟩
          refine (CallsIn.inRound lp (callsIn_wide.2 (HWS.out _ HBw4.out))).mono ?_
          rintro e w9 ⟨rfl, hbd9, hkx9⟩
          have HF9 := Lib.hid (HFN.out _ w9 HBw4.out hbd9 hkx9)
          clear hbd9 hkx9
          refine hK _ _ ?_
          clear hK K
          refine wpAnyIn_done (by kernel_rfl) ?_ _
          exact HQE.out w9 HF9.out
        refine AllReadyIn.cons rfl (fun K hK => ?_) AllReadyIn.nil
        go_simp
        refine ⟨trivial, ?_⟩
        refine (CallsIn.inRound lp (callsIn_wide.2 (HE2.out _ HBw3.out))).mono ?_
        rintro e w4 ⟨rfl, b4⟩
        have HBw4 : Hid (Below W.heap.size W w4) := HBw3.out.trans (b4.mono HBw3.out.size)
        clear b4
        refine hK _ _ ?_
        clear hK K
        refine wpAnyIn_ready (rs := [4]) (by kernel_rfl) (by simp) ?_
        refine AllReadyIn.cons rfl (fun K hK => ?_) AllReadyIn.nil
        go_simp
        rw [if_neg (by omega)]
        go_simp
        refine hK _ _ ?_
        clear hK K
        refine wpAnyIn_ready (rs := [7]) (by kernel_rfl) (by simp) ?_
        refine AllReadyIn.cons rfl (fun K hK => ?_) AllReadyIn.nil
        go_simp
        rw [if_neg (by omega)]
        go_simp
        refine hK _ _ ?_
        clear hK K
        refine wpAnyIn_ready (rs := [8]) (by kernel_rfl) (by simp) ?_
        refine AllReadyIn.cons rfl (fun K hK => ?_) AllReadyIn.nil
        go_simp
        refine ⟨trivial, ?_⟩
        refine (CallsIn.inRound lp (callsIn_wide.2 (HWS.out _ HBw4.out))).mono ?_
        rintro e w9 ⟨rfl, hbd9, hkx9⟩
        have HF9 := Lib.hid (HFN.out _ w9 HBw4.out hbd9 hkx9)
        clear hbd9 hkx9
        refine hK _ _ ?_
        clear hK K
        refine wpAnyIn_done (by kernel_rfl) ?_ _
        exact HQE.out w9 HF9.out
      refine AllReadyIn.cons rfl (fun K hK => ?_) AllReadyIn.nil
      go_simp
      refine ⟨trivial, ?_⟩
      refine (CallsIn.inRound lp (callsIn_wide.2 (HE2.out _ HBw3.out))).mono ?_
      rintro e w4 ⟨rfl, b4⟩
      have HBw4 : Hid (Below W.heap.size W w4) := HBw3.out.trans (b4.mono HBw3.out.size)
      clear b4
      refine hK _ _ ?_
      clear hK K
      refine wpAnyIn_ready (rs := [3]) (by kernel_rfl) (by simp) ?_
      refine AllReadyIn.cons rfl (fun K hK => ?_) AllReadyIn.nil
      go_simp
      rw [if_neg (by omega)]
      go_simp
      refine hK _ _ ?_
      clear hK K
      refine wpAnyIn_ready (rs := [4]) (by kernel_rfl) (by simp) ?_
      refine AllReadyIn.cons rfl (fun K hK => ?_) AllReadyIn.nil
      go_simp
      rw [if_neg (by omega)]
      go_simp
      refine hK _ _ ?_
      clear hK K
      refine wpAnyIn_ready (rs := [7]) (by kernel_rfl) (by simp) ?_
      refine AllReadyIn.cons rfl (fun K hK => ?_) AllReadyIn.nil
      go_simp
      rw [if_neg (by omega)]
      go_simp
      refine hK _ _ ?_
      clear hK K
      refine wpAnyIn_ready (rs := [8]) (by kernel_rfl) (by simp) ?_
      refine AllReadyIn.cons rfl (fun K hK => ?_) AllReadyIn.nil
      go_simp
      refine ⟨trivial, ?_⟩
      refine (CallsIn.inRound lp (callsIn_wide.2 (HWS.out _ HBw4.out))).mono ?_
      rintro e w9 ⟨rfl, hbd9, hkx9⟩
      have HF9 := Lib.hid (HFN.out _ w9 HBw4.out hbd9 hkx9)
      clear hbd9 hkx9
      refine hK _ _ ?_
      clear hK K
      refine wpAnyIn_done (by kernel_rfl) ?_ _
      exact HQE.out w9 HF9.out
    refine AllReadyIn.cons rfl (fun K hK => ?_) AllReadyIn.nil
    go_simp
    refine ⟨trivial, ?_⟩
    refine (CallsIn.inRound lp (callsIn_wide.2 (HE1.out _ HBW0.out))).mono ?_
    rintro e w3 ⟨rfl, b3⟩
    have HBw3 : Hid (Below W.heap.size W w3) := HBW0.out.trans (b3.mono HBW0.out.size)
    clear b3
    refine hK _ _ ?_
    clear hK K
    refine wpAnyIn_ready (rs := [0, 6]) (by kernel_rfl) (by simp) ?_
    refine AllReadyIn.cons rfl (fun K hK => ?_) ?_
    · have hc := HC.out _ HBw3.out
      go_simp
      refine hK _ _ ?_
      clear hK K hc
      refine wpAnyIn_ready (rs := [3, 6]) (by kernel_rfl) (by simp) ?_
      refine AllReadyIn.cons rfl (fun K hK => ?_) ?_
      · go_simp
        rw [if_neg (by omega)]
        go_simp
        refine hK _ _ ?_
        clear hK K
        refine wpAnyIn_ready (rs := [4, 6]) (by kernel_rfl) (by simp) ?_
        refine AllReadyIn.cons rfl (fun K hK => ?_) ?_
        · go_simp
          rw [if_neg (by omega)]
          go_simp
          refine hK _ _ ?_
          clear hK K
          refine wpAnyIn_ready (rs := [6]) (by kernel_rfl) (by simp) ?_
          refine AllReadyIn.cons rfl (fun K hK => ?_) AllReadyIn.nil
          go_simp
          refine ⟨trivial, ?_⟩
          refine (CallsIn.inRound lp (callsIn_wide.2 (HE2.out _ HBw3.out))).mono ?_
          rintro e w4 ⟨rfl, b4⟩
          have HBw4 : Hid (Below W.heap.size W w4) := HBw3.out.trans (b4.mono HBw3.out.size)
          clear b4
          refine hK _ _ ?_
          clear hK K
          refine wpAnyIn_ready (rs := [7]) (by kernel_rfl) (by simp) ?_
          refine AllReadyIn.cons rfl (fun K hK => ?_) AllReadyIn.nil
          go_simp
          rw [if_neg (by omega)]
          go_simp
          refine hK _ _ ?_
          clear hK K
          refine wpAnyIn_ready (rs := [8]) (by kernel_rfl) (by simp) ?_
          refine AllReadyIn.cons rfl (fun K hK => ?_) AllReadyIn.nil
          go_simp
          refine ⟨trivial, ?_⟩
          refine (CallsIn.inRound lp (callsIn_wide.2 (HWS.out _ HBw4.out))).mono ?_
          rintro e w9 ⟨rfl, hbd9, hkx9⟩
          have HF9 := Lib.hid (HFN.out _ w9 HBw4.out hbd9 hkx9)
          clear hbd9 hkx9
          refine hK _ _ ?_
          clear hK K
          refine wpAnyIn_done (by kernel_rfl) ?_ _
          exact HQE.out w9 HF9.out
        refine AllReadyIn.cons rfl (fun K hK => ?_) AllReadyIn.nil
        go_simp
        refine ⟨trivial, ?_⟩
        refine (CallsIn.inRound lp (callsIn_wide.2 (HE2.out _ HBw3.out))).mono ?_
        rintro e w4 ⟨rfl, b4⟩
        have HBw4 : Hid (Below W.heap.size W w4) := HBw3.out.trans (b4.mono HBw3.out.size)
        clear b4
        refine hK _ _ ?_
        clear hK K
        refine wpAnyIn_ready (rs := [4]) (by kernel_rfl) (by simp) ?_
        refine AllReadyIn.cons rfl (fun K hK => ?_) AllReadyIn.nil
        go_simp
        rw [if_neg (by omega)]
        go_simp
        refine hK _ _ ?_
        clear hK K
        refine wpAnyIn_ready (rs := [7]) (by kernel_rfl) (by simp) ?_
        refine AllReadyIn.cons rfl (fun K hK => ?_) AllReadyIn.nil
        go_simp
        rw [if_neg (by omega)]
        go_simp
        refine hK _ _ ?_
        clear hK K
        refine wpAnyIn_ready (rs := [8]) (by kernel_rfl) (by simp) ?_
        refine AllReadyIn.cons rfl (fun K hK => ?_) AllReadyIn.nil
        go_simp
        refine ⟨trivial, ?_⟩
        refine (CallsIn.inRound lp (callsIn_wide.2 (HWS.out _ HBw4.out))).mono ?_
        rintro e w9 ⟨rfl, hbd9, hkx9⟩
        have HF9 := Lib.hid (HFN.out _ w9 HBw4.out hbd9 hkx9)
        clear hbd9 hkx9
        refine hK _ _ ?_
        clear hK K
        refine wpAnyIn_done (by kernel_rfl) ?_ _
        exact HQE.out w9 HF9.out
      refine AllReadyIn.cons rfl (fun K hK => ?_) AllReadyIn.nil
      go_simp
      refine ⟨trivial, ?_⟩
      refine (CallsIn.inRound lp (callsIn_wide.2 (HE2.out _ HBw3.out))).mono ?_
      rintro e w4 ⟨rfl, b4⟩
      have HBw4 : Hid (Below W.heap.size W w4) := HBw3.out.trans (b4.mono HBw3.out.size)
      clear b4
      refine hK _ _ ?_
      clear hK K
      refine wpAnyIn_ready (rs := [3]) (by kernel_rfl) (by simp) ?_
      refine AllReadyIn.cons rfl (fun K hK => ?_) AllReadyIn.nil
      go_simp
      rw [if_neg (by omega)]
      go_simp
      refine hK _ _ ?_
      clear hK K
      refine wpAnyIn_ready (rs := [4]) (by kernel_rfl) (by simp) ?_
      refine AllReadyIn.cons rfl (fun K hK => ?_) AllReadyIn.nil
      go_simp
      rw [if_neg (by omega)]
      go_simp
      refine hK _ _ ?_
      clear hK K
      refine wpAnyIn_ready (rs := [7]) (by kernel_rfl) (by simp) ?_
      refine AllReadyIn.cons rfl (fun K hK => ?_) AllReadyIn.nil
      go_simp
      rw [if_neg (by omega)]
      go_simp
      refine hK _ _ ?_
      clear hK K
      refine wpAnyIn_ready (rs := [8]) (by kernel_rfl) (by simp) ?_
      refine AllReadyIn.cons rfl (fun K hK => ?_) AllReadyIn.nil
      go_simp
      refine ⟨trivial, ?_⟩
      refine (CallsIn.inRound lp (callsIn_wide.2 (HWS.out _ HBw4.out))).mono ?_
      rintro e w9 ⟨rfl, hbd9, hkx9⟩
      have HF9 := Lib.hid (HFN.out _ w9 HBw4.out hbd9 hkx9)
      clear hbd9 hkx9
      refine hK _ _ ?_
      clear hK K
      refine wpAnyIn_done (by kernel_rfl) ?_ _
      exact HQE.out w9 HF9.out
    refine AllReadyIn.cons rfl (fun K hK => ?_) AllReadyIn.nil
    go_simp
    refine ⟨trivial, ?_⟩
    refine (CallsIn.inRound lp (callsIn_wide.2 (HE2.out _ HBw3.out))).mono ?_
    rintro e w4 ⟨rfl, b4⟩
    have HBw4 : Hid (Below W.heap.size W w4) := HBw3.out.trans (b4.mono HBw3.out.size)
    clear b4
    refine hK _ _ ?_
    clear hK K
    refine wpAnyIn_ready (rs := [0]) (by kernel_rfl) (by simp) ?_
    refine AllReadyIn.cons rfl (fun K hK => ?_) AllReadyIn.nil
    have hc := HC.out _ HBw4.out
    go_simp
    refine hK _ _ ?_
    clear hK K hc
    refine wpAnyIn_ready (rs := [3]) (by kernel_rfl) (by simp) ?_
    refine AllReadyIn.cons rfl (fun K hK => ?_) AllReadyIn.nil
    go_simp
    rw [if_neg (by omega)]
    go_simp
    refine hK _ _ ?_
    clear hK K
    refine wpAnyIn_ready (rs := [4]) (by kernel_rfl) (by simp) ?_
    refine AllReadyIn.cons rfl (fun K hK => ?_) AllReadyIn.nil
    go_simp
    rw [if_neg (by omega)]
    go_simp
    refine hK _ _ ?_
    clear hK K
    refine wpAnyIn_ready (rs := [7]) (by kernel_rfl) (by simp) ?_
    refine AllReadyIn.cons rfl (fun K hK => ?_) AllReadyIn.nil
    go_simp
    rw [if_neg (by omega)]
    go_simp
    refine hK _ _ ?_
    clear hK K
    refine wpAnyIn_ready (rs := [8]) (by kernel_rfl) (by simp) ?_
    refine AllReadyIn.cons rfl (fun K hK => ?_) AllReadyIn.nil
    go_simp
    refine ⟨trivial, ?_⟩
    refine (CallsIn.inRound lp (callsIn_wide.2 (HWS.out _ HBw4.out))).mono ?_
    rintro e w9 ⟨rfl, hbd9, hkx9⟩
    have HF9 := Lib.hid (HFN.out _ w9 HBw4.out hbd9 hkx9)
    clear hbd9 hkx9
    refine hK _ _ ?_
    clear hK K
    refine wpAnyIn_done (by kernel_rfl) ?_ _
    exact HQE.out w9 HF9.out
  case done =>
    rintro D ys W hD rfl ⟨hlen, hb1, hb2, hbd, hb4, hB, hsz, hgg⟩ hK
    have HST := Lib.hid (bStringK w2.heap.size (H + 1 + 1 + 1) (wS (prm k)) W hbd (prm_ne k))
    have HE : Hid (wrE k = .returned (.tuple #[.string (bs (wS (prm k))), .bool true])) := by
      have h9 : wrE k = .returned (.tuple #[.string (bs (wS (prm k))), .bool true]) := by unfold wrE; rw [if_pos hlen]
      exact h9
    have HI := Lib.hid (And.intro hb1 (And.intro hb2 (And.intro hB (And.intro hsz hK))))
    clear hlen hb1 hb2 hbd hb4 hB hsz hgg hK
    gi_wp2
    refine ⟨trivial, ?_⟩
    refine (callsIn_wide.2 HST.out).mono ?_
    rintro e w5 ⟨rfl, hkx⟩
    have d1 : Boxed w5 (H + 1) 9 (.string ⟨#[]⟩) := (hkx.low _ (by omega) HI.out.1.lt (by omega)).trans HI.out.1
    have d2 : Boxed w5 (H + 1 + 1) 4 (.bool false) := (hkx.low _ (by omega) HI.out.2.1.lt (by omega)).trans HI.out.2.1
    have hB5 : Below H w w5 := HI.out.2.2.1.trans ⟨hkx.os, hkx.tape, hkx.output, hkx.size, fun j hj => hkx.low j (by omega) (by have := HI.out.2.2.2.1; omega) (by omega)⟩
    have hK5 := hkx.same D _ HI.out.2.2.2.2 rfl
    have s1 := d1.cell
    have s1f := d1.frozen
    have s2 := (d2.other (B' := H + 1) (by omega) (.string ⟨(wS (prm k)).toArray⟩)).cell
    have s2f := (d2.other (B' := H + 1) (by omega) (.string ⟨(wS (prm k)).toArray⟩)).frozen
    have HF := Lib.hid (And.intro d1 (And.intro d2 (And.intro hB5 hK5)))
    clear HST hkx d1 d2 hB5 hK5 HI
    gi_wp2
    obtain ⟨d1, d2, hB5, hK5⟩ := HF.out
    have z1 : Boxed ((w5.setCell ⟨H + 1, 0, none⟩ (.string ⟨(wS (prm k)).toArray⟩)).setCell ⟨H + 1 + 1, 0, none⟩ (.bool true)) (H + 1) 9 (.string ⟨(wS (prm k)).toArray⟩) := (d1.set _).other (by omega) _
    have z2 : Boxed ((w5.setCell ⟨H + 1, 0, none⟩ (.string ⟨(wS (prm k)).toArray⟩)).setCell ⟨H + 1 + 1, 0, none⟩ (.bool true)) (H + 1 + 1) 4 (.bool true) := (d2.other (by omega) _).set _
    have hw : Below H w ((w5.setCell ⟨H + 1, 0, none⟩ (.string ⟨(wS (prm k)).toArray⟩)).setCell ⟨H + 1 + 1, 0, none⟩ (.bool true)) := (hB5.setCell (p := ⟨H + 1, 0, none⟩) (Nat.le_succ _) _).setCell (p := ⟨H + 1 + 1, 0, none⟩) (by show H ≤ H + 1 + 1; omega) _
    have hK' := ((KeepsOthers.setCell w5 ⟨H + 1, 0, none⟩ (.string ⟨(wS (prm k)).toArray⟩)).trans (KeepsOthers.setCell _ ⟨H + 1 + 1, 0, none⟩ (.bool true))).same D _ hK5 rfl
    generalize (w5.setCell ⟨H + 1, 0, none⟩ (.string ⟨(wS (prm k)).toArray⟩)).setCell ⟨H + 1 + 1, 0, none⟩ (.bool true) = W9 at *
    have hgp := grownBy_putObj' W9 D (.deferred none)
    have hgr : ∀ r, some D = some r → ∃ o : Obj, W9.heap[r]? = some o ∧ o.isCells = false := fun r e => by cases e; exact ⟨_, hK', rfl⟩
    refine ⟨by simp, .inl ⟨_, _, rfl, run_takeDeferred hK', ?_⟩⟩
    refine ⟨_, results_cc Tryz.results28 _ _ (H + 1) (H + 1 + 1) 9 4 _ _ rfl rfl (boxed_gr z1 hgp hgr) (boxed_gr z2 hgp hgr) isAgg9 isAgg4, ?_⟩
    rw [HH.out]
    exact ⟨HE.out.symm, hw.grown hgp (by have := hw.size; rw [HH.out] at this; exact this) (fun k e => by cases e; omega)⟩
  case stop =>
    rintro D c pre W hD hpre ⟨rfl, hno, hb1, hb2, hB⟩ hK
    have HE : Hid (wrE k = .returned (.tuple #[.string ⟨#[]⟩, .bool false])) := by
      have h9 : wrE k = .returned (.tuple #[.string ⟨#[]⟩, .bool false]) := by unfold wrE; rw [if_neg (wS_stop hpre hno)]
      exact h9
    gi_wp2
    have hgp := grownBy_putObj' W D (.deferred none)
    have hgr : ∀ r, some D = some r → ∃ o : Obj, W.heap[r]? = some o ∧ o.isCells = false := fun r e => by cases e; exact ⟨_, hK, rfl⟩
    refine ⟨by simp, .inl ⟨_, _, rfl, run_takeDeferred hK, ?_⟩⟩
    refine ⟨_, results_cc Tryz.results28 _ _ (H + 1) (H + 1 + 1) 9 4 _ _ rfl rfl (boxed_gr hb1 hgp hgr) (boxed_gr hb2 hgp hgr) isAgg9 isAgg4, ?_⟩
    rw [HH.out]
    exact ⟨HE.out.symm, hB.grown hgp (by have := hB.size; rw [HH.out] at this; exact this) (fun k e => by cases e; omega)⟩
end Go.Proofs.YtnpcbcfjnhjmmaaGreatDoor
