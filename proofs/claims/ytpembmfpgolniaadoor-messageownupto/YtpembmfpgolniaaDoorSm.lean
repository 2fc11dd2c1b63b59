import Derived.Test.YtpembmfpgolniaaDoorTw
import Derived.Deep.QuietTactic
namespace Go.Proofs.YtpembmfpgolniaaDoor
open Go.RowKit
theorem drewN2 (w : World) (n m : Nat) : (w.drewN n).drewN m = w.drewN (n + m) := by
  simp [World.drewN, Nat.add_assoc]
theorem wpQuiet_hash {ops : Array Oper} {C : World → Prop} {Q : Act → Prop} {a : Act} {o : Oper} {rest : List Oper} (hw : Region.wanted o (yielded ops a.tmps) = true) (x : Operand) (ho : o.op = .load 24 x) (g k : Nat) (hx : a.eval x = .pointer (some ⟨g, k, none⟩)) (h : List UInt8) (hr : ∀ w', C w' → w'.rangeAt g k (Lib.byteCells h)) (hl : h.length = 32)
    (hn : wpQuiet Tryd.prog ops C Q rest (a.put o.dst (.agg (bc h)))) : wpQuiet Tryd.prog ops C Q (o :: rest) a := by
  refine wpQuiet_step (fun K hK => ?_)
  rw [if_pos hw]
  refine ⟨.agg (bc h), fun w' hC => ?_, hK _ hn⟩
  unfold Oper.quietAt
  have := run_loadAt_mid w' g k 24 (Lib.byteCells h) _ (hr w' hC) Tryd.underlying24 rfl (by rw [bcl_len, hl]; exact info_hash)
  unfold execOp
  simp only [ho, hx, Sem.run_bind, this, Result.andThen_ok, Sem.run_pure]
  exact ⟨rfl, rfl⟩
theorem bcl_get (l : List UInt8) (j : Nat) (hj : j < l.length) : (Lib.byteCells l)[j]? = some (.int .u8 ((byt l j).toNat : Int)) := by
  simp [Lib.byteCells, hj, getD_byt l j hj]
theorem RH.cut {w : World} {v : Value} {l : List UInt8} {a : Option Addr} {n c : Nat} (h : RH w v l) (hv : v = .slice a n c) (k : Nat) (hk : k < n) : ∃ g o, a = some ⟨g, o, none⟩ ∧ g < w.heap.size ∧ w.rangeAt g (o + k * 32) (Lib.byteCells ((l.drop (k * 32)).take 32)) ∧ ((l.drop (k * 32)).take 32).length = 32 := by
  obtain ⟨a', n', c', e, hl, _, h⟩ := h
  rw [hv] at e
  cases e
  rcases h with h | ⟨g, o, rfl, h2, h3⟩
  · omega
  · have hl32 : ((l.drop (k * 32)).take 32).length = 32 := by rw [List.length_take, List.length_drop]; omega
    refine ⟨g, o, rfl, h2, fun j y hj => ?_, hl32⟩
    have hj32 : j < 32 := by
      have := (List.getElem?_eq_some_iff.1 hj).1
      rw [bcl_len, hl32] at this; exact this
    have := h3 (k * 32 + j) (by omega)
    rw [← Nat.add_assoc] at this
    rw [this]
    have e2 : byt l (k * 32 + j) = byt ((l.drop (k * 32)).take 32) j := by rw [byt_take _ _ _ hj32, byt_drop]
    rw [e2, ← hj, bcl_get _ j (by omega)]
set_option maxHeartbeats 2000000 in
set_option maxRecDepth 100000 in
theorem msameT (w : World) (m n : Mv) (D hb : List UInt8) (hm : MM w m D hb) (hn : MM w n D hb) (he : n = { m with d := n.d, h := n.h }) :
    Calls Tryd.prog 11 #[.agg m.cs, .agg n.cs] w fun e w' => e = .returned (.bool true) ∧ Below w.heap.size w w' := by
  have C0 : ∃ X, (w.alloc (.cells m.cs 27)).alloc (.cells n.cs 27) = X ∧ MB X w.heap.size m ∧ MB X (w.heap.size + 1) n ∧ Below w.heap.size w X := by
    refine ⟨_, rfl, ?_, ?_, ((Below.refl _ _).alloc (Nat.le_refl _) _).alloc (by simp) _⟩
    · show (World.alloc _ _).heap[_]? = _
      rw [heapOld _ _ _ (by simp), heapNew]
    · exact heapLast _ _ (by simp)
  have HM : Hid (MM w m D hb ∧ MM w n D hb) := ⟨hm, hn⟩
  obtain ⟨d2, h2⟩ : ∃ d2 h2, n = { m with d := d2, h := h2 } := ⟨_, _, he⟩
  obtain ⟨h2, rfl⟩ := h2
  obtain ⟨ad, cd, ed, _⟩ := hm.d
  obtain ⟨ad2, cd2, ed2, _⟩ := hn.d
  obtain ⟨ah, nh, ch, eh, lh, _, _⟩ := hm.h
  obtain ⟨ah2, nh2, ch2, eh2, lh2, _, _⟩ := hn.h
  obtain rfl : nh2 = nh := by omega
  simp only at ed2 eh2
  subst ed2 eh2
  have hnl : nh2 * 32 ≤ 140737488351232 := by have := hm.hl; omega
  have ok := hm.ok
  have ok2 := hn.ok
  clear hm hn he lh lh2
  go_enter Tryd.func11, Tryd.ntmps11
  go_upto_region 1 with fail
  obtain ⟨X, hX, C0⟩ := C0
  rw [hX]
  clear hX
  generalize Mv.cs _ = mc1
  generalize Mv.cs _ = mc2
  have HX : Hid (Below w.heap.size w X ∧ MM X m D hb ∧ MM X { m with d := .slice ad2 D.length cd2, h := .slice ah2 nh2 ch2 } D hb) := ⟨C0.2.2, HM.out.1.keep C0.2.2, HM.out.2.keep C0.2.2⟩
  have c0 := C0.1.c0
  have c1 := C0.1.c1
  have c2 := C0.1.c2
  have c3 := C0.1.c3
  have c4 := C0.1.c4
  have c37 := C0.1.c37 ok
  have c38 := C0.1.c38 ok
  have c39 := C0.1.c39 ok
  have e0 : X.cell? ⟨w.heap.size + 1, 0, none⟩ = some (.int .i64 m.k) := C0.2.1.c0
  have e1 : X.cell? ⟨w.heap.size + 1, 1, none⟩ = some (.int .i64 m.i) := C0.2.1.c1
  have e2 : X.cell? ⟨w.heap.size + 1, 2, none⟩ = some (.int .i64 m.b) := C0.2.1.c2
  have e3 : X.cell? ⟨w.heap.size + 1, 3, none⟩ = some (.int .i64 m.l) := C0.2.1.c3
  have e4 : X.cell? ⟨w.heap.size + 1, 4, none⟩ = some (.slice ad2 D.length cd2) := C0.2.1.c4
  have e37 : X.cell? ⟨w.heap.size + 1, 37, none⟩ = some (.int .i64 m.ba) := C0.2.1.c37 ok2
  have e38 : X.cell? ⟨w.heap.size + 1, 38, none⟩ = some (.int .i64 m.pr) := C0.2.1.c38 ok2
  have e39 : X.cell? ⟨w.heap.size + 1, 39, none⟩ = some (.slice ah2 nh2 ch2) := C0.2.1.c39 ok2
  have r0 := C0.1.root
  have r1 : X.rangeAt (w.heap.size + 1) 5 (Lib.byteCells m.r) := C0.2.1.root
  have hih : (Tryd.prog.info? 24).map (·.size) = some (Lib.byteCells m.r).length := by rw [bcl_len, ok.r]; exact info_hash
  have hne : ∀ u : World, (Op.equalIn 10000 24 (.agg (Lib.byteCells m.r).toArray) (.agg (Lib.byteCells m.r).toArray)).run Tryd.prog u = .ok (decide (m.r = m.r)) u := fun u => equal_hash u 9998 m.r m.r ok.r ok.r
  rw [decide_eq_true rfl] at hne
  rw [ed] at c4
  rw [eh] at c39
  have HE : Hid (m.d = .slice ad D.length cd ∧ m.h = .slice ah nh2 ch) := ⟨ed, eh⟩
  clear ed eh C0 ok2 HM
  go_wp2_with (first | (refine wpList_load_mid rfl 24 _ rfl w.heap.size 5 rfl (Lib.byteCells m.r) _ r0 Tryd.underlying24 rfl hih ?_) | (refine wpList_load_mid rfl 24 _ rfl (w.heap.size + 1) 5 rfl (Lib.byteCells m.r) _ r1 Tryd.underlying24 rfl hih ?_) | (go_at_call 10; refine (same _ _ D X HX.out.2.1.dl (HE.out.1 ▸ HX.out.2.1.d) HX.out.2.2.d).mono ?_; rintro e w' ⟨rfl, nq, rfl⟩))
  clear hne r0 r1 hih c0 c1 c2 c3 c4 c37 c38 e0 e1 e2 e3 e4 e37 e38
  go_loopw [5] (fun t wr => ∃ k nn : Nat, k ≤ nh2 ∧ t = .int .i64 k ∧ wr = X.drewN nn) (fun t _ => nh2 - (intOf t).toNat)
  case atStart => exact ⟨0, nq, by omega, rfl, rfl⟩
  case round =>
    obtain ⟨k, nn, hk, rfl, rfl⟩ := hrel
    by_cases hlt : k < nh2
    · obtain ⟨G1, o1, rfl, _, r1, l1⟩ := RH.cut HX.out.2.1.h HE.out.2 k hlt
      obtain ⟨G2, o2, rfl, _, r2, _⟩ := RH.cut HX.out.2.2.h rfl k hlt
      have R1 : Hid (∀ n, (X.drewN n).rangeAt G1 (o1 + k * 32) (Lib.byteCells ((hb.drop (k * 32)).take 32))) := fun n => r1
      have R2 : Hid (∀ n, (X.drewN n).rangeAt G2 (o2 + k * 32) (Lib.byteCells ((hb.drop (k * 32)).take 32))) := fun n => r2
      have heq := fun u => equal_hash u 9998 ((hb.drop (k * 32)).take 32) ((hb.drop (k * 32)).take 32) l1 l1
      rw [decide_eq_true rfl] at heq
      have HL : Hid (((hb.drop (k * 32)).take 32).length = 32) := l1
      clear r1 r2 l1
      generalize (hb.drop (k * 32)).take 32 = h32 at *
      have hgd : Tryd.prog.eqGuardType Tryd.prog.depth 24 = false := by kernel_rfl
      go_wp2
      refine wp_region_quiet_lit (by kernel_rfl) (by kernel_rfl) ?_
      quiet_step (fail)
      quiet_step (fail)
      quiet_step (fail)
      quiet_step (fail)
      refine wpQuiet_hash rfl _ rfl G1 (o1 + k * 32) rfl h32 (fun w' hw' => by obtain ⟨m, rfl⟩ := hw'; rw [drewN2]; exact R1.out _) HL.out ?_
      quiet_step (fail)
      quiet_step (fail)
      quiet_step (fail)
      quiet_step (fail)
      refine wpQuiet_hash rfl _ rfl G2 (o2 + k * 32) rfl h32 (fun w' hw' => by obtain ⟨m, rfl⟩ := hw'; rw [drewN2]; exact R2.out _) HL.out ?_
      quiet_step (fail)
      refine wpQuiet_nil ?_
      intro _ hw'
      obtain ⟨nq, hw''⟩ := hw'
      subst hw''
      rw [drewN2]
      go_wp2
      exact ⟨⟨k + 1, _, by omega, by go_num, rfl⟩, by simp [intOf]; omega⟩
    · go_wp2
      go_ret
      exact ⟨rfl, belowN HX.out.1 _⟩
end Go.Proofs.YtpembmfpgolniaaDoor
