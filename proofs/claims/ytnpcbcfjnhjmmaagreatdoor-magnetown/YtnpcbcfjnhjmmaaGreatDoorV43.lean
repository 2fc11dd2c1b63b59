import Derived.Test.YtnpcbcfjnhjmmaaGreatDoorV42
namespace Go.Proofs.YtnpcbcfjnhjmmaaGreatDoor
open Go.RowKit Go.Deep
namespace Ow
/-- an own row, its block among some -/
def OwS (S : Nat → Prop) (w : World) (e sz : Nat) (v : Value) (n : Nat) (xs : List Value) : Prop := w.ownsRow 0 e sz v n xs ∧ ∀ g, v.ownBlock = some g → S g
theorem OwS.lt {S : Nat → Prop} {w : World} {e sz n : Nat} {v : Value} {xs : List Value} (h : OwS S w e sz v n xs) {g : Nat} (hg : v.ownBlock = some g) : g < w.heap.size := (World.ownsRow.lt h.1 g hg).2
theorem OwS.move {S S' : Nat → Prop} {w w' : World} (hS : ∀ b, S b → b < w.heap.size → S' b) (_hs : w.heap.size ≤ w'.heap.size) (hb : ∀ b, S b → b < w.heap.size → w'.heap[b]? = w.heap[b]?) {e sz n : Nat} {v : Value} {xs : List Value} (h : OwS S w e sz v n xs) : OwS S' w' e sz v n xs :=
  ⟨own_keep h.1 fun g hg => hb g (h.2 g hg) (h.lt hg), fun g hg => hS g (h.2 g hg) (h.lt hg)⟩
theorem own_zero {w : World} {B e sz n : Nat} {v : Value} {xs : List Value} (h : w.ownsRow B e sz v n xs) : OwS (fun b => B ≤ b) w e sz v n xs := ⟨ownsRow_baseL h (Nat.zero_le _), fun g hg => (World.ownsRow.lt h g hg).1⟩
theorem OwS.form {S : Nat → Prop} {w : World} {e sz n : Nat} {v : Value} {xs : List Value} (h : OwS S w e sz v n xs) : ∃ a c, v = .slice a n c := by
  rcases h.1.2 with ⟨e, h⟩ | ⟨g, cap, cur, e, _⟩
  · exact ⟨none, 0, by rw [e, h]⟩
  · exact ⟨_, _, e⟩
def RSo (S : Nat → Prop) (w : World) (v : Value) (ts : List ByteArray) : Prop := OwS S w 9 1 v ts.length (tsC ts)
def RRo (S : Nat → Prop) (w : World) (v : Value) (rs : List (Int × Int)) : Prop := OwS S w 36 2 v rs.length (rsC rs)
def RDo (S : Nat → Prop) (w : World) (dn : Nat) (ky : Nat → ByteArray) (dv : Nat → T) (v : Value) : Prop :=
  ∃ X Y, OwS S w 41 6 v dn (rowD ky dv X Y dn) ∧ ∀ i, i < dn → RV (fun b => S b ∧ v.ownBlock ≠ some b) w (dv i) (X i) (Y i)
theorem RDo.move {S S' : Nat → Prop} {w w' : World} (hS : ∀ b, S b → b < w.heap.size → S' b) (hs : w.heap.size ≤ w'.heap.size) (hb : ∀ b, S b → b < w.heap.size → w'.heap[b]? = w.heap[b]?) {dn : Nat} {ky : Nat → ByteArray} {dv : Nat → T} {y : Value} (h : RDo S w dn ky dv y) : RDo S' w' dn ky dv y := by
  obtain ⟨X, Y, h1, h2⟩ := h
  exact ⟨X, Y, h1.move hS hs hb, fun i hi => RV.move (fun b hb2 hl => ⟨hS b hb2.1 hl, hb2.2⟩) hs (fun b hb2 hl => hb b hb2.1 hl) _ _ _ (h2 i hi)⟩
theorem RDo.form {S : Nat → Prop} {w : World} {dn : Nat} {ky : Nat → ByteArray} {dv : Nat → T} {y : Value} (h : RDo S w dn ky dv y) : ∃ a c, y = .slice a dn c := by
  obtain ⟨X, Y, h1, _⟩ := h
  exact h1.form
theorem dinv_o {B : Nat} {w : World} {ky : Nat → ByteArray} {dv : Nat → T} {n : Nat} {v : Value} (h : DInv B w ky dv n v) : RDo (fun b => B ≤ b) w n ky dv v := by
  obtain ⟨X, Y, h1, h2⟩ := h
  exact ⟨X, Y, own_zero h1, h2⟩
theorem RSo.rs {S : Nat → Prop} {w : World} {v : Value} {ts : List ByteArray} (h : RSo S w v ts) : RS (fun _ => True) w v ts := (texts_of h.1).move (fun _ _ _ => trivial) (Nat.le_refl _) (fun _ _ _ => rfl)
theorem RRo.rr {S : Nat → Prop} {w : World} {v : Value} {rs : List (Int × Int)} (h : RRo S w v rs) : RR (fun _ => True) w v rs := (runs_of h.1).move (fun _ _ _ => trivial) (Nat.le_refl _) (fun _ _ _ => rfl)
theorem RDo.rd {S : Nat → Prop} {w : World} {dn : Nat} {ky : Nat → ByteArray} {dv : Nat → T} {y : Value} (h : RDo S w dn ky dv y) : RD (fun _ => True) w dn ky dv y := by
  obtain ⟨X, Y, h1, h2⟩ := h
  have h3 : DInv 0 w ky dv dn y := ⟨X, Y, h1.1, fun i hi => RV.move (fun b hb _ => ⟨Nat.zero_le _, hb.2⟩) (Nat.le_refl _) (fun _ _ _ => rfl) _ _ _ (h2 i hi)⟩
  have h4 : RD (fun b => 0 ≤ b) w dn ky dv y := h3.rd (Nat.le_refl _) (fun _ _ _ => rfl) (fun _ h => h)
  exact RD.move (fun _ _ _ => trivial) (Nat.le_refl _) (fun _ _ _ => rfl) h4
/-- the lists of a link, each an own row, in unlike blocks -/
structure RLo (S : Nat → Prop) (w : World) (k : Lk) (tr pe on mo : Value) : Prop where
  o1 : RSo S w tr k.ts
  o2 : RSo S w pe k.ps
  o3 : RRo S w on k.rs
  o4 : RDo (fun b => S b ∧ tr.ownBlock ≠ some b ∧ pe.ownBlock ≠ some b ∧ on.ownBlock ≠ some b) w k.dn k.ky k.dv mo
  d1 : Dj tr pe
  d2 : Dj tr on
  d4 : Dj pe on
theorem RLo.move {S S' : Nat → Prop} {w w' : World} (hS : ∀ b, S b → b < w.heap.size → S' b) (hs : w.heap.size ≤ w'.heap.size) (hb : ∀ b, S b → b < w.heap.size → w'.heap[b]? = w.heap[b]?) {k : Lk} {tr pe on mo : Value} (h : RLo S w k tr pe on mo) : RLo S' w' k tr pe on mo :=
  ⟨OwS.move hS hs hb h.o1, OwS.move hS hs hb h.o2, OwS.move hS hs hb h.o3, h.o4.move (fun b h1 hl => ⟨hS b h1.1 hl, h1.2⟩) hs (fun b h1 hl => hb b h1.1 hl), h.d1, h.d2, h.d4⟩
theorem RLo.rl {S : Nat → Prop} {w : World} {k : Lk} {tr pe on mo : Value} (h : RLo S w k tr pe on mo) : RL4 (fun _ => True) w k tr pe on mo := ⟨h.o1.rs, h.o2.rs, h.o3.rr, h.o4.rd⟩
set_option maxHeartbeats 2000000 in
theorem pairsTwinO (dn : Nat) (ky : Nat → ByteArray) (dv : Nat → T) (ih : ∀ i, i < dn → CC (dv i)) (y : Value) (w : World) (hdn : dn ≤ 2147483647) (hos : ∀ i, i < dn → (dv i).ok ∧ (dv i).small) (hr : RD (fun _ => True) w dn ky dv y) :
    Calls Tryz.prog 24 #[y] w fun e w' => ∃ y', e = .returned y' ∧ RDo (fun b => w.heap.size ≤ b) w' dn ky dv y' ∧ Below w.heap.size w w' := by
  obtain ⟨a, ca, rfl, hD⟩ := hr
  obtain ⟨i0, hi, hz0, hz1, hz2⟩ := info_parts info42
  have HI : Hid ((∀ i, i < dn → CC (dv i)) ∧ (∀ i, i < dn → (dv i).ok ∧ (dv i).small) ∧ (dn = 0 ∨ ∃ b o, a = some ⟨b, o, none⟩ ∧ True ∧ b < w.heap.size ∧ ∀ i, i < dn → ∃ x' y', RV (fun _ => True) w (dv i) x' y' ∧ w.cell? ⟨b, o + i * 6, none⟩ = some (.string (ky i)) ∧ five w b (o + i * 6 + 1) (dv i) x' y')) := ⟨ih, hos, hD⟩
  clear ih hos hD
  go_enter Tryz.func24, Tryz.ntmps24
  go_wp2
  go_loopw [3, 4] (fun v i wr => ∃ (j : Nat) (la : Option Addr) (lc : Nat), j ≤ dn ∧ i = .int .i64 j ∧ v = .slice la j lc ∧ Hid (Below w.heap.size w wr ∧ DInv w.heap.size wr ky dv j v)) (fun _ i _ => dn - (intOf i).toNat)
  case atStart => exact ⟨0, none, 0, Nat.zero_le _, rfl, rfl, (⟨Below.refl _ _, fun _ => .slice .none 0 0, fun _ => .slice .none 0 0, World.ownsRow_nil _ _ _ _, fun i hi => absurd hi (Nat.not_lt_zero _)⟩ : Below w.heap.size w _ ∧ DInv w.heap.size _ ky dv 0 _)⟩
  case round =>
    obtain ⟨j2, la, lc, hj2, rfl, rfl, hinv⟩ := hrel
    by_cases hlt2 : j2 < dn
    · obtain ⟨id, ok5, hD⟩ := HI.out
      rcases hD with h | ⟨b, o, rfl, _, hbl, hD⟩
      · omega
      obtain ⟨x1, y1, hv, g0, g1, g2, g3, g4, g5⟩ := hD j2 hlt2
      have hle : w.heap.size ≤ w.heap.size := Nat.le_refl _
      have hc := hinv.out.1
      replace g0 := Below.cellS hc hle g0
      replace g1 := Below.cellS hc hle g1
      replace g2 := Below.cellS hc hle g2
      replace g3 := Below.cellS hc hle g3
      replace g4 := Below.cellS hc hle g4
      replace g5 := Below.cellS hc hle g5
      have HV : Hid (CC (dv j2) ∧ ((dv j2).ok ∧ (dv j2).small) ∧ RV (fun _ => True) wr (dv j2) x1 y1) := ⟨id j2 hlt2, ok5 j2 hlt2, Below.rv hc hle hv⟩
      clear id ok5 hD hv hle hc
      go_wp2_with fail
      refine (HV.out.1 x1 y1 wr HV.out.2.1.1 HV.out.2.1.2 HV.out.2.2).mono ?_
      rintro e w2 ⟨x2, y2, rfl, hrv, hb2⟩
      obtain ⟨hbs, X, Y, hown, hel⟩ := hinv.out
      have g0' := Below.cellS hb2 (Nat.le_refl _) g0
      obtain ⟨⟨xa, xn, xc, rfl⟩, ⟨ya, yn, yc, rfl⟩⟩ := hrv.slices
      have hlt4 : w.heap.size ≤ wr.heap.size := hbs.size
      have hown2 := hown.kept (grown_of_below hb2) (by cases hv : (Value.slice la j2 lc).ownBlock with | none => exact .inl rfl | some q => exact .inr (by simp))
      have HQ : Hid (RV (fun b => wr.heap.size ≤ b) w2 (dv j2) (.slice xa xn xc) (.slice ya yn yc) ∧ Below wr.heap.size wr w2 ∧ Below w.heap.size w wr ∧ ∀ i, i < j2 → RV (fun b => w.heap.size ≤ b ∧ (Value.slice la j2 lc).ownBlock ≠ some b) wr (dv i) (X i) (Y i)) := ⟨hrv, hb2, hbs, hel⟩
      clear hrv hel hinv hbs g0 g1 g2 g3 g4 g5 HV
      have hsz2 := hb2.size
      clear hb2
      unfold vv
      go_wp2_with fail
      have hx : obj (w2.alloc (Obj.cells #[.int .i64 (dv j2).k, .int .i64 (dv j2).n, .string (dv j2).s, .slice xa xn xc, .slice ya yn yc] 39)) w2.heap.size (.int .i64 (dv j2).k) (.int .i64 (dv j2).n) (.string (dv j2).s) (.slice xa xn xc) (.slice ya yn yc) := heap_new _ _
      replace g0' := cell_alloc_old (o := (Obj.cells #[.int .i64 (dv j2).k, .int .i64 (dv j2).n, .string (dv j2).s, .slice xa xn xc, .slice ya yn yc] 39)) g0'
      have hown3 := hown2.alloc (Obj.cells #[.int .i64 (dv j2).k, .int .i64 (dv j2).n, .string (dv j2).s, .slice xa xn xc, .slice ya yn yc] 39)
      have hB3 : Below w2.heap.size w2 (w2.alloc (Obj.cells #[.int .i64 (dv j2).k, .int .i64 (dv j2).n, .string (dv j2).s, .slice xa xn xc, .slice ya yn yc] 39)) := (Below.refl _ _).alloc (Nat.le_refl _) _
      obtain ⟨hx0, hx1, hx2, hx3, hx4⟩ := hx.cells
      generalize w2.alloc (Obj.cells #[.int .i64 (dv j2).k, .int .i64 (dv j2).n, .string (dv j2).s, .slice xa xn xc, .slice ya yn yc] 39) = w3 at *
      clear hx hown2
      have hj0 : (0 : Int) ≤ (j2 : Int) := by omega
      have hj1 : (j2 : Int) < (dn : Int) := by omega
      go_region_law (refine step_append_lies _ (by rfl) (.tmp 18) (.tmp 26) 26 (by rfl) w.heap.size 41 i0 _ 6 96 Tryz.underlying26 hi hz0 hz1 hz2 rfl (by omega) (.slice la j2 lc) j2 (rowD ky dv X Y j2) (by simp [Act.eval]) (by exact (hown3.alloc _)) ⟨w3.heap.size, 0, none⟩ 1 1 (.string (ky j2) :: cv (dv j2) (.slice xa xn xc) (.slice ya yn yc)) (by simp [Act.eval]) rfl (by exact World.news_of_block (B := w3.heap.size) (heap_new w3 _)) (by intro u hu; simp [cv] at hu; rcases hu with rfl | rfl | rfl | rfl | rfl | rfl <;> rfl) (by omega) (by unfold maxLen; omega) (by omega) (by have := hB3.size; simp; omega) (w3.heap.size + 1) (by simp) ?_; intro g cap w4 hown4 hgrow hat hlt4')
      all_goals
        have hWb : Below w2.heap.size w2 (w3.alloc (Obj.cells #[.string (ky j2), .int .i64 (dv j2).k, .int .i64 (dv j2).n, .string (dv j2).s, .slice xa xn xc, .slice ya yn yc] 41)) := hB3.alloc hB3.size _
        have hgr : (w3.alloc (Obj.cells #[.string (ky j2), .int .i64 (dv j2).k, .int .i64 (dv j2).n, .string (dv j2).s, .slice xa xn xc, .slice ya yn yc] 41)).grownBy w4 (Value.slice la j2 lc).ownBlock := ⟨hgrow.os, hgrow.tape, hgrow.output, hgrow.size, hgrow.block⟩
        have HN : Hid (Below w.heap.size w w4 ∧ DInv w.heap.size w4 ky dv (j2 + 1) (.slice (some ⟨g, 0, none⟩) (j2 + 1) cap)) := by
          obtain ⟨hrv, hb2, hbs, hel⟩ := HQ.out
          have hlo := fun q (hq : (Value.slice la j2 lc).ownBlock = some q) => (hown.lt q hq)
          have st := rows_step0 (n := j2 + 1) (cap := cap) hlt4 (fun q hq => (hlo q hq).2) hb2 hWb hgr (by rcases hat with h | h; exact .inl h; exact .inr (by simpa using h))
          have s3 := hWb.size
          have h9 : Below w.heap.size w w4 := (((hbs.trans (hb2.mono hlt4)).trans (hWb.mono (by omega))).grown hgr (by omega) (fun q hq => (hlo q hq).1))
          have h8 : DInv w.heap.size w4 ky dv (j2 + 1) (.slice (some ⟨g, 0, none⟩) (j2 + 1) cap) := by
            refine ⟨upd X j2 (.slice xa xn xc), upd Y j2 (.slice ya yn yc), by rw [rowD_succ]; exact hown4, fun i hi => ?_⟩
            rcases Nat.lt_succ_iff_lt_or_eq.1 hi with h | rfl
            · rw [upd_lt h, upd_lt h]; exact st.1 _ _ _ (hel i h)
            · rw [upd_eq, upd_eq]; exact st.2 _ _ _ hrv
          exact (⟨h9, h8⟩ : Below w.heap.size w w4 ∧ DInv w.heap.size w4 ky dv (j2 + 1) (.slice (some ⟨g, 0, none⟩) (j2 + 1) cap))
        clear HQ hown hown3 hown4 hgrow hgr hat hlt4' hWb hx0 hx1 hx2 hx3 hx4 g0' hB3
        go_wp2
        go_roundw
        case rel => exact ⟨j2 + 1, _, _, by omega, by go_num, rfl, HN⟩
        case measure => simp [intOf]; omega
    · obtain rfl : j2 = dn := by omega
      obtain ⟨hbs, hD⟩ := hinv.out
      have HR : Hid (RDo (fun b => w.heap.size ≤ b) wr j2 ky dv (.slice la j2 lc)) := dinv_o hD
      have HB : Hid (Below w.heap.size w wr) := hbs
      clear hinv hbs hD
      go_wp2
      go_ret
      exact ⟨_, rfl, HR.out, HB.out⟩
theorem append_textsO {ops : Array Oper} {rest : List Oper} {o : Oper} {a : Act} {Q : Exit → Act → World → Prop} {w : World} {xv : Value} {ts : List ByteArray} {S : Nat → Prop} (hgd : o.guard = none) (s x : Operand)
    (ho : o.op = .call { callee := .builtin .append, args := #[s, x], argTypes := #[24, 24] }) (hs : a.eval s = .slice none 0 0) (hx : a.eval x = xv)
    (hr : RS S w xv ts) (hlim : ts.length ≤ 2147483647)
    (h : ∀ a' c' w', RSo (fun b => w.heap.size ≤ b) w' (.slice a' ts.length c') ts → Below w.heap.size w w' → Hid (ts.length ≤ c') → wpList Tryz.prog ops Q rest (a.put o.dst (.slice a' ts.length c')) w') : wpList Tryz.prog ops Q (o :: rest) a w := by
  obtain ⟨i0, hi, hz0, hz1, hz2⟩ := info_parts info9
  obtain ⟨ad, c, rfl, hr⟩ := hr
  have fin : ∀ v' w', w'.ownsRow w.heap.size 9 1 v' ts.length (tsC ts) → w.grownBy w' (Value.slice none 0 0).ownBlock → wpList Tryz.prog ops Q rest (a.put o.dst v') w' := fun v' w' h1 h2 => by
    obtain ⟨a', c', rfl⟩ := ownForm h1
    exact h a' c' w' (own_zero h1) ((Below.refl _ w).grown h2 (Nat.le_refl _) (fun k hk => by simp [Value.ownBlock] at hk)) (own_le h1)
  rcases hr with h0 | ⟨b, off, rfl, _, _, hc⟩
  · obtain rfl : ts = [] := List.length_eq_zero_iff.1 h0
    cases ad with
    | none =>
      refine wpList_plain hgd fun K hK => ?_
      have hrun : (Builtin.append_ #[24, 24] o.type #[.slice none 0 0, .slice none 0 c]).run Tryz.prog w = .ok (.slice none 0 0) w := by
        simp [Builtin.append_, run_underlying Tryz.underlying24, sizeOf, typeInfo, hi, Builtin.lenOf, Builtin.firstCells]
      simp only [List.length_nil] at hx
      unfold Oper.wp
      simp [execOp, ho, resolve, invoke, builtin, hs, hx, hrun, Result.andThen]
      exact hK _ _ (h none 0 w (own_zero (World.ownsRow_nil _ _ _ _)) (Below.refl _ _) (Nat.le_refl 0))
    | some ad =>
      refine wpList_append_own w hgd s x 24 ho w.heap.size 9 i0 _ 1 16 Tryz.underlying24 hi hz0 hz1 hz2 rfl (by omega) (.slice none 0 0) 0 [] hs (World.ownsRow_nil _ _ _ _) ad 0 c [] hx (by simp) (fun j u hu => by simp at hu) (fun u hu => by cases hu) (by unfold maxLen; omega) (by omega) (Nat.le_refl _) (fun v' w' h1 h2 _ => ?_)
      exact fin v' w' (by simpa [tsC] using h1) h2
  · refine wpList_append_own w hgd s x 24 ho w.heap.size 9 i0 _ 1 16 Tryz.underlying24 hi hz0 hz1 hz2 rfl (by omega) (.slice none 0 0) 0 [] hs (World.ownsRow_nil _ _ _ _) ⟨b, off, none⟩ ts.length c (tsC ts) hx (by simp [tsC]) (fun j u hu => ?_) (fun u hu => ?_) (by unfold maxLen; omega) (by omega) (Nat.le_refl _) (fun v' w' h1 h2 _ => fin v' w' (by simpa using h1) h2)
    · simp only [tsC, List.getElem?_map, Option.map_eq_some_iff] at hu
      obtain ⟨x, hx, rfl⟩ := hu
      rw [addAt]; exact hc j x hx
    · simp only [tsC, List.mem_map] at hu
      obtain ⟨x, _, rfl⟩ := hu
      rfl
theorem append_runsO {ops : Array Oper} {rest : List Oper} {o : Oper} {a : Act} {Q : Exit → Act → World → Prop} {w : World} {xv : Value} {rs : List (Int × Int)} {S : Nat → Prop} (hgd : o.guard = none) (s x : Operand)
    (ho : o.op = .call { callee := .builtin .append, args := #[s, x], argTypes := #[25, 25] }) (hs : a.eval s = .slice none 0 0) (hx : a.eval x = xv)
    (hr : RR S w xv rs) (hlim : rs.length ≤ 2147483647)
    (h : ∀ a' c' w', RRo (fun b => w.heap.size ≤ b) w' (.slice a' rs.length c') rs → Below w.heap.size w w' → wpList Tryz.prog ops Q rest (a.put o.dst (.slice a' rs.length c')) w') : wpList Tryz.prog ops Q (o :: rest) a w := by
  obtain ⟨i0, hi, hz0, hz1, hz2⟩ := info_parts infoRng
  obtain ⟨ad, c, rfl, hr⟩ := hr
  have fin : ∀ v' w', w'.ownsRow w.heap.size 36 2 v' rs.length (rsC rs) → w.grownBy w' (Value.slice none 0 0).ownBlock → wpList Tryz.prog ops Q rest (a.put o.dst v') w' := fun v' w' h1 h2 => by
    obtain ⟨a', c', rfl⟩ := ownForm h1
    exact h a' c' w' (own_zero h1) ((Below.refl _ w).grown h2 (Nat.le_refl _) (fun k hk => by simp [Value.ownBlock] at hk))
  rcases hr with h0 | ⟨b, off, rfl, _, _, hc⟩
  · obtain rfl : rs = [] := List.length_eq_zero_iff.1 h0
    cases ad with
    | none =>
      refine wpList_plain hgd fun K hK => ?_
      have hrun : (Builtin.append_ #[25, 25] o.type #[.slice none 0 0, .slice none 0 c]).run Tryz.prog w = .ok (.slice none 0 0) w := by
        simp [Builtin.append_, run_underlying Tryz.underlying25, sizeOf, typeInfo, hi, Builtin.lenOf, Builtin.firstCells]
      simp only [List.length_nil] at hx
      unfold Oper.wp
      simp [execOp, ho, resolve, invoke, builtin, hs, hx, hrun, Result.andThen]
      exact hK _ _ (h none 0 w (own_zero (World.ownsRow_nil _ _ _ _)) (Below.refl _ _))
    | some ad =>
      refine wpList_append_own w hgd s x 25 ho w.heap.size 36 i0 _ 2 16 Tryz.underlying25 hi hz0 hz1 hz2 rfl (by omega) (.slice none 0 0) 0 [] hs (World.ownsRow_nil _ _ _ _) ad 0 c [] hx (by simp) (fun j u hu => by simp at hu) (fun u hu => by cases hu) (by unfold maxLen; omega) (by omega) (Nat.le_refl _) (fun v' w' h1 h2 _ => ?_)
      exact fin v' w' (by simpa [rsC] using h1) h2
  · refine wpList_append_own w hgd s x 25 ho w.heap.size 36 i0 _ 2 16 Tryz.underlying25 hi hz0 hz1 hz2 rfl (by omega) (.slice none 0 0) 0 [] hs (World.ownsRow_nil _ _ _ _) ⟨b, off, none⟩ rs.length c (rsC rs) hx (rsC_len rs) (fun j u hu => ?_) (fun u hu => ?_) (by unfold maxLen; omega) (by omega) (Nat.le_refl _) (fun v' w' h1 h2 _ => fin v' w' (by simpa using h1) h2)
    · have hj := (List.getElem?_eq_some_iff.1 hu).1
      rw [rsC_len] at hj
      obtain ⟨x, hx⟩ : ∃ x, rs[j / 2]? = some x := ⟨_, List.getElem?_eq_getElem (by omega)⟩
      have h1 := hc _ x hx
      have h2 := rsC_get rs _ x hx
      rw [addAt]
      rcases Nat.mod_two_eq_zero_or_one j with e | e
      · have e' : j / 2 * 2 = j := by omega
        rw [e'] at h1 h2
        rw [h1.1, ← h2.1]; exact hu
      · have e' : j / 2 * 2 + 1 = j := by omega
        rw [Nat.add_assoc, e'] at h1
        rw [e'] at h2
        rw [h1.2, ← h2.2]; exact hu
    · simp only [rsC, List.mem_flatMap] at hu
      obtain ⟨x, _, hx⟩ := hu
      simp at hx
      rcases hx with rfl | rfl <;> rfl
end Ow
end Go.Proofs.YtnpcbcfjnhjmmaaGreatDoor
