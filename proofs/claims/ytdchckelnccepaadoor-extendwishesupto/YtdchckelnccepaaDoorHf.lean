import Derived.Test.YtdchckelnccepaaDoorZ7
import Derived.Test.YtdchckelnccepaaDoorZ6
namespace Go.Proofs.YtdchckelnccepaaDoor
open Go.RowKit Go.Deep
/-- the boxes of dict: the wish, the answer, the names' dictionary with its list -/
def DB (H : Nat) (x : World) (na ma : Option Addr) (nc mc : Nat) (ns : List (ByteArray × Int)) (sz qu : Int) (ag : ByteArray) (es : List PE) (lv : Value) : Prop :=
  x.heap[H]? = some (.cells #[.slice na ns.length nc, .int .i64 sz, .int .i64 qu, .string ag, .slice ma es.length mc] 25 (0, 0)) ∧ x.heap[H + 1]? = some (.cells #[.int .i64 0, .int .i64 0, .string ⟨#[]⟩, .slice none 0 0, .slice none 0 0] 41 (0, 0)) ∧ x.heap[H + 1 + 1]? = some (.cells #[.int .i64 4, .int .i64 0, .string ⟨#[]⟩, .slice none 0 0, lv] 41 (0, 0)) ∧ H + 3 ≤ x.heap.size
theorem DB.keep {H : Nat} {x y : World} {na ma : Option Addr} {nc mc : Nat} {ns : List (ByteArray × Int)} {sz qu : Int} {ag : ByteArray} {es : List PE} {lv : Value} (h : DB H x na ma nc mc ns sz qu ag es lv) (hb : Below (H + 3) x y) : DB H y na ma nc mc ns sz qu ag es lv :=
  ⟨(hb.block _ (by omega)).trans h.1, (hb.block _ (by omega)).trans h.2.1, (hb.block _ (by omega)).trans h.2.2.1, Nat.le_trans h.2.2.2 hb.size⟩
theorem DB.set {H : Nat} {x : World} {na ma : Option Addr} {nc mc : Nat} {ns : List (ByteArray × Int)} {sz qu : Int} {ag : ByteArray} {es : List PE} {lv lv' : Value} (h : DB H x na ma nc mc ns sz qu ag es lv) : DB H (x.setCell ⟨H + 1 + 1, 4, none⟩ lv') na ma nc mc ns sz qu ag es lv' :=
  ⟨(Below.heap_setCell _ _ _ _ (by show H ≠ H + 1 + 1; omega)).trans h.1, (Below.heap_setCell _ _ _ _ (by show H + 1 ≠ H + 1 + 1; omega)).trans h.2.1, ow.set h.2.2.1 4 _, by simpa [World.setCell] using h.2.2.2⟩
theorem DB.box {H : Nat} {x : World} {na ma : Option Addr} {nc mc : Nat} {ns : List (ByteArray × Int)} {sz qu : Int} {ag : ByteArray} {es : List PE} {lv : Value} (h : DB H x na ma nc mc ns sz qu ag es lv) :
    x.cell? ⟨H, 0, none⟩ = some (.slice na ns.length nc) ∧ x.cell? ⟨H, 1, none⟩ = some (.int .i64 sz) ∧ x.cell? ⟨H, 2, none⟩ = some (.int .i64 qu) ∧ x.cell? ⟨H, 3, none⟩ = some (.string ag) ∧ x.cell? ⟨H, 4, none⟩ = some (.slice ma es.length mc) := by
  have e := h.1
  refine ⟨?_, ?_, ?_, ?_, ?_⟩ <;> simp [World.cell?, e]
theorem DB.m {H : Nat} {x : World} {na ma : Option Addr} {nc mc : Nat} {ns : List (ByteArray × Int)} {sz qu : Int} {ag : ByteArray} {es : List PE} {lv : Value} (h : DB H x na ma nc mc ns sz qu ag es lv) :
    x.cell? ⟨H + 1 + 1, 0, none⟩ = some (.int .i64 4) ∧ x.cell? ⟨H + 1 + 1, 1, none⟩ = some (.int .i64 0) ∧ x.cell? ⟨H + 1 + 1, 2, none⟩ = some (.string ⟨#[]⟩) ∧ x.cell? ⟨H + 1 + 1, 3, none⟩ = some (.slice none 0 0) ∧ x.cell? ⟨H + 1 + 1, 4, none⟩ = some lv ∧ x.frozen? ⟨H + 1 + 1, 4, none⟩ = false := by
  have e := h.2.2.1
  refine ⟨?_, ?_, ?_, ?_, ?_, ?_⟩ <;> simp [World.cell?, World.frozen?, e]
/-- what a round of the names reads -/
def TF (H g : Nat) (nv : Value) (p : Nat) (xs : ByteArray) (xi : Int) (x : World) : Prop :=
  x.cell? ⟨H, 0, none⟩ = some nv ∧ x.cell? ⟨g, p, none⟩ = some (.string xs) ∧ x.cell? ⟨g, p + 1, none⟩ = some (.int .i64 xi)
theorem TF.keep {H g : Nat} {nv : Value} {p : Nat} {xs : ByteArray} {xi : Int} {x y : World} (h : TF H g nv p xs xi x) (hb : Below x.heap.size x y) : TF H g nv p xs xi y :=
  ⟨Below.cellS hb (Nat.le_refl _) h.1, Below.cellS hb (Nat.le_refl _) h.2.1, Below.cellS hb (Nat.le_refl _) h.2.2⟩
theorem TF.keep4 {H g : Nat} {nv : Value} {p : Nat} {xs : ByteArray} {xi : Int} {x y : World} (h : TF H g nv p xs xi x) (hb : Below (H + 3) x y) (hg : g < H) (hH : H < H + 3) : TF H g nv p xs xi y :=
  ⟨(World.cell?_of_block (w := x) (a := ⟨H, 0, none⟩) (hb.block H (by omega))).trans h.1, (World.cell?_of_block (w := x) (a := ⟨g, p, none⟩) (hb.block g (by omega))).trans h.2.1, (World.cell?_of_block (w := x) (a := ⟨g, p + 1, none⟩) (hb.block g (by omega))).trans h.2.2⟩
theorem TF.set {H g : Nat} {nv u : Value} {p : Nat} {xs : ByteArray} {xi : Int} {x : World} (h : TF H g nv p xs xi x) (hg : g < H) : TF H g nv p xs xi (x.setCell ⟨H + 1 + 1, 4, none⟩ u) :=
  ⟨(World.cell?_of_block (w := x) (a := ⟨H, 0, none⟩) (Below.heap_setCell _ _ _ _ (by show H ≠ H + 1 + 1; omega))).trans h.1, (World.cell?_of_block (w := x) (a := ⟨g, p, none⟩) (Below.heap_setCell _ _ _ _ (by show g ≠ H + 1 + 1; omega))).trans h.2.1, (World.cell?_of_block (w := x) (a := ⟨g, p + 1, none⟩) (Below.heap_setCell _ _ _ _ (by show g ≠ H + 1 + 1; omega))).trans h.2.2⟩
/-- the state within the round -/
def DQ (H : Nat) (w x : World) (na ma : Option Addr) (nc mc : Nat) (ns : List (ByteArray × Int)) (sz qu : Int) (ag : ByteArray) (es : List PE) (lv : Value) (i : Nat) : Prop :=
  DB H x na ma nc mc ns sz qu ag es lv ∧ x.ownsRow (H + 3) 44 6 lv i (gCs (nE (ns.take i))) ∧ Below H w x
theorem DQ.keep {H : Nat} {w x y : World} {na ma : Option Addr} {nc mc : Nat} {ns : List (ByteArray × Int)} {sz qu : Int} {ag : ByteArray} {es : List PE} {lv : Value} {i : Nat} (h : DQ H w x na ma nc mc ns sz qu ag es lv i) (hb : Below x.heap.size x y) : DQ H w y na ma nc mc ns sz qu ag es lv i :=
  ⟨h.1.keep (hb.mono h.1.2.2.2), h.2.1.kept (grown_of_below hb) (by cases hv : lv.ownBlock with | none => exact .inl rfl | some q => exact .inr (by simp)), h.2.2.trans (hb.mono (by have := h.1.2.2.2; omega))⟩
theorem DQ.put {H : Nat} {w x y : World} {na ma : Option Addr} {nc mc : Nat} {ns : List (ByteArray × Int)} {sz qu : Int} {ag : ByteArray} {es : List PE} {lv lv' : Value} {i : Nat} {e : ByteArray × Int} (h : DQ H w x na ma nc mc ns sz qu ag es lv i) (hx : ns[i]? = some e)
    (ho : y.ownsRow (H + 3) 44 6 lv' (i + 1) (gCs (nE (ns.take i)) ++ gC (leaf e.1 (tn e.2)))) (hg : x.grownBy y lv.ownBlock) : DQ H w (y.setCell ⟨H + 1 + 1, 4, none⟩ lv') na ma nc mc ns sz qu ag es lv' (i + 1) := by
  have hb : Below (H + 3) x y := (Below.refl _ _).grown hg h.1.2.2.2 (fun k hk => (World.ownsRow.lt h.2.1 k hk).1)
  have hs := h.1.2.2.2
  refine ⟨(h.1.keep hb).set, ?_, (h.2.2.trans (hb.mono (by omega))).setCell (by show H ≤ H + 1 + 1; omega) _⟩
  rw [nE_snoc _ _ _ hx, gCs_app]
  have e9 : gCs [leaf e.1 (tn e.2)] = gC (leaf e.1 (tn e.2)) := by simp [gCs]
  rw [e9]
  exact ho.kept (grown_setCell _ _ _) (owns_ne ho (by show H + 1 + 1 < H + 3; omega))
/-- pairs behind an own row of pairs -/
theorem append_ps {ops : Array Oper} {rest : List Oper} {o : Oper} {a : Act} {Q : Exit → Act → World → Prop} {w : World} {A B : Nat} {v xv : Value} {ns ms : List PE} (hgd : o.guard = none) (s x : Operand)
    (ho : o.op = .call { callee := .builtin .append, args := #[s, x], argTypes := #[23, 23] }) (hs : a.eval s = v) (hx : a.eval x = xv)
    (hown : w.ownsRow B 44 6 v ns.length (gCs ns)) (hr : RG A w xv ms) (hB : B ≤ w.heap.size) (hlim : (ns.length + ms.length) * 96 ≤ 140737488351232)
    (h : ∀ a' c' w', w'.ownsRow B 44 6 (.slice a' (ns.length + ms.length) c') (ns.length + ms.length) (gCs (ns ++ ms)) → Below B w w' → w.grownBy w' v.ownBlock → wpList Tryd.prog ops Q rest (a.put o.dst (.slice a' (ns.length + ms.length) c')) w') : wpList Tryd.prog ops Q (o :: rest) a w := by
  obtain ⟨i0, hi, hz0, hz1, hz2⟩ := info_parts info59s
  have hone : ∀ u ∈ gCs ms, u.oneCell' = true := gCs_one (fun e he => (hr.rv e he).slices)
  obtain ⟨ad, c, rfl, hle, hr⟩ := hr
  have fin : ∀ v' w', w'.ownsRow B 44 6 v' (ns.length + ms.length) (gCs ns ++ gCs ms) → w.grownBy w' v.ownBlock → wpList Tryd.prog ops Q rest (a.put o.dst v') w' := fun v' w' h1 h2 => by
    obtain ⟨a', c', rfl⟩ := ownForm h1
    exact h a' c' w' (by rw [gCs_app]; exact h1) ((Below.refl B w).grown h2 hB (fun k hk => (World.ownsRow.lt hown k hk).1)) h2
  rcases hr with rfl | ⟨b, off, rfl, _, hc⟩
  · cases ad with
    | none =>
      refine wpList_plain hgd fun K hK => ?_
      have hrun : (Builtin.append_ #[23, 23] o.type #[v, .slice none 0 c]).run Tryd.prog w = .ok v w := by
        rcases hown.2 with ⟨rfl, _⟩ | ⟨g, cap, cur, rfl, _, _, hnc, _⟩
        · simp [Builtin.append_, run_underlying Tryd.underlying23, sizeOf, typeInfo, hi, Builtin.lenOf, Builtin.firstCells]
        · simp [Builtin.append_, run_underlying Tryd.underlying23, sizeOf, typeInfo, hi, Builtin.lenOf, Builtin.firstCells, hnc, storeCells]
      have hfin := fin v w (by simpa [gCs] using hown) ⟨rfl, rfl, rfl, Nat.le_refl _, fun _ _ _ => rfl⟩
      unfold Oper.wp
      simp only [List.length_nil] at hx
      simp [execOp, ho, resolve, invoke, builtin, hs, hx, hrun, Result.andThen]
      exact hK _ _ hfin
    | some ad =>
      refine wpList_append_own w hgd s x 23 ho B 44 i0 _ 6 96 Tryd.underlying23 hi hz0 hz1 hz2 rfl (by omega) v ns.length (gCs ns) hs hown ad 0 c [] hx (by simp) (fun j u hu => by simp at hu) (fun u hu => by cases hu) (by unfold maxLen; omega) (by omega) hB (fun v' w' h1 h2 _ => fin v' w' (by simpa [gCs] using h1) h2)
  · refine wpList_append_own w hgd s x 23 ho B 44 i0 _ 6 96 Tryd.underlying23 hi hz0 hz1 hz2 rfl (by omega) v ns.length (gCs ns) hs hown ⟨b, off, none⟩ ms.length c (gCs ms) hx (gCs_len ms) (fun j u hu => ?_) hone (by unfold maxLen; omega) (by omega) hB (fun v' w' h1 h2 _ => fin v' w' h1 h2)
    have hj := (List.getElem?_eq_some_iff.1 hu).1
    rw [gCs_len] at hj
    obtain ⟨x, hx⟩ : ∃ x, ms[j / 6]? = some x := ⟨_, List.getElem?_eq_getElem (by omega)⟩
    have h1 := (hc _ x hx).2 (j % 6) (by omega)
    have h2 := gCs_get ms _ x (j % 6) (by omega) hx
    rw [show j / 6 * 6 + j % 6 = j by omega] at h2
    rw [show off + j / 6 * 6 + j % 6 = off + j by omega] at h1
    rw [add_none]
    exact h1.trans (h2.symm.trans hu)
theorem rg_of_gr {B A : Nat} {w : World} {v : Value} {es : List PE} (h : GR B A w v es) (hA : A ≤ w.heap.size) : RG w.heap.size w v es := by
  obtain ⟨h, hv⟩ := h
  rcases h.2 with ⟨rfl, h0⟩ | ⟨g, cap, cur, rfl, _, hg, hle, _, hsz, hx⟩
  · obtain rfl : es = [] := List.length_eq_zero_iff.1 h0
    exact ⟨none, 0, rfl, Nat.le_refl _, .inl rfl⟩
  · refine ⟨_, _, rfl, hle, .inr ⟨g, 0, rfl, (Array.getElem?_eq_some_iff.1 hg).1, fun i e he => ⟨RV.keep (fun _ h => Nat.lt_of_lt_of_le h hA) (Nat.le_refl _) (fun _ _ _ => rfl) _ _ _ (hv e (List.mem_of_getElem? he)), fun r hr => ?_⟩⟩⟩
    have hi := (List.getElem?_eq_some_iff.1 he).1
    have h2 := gCs_get es i e r hr he
    rw [← hx, List.getElem?_take_of_lt (by omega), Array.getElem?_toList] at h2
    simp only [World.cell?, hg]
    simpa using h2
/-- the told own pairs laid among the others -/
def wtAll (es os : List PE) : List PE := os.foldl (fun l o => if o.t.k = 0 then l else wtP l o) es
theorem wtP_len (l : List PE) (p : PE) : (wtP l p).length = l.length + 1 := by
  induction l with
  | nil => rfl
  | cons e l ih =>
    unfold wtP at *
    simp only [List.length_append, List.length_cons, List.filter_cons] at ih ⊢
    cases lsK p.key e <;> simp <;> omega
theorem wtAll_own (ns : List (ByteArray × Int)) (sz qu : Int) (ag : ByteArray) (yv : Value) (es l1 l2 l3 l4 : List PE) (h1 : l1 = wtP es ⟨kM, tG (nE ns), .slice none 0 0, yv⟩)
    (h2 : (sz = 0 ∧ l2 = l1) ∨ (sz ≠ 0 ∧ l2 = wtP l1 (leaf kZ (tn sz)))) (h3 : (qu = 0 ∧ l3 = l2) ∨ (qu ≠ 0 ∧ l3 = wtP l2 (leaf kQ (tn qu)))) (h4 : (ag.toList = [] ∧ l4 = l3) ∨ (ag.toList ≠ [] ∧ l4 = wtP l3 (leaf kV (ts ag)))) : wtAll es (ownP ns sz qu ag yv) = l4 := by
  have e4 : ¬ (4 : Int) = 0 := by decide
  unfold wtAll ownP ownQ
  simp only [List.foldl_cons, List.foldl_nil, leaf]
  rw [if_neg (show ¬ (tG (nE ns)).k = 0 from e4), ← h1]
  rcases h2 with ⟨h, rfl⟩ | ⟨h, rfl⟩ <;> rcases h3 with ⟨h', rfl⟩ | ⟨h', rfl⟩ <;> rcases h4 with ⟨h'', rfl⟩ | ⟨h'', rfl⟩ <;> simp [nI, sI, tn, ts, tz, T.k, h, h', h'', leaf]
/-- the state between the layings -/
def PQ (H : Nat) (w x : World) (na ma : Option Addr) (nc mc : Nat) (ns : List (ByteArray × Int)) (sz qu : Int) (ag : ByteArray) (es : List PE) (lv pv : Value) (l : List PE) : Prop :=
  DB H x na ma nc mc ns sz qu ag es lv ∧ RG x.heap.size x pv l ∧ Below H w x ∧ (∀ e ∈ l, RV (fun b => b ≠ H + 1) x e.t e.x e.y) ∧ RD (fun b => b ≠ H + 1) x l.length (kyG l) (dvG l) pv
theorem PQ.keep {H : Nat} {w x y : World} {na ma : Option Addr} {nc mc : Nat} {ns : List (ByteArray × Int)} {sz qu : Int} {ag : ByteArray} {es : List PE} {lv pv : Value} {l : List PE} (h : PQ H w x na ma nc mc ns sz qu ag es lv pv l) (hb : Below x.heap.size x y) : PQ H w y na ma nc mc ns sz qu ag es lv pv l :=
  ⟨h.1.keep (hb.mono h.1.2.2.2), (h.2.1.keep hb).mono hb.size, h.2.2.1.trans (hb.mono (by have := h.1.2.2.2; omega)), fun e he => RV.keep (fun _ h => h) hb.size (fun b _ hl => hb.block b hl) _ _ _ (h.2.2.2.1 e he), RD.keep (fun _ h => h) hb.size (fun b _ hl => hb.block b hl) h.2.2.2.2⟩
theorem PQ.next {H : Nat} {w x y : World} {na ma : Option Addr} {nc mc : Nat} {ns : List (ByteArray × Int)} {sz qu : Int} {ag : ByteArray} {es : List PE} {lv pv pv' : Value} {l : List PE} {p : PE} (h : PQ H w x na ma nc mc ns sz qu ag es lv pv l) (hp : RV (fun b => b ≠ H + 1) x p.t p.x p.y) (hg : GR (x.heap.size + 1) x.heap.size y pv' (wtP l p)) (hb : Below x.heap.size x y) : PQ H w y na ma nc mc ns sz qu ag es lv pv' (wtP l p) := by
  have hs := h.1.2.2.2
  have hv : ∀ e ∈ wtP l p, RV (fun b => b ≠ H + 1) y e.t e.x e.y := fun e he => by
    refine RV.keep (fun _ h => h) hb.size (fun b _ hl => hb.block b hl) _ _ _ ?_
    rcases List.mem_append.1 he with he | he
    · exact h.2.2.2.1 e (List.mem_filter.1 he).1
    · rcases List.mem_cons.1 he with rfl | he
      · exact hp
      · exact h.2.2.2.1 e (List.mem_filter.1 he).1
  exact ⟨h.1.keep (hb.mono hs), rg_of_gr hg hb.size, h.2.2.1.trans (hb.mono (by omega)), hv, hg.rdS (fun b h => by show b ≠ H + 1; omega) hv⟩
set_option maxHeartbeats 8000000 in
set_option maxRecDepth 100000 in
theorem dict50 (na ma : Option Addr) (nc mc : Nat) (ns : List (ByteArray × Int)) (sz qu : Int) (ag : ByteArray) (es : List PE) (w : World) (hn : RNs w (.slice na ns.length nc) ns) (hm : RG w.heap.size w (.slice ma es.length mc) es) (hl : ns.length + es.length ≤ 2147480000) :
    Calls Tryd.prog 15 #[.agg #[.slice na ns.length nc, .int .i64 sz, .int .i64 qu, .string ag, .slice ma es.length mc]] w fun e w' => ∃ yv v', e = .returned (.agg #[.int .i64 4, .int .i64 0, .string ⟨#[]⟩, .slice none 0 0, v']) ∧ RD (fun _ => True) w' (wtAll es (ownP ns sz qu ag yv)).length (kyG (wtAll es (ownP ns sz qu ag yv))) (dvG (wtAll es (ownP ns sz qu ag yv))) v' ∧ Below w.heap.size w w' := by
  have HN := Lib.hid hn
  have HM := Lib.hid hm
  obtain ⟨na', nc', e0, hx⟩ := hn
  cases e0
  have HX := Lib.hid hx
  obtain ⟨i0, hi, hz0, hz1, hz2⟩ := info_parts info59s
  have b0 : Below w.heap.size w (((w.alloc (.cells #[.slice na ns.length nc, .int .i64 sz, .int .i64 qu, .string ag, .slice ma es.length mc] 25)).alloc (.cells #[.int .i64 0, .int .i64 0, .string ⟨#[]⟩, .slice none 0 0, .slice none 0 0] 41)).alloc (.cells #[.int .i64 4, .int .i64 0, .string ⟨#[]⟩, .slice none 0 0, .slice none 0 0] 41)) := (((Below.refl _ _).alloc (Nat.le_refl _) _).alloc (by simp) _).alloc (by simp; omega) _
  have HD0 : Hid (DB w.heap.size (((w.alloc (.cells #[.slice na ns.length nc, .int .i64 sz, .int .i64 qu, .string ag, .slice ma es.length mc] 25)).alloc (.cells #[.int .i64 0, .int .i64 0, .string ⟨#[]⟩, .slice none 0 0, .slice none 0 0] 41)).alloc (.cells #[.int .i64 4, .int .i64 0, .string ⟨#[]⟩, .slice none 0 0, .slice none 0 0] 41)) na ma nc mc ns sz qu ag es (.slice none 0 0) ∧ Below w.heap.size w (((w.alloc (.cells #[.slice na ns.length nc, .int .i64 sz, .int .i64 qu, .string ag, .slice ma es.length mc] 25)).alloc (.cells #[.int .i64 0, .int .i64 0, .string ⟨#[]⟩, .slice none 0 0, .slice none 0 0] 41)).alloc (.cells #[.int .i64 4, .int .i64 0, .string ⟨#[]⟩, .slice none 0 0, .slice none 0 0] 41)) ∧ (((w.alloc (.cells #[.slice na ns.length nc, .int .i64 sz, .int .i64 qu, .string ag, .slice ma es.length mc] 25)).alloc (.cells #[.int .i64 0, .int .i64 0, .string ⟨#[]⟩, .slice none 0 0, .slice none 0 0] 41)).alloc (.cells #[.int .i64 4, .int .i64 0, .string ⟨#[]⟩, .slice none 0 0, .slice none 0 0] 41)).heap.size = w.heap.size + 3) := by
    refine ⟨⟨?_, ?_, ?_, by simp⟩, b0, by simp⟩
    · exact (Below.heap_alloc _ _ _ (by simp; omega)).trans ((Below.heap_alloc _ _ _ (by simp)).trans (heap_new _ _))
    · exact (Below.heap_alloc _ _ _ (by simp)).trans (by have := heap_new (w.alloc (.cells #[.slice na ns.length nc, .int .i64 sz, .int .i64 qu, .string ag, .slice ma es.length mc] 25)) (.cells #[.int .i64 0, .int .i64 0, .string ⟨#[]⟩, .slice none 0 0, .slice none 0 0] 41); simpa using this)
    · have := heap_new ((w.alloc (.cells #[.slice na ns.length nc, .int .i64 sz, .int .i64 qu, .string ag, .slice ma es.length mc] 25)).alloc (.cells #[.int .i64 0, .int .i64 0, .string ⟨#[]⟩, .slice none 0 0, .slice none 0 0] 41)) (.cells #[.int .i64 4, .int .i64 0, .string ⟨#[]⟩, .slice none 0 0, .slice none 0 0] 41)
      simpa using this
  clear hx hm b0
  generalize hnn : ns.length = n at *
  have HNN := Lib.hid hnn
  clear hnn
  go_enter Tryd.func15, Tryd.ntmps15
  go_upto_region 2 with fail
  generalize (((w.alloc (.cells #[.slice na n nc, .int .i64 sz, .int .i64 qu, .string ag, .slice ma es.length mc] 25)).alloc (.cells #[.int .i64 0, .int .i64 0, .string ⟨#[]⟩, .slice none 0 0, .slice none 0 0] 41)).alloc (.cells #[.int .i64 4, .int .i64 0, .string ⟨#[]⟩, .slice none 0 0, .slice none 0 0] 41)) = w0 at *
  have HS0 : Hid (w.heap.size + 3 ≤ w0.heap.size) := by have := HD0.out.2.2; show _ ≤ _; omega
  generalize hvb : w.heap.size = H at *
  have HS := Lib.hid hvb
  clear hvb
  go_wp2_with fail
  go_loopw [4] (fun ti wr => ∃ i lv, i ≤ n ∧ ti = .int .i64 ((i : Nat) : Int) ∧ Hid (DB H wr na ma nc mc ns sz qu ag es lv ∧ wr.ownsRow (H + 3) 44 6 lv i (gCs (nE (ns.take i))) ∧ Below H w wr)) (fun ti _ => n - (intOf ti).toNat)
  case atStart => exact ⟨0, _, Nat.zero_le _, rfl, HD0.out.1, World.ownsRow_nil _ _ _ _, HS.out ▸ HD0.out.2.1⟩
  case round =>
    obtain ⟨i, lv, hin, rfl, HI⟩ := hrel
    obtain ⟨x0, x1, x2, x3, x4⟩ := HI.out.1.box
    by_cases hlt : i < n
    · obtain ⟨x, hx⟩ : ∃ x, ns[i]? = some x := ⟨_, List.getElem?_eq_getElem (by have := HNN.out; omega)⟩
      obtain ⟨g, o, rfl, hg, hcc⟩ := HX.out.resolve_left (fun e => by rw [e] at hx; simp at hx)
      obtain ⟨xs, xi⟩ := x
      have g0 : wr.cell? ⟨g, o + i * 2, none⟩ = some (.string xs) := Below.cellS HI.out.2.2 (by rw [HS.out]; exact Nat.le_refl _) (hcc i _ hx).1
      have g1 : wr.cell? ⟨g, o + i * 2 + 1, none⟩ = some (.int .i64 xi) := Below.cellS HI.out.2.2 (by rw [HS.out]; exact Nat.le_refl _) (hcc i _ hx).2
      obtain ⟨m0, m1, m2, m3, m4, mf⟩ := HI.out.1.m
      obtain ⟨la, lc, rfl⟩ := ownForm HI.out.2.1
      rw [HNN.out] at x0
      have HXI := Lib.hid hx
      have Hne : Hid (some (H + 1 + 1) ≠ (Value.slice la i lc).ownBlock) := fun e => by have := (HI.out.2.1.lt _ e.symm).1; omega
      have hgb : g < H ∧ H < H + 3 := ⟨by have := HS.out; omega, by omega⟩
      clear hcc hx hg x1 x2 x3 x4 m0 m1 m2 m3
      have HT : Hid (TF H g (.slice (some ⟨g, o, none⟩) n nc) (o + i * 2) xs xi wr) := ⟨x0, g0, g1⟩
      go_upto_region 5 with fail
      clear x0 g0 g1 m4 mf
      refine wp_region_held_drew (S := TF H g (.slice (some ⟨g, o, none⟩) n nc) (o + i * 2) xs xi) (by kernel_rfl) (HT.out.keep (belowDrew1 wr)) (fun hHeld => ?_)
      refine wpAnyH_take (i := 0) (v := .pointer (some ⟨H + 1 + 1, 4, none⟩)) rfl (by kernel_rfl) (by kernel_rfl) (by kernel_rfl) (fun _ _ _ h => h) (Or.inl ⟨by rfl, fun w hw => by go_simp⟩) hHeld ?_
      simp only [Act.put, List.getElem_toArray, List.getElem_cons_zero, List.setIfInBounds_toArray, List.set_cons_zero, List.set_cons_succ]
      refine wpAnyH_take (i := 2) (v := .pointer (some ⟨H, 0, none⟩)) rfl (by kernel_rfl) (by kernel_rfl) (by kernel_rfl) (fun _ _ _ h => h) (Or.inl ⟨by rfl, fun w hw => by go_simp⟩) hHeld ?_
      simp only [Act.put, List.getElem_toArray, List.getElem_cons_zero, List.getElem_cons_succ, List.setIfInBounds_toArray, List.set_cons_zero, List.set_cons_succ]
      refine wpAnyH_take (i := 3) (v := .slice (some ⟨g, o, none⟩) n nc) rfl (by kernel_rfl) (by kernel_rfl) (by kernel_rfl) (fun _ _ _ h => h) (Or.inl ⟨by rfl, fun w hw => by obtain ⟨s0, s1, s2⟩ := hw; go_simp⟩) hHeld ?_
      simp only [Act.put, List.getElem_toArray, List.getElem_cons_zero, List.getElem_cons_succ, List.setIfInBounds_toArray, List.set_cons_zero, List.set_cons_succ]
      refine wpAnyH_take (i := 4) (v := .int .i64 (i : Int)) rfl (by kernel_rfl) (by kernel_rfl) (by kernel_rfl) (fun _ _ _ h => h) (Or.inl ⟨by rfl, fun w hw => by go_simp⟩) hHeld ?_
      simp only [Act.put, List.getElem_toArray, List.getElem_cons_zero, List.getElem_cons_succ, List.setIfInBounds_toArray, List.set_cons_zero, List.set_cons_succ]
      refine wpAnyH_take (i := 5) (v := .pointer (some ⟨g, o + i * 2, none⟩)) rfl (by kernel_rfl) (by kernel_rfl) (by kernel_rfl) (fun _ _ _ h => h) (Or.inl ⟨by rfl, fun w hw => by go_simp⟩) hHeld ?_
      simp only [Act.put, List.getElem_toArray, List.getElem_cons_zero, List.getElem_cons_succ, List.setIfInBounds_toArray, List.set_cons_zero, List.set_cons_succ]
      refine wpAnyH_take (i := 6) (v := .pointer (some ⟨g, o + i * 2, none⟩)) rfl (by kernel_rfl) (by kernel_rfl) (by kernel_rfl) (fun _ _ _ h => h) (Or.inl ⟨by rfl, fun w hw => by go_simp⟩) hHeld ?_
      simp only [Act.put, List.getElem_toArray, List.getElem_cons_zero, List.getElem_cons_succ, List.setIfInBounds_toArray, List.set_cons_zero, List.set_cons_succ]
      refine wpAnyH_take (i := 7) (v := .string xs) rfl (by kernel_rfl) (by kernel_rfl) (by kernel_rfl) (fun _ _ _ h => h) (Or.inl ⟨by rfl, fun w hw => by obtain ⟨s0, s1, s2⟩ := hw; go_simp⟩) hHeld ?_
      simp only [Act.put, List.getElem_toArray, List.getElem_cons_zero, List.getElem_cons_succ, List.setIfInBounds_toArray, List.set_cons_zero, List.set_cons_succ]
      refine wpAnyH_take (i := 8) (v := .pointer (some ⟨H, 0, none⟩)) rfl (by kernel_rfl) (by kernel_rfl) (by kernel_rfl) (fun _ _ _ h => h) (Or.inl ⟨by rfl, fun w hw => by go_simp⟩) hHeld ?_
      simp only [Act.put, List.getElem_toArray, List.getElem_cons_zero, List.getElem_cons_succ, List.setIfInBounds_toArray, List.set_cons_zero, List.set_cons_succ]
      refine wpAnyH_take (i := 9) (v := .slice (some ⟨g, o, none⟩) n nc) rfl (by kernel_rfl) (by kernel_rfl) (by kernel_rfl) (fun _ _ _ h => h) (Or.inl ⟨by rfl, fun w hw => by obtain ⟨s0, s1, s2⟩ := hw; go_simp⟩) hHeld ?_
      simp only [Act.put, List.getElem_toArray, List.getElem_cons_zero, List.getElem_cons_succ, List.setIfInBounds_toArray, List.set_cons_zero, List.set_cons_succ]
      refine wpAnyH_take (i := 10) (v := .int .i64 (i : Int)) rfl (by kernel_rfl) (by kernel_rfl) (by kernel_rfl) (fun _ _ _ h => h) (Or.inl ⟨by rfl, fun w hw => by go_simp⟩) hHeld ?_
      simp only [Act.put, List.getElem_toArray, List.getElem_cons_zero, List.getElem_cons_succ, List.setIfInBounds_toArray, List.set_cons_zero, List.set_cons_succ]
      refine wpAnyH_take (i := 11) (v := .pointer (some ⟨g, o + i * 2, none⟩)) rfl (by kernel_rfl) (by kernel_rfl) (by kernel_rfl) (fun _ _ _ h => h) (Or.inl ⟨by rfl, fun w hw => by go_simp⟩) hHeld ?_
      simp only [Act.put, List.getElem_toArray, List.getElem_cons_zero, List.getElem_cons_succ, List.setIfInBounds_toArray, List.set_cons_zero, List.set_cons_succ]
      refine wpAnyH_take (i := 12) (v := .pointer (some ⟨g, o + i * 2 + 1, none⟩)) rfl (by kernel_rfl) (by kernel_rfl) (by kernel_rfl) (fun _ _ _ h => h) (Or.inl ⟨by rfl, fun w hw => by go_simp⟩) hHeld ?_
      simp only [Act.put, List.getElem_toArray, List.getElem_cons_zero, List.getElem_cons_succ, List.setIfInBounds_toArray, List.set_cons_zero, List.set_cons_succ]
      refine wpAnyH_take (i := 13) (v := .int .i64 xi) rfl (by kernel_rfl) (by kernel_rfl) (by kernel_rfl) (fun _ _ _ h => h) (Or.inl ⟨by rfl, fun w hw => by obtain ⟨s0, s1, s2⟩ := hw; go_simp⟩) hHeld ?_
      simp only [Act.put, List.getElem_toArray, List.getElem_cons_zero, List.getElem_cons_succ, List.setIfInBounds_toArray, List.set_cons_zero, List.set_cons_succ]
      have HQ0 : Hid (DQ H w wr.drew (some ⟨g, o, none⟩) ma nc mc ns sz qu ag es (.slice la i lc) i) := DQ.keep HI.out (belowDrew1 wr)
      have HT0 : Hid (TF H g (.slice (some ⟨g, o, none⟩) n nc) (o + i * 2) xs xi wr.drew) := HT.out.keep (belowDrew1 wr)
      clear HT HI
      have HQ := HQ0
      have HT := HT0
      clear HQ0 HT0
      refine wpAnyH_ready (rs := [1, 14]) (by kernel_rfl) (by simp) ?_
      refine AllReadyH.cons (o := _) rfl (fun K hK => ?_) (AllReadyH.cons (o := _) rfl (fun K hK => ?_) AllReadyH.nil)
      · obtain ⟨m0, m1, m2, m3, m4, mf⟩ := HQ.out.1.m
        go_simp
        refine hK _ _ HT.out (fun hHeld => ?_)
        clear hK K m0 m1 m2 m3 m4 mf
        refine wpAnyH_ready (rs := [14]) (by kernel_rfl) (by simp) ?_
        refine AllReadyH.cons (o := _) rfl (fun K hK => ?_) AllReadyH.nil
        go_simp
        refine (number67 _ _).mono ?_
        rintro e v1 ⟨rfl, b⟩
        have HQ2 : Hid (DQ H w v1 (some ⟨g, o, none⟩) ma nc mc ns sz qu ag es (.slice la i lc) i) := HQ.out.keep b
        have HT2 : Hid (TF H g (.slice (some ⟨g, o, none⟩) n nc) (o + i * 2) xs xi v1) := HT.out.keep b
        clear HQ HT b
        have HQ := HQ2
        have HT := HT2
        clear HQ2 HT2
        go_wp2_with fail
        refine hK _ _ HT.out (fun hHeld => ?_)
        clear hK K
        refine wpAnyH_take (i := 15) (v := .agg #[.string xs, .int .i64 1, .int .i64 xi, .string ⟨#[]⟩, .slice none 0 0, .slice none 0 0]) rfl (by kernel_rfl) (by kernel_rfl) (by kernel_rfl) (fun _ _ _ h => h) (Or.inl ⟨by rfl, fun w hw => by go_simp⟩) hHeld ?_
        simp only [Act.put, List.getElem_toArray, List.getElem_cons_zero, List.getElem_cons_succ, List.setIfInBounds_toArray, List.set_cons_zero, List.set_cons_succ]
        refine wpAnyH_ready (rs := [16]) (by kernel_rfl) (by simp) ?_
        refine AllReadyH.cons (o := _) rfl (fun K hK => ?_) AllReadyH.nil
        go_simp
        have b : Below v1.heap.size v1 (v1.alloc (Obj.cells #[.string xs, .int .i64 1, .int .i64 xi, .string ⟨#[]⟩, .slice none 0 0, .slice none 0 0] 44)) := (Below.refl _ _).alloc (Nat.le_refl _) _
        have HQ2 : Hid (DQ H w (v1.alloc (Obj.cells #[.string xs, .int .i64 1, .int .i64 xi, .string ⟨#[]⟩, .slice none 0 0, .slice none 0 0] 44)) (some ⟨g, o, none⟩) ma nc mc ns sz qu ag es (.slice la i lc) i) := HQ.out.keep b
        have HT2 : Hid (TF H g (.slice (some ⟨g, o, none⟩) n nc) (o + i * 2) xs xi (v1.alloc (Obj.cells #[.string xs, .int .i64 1, .int .i64 xi, .string ⟨#[]⟩, .slice none 0 0, .slice none 0 0] 44))) := HT.out.keep b
        have HV : Hid ((v1.alloc (Obj.cells #[.string xs, .int .i64 1, .int .i64 xi, .string ⟨#[]⟩, .slice none 0 0, .slice none 0 0] 44)).heap[v1.heap.size]? = some (.cells (gC (leaf xs (tn xi))).toArray 44 (0, 0))) := heap_new _ _
        clear HQ HT b
        have HQ := HQ2
        have HT := HT2
        clear HQ2 HT2
        refine hK _ _ HT.out (fun hHeld => ?_)
        clear hK K
        generalize v1.alloc (Obj.cells #[.string xs, .int .i64 1, .int .i64 xi, .string ⟨#[]⟩, .slice none 0 0, .slice none 0 0] 44) = v3 at *
        generalize v1.heap.size = vb at *
        refine wpAnyH_ready (rs := [17]) (by kernel_rfl) (by simp) ?_
        refine AllReadyH.cons (o := _) rfl (fun K hK => ?_) AllReadyH.nil
        refine step_append_lies _ (by rfl) (.tmp 15) (.tmp 30) 23 (by rfl) (H + 3) 44 i0 _ 6 96 Tryd.underlying23 hi hz0 hz1 hz2 rfl (by omega) (.slice la i lc) i (gCs (nE (ns.take i))) (by simp [Act.eval]) (by exact HQ.out.2.1) ⟨vb, 0, none⟩ 1 1 (gC (leaf xs (tn xi))) (by simp [Act.eval]) rfl (by exact World.news_of_block HV.out) (by intro u hu; simp [gC, leaf, cv] at hu; rcases hu with rfl | rfl | rfl | rfl | rfl | rfl <;> rfl) (by omega) (by unfold maxLen; omega) (by omega) (by exact HQ.out.1.2.2.2) _ rfl ?_
        intro g9 cap w4 hown4 hgrow hat hlt4'
        have HB4 : Hid (Below (H + 3) v3 w4) := (Below.refl _ _).grown hgrow HQ.out.1.2.2.2 (fun k hk => (World.ownsRow.lt HQ.out.2.1 k hk).1)
        have HDB4 : Hid (DB H w4 (some ⟨g, o, none⟩) ma nc mc ns sz qu ag es (.slice la i lc)) := HQ.out.1.keep HB4.out
        have HT4 : Hid (TF H g (.slice (some ⟨g, o, none⟩) n nc) (o + i * 2) xs xi w4) := HT.out.keep4 HB4.out hgb.1 hgb.2
        have HNX : Hid (DQ H w (w4.setCell ⟨H + 1 + 1, 4, none⟩ (.slice (some ⟨g9, 0, none⟩) (i + 1) cap)) (some ⟨g, o, none⟩) ma nc mc ns sz qu ag es (.slice (some ⟨g9, 0, none⟩) (i + 1) cap) (i + 1)) := DQ.put HQ.out HXI.out hown4 hgrow
        have HT5 : Hid (TF H g (.slice (some ⟨g, o, none⟩) n nc) (o + i * 2) xs xi (w4.setCell ⟨H + 1 + 1, 4, none⟩ (.slice (some ⟨g9, 0, none⟩) (i + 1) cap))) := HT4.out.set hgb.1
        clear HQ HT HB4 hown4 hgrow hat hlt4'
        simp only [Act.put, List.getElem_toArray, List.getElem_cons_zero, List.getElem_cons_succ, List.setIfInBounds_toArray, List.set_cons_zero, List.set_cons_succ]
        refine hK _ _ HT4.out (fun hHeld => ?_)
        clear hK K
        refine wpAnyH_take (i := 18) (v := .pointer (some ⟨H + 1 + 1, 4, none⟩)) rfl (by kernel_rfl) (by kernel_rfl) (by kernel_rfl) (fun _ _ _ h => h) (Or.inl ⟨by rfl, fun w hw => by go_simp⟩) hHeld ?_
        simp only [Act.put, List.getElem_toArray, List.getElem_cons_zero, List.getElem_cons_succ, List.setIfInBounds_toArray, List.set_cons_zero, List.set_cons_succ]
        refine wpAnyH_ready (rs := [19]) (by kernel_rfl) (by simp) ?_
        refine AllReadyH.cons (o := _) rfl (fun K hK => ?_) AllReadyH.nil
        obtain ⟨m0, m1, m2, m3, m4, mf⟩ := HDB4.out.m
        go_simp
        refine hK _ _ HT5.out (fun hHeld => ?_)
        clear hK K m0 m1 m2 m3 m4 mf HDB4 HT4
        refine wpAnyH_done (by kernel_rfl) ?_ _
        clear hHeld
        clear HT5
        go_wp2
        exact ⟨⟨i + 1, _, by omega, by go_num, HNX.out⟩, by simp [intOf]; omega⟩
      · go_simp
        refine (number67 _ _).mono ?_
        rintro e v2 ⟨rfl, b⟩
        have HQ2 : Hid (DQ H w v2 (some ⟨g, o, none⟩) ma nc mc ns sz qu ag es (.slice la i lc) i) := HQ.out.keep b
        have HT2 : Hid (TF H g (.slice (some ⟨g, o, none⟩) n nc) (o + i * 2) xs xi v2) := HT.out.keep b
        clear HQ HT b
        have HQ := HQ2
        have HT := HT2
        clear HQ2 HT2
        go_wp2_with fail
        refine hK _ _ HT.out (fun hHeld => ?_)
        clear hK K
        refine wpAnyH_take (i := 15) (v := .agg #[.string xs, .int .i64 1, .int .i64 xi, .string ⟨#[]⟩, .slice none 0 0, .slice none 0 0]) rfl (by kernel_rfl) (by kernel_rfl) (by kernel_rfl) (fun _ _ _ h => h) (Or.inl ⟨by rfl, fun w hw => by go_simp⟩) hHeld ?_
        simp only [Act.put, List.getElem_toArray, List.getElem_cons_zero, List.getElem_cons_succ, List.setIfInBounds_toArray, List.set_cons_zero, List.set_cons_succ]
        refine wpAnyH_ready (rs := [1, 16]) (by kernel_rfl) (by simp) ?_
        refine AllReadyH.cons (o := _) rfl (fun K hK => ?_) (AllReadyH.cons (o := _) rfl (fun K hK => ?_) AllReadyH.nil)
        · obtain ⟨m0, m1, m2, m3, m4, mf⟩ := HQ.out.1.m
          go_simp
          refine hK _ _ HT.out (fun hHeld => ?_)
          clear hK K m0 m1 m2 m3 m4 mf
          refine wpAnyH_ready (rs := [16]) (by kernel_rfl) (by simp) ?_
          refine AllReadyH.cons (o := _) rfl (fun K hK => ?_) AllReadyH.nil
          go_simp
          have b : Below v2.heap.size v2 (v2.alloc (Obj.cells #[.string xs, .int .i64 1, .int .i64 xi, .string ⟨#[]⟩, .slice none 0 0, .slice none 0 0] 44)) := (Below.refl _ _).alloc (Nat.le_refl _) _
          have HQ2 : Hid (DQ H w (v2.alloc (Obj.cells #[.string xs, .int .i64 1, .int .i64 xi, .string ⟨#[]⟩, .slice none 0 0, .slice none 0 0] 44)) (some ⟨g, o, none⟩) ma nc mc ns sz qu ag es (.slice la i lc) i) := HQ.out.keep b
          have HT2 : Hid (TF H g (.slice (some ⟨g, o, none⟩) n nc) (o + i * 2) xs xi (v2.alloc (Obj.cells #[.string xs, .int .i64 1, .int .i64 xi, .string ⟨#[]⟩, .slice none 0 0, .slice none 0 0] 44))) := HT.out.keep b
          have HV : Hid ((v2.alloc (Obj.cells #[.string xs, .int .i64 1, .int .i64 xi, .string ⟨#[]⟩, .slice none 0 0, .slice none 0 0] 44)).heap[v2.heap.size]? = some (.cells (gC (leaf xs (tn xi))).toArray 44 (0, 0))) := heap_new _ _
          clear HQ HT b
          have HQ := HQ2
          have HT := HT2
          clear HQ2 HT2
          refine hK _ _ HT.out (fun hHeld => ?_)
          clear hK K
          generalize v2.alloc (Obj.cells #[.string xs, .int .i64 1, .int .i64 xi, .string ⟨#[]⟩, .slice none 0 0, .slice none 0 0] 44) = v4 at *
          generalize v2.heap.size = vb at *
          refine wpAnyH_ready (rs := [17]) (by kernel_rfl) (by simp) ?_
          refine AllReadyH.cons (o := _) rfl (fun K hK => ?_) AllReadyH.nil
          refine step_append_lies _ (by rfl) (.tmp 15) (.tmp 30) 23 (by rfl) (H + 3) 44 i0 _ 6 96 Tryd.underlying23 hi hz0 hz1 hz2 rfl (by omega) (.slice la i lc) i (gCs (nE (ns.take i))) (by simp [Act.eval]) (by exact HQ.out.2.1) ⟨vb, 0, none⟩ 1 1 (gC (leaf xs (tn xi))) (by simp [Act.eval]) rfl (by exact World.news_of_block HV.out) (by intro u hu; simp [gC, leaf, cv] at hu; rcases hu with rfl | rfl | rfl | rfl | rfl | rfl <;> rfl) (by omega) (by unfold maxLen; omega) (by omega) (by exact HQ.out.1.2.2.2) _ rfl ?_
          intro g9 cap w4 hown4 hgrow hat hlt4'
          have HB4 : Hid (Below (H + 3) v4 w4) := (Below.refl _ _).grown hgrow HQ.out.1.2.2.2 (fun k hk => (World.ownsRow.lt HQ.out.2.1 k hk).1)
          have HDB4 : Hid (DB H w4 (some ⟨g, o, none⟩) ma nc mc ns sz qu ag es (.slice la i lc)) := HQ.out.1.keep HB4.out
          have HT4 : Hid (TF H g (.slice (some ⟨g, o, none⟩) n nc) (o + i * 2) xs xi w4) := HT.out.keep4 HB4.out hgb.1 hgb.2
          have HNX : Hid (DQ H w (w4.setCell ⟨H + 1 + 1, 4, none⟩ (.slice (some ⟨g9, 0, none⟩) (i + 1) cap)) (some ⟨g, o, none⟩) ma nc mc ns sz qu ag es (.slice (some ⟨g9, 0, none⟩) (i + 1) cap) (i + 1)) := DQ.put HQ.out HXI.out hown4 hgrow
          have HT5 : Hid (TF H g (.slice (some ⟨g, o, none⟩) n nc) (o + i * 2) xs xi (w4.setCell ⟨H + 1 + 1, 4, none⟩ (.slice (some ⟨g9, 0, none⟩) (i + 1) cap))) := HT4.out.set hgb.1
          clear HQ HT HB4 hown4 hgrow hat hlt4'
          simp only [Act.put, List.getElem_toArray, List.getElem_cons_zero, List.getElem_cons_succ, List.setIfInBounds_toArray, List.set_cons_zero, List.set_cons_succ]
          refine hK _ _ HT4.out (fun hHeld => ?_)
          clear hK K
          refine wpAnyH_take (i := 18) (v := .pointer (some ⟨H + 1 + 1, 4, none⟩)) rfl (by kernel_rfl) (by kernel_rfl) (by kernel_rfl) (fun _ _ _ h => h) (Or.inl ⟨by rfl, fun w hw => by go_simp⟩) hHeld ?_
          simp only [Act.put, List.getElem_toArray, List.getElem_cons_zero, List.getElem_cons_succ, List.setIfInBounds_toArray, List.set_cons_zero, List.set_cons_succ]
          refine wpAnyH_ready (rs := [19]) (by kernel_rfl) (by simp) ?_
          refine AllReadyH.cons (o := _) rfl (fun K hK => ?_) AllReadyH.nil
          obtain ⟨m0, m1, m2, m3, m4, mf⟩ := HDB4.out.m
          go_simp
          refine hK _ _ HT5.out (fun hHeld => ?_)
          clear hK K m0 m1 m2 m3 m4 mf HDB4 HT4
          refine wpAnyH_done (by kernel_rfl) ?_ _
          clear hHeld
          clear HT5
          go_wp2
          exact ⟨⟨i + 1, _, by omega, by go_num, HNX.out⟩, by simp [intOf]; omega⟩
        · go_simp
          have b : Below v2.heap.size v2 (v2.alloc (Obj.cells #[.string xs, .int .i64 1, .int .i64 xi, .string ⟨#[]⟩, .slice none 0 0, .slice none 0 0] 44)) := (Below.refl _ _).alloc (Nat.le_refl _) _
          have HQ2 : Hid (DQ H w (v2.alloc (Obj.cells #[.string xs, .int .i64 1, .int .i64 xi, .string ⟨#[]⟩, .slice none 0 0, .slice none 0 0] 44)) (some ⟨g, o, none⟩) ma nc mc ns sz qu ag es (.slice la i lc) i) := HQ.out.keep b
          have HT2 : Hid (TF H g (.slice (some ⟨g, o, none⟩) n nc) (o + i * 2) xs xi (v2.alloc (Obj.cells #[.string xs, .int .i64 1, .int .i64 xi, .string ⟨#[]⟩, .slice none 0 0, .slice none 0 0] 44))) := HT.out.keep b
          have HV : Hid ((v2.alloc (Obj.cells #[.string xs, .int .i64 1, .int .i64 xi, .string ⟨#[]⟩, .slice none 0 0, .slice none 0 0] 44)).heap[v2.heap.size]? = some (.cells (gC (leaf xs (tn xi))).toArray 44 (0, 0))) := heap_new _ _
          clear HQ HT b
          have HQ := HQ2
          have HT := HT2
          clear HQ2 HT2
          refine hK _ _ HT.out (fun hHeld => ?_)
          clear hK K
          generalize v2.alloc (Obj.cells #[.string xs, .int .i64 1, .int .i64 xi, .string ⟨#[]⟩, .slice none 0 0, .slice none 0 0] 44) = v5 at *
          generalize v2.heap.size = vb at *
          refine wpAnyH_ready (rs := [1]) (by kernel_rfl) (by simp) ?_
          refine AllReadyH.cons (o := _) rfl (fun K hK => ?_) AllReadyH.nil
          obtain ⟨m0, m1, m2, m3, m4, mf⟩ := HQ.out.1.m
          go_simp
          refine hK _ _ HT.out (fun hHeld => ?_)
          clear hK K m0 m1 m2 m3 m4 mf
          refine wpAnyH_ready (rs := [17]) (by kernel_rfl) (by simp) ?_
          refine AllReadyH.cons (o := _) rfl (fun K hK => ?_) AllReadyH.nil
          refine step_append_lies _ (by rfl) (.tmp 15) (.tmp 30) 23 (by rfl) (H + 3) 44 i0 _ 6 96 Tryd.underlying23 hi hz0 hz1 hz2 rfl (by omega) (.slice la i lc) i (gCs (nE (ns.take i))) (by simp [Act.eval]) (by exact HQ.out.2.1) ⟨vb, 0, none⟩ 1 1 (gC (leaf xs (tn xi))) (by simp [Act.eval]) rfl (by exact World.news_of_block HV.out) (by intro u hu; simp [gC, leaf, cv] at hu; rcases hu with rfl | rfl | rfl | rfl | rfl | rfl <;> rfl) (by omega) (by unfold maxLen; omega) (by omega) (by exact HQ.out.1.2.2.2) _ rfl ?_
          intro g9 cap w4 hown4 hgrow hat hlt4'
          have HB4 : Hid (Below (H + 3) v5 w4) := (Below.refl _ _).grown hgrow HQ.out.1.2.2.2 (fun k hk => (World.ownsRow.lt HQ.out.2.1 k hk).1)
          have HDB4 : Hid (DB H w4 (some ⟨g, o, none⟩) ma nc mc ns sz qu ag es (.slice la i lc)) := HQ.out.1.keep HB4.out
          have HT4 : Hid (TF H g (.slice (some ⟨g, o, none⟩) n nc) (o + i * 2) xs xi w4) := HT.out.keep4 HB4.out hgb.1 hgb.2
          have HNX : Hid (DQ H w (w4.setCell ⟨H + 1 + 1, 4, none⟩ (.slice (some ⟨g9, 0, none⟩) (i + 1) cap)) (some ⟨g, o, none⟩) ma nc mc ns sz qu ag es (.slice (some ⟨g9, 0, none⟩) (i + 1) cap) (i + 1)) := DQ.put HQ.out HXI.out hown4 hgrow
          have HT5 : Hid (TF H g (.slice (some ⟨g, o, none⟩) n nc) (o + i * 2) xs xi (w4.setCell ⟨H + 1 + 1, 4, none⟩ (.slice (some ⟨g9, 0, none⟩) (i + 1) cap))) := HT4.out.set hgb.1
          clear HQ HT HB4 hown4 hgrow hat hlt4'
          simp only [Act.put, List.getElem_toArray, List.getElem_cons_zero, List.getElem_cons_succ, List.setIfInBounds_toArray, List.set_cons_zero, List.set_cons_succ]
          refine hK _ _ HT4.out (fun hHeld => ?_)
          clear hK K
          refine wpAnyH_take (i := 18) (v := .pointer (some ⟨H + 1 + 1, 4, none⟩)) rfl (by kernel_rfl) (by kernel_rfl) (by kernel_rfl) (fun _ _ _ h => h) (Or.inl ⟨by rfl, fun w hw => by go_simp⟩) hHeld ?_
          simp only [Act.put, List.getElem_toArray, List.getElem_cons_zero, List.getElem_cons_succ, List.setIfInBounds_toArray, List.set_cons_zero, List.set_cons_succ]
          refine wpAnyH_ready (rs := [19]) (by kernel_rfl) (by simp) ?_
          refine AllReadyH.cons (o := _) rfl (fun K hK => ?_) AllReadyH.nil
          obtain ⟨m0, m1, m2, m3, m4, mf⟩ := HDB4.out.m
          go_simp
          refine hK _ _ HT5.out (fun hHeld => ?_)
          clear hK K m0 m1 m2 m3 m4 mf HDB4 HT4
          refine wpAnyH_done (by kernel_rfl) ?_ _
          clear hHeld
          clear HT5
          go_wp2
          exact ⟨⟨i + 1, _, by omega, by go_num, HNX.out⟩, by simp [intOf]; omega⟩
    · obtain rfl : i = n := by omega
      obtain ⟨la, lc, rfl⟩ := ownForm HI.out.2.1
      have HGN : Hid (RV (fun b => H + 3 ≤ b ∧ b < wr.heap.size) wr (tG (nE ns)) (.slice none 0 0) (.slice la i lc)) := by
        have h9 : GR (H + 3) wr.heap.size wr (.slice la i lc) (nE ns) := by
          have h8 := HI.out.2.1
          rw [List.take_of_length_le (by have := HNN.out; omega)] at h8
          refine ⟨by rw [nE_len, HNN.out]; exact h8, fun e he => ?_⟩
          obtain ⟨y, _, rfl⟩ := List.mem_map.1 he
          exact rv_leaf _ _ _ _ _
        have h7 := h9.rdS (S := fun b => H + 3 ≤ b) (fun b h => h) (fun e he => by
          obtain ⟨y, _, rfl⟩ := List.mem_map.1 he
          exact rv_leaf _ _ _ _ _)
        exact RV.move (fun b h hl => ⟨h, hl⟩) (Nat.le_refl _) (fun _ _ _ => rfl) _ _ _ (show RV (fun b => H + 3 ≤ b) wr (tG (nE ns)) (.slice none 0 0) (.slice la i lc) from ⟨⟨none, 0, rfl, .inl rfl⟩, h7⟩)
      have HMW : Hid (RG wr.heap.size wr (.slice ma es.length mc) es) := by
        have h9 := HM.out.keep (HS.out ▸ HI.out.2.2)
        exact h9.mono (HS.out ▸ HI.out.2.2.size)
      have HDB : Hid (DB H wr na ma nc mc ns sz qu ag es (.slice la i lc) ∧ Below H w wr) := ⟨HI.out.1, HI.out.2.2⟩
      clear HI x1 x2 x3
      rw [HNN.out] at x0
      go_upto_region 8 with (at_builtin; refine append_ps (ns := []) rfl _ _ rfl rfl rfl (World.ownsRow_nil _ wr.heap.size _ _) HMW.out (Nat.le_refl _) (by simp only [List.length_nil]; omega) ?_; intro a' c' w1 ho hb hg; simp only [List.length_nil, Nat.zero_add, List.nil_append] at ho ⊢)
      have HP : Hid (PQ H w w1 na ma nc mc ns sz qu ag es (.slice la i lc) (.slice a' es.length c') es) := by
        have hk := hb
        have hs := HDB.out.1.2.2.2
        have hb1 : Below H w w1 := HDB.out.2.trans (hk.mono (by omega))
        have hrv : ∀ e ∈ es, RV (fun b => b < wr.heap.size) w1 e.t e.x e.y := fun e he => RV.keep (fun _ h => h) hk.size (fun b _ hl => hk.block b hl) _ _ _ (HMW.out.rv e he)
        have hrv2 : ∀ e ∈ es, RV (fun b => b ≠ H + 1) w1 e.t e.x e.y := fun e he => RV.keep (fun b h => by have h6 := HS.out; have h5 : b < H := h; show b ≠ H + 1; omega) hb1.size (fun b h _ => hb1.block b (by have h5 : b < H := h; omega)) _ _ _ (HM.out.rv e he)
        have hgr : GR wr.heap.size wr.heap.size w1 (.slice a' es.length c') es := ⟨ho, hrv⟩
        exact ⟨HDB.out.1.keep (hk.mono hs), rg_of_gr hgr hk.size, hb1, hrv2, hgr.rdS (fun b h => by show b ≠ H + 1; omega) hrv2⟩
      have HGV : Hid (RV (fun b => b < w1.heap.size) w1 (tG (nE ns)) (.slice none 0 0) (.slice la i lc) ∧ RV (fun b => b ≠ H + 1) w1 (tG (nE ns)) (.slice none 0 0) (.slice la i lc)) :=
        ⟨RV.keep (fun _ h => Nat.lt_of_lt_of_le h.2 hb.size) hb.size (fun b _ hl => hb.block b hl) _ _ _ HGN.out, RV.keep (fun b h => by have h5 := h.1; show b ≠ H + 1; omega) hb.size (fun b _ hl => hb.block b hl) _ _ _ HGN.out⟩
      clear ho hb hg HGN HMW HDB x0 x4
      generalize hml : es.length = ml at *
      have HML := Lib.hid hml
      clear hml
      have HC := Lib.hid (show Calls Tryd.prog 34 #[.slice a' ml c', .string ⟨#[109]⟩, .agg #[.int .i64 4, .int .i64 0, .string ⟨#[]⟩, .slice none 0 0, .slice la i lc]] w1 _ from with68 _ es kM (tG (nE ns)) (.slice none 0 0) (.slice la i lc) w1 HP.out.2.1 HGV.out.1 (by have := HML.out; omega))
      obtain ⟨m0, m1, m2, m3, m4, mf⟩ := HP.out.1.m
      go_wp2_with fail
      refine HC.out.mono ?_
      rintro e w2 ⟨pv, rfl, hgr, hb⟩
      have HP2 : Hid (PQ H w w2 na ma nc mc ns sz qu ag es (.slice la i lc) pv (wtP es ⟨kM, tG (nE ns), .slice none 0 0, .slice la i lc⟩)) := HP.out.next (p := ⟨kM, tG (nE ns), .slice none 0 0, .slice la i lc⟩) HGV.out.2 hgr hb
      obtain ⟨pa, pc, rfl⟩ := hgr.form
      clear HC HP HGV hgr hb m0 m1 m2 m3 m4 mf
      have HLE : Hid ((wtP es ⟨kM, tG (nE ns), .slice none 0 0, .slice la i lc⟩).length = ml + 1) := by show _ = _; rw [wtP_len, HML.out]
      generalize hl1 : wtP es ⟨kM, tG (nE ns), .slice none 0 0, .slice la i lc⟩ = l1 at *
      have HL1 : Hid (l1 = wtP es ⟨kM, tG (nE ns), .slice none 0 0, .slice la i lc⟩) := hl1.symm
      clear hl1
      by_cases h0 : sz = 0
      · obtain ⟨x0, x1, x2, x3, x4⟩ := HP2.out.1.box
        go_upto_region 11 with fail
        clear x0 x1 x2 x3 x4
        by_cases h1 : qu = 0
        · obtain ⟨x0, x1, x2, x3, x4⟩ := HP2.out.1.box
          go_upto_region 13 with fail
          clear x0 x1 x2 x3 x4
          by_cases h2 : ag.toList = []
          · obtain ⟨x0, x1, x2, x3, x4⟩ := HP2.out.1.box
            have hq : ag.toList.isEmpty = true := by rw [h2]; rfl
            go_upto_region 15 with fail
            clear x0 x1 x2 x3 x4
            have hR := HP2.out.1.2.1
            have r0 : w2.cell? ⟨H + 1, 0, none⟩ = some (.int .i64 0) := by simp [World.cell?, hR]
            have r1 : w2.cell? ⟨H + 1, 1, none⟩ = some (.int .i64 0) := by simp [World.cell?, hR]
            have r2 : w2.cell? ⟨H + 1, 2, none⟩ = some (.string ⟨#[]⟩) := by simp [World.cell?, hR]
            have r3 : w2.cell? ⟨H + 1, 3, none⟩ = some (.slice none 0 0) := by simp [World.cell?, hR]
            have r4 : w2.cell? ⟨H + 1, 4, none⟩ = some (.slice none 0 0) := by simp [World.cell?, hR]
            have f0 : ∀ j, w2.frozen? ⟨H + 1, j, none⟩ = false := fun j => by simp [World.frozen?, hR]
            have z0 := f0 0
            have z1 := f0 1
            have z2 := f0 2
            have z3 := f0 3
            have z4 := f0 4
            have HRR := Lib.hid hR
            clear hR f0
            have HEQ := Lib.hid (wtAll_own ns sz qu ag (.slice la i lc) es l1 _ _ l1 HL1.out (.inl ⟨h0, rfl⟩) (.inl ⟨h1, rfl⟩) (.inl ⟨h2, rfl⟩))
            have HE : Hid (∀ wE, Besides (H + 1) w2 wE → RD (fun _ => True) wE l1.length (kyG l1) (dvG l1) (.slice pa l1.length pc) ∧ Below H w wE) := fun wE hE => ⟨rd_besides hE HP2.out.2.2.2.2, ⟨hE.os.trans HP2.out.2.2.1.os, hE.tape.trans HP2.out.2.2.1.tape, hE.output.trans HP2.out.2.2.1.output, Nat.le_trans HP2.out.2.2.1.size hE.size, fun q hq => (hE.block q (by have := HP2.out.1.2.2.2; omega) (by omega)).trans (HP2.out.2.2.1.block q hq)⟩⟩
            go_wp2
            refine bodyPost_ret (v := .agg #[.int .i64 4, .int .i64 0, .string ⟨#[]⟩, .slice none 0 0, .slice pa l1.length pc]) (results_cell_row Tryd.results15 _ _ (H + 1) 41 _ (0, 0) _ rfl (ow.set (ow.set (ow.set (ow.set (ow.set HRR.out 0 _) 1 _) 2 _) 3 _) 4 _) Tryd.underlying41 rfl info35s56) rfl ⟨.slice la i lc, _, rfl, ?_⟩
            rw [HEQ.out, HS.out]
            exact HE.out _ (besides5 _ _ _ _ _ _ _)
          · obtain ⟨x0, x1, x2, x3, x4⟩ := HP2.out.1.box
            have hq : ag.toList.isEmpty = false := by rw [List.isEmpty_eq_false_iff]; exact h2
            have HP3 := HP2
            clear HP2
            have HC := Lib.hid (show Calls Tryd.prog 34 #[.slice pa l1.length pc, .string ⟨#[118]⟩, .agg #[.int .i64 2, .int .i64 0, .string ag, .slice none 0 0, .slice none 0 0]] w2 _ from with68 _ l1 kV (ts ag) (.slice none 0 0) (.slice none 0 0) w2 HP3.out.2.1 (rv_leaf _ _ _ _ _) (by have h9 := HLE.out; have h8 := HML.out; omega))
            go_wp2_with fail
            refine HC.out.mono ?_
            rintro e w2w ⟨pv, rfl, hgr, hb⟩
            have HP2 := Lib.hid (HP3.out.next (p := leaf kV (ts ag)) (rv_leaf _ _ _ _ _) hgr hb)
            obtain ⟨pa, pc, rfl⟩ := hgr.form
            clear x0 x1 x2 x3 x4
            have HLE2 : Hid ((wtP l1 (leaf kV (ts ag))).length ≤ ml + 4) := by have h9 := HLE.out; show _ ≤ _; rw [wtP_len]; omega
            clear HC HP3 hgr hb HLE
            have HLE := HLE2
            clear HLE2
            rw [show (⟨kV, (ts ag), .slice none 0 0, .slice none 0 0⟩ : PE) = leaf kV (ts ag) from rfl] at *
            generalize hll1x : wtP l1 (leaf kV (ts ag)) = l1x at *
            have Hl1x : Hid (l1x = wtP l1 (leaf kV (ts ag))) := hll1x.symm
            clear hll1x
            go_upto_region 15 with fail
            have hR := HP2.out.1.2.1
            have r0 : w2w.cell? ⟨H + 1, 0, none⟩ = some (.int .i64 0) := by simp [World.cell?, hR]
            have r1 : w2w.cell? ⟨H + 1, 1, none⟩ = some (.int .i64 0) := by simp [World.cell?, hR]
            have r2 : w2w.cell? ⟨H + 1, 2, none⟩ = some (.string ⟨#[]⟩) := by simp [World.cell?, hR]
            have r3 : w2w.cell? ⟨H + 1, 3, none⟩ = some (.slice none 0 0) := by simp [World.cell?, hR]
            have r4 : w2w.cell? ⟨H + 1, 4, none⟩ = some (.slice none 0 0) := by simp [World.cell?, hR]
            have f0 : ∀ j, w2w.frozen? ⟨H + 1, j, none⟩ = false := fun j => by simp [World.frozen?, hR]
            have z0 := f0 0
            have z1 := f0 1
            have z2 := f0 2
            have z3 := f0 3
            have z4 := f0 4
            have HRR := Lib.hid hR
            clear hR f0
            have HEQ := Lib.hid (wtAll_own ns sz qu ag (.slice la i lc) es l1 _ _ l1x HL1.out (.inl ⟨h0, rfl⟩) (.inl ⟨h1, rfl⟩) (.inr ⟨h2, Hl1x.out⟩))
            have HE : Hid (∀ wE, Besides (H + 1) w2w wE → RD (fun _ => True) wE l1x.length (kyG l1x) (dvG l1x) (.slice pa l1x.length pc) ∧ Below H w wE) := fun wE hE => ⟨rd_besides hE HP2.out.2.2.2.2, ⟨hE.os.trans HP2.out.2.2.1.os, hE.tape.trans HP2.out.2.2.1.tape, hE.output.trans HP2.out.2.2.1.output, Nat.le_trans HP2.out.2.2.1.size hE.size, fun q hq => (hE.block q (by have := HP2.out.1.2.2.2; omega) (by omega)).trans (HP2.out.2.2.1.block q hq)⟩⟩
            go_wp2
            refine bodyPost_ret (v := .agg #[.int .i64 4, .int .i64 0, .string ⟨#[]⟩, .slice none 0 0, .slice pa l1x.length pc]) (results_cell_row Tryd.results15 _ _ (H + 1) 41 _ (0, 0) _ rfl (ow.set (ow.set (ow.set (ow.set (ow.set HRR.out 0 _) 1 _) 2 _) 3 _) 4 _) Tryd.underlying41 rfl info35s56) rfl ⟨.slice la i lc, _, rfl, ?_⟩
            rw [HEQ.out, HS.out]
            exact HE.out _ (besides5 _ _ _ _ _ _ _)
        · obtain ⟨x0, x1, x2, x3, x4⟩ := HP2.out.1.box
          go_wp2_with fail
          refine (number67 _ _).mono ?_
          rintro e w2n ⟨rfl, hb⟩
          have HP3 := Lib.hid (HP2.out.keep hb)
          clear HP2 hb x0 x1 x2 x3 x4
          have HC := Lib.hid (show Calls Tryd.prog 34 #[.slice pa l1.length pc, .string ⟨#[114, 101, 113, 113]⟩, .agg #[.int .i64 1, .int .i64 qu, .string ⟨#[]⟩, .slice none 0 0, .slice none 0 0]] w2n _ from with68 _ l1 kQ (tn qu) (.slice none 0 0) (.slice none 0 0) w2n HP3.out.2.1 (rv_leaf _ _ _ _ _) (by have h9 := HLE.out; have h8 := HML.out; omega))
          go_wp2_with fail
          refine HC.out.mono ?_
          rintro e w2w ⟨pv, rfl, hgr, hb⟩
          have HP2 := Lib.hid (HP3.out.next (p := leaf kQ (tn qu)) (rv_leaf _ _ _ _ _) hgr hb)
          obtain ⟨pa, pc, rfl⟩ := hgr.form
          have HLE2 : Hid ((wtP l1 (leaf kQ (tn qu))).length ≤ ml + 3) := by have h9 := HLE.out; show _ ≤ _; rw [wtP_len]; omega
          clear HC HP3 hgr hb HLE
          have HLE := HLE2
          clear HLE2
          rw [show (⟨kQ, (tn qu), .slice none 0 0, .slice none 0 0⟩ : PE) = leaf kQ (tn qu) from rfl] at *
          generalize hll1x : wtP l1 (leaf kQ (tn qu)) = l1x at *
          have Hl1x : Hid (l1x = wtP l1 (leaf kQ (tn qu))) := hll1x.symm
          clear hll1x
          go_upto_region 13 with fail
          by_cases h2 : ag.toList = []
          · obtain ⟨x0, x1, x2, x3, x4⟩ := HP2.out.1.box
            have hq : ag.toList.isEmpty = true := by rw [h2]; rfl
            go_upto_region 15 with fail
            clear x0 x1 x2 x3 x4
            have hR := HP2.out.1.2.1
            have r0 : w2w.cell? ⟨H + 1, 0, none⟩ = some (.int .i64 0) := by simp [World.cell?, hR]
            have r1 : w2w.cell? ⟨H + 1, 1, none⟩ = some (.int .i64 0) := by simp [World.cell?, hR]
            have r2 : w2w.cell? ⟨H + 1, 2, none⟩ = some (.string ⟨#[]⟩) := by simp [World.cell?, hR]
            have r3 : w2w.cell? ⟨H + 1, 3, none⟩ = some (.slice none 0 0) := by simp [World.cell?, hR]
            have r4 : w2w.cell? ⟨H + 1, 4, none⟩ = some (.slice none 0 0) := by simp [World.cell?, hR]
            have f0 : ∀ j, w2w.frozen? ⟨H + 1, j, none⟩ = false := fun j => by simp [World.frozen?, hR]
            have z0 := f0 0
            have z1 := f0 1
            have z2 := f0 2
            have z3 := f0 3
            have z4 := f0 4
            have HRR := Lib.hid hR
            clear hR f0
            have HEQ := Lib.hid (wtAll_own ns sz qu ag (.slice la i lc) es l1 _ _ l1x HL1.out (.inl ⟨h0, rfl⟩) (.inr ⟨h1, Hl1x.out⟩) (.inl ⟨h2, rfl⟩))
            have HE : Hid (∀ wE, Besides (H + 1) w2w wE → RD (fun _ => True) wE l1x.length (kyG l1x) (dvG l1x) (.slice pa l1x.length pc) ∧ Below H w wE) := fun wE hE => ⟨rd_besides hE HP2.out.2.2.2.2, ⟨hE.os.trans HP2.out.2.2.1.os, hE.tape.trans HP2.out.2.2.1.tape, hE.output.trans HP2.out.2.2.1.output, Nat.le_trans HP2.out.2.2.1.size hE.size, fun q hq => (hE.block q (by have := HP2.out.1.2.2.2; omega) (by omega)).trans (HP2.out.2.2.1.block q hq)⟩⟩
            go_wp2
            refine bodyPost_ret (v := .agg #[.int .i64 4, .int .i64 0, .string ⟨#[]⟩, .slice none 0 0, .slice pa l1x.length pc]) (results_cell_row Tryd.results15 _ _ (H + 1) 41 _ (0, 0) _ rfl (ow.set (ow.set (ow.set (ow.set (ow.set HRR.out 0 _) 1 _) 2 _) 3 _) 4 _) Tryd.underlying41 rfl info35s56) rfl ⟨.slice la i lc, _, rfl, ?_⟩
            rw [HEQ.out, HS.out]
            exact HE.out _ (besides5 _ _ _ _ _ _ _)
          · obtain ⟨x0, x1, x2, x3, x4⟩ := HP2.out.1.box
            have hq : ag.toList.isEmpty = false := by rw [List.isEmpty_eq_false_iff]; exact h2
            have HP3 := HP2
            clear HP2
            have HC := Lib.hid (show Calls Tryd.prog 34 #[.slice pa l1x.length pc, .string ⟨#[118]⟩, .agg #[.int .i64 2, .int .i64 0, .string ag, .slice none 0 0, .slice none 0 0]] w2w _ from with68 _ l1x kV (ts ag) (.slice none 0 0) (.slice none 0 0) w2w HP3.out.2.1 (rv_leaf _ _ _ _ _) (by have h9 := HLE.out; have h8 := HML.out; omega))
            go_wp2_with fail
            refine HC.out.mono ?_
            rintro e w2ww ⟨pv, rfl, hgr, hb⟩
            have HP2 := Lib.hid (HP3.out.next (p := leaf kV (ts ag)) (rv_leaf _ _ _ _ _) hgr hb)
            obtain ⟨pa, pc, rfl⟩ := hgr.form
            clear x0 x1 x2 x3 x4
            have HLE2 : Hid ((wtP l1x (leaf kV (ts ag))).length ≤ ml + 4) := by have h9 := HLE.out; show _ ≤ _; rw [wtP_len]; omega
            clear HC HP3 hgr hb HLE
            have HLE := HLE2
            clear HLE2
            rw [show (⟨kV, (ts ag), .slice none 0 0, .slice none 0 0⟩ : PE) = leaf kV (ts ag) from rfl] at *
            generalize hll1xx : wtP l1x (leaf kV (ts ag)) = l1xx at *
            have Hl1xx : Hid (l1xx = wtP l1x (leaf kV (ts ag))) := hll1xx.symm
            clear hll1xx
            go_upto_region 15 with fail
            have hR := HP2.out.1.2.1
            have r0 : w2ww.cell? ⟨H + 1, 0, none⟩ = some (.int .i64 0) := by simp [World.cell?, hR]
            have r1 : w2ww.cell? ⟨H + 1, 1, none⟩ = some (.int .i64 0) := by simp [World.cell?, hR]
            have r2 : w2ww.cell? ⟨H + 1, 2, none⟩ = some (.string ⟨#[]⟩) := by simp [World.cell?, hR]
            have r3 : w2ww.cell? ⟨H + 1, 3, none⟩ = some (.slice none 0 0) := by simp [World.cell?, hR]
            have r4 : w2ww.cell? ⟨H + 1, 4, none⟩ = some (.slice none 0 0) := by simp [World.cell?, hR]
            have f0 : ∀ j, w2ww.frozen? ⟨H + 1, j, none⟩ = false := fun j => by simp [World.frozen?, hR]
            have z0 := f0 0
            have z1 := f0 1
            have z2 := f0 2
            have z3 := f0 3
            have z4 := f0 4
            have HRR := Lib.hid hR
            clear hR f0
            have HEQ := Lib.hid (wtAll_own ns sz qu ag (.slice la i lc) es l1 _ _ l1xx HL1.out (.inl ⟨h0, rfl⟩) (.inr ⟨h1, Hl1x.out⟩) (.inr ⟨h2, Hl1xx.out⟩))
            have HE : Hid (∀ wE, Besides (H + 1) w2ww wE → RD (fun _ => True) wE l1xx.length (kyG l1xx) (dvG l1xx) (.slice pa l1xx.length pc) ∧ Below H w wE) := fun wE hE => ⟨rd_besides hE HP2.out.2.2.2.2, ⟨hE.os.trans HP2.out.2.2.1.os, hE.tape.trans HP2.out.2.2.1.tape, hE.output.trans HP2.out.2.2.1.output, Nat.le_trans HP2.out.2.2.1.size hE.size, fun q hq => (hE.block q (by have := HP2.out.1.2.2.2; omega) (by omega)).trans (HP2.out.2.2.1.block q hq)⟩⟩
            go_wp2
            refine bodyPost_ret (v := .agg #[.int .i64 4, .int .i64 0, .string ⟨#[]⟩, .slice none 0 0, .slice pa l1xx.length pc]) (results_cell_row Tryd.results15 _ _ (H + 1) 41 _ (0, 0) _ rfl (ow.set (ow.set (ow.set (ow.set (ow.set HRR.out 0 _) 1 _) 2 _) 3 _) 4 _) Tryd.underlying41 rfl info35s56) rfl ⟨.slice la i lc, _, rfl, ?_⟩
            rw [HEQ.out, HS.out]
            exact HE.out _ (besides5 _ _ _ _ _ _ _)
      · obtain ⟨x0, x1, x2, x3, x4⟩ := HP2.out.1.box
        go_wp2_with fail
        refine (number67 _ _).mono ?_
        rintro e w2n ⟨rfl, hb⟩
        have HP3 := Lib.hid (HP2.out.keep hb)
        clear HP2 hb x0 x1 x2 x3 x4
        have HC := Lib.hid (show Calls Tryd.prog 34 #[.slice pa l1.length pc, .string ⟨#[109, 101, 116, 97, 100, 97, 116, 97, 95, 115, 105, 122, 101]⟩, .agg #[.int .i64 1, .int .i64 sz, .string ⟨#[]⟩, .slice none 0 0, .slice none 0 0]] w2n _ from with68 _ l1 kZ (tn sz) (.slice none 0 0) (.slice none 0 0) w2n HP3.out.2.1 (rv_leaf _ _ _ _ _) (by have h9 := HLE.out; have h8 := HML.out; omega))
        go_wp2_with fail
        refine HC.out.mono ?_
        rintro e w2w ⟨pv, rfl, hgr, hb⟩
        have HP2 := Lib.hid (HP3.out.next (p := leaf kZ (tn sz)) (rv_leaf _ _ _ _ _) hgr hb)
        obtain ⟨pa, pc, rfl⟩ := hgr.form
        have HLE2 : Hid ((wtP l1 (leaf kZ (tn sz))).length ≤ ml + 2) := by have h9 := HLE.out; show _ ≤ _; rw [wtP_len]; omega
        clear HC HP3 hgr hb HLE
        have HLE := HLE2
        clear HLE2
        rw [show (⟨kZ, (tn sz), .slice none 0 0, .slice none 0 0⟩ : PE) = leaf kZ (tn sz) from rfl] at *
        generalize hll1x : wtP l1 (leaf kZ (tn sz)) = l1x at *
        have Hl1x : Hid (l1x = wtP l1 (leaf kZ (tn sz))) := hll1x.symm
        clear hll1x
        go_upto_region 11 with fail
        by_cases h1 : qu = 0
        · obtain ⟨x0, x1, x2, x3, x4⟩ := HP2.out.1.box
          go_upto_region 13 with fail
          clear x0 x1 x2 x3 x4
          by_cases h2 : ag.toList = []
          · obtain ⟨x0, x1, x2, x3, x4⟩ := HP2.out.1.box
            have hq : ag.toList.isEmpty = true := by rw [h2]; rfl
            go_upto_region 15 with fail
            clear x0 x1 x2 x3 x4
            have hR := HP2.out.1.2.1
            have r0 : w2w.cell? ⟨H + 1, 0, none⟩ = some (.int .i64 0) := by simp [World.cell?, hR]
            have r1 : w2w.cell? ⟨H + 1, 1, none⟩ = some (.int .i64 0) := by simp [World.cell?, hR]
            have r2 : w2w.cell? ⟨H + 1, 2, none⟩ = some (.string ⟨#[]⟩) := by simp [World.cell?, hR]
            have r3 : w2w.cell? ⟨H + 1, 3, none⟩ = some (.slice none 0 0) := by simp [World.cell?, hR]
            have r4 : w2w.cell? ⟨H + 1, 4, none⟩ = some (.slice none 0 0) := by simp [World.cell?, hR]
            have f0 : ∀ j, w2w.frozen? ⟨H + 1, j, none⟩ = false := fun j => by simp [World.frozen?, hR]
            have z0 := f0 0
            have z1 := f0 1
            have z2 := f0 2
            have z3 := f0 3
            have z4 := f0 4
            have HRR := Lib.hid hR
            clear hR f0
            have HEQ := Lib.hid (wtAll_own ns sz qu ag (.slice la i lc) es l1 _ _ l1x HL1.out (.inr ⟨h0, Hl1x.out⟩) (.inl ⟨h1, rfl⟩) (.inl ⟨h2, rfl⟩))
            have HE : Hid (∀ wE, Besides (H + 1) w2w wE → RD (fun _ => True) wE l1x.length (kyG l1x) (dvG l1x) (.slice pa l1x.length pc) ∧ Below H w wE) := fun wE hE => ⟨rd_besides hE HP2.out.2.2.2.2, ⟨hE.os.trans HP2.out.2.2.1.os, hE.tape.trans HP2.out.2.2.1.tape, hE.output.trans HP2.out.2.2.1.output, Nat.le_trans HP2.out.2.2.1.size hE.size, fun q hq => (hE.block q (by have := HP2.out.1.2.2.2; omega) (by omega)).trans (HP2.out.2.2.1.block q hq)⟩⟩
            go_wp2
            refine bodyPost_ret (v := .agg #[.int .i64 4, .int .i64 0, .string ⟨#[]⟩, .slice none 0 0, .slice pa l1x.length pc]) (results_cell_row Tryd.results15 _ _ (H + 1) 41 _ (0, 0) _ rfl (ow.set (ow.set (ow.set (ow.set (ow.set HRR.out 0 _) 1 _) 2 _) 3 _) 4 _) Tryd.underlying41 rfl info35s56) rfl ⟨.slice la i lc, _, rfl, ?_⟩
            rw [HEQ.out, HS.out]
            exact HE.out _ (besides5 _ _ _ _ _ _ _)
          · obtain ⟨x0, x1, x2, x3, x4⟩ := HP2.out.1.box
            have hq : ag.toList.isEmpty = false := by rw [List.isEmpty_eq_false_iff]; exact h2
            have HP3 := HP2
            clear HP2
            have HC := Lib.hid (show Calls Tryd.prog 34 #[.slice pa l1x.length pc, .string ⟨#[118]⟩, .agg #[.int .i64 2, .int .i64 0, .string ag, .slice none 0 0, .slice none 0 0]] w2w _ from with68 _ l1x kV (ts ag) (.slice none 0 0) (.slice none 0 0) w2w HP3.out.2.1 (rv_leaf _ _ _ _ _) (by have h9 := HLE.out; have h8 := HML.out; omega))
            go_wp2_with fail
            refine HC.out.mono ?_
            rintro e w2ww ⟨pv, rfl, hgr, hb⟩
            have HP2 := Lib.hid (HP3.out.next (p := leaf kV (ts ag)) (rv_leaf _ _ _ _ _) hgr hb)
            obtain ⟨pa, pc, rfl⟩ := hgr.form
            clear x0 x1 x2 x3 x4
            have HLE2 : Hid ((wtP l1x (leaf kV (ts ag))).length ≤ ml + 4) := by have h9 := HLE.out; show _ ≤ _; rw [wtP_len]; omega
            clear HC HP3 hgr hb HLE
            have HLE := HLE2
            clear HLE2
            rw [show (⟨kV, (ts ag), .slice none 0 0, .slice none 0 0⟩ : PE) = leaf kV (ts ag) from rfl] at *
            generalize hll1xx : wtP l1x (leaf kV (ts ag)) = l1xx at *
            have Hl1xx : Hid (l1xx = wtP l1x (leaf kV (ts ag))) := hll1xx.symm
            clear hll1xx
            go_upto_region 15 with fail
            have hR := HP2.out.1.2.1
            have r0 : w2ww.cell? ⟨H + 1, 0, none⟩ = some (.int .i64 0) := by simp [World.cell?, hR]
            have r1 : w2ww.cell? ⟨H + 1, 1, none⟩ = some (.int .i64 0) := by simp [World.cell?, hR]
            have r2 : w2ww.cell? ⟨H + 1, 2, none⟩ = some (.string ⟨#[]⟩) := by simp [World.cell?, hR]
            have r3 : w2ww.cell? ⟨H + 1, 3, none⟩ = some (.slice none 0 0) := by simp [World.cell?, hR]
            have r4 : w2ww.cell? ⟨H + 1, 4, none⟩ = some (.slice none 0 0) := by simp [World.cell?, hR]
            have f0 : ∀ j, w2ww.frozen? ⟨H + 1, j, none⟩ = false := fun j => by simp [World.frozen?, hR]
            have z0 := f0 0
            have z1 := f0 1
            have z2 := f0 2
            have z3 := f0 3
            have z4 := f0 4
            have HRR := Lib.hid hR
            clear hR f0
            have HEQ := Lib.hid (wtAll_own ns sz qu ag (.slice la i lc) es l1 _ _ l1xx HL1.out (.inr ⟨h0, Hl1x.out⟩) (.inl ⟨h1, rfl⟩) (.inr ⟨h2, Hl1xx.out⟩))
            have HE : Hid (∀ wE, Besides (H + 1) w2ww wE → RD (fun _ => True) wE l1xx.length (kyG l1xx) (dvG l1xx) (.slice pa l1xx.length pc) ∧ Below H w wE) := fun wE hE => ⟨rd_besides hE HP2.out.2.2.2.2, ⟨hE.os.trans HP2.out.2.2.1.os, hE.tape.trans HP2.out.2.2.1.tape, hE.output.trans HP2.out.2.2.1.output, Nat.le_trans HP2.out.2.2.1.size hE.size, fun q hq => (hE.block q (by have := HP2.out.1.2.2.2; omega) (by omega)).trans (HP2.out.2.2.1.block q hq)⟩⟩
            go_wp2
            refine bodyPost_ret (v := .agg #[.int .i64 4, .int .i64 0, .string ⟨#[]⟩, .slice none 0 0, .slice pa l1xx.length pc]) (results_cell_row Tryd.results15 _ _ (H + 1) 41 _ (0, 0) _ rfl (ow.set (ow.set (ow.set (ow.set (ow.set HRR.out 0 _) 1 _) 2 _) 3 _) 4 _) Tryd.underlying41 rfl info35s56) rfl ⟨.slice la i lc, _, rfl, ?_⟩
            rw [HEQ.out, HS.out]
            exact HE.out _ (besides5 _ _ _ _ _ _ _)
        · obtain ⟨x0, x1, x2, x3, x4⟩ := HP2.out.1.box
          go_wp2_with fail
          refine (number67 _ _).mono ?_
          rintro e w2wn ⟨rfl, hb⟩
          have HP3 := Lib.hid (HP2.out.keep hb)
          clear HP2 hb x0 x1 x2 x3 x4
          have HC := Lib.hid (show Calls Tryd.prog 34 #[.slice pa l1x.length pc, .string ⟨#[114, 101, 113, 113]⟩, .agg #[.int .i64 1, .int .i64 qu, .string ⟨#[]⟩, .slice none 0 0, .slice none 0 0]] w2wn _ from with68 _ l1x kQ (tn qu) (.slice none 0 0) (.slice none 0 0) w2wn HP3.out.2.1 (rv_leaf _ _ _ _ _) (by have h9 := HLE.out; have h8 := HML.out; omega))
          go_wp2_with fail
          refine HC.out.mono ?_
          rintro e w2ww ⟨pv, rfl, hgr, hb⟩
          have HP2 := Lib.hid (HP3.out.next (p := leaf kQ (tn qu)) (rv_leaf _ _ _ _ _) hgr hb)
          obtain ⟨pa, pc, rfl⟩ := hgr.form
          have HLE2 : Hid ((wtP l1x (leaf kQ (tn qu))).length ≤ ml + 3) := by have h9 := HLE.out; show _ ≤ _; rw [wtP_len]; omega
          clear HC HP3 hgr hb HLE
          have HLE := HLE2
          clear HLE2
          rw [show (⟨kQ, (tn qu), .slice none 0 0, .slice none 0 0⟩ : PE) = leaf kQ (tn qu) from rfl] at *
          generalize hll1xx : wtP l1x (leaf kQ (tn qu)) = l1xx at *
          have Hl1xx : Hid (l1xx = wtP l1x (leaf kQ (tn qu))) := hll1xx.symm
          clear hll1xx
          go_upto_region 13 with fail
          by_cases h2 : ag.toList = []
          · obtain ⟨x0, x1, x2, x3, x4⟩ := HP2.out.1.box
            have hq : ag.toList.isEmpty = true := by rw [h2]; rfl
            go_upto_region 15 with fail
            clear x0 x1 x2 x3 x4
            have hR := HP2.out.1.2.1
            have r0 : w2ww.cell? ⟨H + 1, 0, none⟩ = some (.int .i64 0) := by simp [World.cell?, hR]
            have r1 : w2ww.cell? ⟨H + 1, 1, none⟩ = some (.int .i64 0) := by simp [World.cell?, hR]
            have r2 : w2ww.cell? ⟨H + 1, 2, none⟩ = some (.string ⟨#[]⟩) := by simp [World.cell?, hR]
            have r3 : w2ww.cell? ⟨H + 1, 3, none⟩ = some (.slice none 0 0) := by simp [World.cell?, hR]
            have r4 : w2ww.cell? ⟨H + 1, 4, none⟩ = some (.slice none 0 0) := by simp [World.cell?, hR]
            have f0 : ∀ j, w2ww.frozen? ⟨H + 1, j, none⟩ = false := fun j => by simp [World.frozen?, hR]
            have z0 := f0 0
            have z1 := f0 1
            have z2 := f0 2
            have z3 := f0 3
            have z4 := f0 4
            have HRR := Lib.hid hR
            clear hR f0
            have HEQ := Lib.hid (wtAll_own ns sz qu ag (.slice la i lc) es l1 _ _ l1xx HL1.out (.inr ⟨h0, Hl1x.out⟩) (.inr ⟨h1, Hl1xx.out⟩) (.inl ⟨h2, rfl⟩))
            have HE : Hid (∀ wE, Besides (H + 1) w2ww wE → RD (fun _ => True) wE l1xx.length (kyG l1xx) (dvG l1xx) (.slice pa l1xx.length pc) ∧ Below H w wE) := fun wE hE => ⟨rd_besides hE HP2.out.2.2.2.2, ⟨hE.os.trans HP2.out.2.2.1.os, hE.tape.trans HP2.out.2.2.1.tape, hE.output.trans HP2.out.2.2.1.output, Nat.le_trans HP2.out.2.2.1.size hE.size, fun q hq => (hE.block q (by have := HP2.out.1.2.2.2; omega) (by omega)).trans (HP2.out.2.2.1.block q hq)⟩⟩
            go_wp2
            refine bodyPost_ret (v := .agg #[.int .i64 4, .int .i64 0, .string ⟨#[]⟩, .slice none 0 0, .slice pa l1xx.length pc]) (results_cell_row Tryd.results15 _ _ (H + 1) 41 _ (0, 0) _ rfl (ow.set (ow.set (ow.set (ow.set (ow.set HRR.out 0 _) 1 _) 2 _) 3 _) 4 _) Tryd.underlying41 rfl info35s56) rfl ⟨.slice la i lc, _, rfl, ?_⟩
            rw [HEQ.out, HS.out]
            exact HE.out _ (besides5 _ _ _ _ _ _ _)
          · obtain ⟨x0, x1, x2, x3, x4⟩ := HP2.out.1.box
            have hq : ag.toList.isEmpty = false := by rw [List.isEmpty_eq_false_iff]; exact h2
            have HP3 := HP2
            clear HP2
            have HC := Lib.hid (show Calls Tryd.prog 34 #[.slice pa l1xx.length pc, .string ⟨#[118]⟩, .agg #[.int .i64 2, .int .i64 0, .string ag, .slice none 0 0, .slice none 0 0]] w2ww _ from with68 _ l1xx kV (ts ag) (.slice none 0 0) (.slice none 0 0) w2ww HP3.out.2.1 (rv_leaf _ _ _ _ _) (by have h9 := HLE.out; have h8 := HML.out; omega))
            go_wp2_with fail
            refine HC.out.mono ?_
            rintro e w2www ⟨pv, rfl, hgr, hb⟩
            have HP2 := Lib.hid (HP3.out.next (p := leaf kV (ts ag)) (rv_leaf _ _ _ _ _) hgr hb)
            obtain ⟨pa, pc, rfl⟩ := hgr.form
            clear x0 x1 x2 x3 x4
            have HLE2 : Hid ((wtP l1xx (leaf kV (ts ag))).length ≤ ml + 4) := by have h9 := HLE.out; show _ ≤ _; rw [wtP_len]; omega
            clear HC HP3 hgr hb HLE
            have HLE := HLE2
            clear HLE2
            rw [show (⟨kV, (ts ag), .slice none 0 0, .slice none 0 0⟩ : PE) = leaf kV (ts ag) from rfl] at *
            generalize hll1xxx : wtP l1xx (leaf kV (ts ag)) = l1xxx at *
            have Hl1xxx : Hid (l1xxx = wtP l1xx (leaf kV (ts ag))) := hll1xxx.symm
            clear hll1xxx
            go_upto_region 15 with fail
            have hR := HP2.out.1.2.1
            have r0 : w2www.cell? ⟨H + 1, 0, none⟩ = some (.int .i64 0) := by simp [World.cell?, hR]
            have r1 : w2www.cell? ⟨H + 1, 1, none⟩ = some (.int .i64 0) := by simp [World.cell?, hR]
            have r2 : w2www.cell? ⟨H + 1, 2, none⟩ = some (.string ⟨#[]⟩) := by simp [World.cell?, hR]
            have r3 : w2www.cell? ⟨H + 1, 3, none⟩ = some (.slice none 0 0) := by simp [World.cell?, hR]
            have r4 : w2www.cell? ⟨H + 1, 4, none⟩ = some (.slice none 0 0) := by simp [World.cell?, hR]
            have f0 : ∀ j, w2www.frozen? ⟨H + 1, j, none⟩ = false := fun j => by simp [World.frozen?, hR]
            have z0 := f0 0
            have z1 := f0 1
            have z2 := f0 2
            have z3 := f0 3
            have z4 := f0 4
            have HRR := Lib.hid hR
            clear hR f0
            have HEQ := Lib.hid (wtAll_own ns sz qu ag (.slice la i lc) es l1 _ _ l1xxx HL1.out (.inr ⟨h0, Hl1x.out⟩) (.inr ⟨h1, Hl1xx.out⟩) (.inr ⟨h2, Hl1xxx.out⟩))
            have HE : Hid (∀ wE, Besides (H + 1) w2www wE → RD (fun _ => True) wE l1xxx.length (kyG l1xxx) (dvG l1xxx) (.slice pa l1xxx.length pc) ∧ Below H w wE) := fun wE hE => ⟨rd_besides hE HP2.out.2.2.2.2, ⟨hE.os.trans HP2.out.2.2.1.os, hE.tape.trans HP2.out.2.2.1.tape, hE.output.trans HP2.out.2.2.1.output, Nat.le_trans HP2.out.2.2.1.size hE.size, fun q hq => (hE.block q (by have := HP2.out.1.2.2.2; omega) (by omega)).trans (HP2.out.2.2.1.block q hq)⟩⟩
            go_wp2
            refine bodyPost_ret (v := .agg #[.int .i64 4, .int .i64 0, .string ⟨#[]⟩, .slice none 0 0, .slice pa l1xxx.length pc]) (results_cell_row Tryd.results15 _ _ (H + 1) 41 _ (0, 0) _ rfl (ow.set (ow.set (ow.set (ow.set (ow.set HRR.out 0 _) 1 _) 2 _) 3 _) 4 _) Tryd.underlying41 rfl info35s56) rfl ⟨.slice la i lc, _, rfl, ?_⟩
            rw [HEQ.out, HS.out]
            exact HE.out _ (besides5 _ _ _ _ _ _ _)
end Go.Proofs.YtdchckelnccepaaDoor
