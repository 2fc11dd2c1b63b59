import Derived.Test.YtdlnnnlmlaploabDoorM23
import Derived.Laws.AppendOwnNone
import Derived.Test.YtdlnnnlmlaploabDoorM22
namespace Go.Proofs.YtdlnnnlmlaploabDoor
open Go.RowKit Go.Deep
theorem append_bl {ops : Array Oper} {rest : List Oper} {o : Oper} {a : Act} {Q : Exit → Act → World → Prop} {w : World} {B : Nat} {sv v : Value} {l m : List UInt8} (hgd : o.guard = none) (s x : Operand)
    (ho : o.op = .call { callee := .builtin .append, args := #[s, x], argTypes := #[22, 22] }) (hs : a.eval s = sv) (hown : OW B w sv l) (hx : a.eval x = v) (hv : RB w v m) (shape : v = .slice none 0 0 ∨ ∃ ad n c, v = .slice (some ad) n c)
    (hB : B ≤ w.heap.size) (hlim : l.length + m.length ≤ 140737488351232)
    (h : ∀ v' w', OW B w' v' (l ++ m) → Below B w w' → wpList Tryd.prog ops Q rest (a.put o.dst v') w') : wpList Tryd.prog ops Q (o :: rest) a w := by
  obtain ⟨i0, hi, hz0, hz1, hz2⟩ := info_parts info5
  rcases shape with rfl | ⟨ad, n, c, rfl⟩
  · have hm : m = [] := by
      obtain ⟨a', c', he, _⟩ := hv
      cases m with
      | nil => rfl
      | cons _ _ => simp at he
    subst hm
    exact wpList_append_own_none hgd s x 22 ho B 5 i0 1 Tryd.underlying22 hi sv l.length (Lib.byteCells l) hs hown hx (h sv w (by rw [List.append_nil]; exact hown) (Below.refl _ _))
  · obtain ⟨a', c', he, _, hcell⟩ := hv
    cases he
    refine wpList_append_own w hgd s x 22 ho B 5 i0 _ 1 1 Tryd.underlying22 hi hz0 hz1 hz2 rfl (by omega) sv l.length (Lib.byteCells l) hs hown ad m.length c (Lib.byteCells m) hx (by simp [Lib.byteCells]) (fun j u hu => ?_) (fun u hu => ?_) (by unfold maxLen; omega) (by omega) hB (fun v' w' h1 h2 _ => ?_)
    · have hj : j < m.length := by
        rcases Nat.lt_or_ge j m.length with h | h
        · exact h
        · rw [List.getElem?_eq_none (by simpa [Lib.byteCells] using h)] at hu; cases hu
      rcases hcell with h0 | ⟨b, o', hae, _, hc⟩
      · subst h0; simp at hj
      cases hae
      have hadd : (⟨b, o', none⟩ : Addr).add j = ⟨b, o' + j, none⟩ := by unfold Addr.add; split <;> simp_all
      have e : byt m j = m[j] := by unfold byt; simp [List.getD, List.getElem?_eq_getElem hj]
      rw [hadd, hc j hj, e]
      simpa [Lib.byteCells, List.getElem?_eq_getElem hj] using hu
    · simp [Lib.byteCells] at hu
      obtain ⟨i, _, rfl⟩ := hu
      rfl
    · refine h v' w' ?_ ((Below.refl B w).grown h2 hB (fun k hk => (World.ownsRow.lt hown k hk).1))
      rw [bc_append] at h1
      unfold OW; rw [List.length_append]; exact h1
theorem ow_nil (B : Nat) (w : World) : OW B w (.slice none 0 0) [] := World.ownsRow_nil _ _ _ _
set_option maxHeartbeats 1000000 in
theorem twin13 (v : Value) (l : List UInt8) (w : World) (h : RB w v l) (s : v = .slice none 0 0 ∨ ∃ ad n c, v = .slice (some ad) n c) (hlim : l.length ≤ 140737488351232) :
    Calls Tryd.prog 14 #[v] w fun e w' => ∃ v, e = .returned v ∧ OW w.heap.size w' v l ∧ Below w.heap.size w w' := by
  have H1 := Lib.hid h
  have S1 := Lib.hid s
  obtain ⟨a1, c1, rfl, _⟩ := h
  clear s
  go_enter Tryd.func14, Tryd.ntmps14
  go_wp2_with (at_builtin; refine append_bl (l := []) (m := l) (B := w.heap.size) (sv := .slice none 0 0) (v := .slice a1 l.length c1) rfl _ _ rfl rfl (ow_nil _ _) rfl H1.out S1.out (Nat.le_refl _) (by simp; omega) ?_; intro v8 w8 ho8 hb8; have O8 := Lib.hid (And.intro ho8 hb8); clear ho8 hb8)
  go_wp2
  go_ret
  exact ⟨_, rfl, O8.out⟩
/-- the seven cells of a span -/
def seven (w : World) (g o : Nat) (x : Vi) : Prop := w.cell? ⟨g, o, none⟩ = some (.int .i64 x.kd) ∧ w.cell? ⟨g, o + 1, none⟩ = some (.int .i64 x.fr) ∧ w.cell? ⟨g, o + 2, none⟩ = some (.int .i64 x.to) ∧ w.cell? ⟨g, o + 3, none⟩ = some (.int .i64 x.dp) ∧ w.cell? ⟨g, o + 4, none⟩ = some (.int .i64 x.up) ∧ w.cell? ⟨g, o + 5, none⟩ = some (.int .i64 x.nt) ∧ w.cell? ⟨g, o + 6, none⟩ = some (.string x.ky)
theorem seven.keep {w w' : World} {g o : Nat} {x : Vi} (h : seven w g o x) (hb : w'.heap[g]? = w.heap[g]?) : seven w' g o x := by
  obtain ⟨c0, c1, c2, c3, c4, c5, c6⟩ := h
  exact ⟨(World.cell?_of_block (w := w) hb).trans c0, (World.cell?_of_block (w := w) hb).trans c1, (World.cell?_of_block (w := w) hb).trans c2, (World.cell?_of_block (w := w) hb).trans c3, (World.cell?_of_block (w := w) hb).trans c4, (World.cell?_of_block (w := w) hb).trans c5, (World.cell?_of_block (w := w) hb).trans c6⟩
/-- a list of spans in memory -/
def RSp (w : World) (v : Value) (l : List Vi) : Prop := ∃ a c, v = .slice a l.length c ∧ (l = [] ∨ ∃ g, a = some ⟨g, 0, none⟩ ∧ g < w.heap.size ∧ ∀ i x, l[i]? = some x → seven w g (i * 7) x)
theorem RSp.keep {w w' : World} {v : Value} {l : List Vi} (h : RSp w v l) (hb : Below w.heap.size w w') : RSp w' v l := by
  obtain ⟨a, c, rfl, h⟩ := h
  refine ⟨a, c, rfl, ?_⟩
  rcases h with h | ⟨g, h1, h2, h3⟩
  · exact .inl h
  · exact .inr ⟨g, h1, Nat.lt_of_lt_of_le h2 hb.size, fun i x hi => (h3 i x hi).keep (hb.block g h2)⟩
theorem RSp.nil (w : World) : RSp w (.slice none 0 0) [] := ⟨none, 0, rfl, .inl rfl⟩
theorem RSp.of_own {w : World} {B : Nat} {v : Value} {l : List Vi} {n : Nat} {xs : List Value} (hn : n = l.length) (hx : xs = spW l) (h : w.ownsRow B 37 7 v n xs) : RSp w v l := by
  subst hn hx
  obtain ⟨_, h⟩ := h
  rcases h with ⟨rfl, h0⟩ | ⟨g, cap, cur, rfl, hB, hg, hc, hm, hs, ht⟩
  · obtain rfl : l = [] := List.eq_nil_of_length_eq_zero h0
    exact RSp.nil w
  · refine ⟨_, cap, rfl, .inr ⟨g, rfl, (show blk w g 37 cur from hg).lt, fun i x hi => ?_⟩⟩
    have hil : i < l.length := (List.getElem?_eq_some_iff.1 hi).1
    have key : ∀ j, j < 7 → w.cell? ⟨g, i * 7 + j, none⟩ = (Vi.sp x)[j]? := fun j hj => by
      rw [(show blk w g 37 cur from hg).cell, ← spW_at l i j x hi hj, ← ht, List.getElem?_take_of_lt (by omega), Array.getElem?_toList]
    exact ⟨key 0 (by omega), key 1 (by omega), key 2 (by omega), key 3 (by omega), key 4 (by omega), key 5 (by omega), key 6 (by omega)⟩
set_option maxRecDepth 10000 in
set_option maxHeartbeats 2000000 in
theorem spanSame30 (x : Vi) (w : World) : Calls Tryd.prog 17 #[.agg (Vi.sp x).toArray, .agg (Vi.sp x).toArray] w fun e w' => e = .returned (.bool true) ∧ Below w.heap.size w w' := by
  obtain ⟨a, b, c, d, e, f, k, _, _⟩ := x
  show Calls Tryd.prog 17 #[.agg #[.int .i64 a, .int .i64 b, .int .i64 c, .int .i64 d, .int .i64 e, .int .i64 f, .string k], .agg #[.int .i64 a, .int .i64 b, .int .i64 c, .int .i64 d, .int .i64 e, .int .i64 f, .string k]] w _
  go_enter Tryd.func17, Tryd.ntmps17
  go_wp2
  go_ret
  exact ⟨rfl, ((Below.refl _ _).alloc (Nat.le_refl _) _).alloc (by simp) _⟩

end Go.Proofs.YtdlnnnlmlaploabDoor
namespace Go.Proofs.YtdlnnnlmlaploabDoor
open Go.RowKit Go.Deep
/-! ### Paths in memory: a twin, and whether two are the same -/
/-- the cells of a path -/
def stW : List (Int × ByteArray) → List Value
  | [] => []
  | x :: r => .int .i64 x.1 :: .string x.2 :: stW r
theorem stW_len : ∀ p, (stW p).length = p.length * 2
  | [] => rfl
  | _ :: r => by show (stW r).length + 1 + 1 = (r.length + 1) * 2; rw [stW_len r]; omega
theorem stW_at : ∀ (p : List (Int × ByteArray)) (i : Nat) (n : Int) (k : ByteArray), p[i]? = some (n, k) → (stW p)[i * 2]? = some (.int .i64 n) ∧ (stW p)[i * 2 + 1]? = some (.string k)
  | [], i, n, k, h => by simp at h
  | x :: r, 0, n, k, h => by
    simp only [List.getElem?_cons_zero, Option.some.injEq] at h
    subst h
    exact ⟨rfl, rfl⟩
  | x :: r, i + 1, n, k, h => by
    rw [List.getElem?_cons_succ] at h
    obtain ⟨h1, h2⟩ := stW_at r i n k h
    rw [show (i + 1) * 2 = i * 2 + 1 + 1 by omega]
    exact ⟨h1, h2⟩
theorem stW_one : ∀ (p : List (Int × ByteArray)), ∀ u ∈ stW p, u.oneCell' = true
  | [], u, h => by cases h
  | x :: r, u, h => by
    rcases List.mem_cons.1 h with rfl | h
    · rfl
    · rcases List.mem_cons.1 h with rfl | h
      · rfl
      · exact stW_one r u h
/-- every cell of a path lies there -/
theorem stW_cell : ∀ (p : List (Int × ByteArray)) (f : Nat → Option Value), (∀ i n k, p[i]? = some (n, k) → f (i * 2) = some (.int .i64 n) ∧ f (i * 2 + 1) = some (.string k)) → ∀ j u, (stW p)[j]? = some u → f j = some u
  | [], f, _, j, u, h => by simp [stW] at h
  | x :: r, f, hf, j, u, h => by
    obtain ⟨n, k⟩ := x
    obtain ⟨h0, h1⟩ := hf 0 n k rfl
    match j, h with
    | 0, h => obtain rfl := Option.some.inj h; exact h0
    | 1, h => obtain rfl := Option.some.inj h; exact h1
    | j + 2, h =>
      exact stW_cell r (fun i => f (i + 2)) (fun i n k hi => by
        obtain ⟨a, b⟩ := hf (i + 1) n k (by rw [List.getElem?_cons_succ]; exact hi)
        rw [show (i + 1) * 2 = i * 2 + 2 by omega] at a b
        exact ⟨a, b⟩) j u h
theorem info34 : (Tryd.prog.info? 55).map (fun i => (i.zero, i.size, i.bytes)) = some (some (.agg #[.int .i64 0, .string ByteArray.empty]), 2, 24) := by kernel_rfl
theorem append_steps {ops : Array Oper} {rest : List Oper} {o : Oper} {a : Act} {Q : Exit → Act → World → Prop} {w : World} {v : Value} {p : List (Int × ByteArray)} (hgd : o.guard = none) (s x : Operand)
    (ho : o.op = .call { callee := .builtin .append, args := #[s, x], argTypes := #[23, 23] }) (hs : a.eval s = .slice none 0 0) (hx : a.eval x = v) (hv : PSA w.heap.size w v p) (shape : v = .slice none 0 0 ∨ ∃ ad n c, v = .slice (some ad) n c)
    (hlim : p.length * 24 ≤ 140737488355328)
    (h : ∀ v' w', w'.ownsRow w.heap.size 55 2 v' p.length (stW p) → Below w.heap.size w w' → wpList Tryd.prog ops Q rest (a.put o.dst v') w') : wpList Tryd.prog ops Q (o :: rest) a w := by
  obtain ⟨i0, hi, hz0, hz1, hz2⟩ := info_parts info34
  have hown : w.ownsRow w.heap.size 55 2 (.slice none 0 0) 0 [] := World.ownsRow_nil _ _ _ _
  rcases shape with rfl | ⟨ad, n, c, rfl⟩
  · have hm : p = [] := by
      obtain ⟨a', c', he, _⟩ := hv
      cases p with
      | nil => rfl
      | cons _ _ => simp at he
    subst hm
    exact wpList_append_own_none hgd s x 23 ho w.heap.size 55 i0 2 Tryd.underlying23 hi _ 0 [] hs hown hx (h _ w hown (Below.refl _ _))
  · obtain ⟨a', c', he, hcell⟩ := hv
    cases he
    refine wpList_append_own w hgd s x 23 ho w.heap.size 55 i0 _ 2 24 Tryd.underlying23 hi hz0 hz1 hz2 rfl (by omega) _ 0 [] hs hown ad p.length c (stW p) hx (stW_len p) (fun j u hu => ?_) (stW_one p) (by unfold maxLen; omega) (by omega) (Nat.le_refl _) (fun v' w' h1 h2 _ => ?_)
    · rcases hcell with h0 | ⟨g, o', hae, _, hc⟩
      · subst h0; simp [stW] at hu
      cases hae
      have hadd : (⟨g, o', none⟩ : Addr).add j = ⟨g, o' + j, none⟩ := by unfold Addr.add; split <;> simp_all
      rw [hadd]
      exact stW_cell p (fun i => w.cell? ⟨g, o' + i, none⟩) (fun i n k hi => hc i n k hi) j u hu
    · refine h v' w' ?_ ((Below.refl _ w).grown h2 (Nat.le_refl _) (fun k hk => by cases hk))
      rw [Nat.zero_add, List.nil_append] at h1
      exact h1
theorem PSA.of_own {w : World} {B : Nat} {v : Value} {p : List (Int × ByteArray)} (h : w.ownsRow B 55 2 v p.length (stW p)) : PSA w.heap.size w v p ∧ (v = .slice none 0 0 ∨ ∃ ad n c, v = .slice (some ad) n c) := by
  obtain ⟨_, h⟩ := h
  rcases h with ⟨rfl, h0⟩ | ⟨g, cap, cur, rfl, hB, hg, hc, hm, hs, ht⟩
  · obtain rfl : p = [] := List.eq_nil_of_length_eq_zero h0
    exact ⟨⟨none, 0, rfl, .inl rfl⟩, .inl rfl⟩
  · refine ⟨⟨_, cap, rfl, .inr ⟨g, 0, rfl, (show blk w g 55 cur from hg).lt, fun i n k hi => ?_⟩⟩, .inr ⟨_, _, _, rfl⟩⟩
    have hil : i < p.length := (List.getElem?_eq_some_iff.1 hi).1
    obtain ⟨h1, h2⟩ := stW_at p i n k hi
    constructor
    · rw [Nat.zero_add, (show blk w g 55 cur from hg).cell, ← h1, ← ht, List.getElem?_take_of_lt (by omega), Array.getElem?_toList]
    · rw [Nat.zero_add, (show blk w g 55 cur from hg).cell, ← h2, ← ht, List.getElem?_take_of_lt (by omega), Array.getElem?_toList]
theorem PSA.up {A B : Nat} {w : World} {v : Value} {p : List (Int × ByteArray)} (h : PSA A w v p) (hB : A ≤ B) : PSA B w v p := by
  obtain ⟨a, c, rfl, h⟩ := h
  refine ⟨a, c, rfl, ?_⟩
  rcases h with h | ⟨g, o, h1, h2, h3⟩
  · exact .inl h
  · exact .inr ⟨g, o, h1, Nat.lt_of_lt_of_le h2 hB, h3⟩
theorem PSA.on {w w' : World} {v : Value} {p : List (Int × ByteArray)} (h : PSA w.heap.size w v p) (hb : Below w.heap.size w w') : PSA w'.heap.size w' v p :=
  (h.keep (fun k hk => hb.block k hk)).up hb.size
set_option maxHeartbeats 1000000 in
theorem twinSteps15 (v : Value) (p : List (Int × ByteArray)) (w : World) (h : PSA w.heap.size w v p) (s : v = .slice none 0 0 ∨ ∃ ad n c, v = .slice (some ad) n c) (hlim : p.length * 24 ≤ 140737488355328) :
    Calls Tryd.prog 15 #[v] w fun e w' => ∃ v, e = .returned v ∧ w'.ownsRow w.heap.size 55 2 v p.length (stW p) ∧ Below w.heap.size w w' := by
  have H1 := Lib.hid h
  have S1 := Lib.hid s
  obtain ⟨a1, c1, rfl, _⟩ := h
  clear s
  go_enter Tryd.func15, Tryd.ntmps15
  go_wp2_with (at_builtin; refine append_steps (p := p) (v := .slice a1 p.length c1) rfl _ _ rfl rfl rfl H1.out S1.out hlim ?_; intro v8 w8 ho8 hb8; have O8 := Lib.hid (And.intro ho8 hb8); clear ho8 hb8)
  go_wp2
  go_ret
  exact ⟨_, rfl, O8.out⟩
set_option maxRecDepth 10000 in
set_option maxHeartbeats 2000000 in
theorem stepsSame19 (v1 v2 : Value) (p : List (Int × ByteArray)) (w : World) (hl : p.length ≤ 140737488351232) (h1 : PSA w.heap.size w v1 p) (h2 : PSA w.heap.size w v2 p) :
    Calls Tryd.prog 19 #[v1, v2] w fun e w' => e = .returned (.bool true) ∧ Below w.heap.size w w' := by
  obtain ⟨a1, c1, rfl, h1⟩ := h1
  obtain ⟨a2, c2, rfl, h2⟩ := h2
  have HH := Lib.hid (And.intro h1 h2)
  clear h1 h2
  generalize hn : p.length = n at *
  have HN := Lib.hid hn
  clear hn
  go_enter Tryd.func19, Tryd.ntmps19
  go_wp2
  go_loopw [5] (fun t wr => ∃ k nq : Nat, k ≤ n ∧ t = .int .i64 k ∧ wr = w.drewN nq) (fun t _ => n - (intOf t).toNat)
  case atStart => exact ⟨0, 0, Nat.zero_le _, rfl, rfl⟩
  case round =>
    obtain ⟨k, nq, hk, rfl, rfl⟩ := hrel
    by_cases hlt : k < n
    · obtain ⟨h1, h2⟩ := HH.out
      rcases h1 with h | ⟨g1, o1, rfl, hg1, h1⟩
      · have := HN.out; rw [h] at this; simp at this; omega
      rcases h2 with h | ⟨g2, o2, rfl, hg2, h2⟩
      · have := HN.out; rw [h] at this; simp at this; omega
      obtain ⟨⟨nm, ky⟩, hx⟩ : ∃ x, p[k]? = some x := ⟨_, List.getElem?_eq_getElem (by rw [HN.out]; exact hlt)⟩
      obtain ⟨x1, x2⟩ := h1 k nm ky hx
      obtain ⟨y1, y2⟩ := h2 k nm ky hx
      have k0 : (0 : Int) ≤ (k : Int) := by omega
      have k1 : (k : Int) < (n : Int) := by omega
      clear h1 h2 hx HH HN hg1 hg2
      go_wp2
      go_quiet (fail)
      go_wp2
      exact ⟨⟨k + 1, _, by omega, by go_num, rfl⟩, by simp [intOf]; omega⟩
    · go_wp2
      go_ret
      exact ⟨rfl, ⟨rfl, rfl, rfl, Nat.le_refl _, fun _ _ => rfl⟩⟩
end Go.Proofs.YtdlnnnlmlaploabDoor
namespace Go.Proofs.YtdlnnnlmlaploabDoor
open Go.RowKit Go.Deep
set_option maxRecDepth 10000 in
set_option maxHeartbeats 1000000 in
theorem ow_zero (w : World) : OW w.heap.size (w.alloc (Obj.cells #[] 5)) (.slice (some ⟨w.heap.size, 0, none⟩) 0 0) [] :=
  ⟨rfl, .inr ⟨w.heap.size, 0, #[], rfl, Nat.le_refl _, heap_new _ _, Nat.le_refl _, by decide, rfl, rfl⟩⟩
set_option maxRecDepth 10000 in
set_option maxHeartbeats 1000000 in
theorem nil_eq (ad : Addr) (n c : Nat) (w : World) : Sem.run Tryd.prog (binOp BinOp.eql 22 (.slice (some ad) n c) (.slice none 0 0)) w = .ok (.bool false) w := by kernel_rfl
set_option maxRecDepth 10000 in
set_option maxHeartbeats 1000000 in
theorem clone32 (ad : Addr) (n c : Nat) (l : List UInt8) (w : World) (h : RB w (.slice (some ad) n c) l) (hlim : l.length ≤ 140737488351232) :
    Calls Tryd.prog 32 #[.slice (some ad) n c] w fun e w' => ∃ v, e = .returned v ∧ OW w.heap.size w' v l ∧ Below w.heap.size w w' := by
  have H1 := Lib.hid h
  obtain ⟨a', c', e', _⟩ := h
  cases e'
  have b0 : Below w.heap.size w (w.alloc (Obj.cells #[] 5)) := (Below.refl _ _).alloc (Nat.le_refl _) _
  have HR : Hid (RB (w.alloc (Obj.cells #[] 5)) (.slice (some ad) l.length c) l ∧ OW w.heap.size (w.alloc (Obj.cells #[] 5)) (.slice (some ⟨w.heap.size, 0, none⟩) 0 0) [] ∧ Below w.heap.size w (w.alloc (Obj.cells #[] 5))) := ⟨H1.out.keep b0, ow_zero w, b0⟩
  clear b0
  go_enter Tryd.func32, Tryd.ntmps32
  go_wp2_with (first | rw [nil_eq] | (at_builtin; refine append_bl (l := []) (m := l) (B := w.heap.size) (sv := .slice (some ⟨w.heap.size, 0, none⟩) 0 0) (v := .slice (some ad) l.length c) rfl _ _ rfl rfl HR.out.2.1 rfl HR.out.1 (.inr ⟨_, _, _, rfl⟩) (by simp) (by simp; omega) ?_; intro v8 w8 ho8 hb8; have O8 : Hid (OW w.heap.size w8 v8 l ∧ Below w.heap.size w w8) := ⟨ho8, HR.out.2.2.trans hb8⟩; clear ho8 hb8))
  go_wp2
  go_ret
  exact ⟨_, rfl, O8.out⟩
set_option maxRecDepth 10000 in
set_option maxHeartbeats 1000000 in
theorem part34 (v : Value) (b : List UInt8) (w : World) (f t : Nat) (h : RB w v b) (hf : f ≤ t) (ht : t ≤ b.length) (hlim : b.length ≤ 1048576) :
    Calls Tryd.prog 34 #[v, .int .i64 f, .int .i64 t] w fun e w' => ∃ v, e = .returned v ∧ OW w.heap.size w' v ((b.drop f).take (t - f)) ∧ Below w.heap.size w w' := by
  have H1 := Lib.hid h
  obtain ⟨a, c, rfl, _⟩ := h
  have HF := Lib.hid (And.intro hf ht)
  clear hf ht
  go_enter Tryd.func34, Tryd.ntmps34
  go_wp2
  go_loopw [7, 8] (fun v i wr => ∃ (k : Nat) (aa : Option Addr) (cp : Nat), f ≤ k ∧ k ≤ t ∧ i = .int .i64 k ∧ v = .slice aa (k - f) cp ∧ Hid (OW w.heap.size wr v ((b.drop f).take (k - f)) ∧ Below w.heap.size w wr)) (fun _ i _ => t - (intOf i).toNat)
  case atStart => exact ⟨f, none, 0, Nat.le_refl _, HF.out.1, rfl, by simp, Lib.hid ⟨by simpa using ow_nil _ _, Below.refl _ _⟩⟩
  case round =>
    obtain ⟨k, aa, cp, hk0, hk, rfl, rfl, HO⟩ := hrel
    by_cases hlt : k < t
    · obtain ⟨ho, hb⟩ := HO.out
      obtain ⟨a', c', e', _, hcell⟩ := H1.out.keep hb
      cases e'
      have hkb : k < b.length := by have := HF.out.2; omega
      rcases hcell with h0 | ⟨g, o, rfl, hg, hc⟩
      · rw [h0] at hkb; simp at hkb
      have hck := hc k hkb
      have k0 : (0 : Int) ≤ (k : Int) := by omega
      have k1 : (k : Int) < (b.length : Int) := by omega
      have hlt' : (k : Int) < (t : Int) := by omega
      have HHs := Lib.hid (And.intro hb.size (And.intro ho hb))
      clear hc hg
      go_wp2_with (at_builtin; refine append_byte rfl _ _ rfl rfl (HHs.out.2.1.alloc _) _ (byt b k) rfl (by go_simp) (by simp; have := HHs.out.1; omega) (by simp; omega) ?_; intro v8 w8 ho8 hb8; have O8 := Lib.hid (And.intro ho8 hb8); obtain ⟨a8, c8, rfl⟩ := ho8.form'; clear ho8 hb8)
      go_wp2
      have hmin : min (k - f) (b.length - f) = k - f := by omega
      rw [hmin]
      refine ⟨⟨k + 1, a8, c8, by omega, by omega, by go_num, by rw [show k + 1 - f = k - f + 1 by omega], ?_⟩, by simp [intOf]; omega⟩
      obtain ⟨q1, q2⟩ := O8.out
      have e : (b.drop f).take (k + 1 - f) = (b.drop f).take (k - f) ++ [byt b k] := by
        rw [show k + 1 - f = k - f + 1 by omega, List.take_add_one, List.getElem?_drop, show f + (k - f) = k by omega, List.getElem?_eq_getElem hkb]
        unfold byt
        simp [List.getD, List.getElem?_eq_getElem hkb]
      rw [e]
      have hlen : ((b.drop f).take (k - f) ++ [byt b k]).length = k - f + 1 := by simp; omega
      rw [hlen] at q1
      exact Lib.hid ⟨q1, HHs.out.2.2.trans (((Below.refl _ _).alloc HHs.out.1 _).trans q2.1)⟩
    · go_wp2
      go_ret
      obtain rfl : k = t := by omega
      exact ⟨_, rfl, HO.out⟩
end Go.Proofs.YtdlnnnlmlaploabDoor
namespace Go.Proofs.YtdlnnnlmlaploabDoor
open Go.RowKit Go.Deep
def nestB (q : Vi) : Bool := q.kd == 3 || q.kd == 4
theorem nests36 (q : Vi) (w : World) : Calls Tryd.prog 47 #[.agg (Vi.cs q)] w fun e w' => e = .returned (.bool (nestB q)) ∧ Below w.heap.size w w' := by
  obtain ⟨kd, fr, to, dp, up, nt, ky, pl, fi⟩ := q
  have b0 : Below w.heap.size w (w.alloc (Obj.cells (Vi.cs ⟨kd, fr, to, dp, up, nt, ky, pl, fi⟩) 60)) := (Below.refl _ _).alloc (Nat.le_refl _) _
  have HB := Lib.hid b0
  clear b0
  by_cases h3 : kd = 3
  · subst h3
    go_enter Tryd.func47, Tryd.ntmps47
    go_wp2
    go_ret
    exact ⟨rfl, HB.out⟩
  · have h3' : (kd == 3) = false := beq_eq_false_iff_ne.2 h3
    go_enter Tryd.func47, Tryd.ntmps47
    go_wp2
    go_ret
    exact ⟨by unfold nestB; simp [h3'], HB.out⟩
set_option maxRecDepth 10000 in
set_option maxHeartbeats 1000000 in
theorem follow22 (a : Option Addr) (c : Nat) (b : List UInt8) (w : World) (pa : Option Addr) (pn pc : Nat) (p : List (Int × ByteArray)) (hr : RB w (.slice a b.length c) b) (hev : EVw w) (hl : b.length ≤ 1048576) (hP : PSA w.heap.size w (.slice pa pn pc) p) (hp : p.length ≤ 140737488351232) :
    Calls Tryd.prog 27 #[.slice a b.length c, .slice pa pn pc] w fun e w' => ∃ h pp er, Fin b (goF p) h pp er ∧ Below w.heap.size w w' ∧ e = .returned (.tuple #[.agg (Vi.cs (fwF p h).1), .int .i64 (if (fwF p h).1.dp = (pn : Int) then 0 else if nestB (fwF p h).1 = true then 30 else 31)]) := by
  have b1 : Below w.heap.size w (((w.alloc (Obj.cells #[.slice pa pn pc] 23)).alloc zero9).alloc (Obj.cells #[.int .i64 0, .int .i64 0, .int .i64 0, .int .i64 0, .int .i64 0, .int .i64 0, .string { data := #[] }, .int .i64 (-1), .int .i64 0] 60)) := (((Below.refl _ _).alloc (Nat.le_refl _) _).alloc (by simp) _).alloc (by simp; omega) _
  have hn1 : (w.alloc (Obj.cells #[.slice pa pn pc] 23)).heap.size = w.heap.size + 1 := by simp
  have hn2 : ((w.alloc (Obj.cells #[.slice pa pn pc] 23)).alloc zero9).heap.size = w.heap.size + 1 + 1 := by simp
  have o1 : blk (((w.alloc (Obj.cells #[.slice pa pn pc] 23)).alloc zero9).alloc (Obj.cells #[.int .i64 0, .int .i64 0, .int .i64 0, .int .i64 0, .int .i64 0, .int .i64 0, .string { data := #[] }, .int .i64 (-1), .int .i64 0] 60)) w.heap.size 23 #[.slice pa pn pc] := by
    have h0 : blk (w.alloc (Obj.cells #[.slice pa pn pc] 23)) w.heap.size 23 #[.slice pa pn pc] := heap_new _ _
    have h1 := h0.keep (((Below.refl _ _).alloc (Nat.le_refl _) zero9 : Below (w.alloc (Obj.cells #[.slice pa pn pc] 23)).heap.size _ _).block _ h0.lt)
    exact h1.keep (((Below.refl _ _).alloc (Nat.le_refl _) _ : Below ((w.alloc (Obj.cells #[.slice pa pn pc] 23)).alloc zero9).heap.size _ _).block _ h1.lt)
  have o2 : blk (((w.alloc (Obj.cells #[.slice pa pn pc] 23)).alloc zero9).alloc (Obj.cells #[.int .i64 0, .int .i64 0, .int .i64 0, .int .i64 0, .int .i64 0, .int .i64 0, .string { data := #[] }, .int .i64 (-1), .int .i64 0] 60)) (w.heap.size + 1) 60 #[.int .i64 0, .int .i64 0, .int .i64 0, .int .i64 0, .int .i64 0, .int .i64 0, .string { data := #[] }, .int .i64 0, .int .i64 0] := by
    have h0 := heap_new (w.alloc (Obj.cells #[.slice pa pn pc] 23)) zero9
    rw [hn1] at h0
    have h0' : blk ((w.alloc (Obj.cells #[.slice pa pn pc] 23)).alloc zero9) (w.heap.size + 1) 60 #[.int .i64 0, .int .i64 0, .int .i64 0, .int .i64 0, .int .i64 0, .int .i64 0, .string { data := #[] }, .int .i64 0, .int .i64 0] := h0
    exact h0'.keep (((Below.refl _ _).alloc (Nat.le_refl _) _ : Below ((w.alloc (Obj.cells #[.slice pa pn pc] 23)).alloc zero9).heap.size _ _).block _ h0'.lt)
  have o3 : blk (((w.alloc (Obj.cells #[.slice pa pn pc] 23)).alloc zero9).alloc (Obj.cells #[.int .i64 0, .int .i64 0, .int .i64 0, .int .i64 0, .int .i64 0, .int .i64 0, .string { data := #[] }, .int .i64 (-1), .int .i64 0] 60)) (w.heap.size + 1 + 1) 60 (Vi.cs fw0) := by
    have h0 := heap_new ((w.alloc (Obj.cells #[.slice pa pn pc] 23)).alloc zero9) (Obj.cells #[.int .i64 0, .int .i64 0, .int .i64 0, .int .i64 0, .int .i64 0, .int .i64 0, .string { data := #[] }, .int .i64 (-1), .int .i64 0] 60)
    rw [hn2] at h0
    exact h0
  obtain ⟨a', c', e', hc, ht⟩ := hr
  cases e'
  have hA : b = [] ∨ ∀ g o, a = some ⟨g, o, none⟩ → g < w.heap.size := by
    rcases ht with h | ⟨g', o', e', h1, _⟩
    · exact .inl h
    · exact .inr fun g o e => by rw [e'] at e; injection e with e; injection e with e1; omega
  have h4 : 1 < w.heap.size := by obtain ⟨_, ⟨t, p, h2⟩⟩ := hev; exact World.block_lt_of_cell? w _ h2
  have ht1 : b = [] ∨ ∃ g o, a = some ⟨g, o, none⟩ ∧ g < (((w.alloc (Obj.cells #[.slice pa pn pc] 23)).alloc zero9).alloc (Obj.cells #[.int .i64 0, .int .i64 0, .int .i64 0, .int .i64 0, .int .i64 0, .int .i64 0, .string { data := #[] }, .int .i64 (-1), .int .i64 0] 60)).heap.size ∧ ∀ j, j < b.length → (((w.alloc (Obj.cells #[.slice pa pn pc] 23)).alloc zero9).alloc (Obj.cells #[.int .i64 0, .int .i64 0, .int .i64 0, .int .i64 0, .int .i64 0, .int .i64 0, .string { data := #[] }, .int .i64 (-1), .int .i64 0] 60)).cell? ⟨g, o + j, none⟩ = some (.int .u8 ((byt b j).toNat : Int)) := by
    rcases ht with h | ⟨g, o, h1, h2, h3⟩
    · exact .inl h
    · exact .inr ⟨g, o, h1, Nat.lt_of_lt_of_le h2 b1.size, fun j hj => (b1.cell h2).trans (h3 j hj)⟩
  have hJ : JF (w.heap.size + 1 + 1) w.heap.size w.heap.size p (.slice pa pn pc) [] (((w.alloc (Obj.cells #[.slice pa pn pc] 23)).alloc zero9).alloc (Obj.cells #[.int .i64 0, .int .i64 0, .int .i64 0, .int .i64 0, .int .i64 0, .int .i64 0, .string { data := #[] }, .int .i64 (-1), .int .i64 0] 60)) (fun k => k = w.heap.size + 1 + 1 ∨ k = w.heap.size) := ⟨by omega, Nat.le_refl _, by omega, b1.size, o3, o1, hP.keep (fun k hk => b1.block k hk), fun k => Iff.rfl⟩
  have C := Lib.hid (read26 (visF hl hp) hl hc hA h4 b1.size (hev.keep b1) ht1 hJ)
  have H0 := Lib.hid (And.intro b1 o2)
  clear hP hev hc ht hA h4 ht1 hJ b1 o1 o2 o3 hn1 hn2
  go_enter Tryd.func27, Tryd.ntmps27
  go_wp2_with fail
  refine C.out.mono ?_
  rintro e WW ⟨h, pp, er, S, rfl, hF, ⟨_, _, _, _, h5, h6, _, _⟩, hv⟩
  have HF := Lib.hid hF
  obtain ⟨⟨qkd, qfr, qto, qdp, qup, qnt, qky, qpl, qfi⟩, hq⟩ : ∃ q, (fwF p h).1 = q := ⟨_, rfl⟩
  have HQ := Lib.hid hq
  rw [hq] at h5
  have H1 : Hid (Below w.heap.size w WW ∧ blk WW (w.heap.size + 1) 60 #[.int .i64 0, .int .i64 0, .int .i64 0, .int .i64 0, .int .i64 0, .int .i64 0, .string { data := #[] }, .int .i64 0, .int .i64 0] ∧ blk WW (w.heap.size + 1 + 1) 60 #[.int .i64 qkd, .int .i64 qfr, .int .i64 qto, .int .i64 qdp, .int .i64 qup, .int .i64 qnt, .string qky, .int .i64 qpl, .int .i64 qfi] ∧ blk WW w.heap.size 23 #[.slice pa pn pc]) := by
    obtain ⟨q1, q2⟩ := H0.out
    refine ⟨⟨hv.os.trans q1.os, hv.tape.trans q1.tape, hv.output.trans q1.output, Nat.le_trans q1.size hv.size, fun k hk => (hv.block k (Nat.lt_of_lt_of_le hk q1.size) (by show ¬ (k = _ ∨ k = _); omega)).trans (q1.block k hk)⟩, q2.keep (hv.block _ q2.lt (by show ¬ (_ = _ ∨ _ = _); omega)), h5, h6⟩
  clear C H0 hF h5 h6 hv hq
  generalize hAb : w.heap.size + 1 + 1 = Ab at *
  generalize hRb : w.heap.size + 1 = Rb at *
  obtain ⟨Pb, hPb⟩ : ∃ Pb, Pb = w.heap.size := ⟨_, rfl⟩
  have HZ : Hid (Rb = w.heap.size + 1) := hRb.symm
  have n1 : Rb ≠ Ab := by omega
  have n2 : Ab ≠ Rb := by omega
  have n3 : Rb ≠ w.heap.size := by omega
  have n4 : w.heap.size ≠ Rb := by omega
  clear hAb hRb hPb
  obtain ⟨z0, z1, z2, z3, z4, z5, z6, z7, z8⟩ := H1.out.2.1.cells9
  obtain ⟨f0, f1, f2, f3, f4, f5, f6, f7, f8⟩ := H1.out.2.1.frozen9
  obtain ⟨a0, a1, a2, a3, a4, a5, a6, a7, a8⟩ := H1.out.2.2.1.cells9
  have pcell : WW.cell? ⟨w.heap.size, 0, none⟩ = some (.slice pa pn pc) := H1.out.2.2.2.cell 0
  by_cases hd : qdp = (pn : Int)
  · subst hd
    go_wp2
    obtain ⟨y1, y2⟩ := box9B H1.out.2.1 (.int .i64 qkd) (.int .i64 qfr) (.int .i64 qto) (.int .i64 (pn : Int)) (.int .i64 qup) (.int .i64 qnt) (.string qky) (.int .i64 qpl) (.int .i64 qfi)
    generalize hX : set9 WW Rb (.int .i64 qkd) (.int .i64 qfr) (.int .i64 qto) (.int .i64 (pn : Int)) (.int .i64 qup) (.int .i64 qnt) (.string qky) (.int .i64 qpl) (.int .i64 qfi) = X at *
    unfold set9 at hX
    rw [hX]
    refine bodyPost_ret (v := .tuple #[.agg #[.int .i64 qkd, .int .i64 qfr, .int .i64 qto, .int .i64 (pn : Int), .int .i64 qup, .int .i64 qnt, .string qky, .int .i64 qpl, .int .i64 qfi], .int .i64 0]) (results_cell47t Tryd.results27 _ _ Rb _ rfl y2 rfl) rfl ?_
    refine ⟨h, pp, er, HF.out, ?_, ?_⟩
    · have hb := H1.out.1
      have hz := HZ.out
      exact ⟨y1.os.trans hb.os, y1.tape.trans hb.tape, y1.output.trans hb.output, Nat.le_trans hb.size y1.size, fun k hk => (y1.block k (Nat.lt_of_lt_of_le hk hb.size) (by omega)).trans (hb.block k hk)⟩
    · rw [HQ.out]
      rw [if_pos rfl]
  · have hd' : (qdp == (pn : Int)) = false := beq_eq_false_iff_ne.2 hd
    have HN := Lib.hid (nests36 ⟨qkd, qfr, qto, qdp, qup, qnt, qky, qpl, qfi⟩ WW)
    go_wp2_with fail
    refine HN.out.mono ?_
    rintro e W5 ⟨rfl, hb5⟩
    have H2 : Hid (Below w.heap.size w W5 ∧ blk W5 Rb 60 #[.int .i64 0, .int .i64 0, .int .i64 0, .int .i64 0, .int .i64 0, .int .i64 0, .string { data := #[] }, .int .i64 0, .int .i64 0] ∧ blk W5 Ab 60 #[.int .i64 qkd, .int .i64 qfr, .int .i64 qto, .int .i64 qdp, .int .i64 qup, .int .i64 qnt, .string qky, .int .i64 qpl, .int .i64 qfi] ∧ blk W5 w.heap.size 23 #[.slice pa pn pc]) := by
      obtain ⟨q1, q2, q3, q4⟩ := H1.out
      exact ⟨q1.trans (hb5.mono q1.size), q2.keep (hb5.block _ q2.lt), q3.keep (hb5.block _ q3.lt), q4.keep (hb5.block _ q4.lt)⟩
    clear HN hb5 H1 pcell z0 z1 z2 z3 z4 z5 z6 z7 z8 f0 f1 f2 f3 f4 f5 f6 f7 f8 a0 a1 a2 a3 a4 a5 a6 a7 a8
    obtain ⟨z0, z1, z2, z3, z4, z5, z6, z7, z8⟩ := H2.out.2.1.cells9
    obtain ⟨f0, f1, f2, f3, f4, f5, f6, f7, f8⟩ := H2.out.2.1.frozen9
    obtain ⟨a0, a1, a2, a3, a4, a5, a6, a7, a8⟩ := H2.out.2.2.1.cells9
    have pcell : W5.cell? ⟨w.heap.size, 0, none⟩ = some (.slice pa pn pc) := H2.out.2.2.2.cell 0
    cases hn : nestB ⟨qkd, qfr, qto, qdp, qup, qnt, qky, qpl, qfi⟩ with
    | true =>
      go_wp2
      obtain ⟨y1, y2⟩ := box9B H2.out.2.1 (.int .i64 qkd) (.int .i64 qfr) (.int .i64 qto) (.int .i64 qdp) (.int .i64 qup) (.int .i64 qnt) (.string qky) (.int .i64 qpl) (.int .i64 qfi)
      generalize hX : set9 W5 Rb (.int .i64 qkd) (.int .i64 qfr) (.int .i64 qto) (.int .i64 qdp) (.int .i64 qup) (.int .i64 qnt) (.string qky) (.int .i64 qpl) (.int .i64 qfi) = X at *
      unfold set9 at hX
      rw [hX]
      refine bodyPost_ret (v := .tuple #[.agg #[.int .i64 qkd, .int .i64 qfr, .int .i64 qto, .int .i64 qdp, .int .i64 qup, .int .i64 qnt, .string qky, .int .i64 qpl, .int .i64 qfi], .int .i64 30]) (results_cell47t Tryd.results27 _ _ Rb _ rfl y2 rfl) rfl ?_
      refine ⟨h, pp, er, HF.out, ?_, ?_⟩
      · have hb := H2.out.1
        have hz := HZ.out
        exact ⟨y1.os.trans hb.os, y1.tape.trans hb.tape, y1.output.trans hb.output, Nat.le_trans hb.size y1.size, fun k hk => (y1.block k (Nat.lt_of_lt_of_le hk hb.size) (by omega)).trans (hb.block k hk)⟩
      · rw [HQ.out]
        rw [if_neg hd, if_pos hn]
    | false =>
      go_wp2
      obtain ⟨y1, y2⟩ := box9B H2.out.2.1 (.int .i64 qkd) (.int .i64 qfr) (.int .i64 qto) (.int .i64 qdp) (.int .i64 qup) (.int .i64 qnt) (.string qky) (.int .i64 qpl) (.int .i64 qfi)
      generalize hX : set9 W5 Rb (.int .i64 qkd) (.int .i64 qfr) (.int .i64 qto) (.int .i64 qdp) (.int .i64 qup) (.int .i64 qnt) (.string qky) (.int .i64 qpl) (.int .i64 qfi) = X at *
      unfold set9 at hX
      rw [hX]
      refine bodyPost_ret (v := .tuple #[.agg #[.int .i64 qkd, .int .i64 qfr, .int .i64 qto, .int .i64 qdp, .int .i64 qup, .int .i64 qnt, .string qky, .int .i64 qpl, .int .i64 qfi], .int .i64 31]) (results_cell47t Tryd.results27 _ _ Rb _ rfl y2 rfl) rfl ?_
      refine ⟨h, pp, er, HF.out, ?_, ?_⟩
      · have hb := H2.out.1
        have hz := HZ.out
        exact ⟨y1.os.trans hb.os, y1.tape.trans hb.tape, y1.output.trans hb.output, Nat.le_trans hb.size y1.size, fun k hk => (y1.block k (Nat.lt_of_lt_of_le hk hb.size) (by omega)).trans (hb.block k hk)⟩
      · rw [HQ.out]
        rw [if_neg hd, if_neg (by rw [hn]; exact Bool.false_ne_true)]
end Go.Proofs.YtdlnnnlmlaploabDoor
namespace Go.Proofs.YtdlnnnlmlaploabDoor
open Go.RowKit Go.Deep
/-- what a run with a visitor that may stop has shown, a run that does not stop has shown too -/
theorem Rch.free {b : List UInt8} {go : List Vi → Bool} {h : List Vi} {s : RS} (H : Rch b go h s) : Rch b gT h s := by
  induction H with
  | start => exact .start
  | value _ hv _ ih => exact .value ih hv rfl
  | part _ hb hp ih => exact .part ih hb hp
  | close _ hi hb _ ih => exact .close ih hi hb rfl
/-- and at each beginning of it that is not the whole, the visitor went on -/
theorem Rch.went {b : List UInt8} {go : List Vi → Bool} {h : List Vi} {s : RS} (H : Rch b go h s) : ∀ k, 0 < k → k ≤ h.length → go (h.take k) = true := by
  induction H with
  | start => intro k h1 h2; simp at h2; omega
  | @value h ls i n v ls' i' _ _ hg ih =>
    intro k h1 h2
    rw [List.length_append, List.length_singleton] at h2
    by_cases hk : k ≤ h.length
    · rw [List.take_append_of_le_length hk]; exact ih k h1 hk
    · rw [List.take_of_length_le (by rw [List.length_append, List.length_singleton]; omega)]; exact hg
  | part _ _ _ ih => exact ih
  | @close h l r i n _ _ _ hg ih =>
    intro k h1 h2
    rw [List.length_append, List.length_singleton] at h2
    by_cases hk : k ≤ h.length
    · rw [List.take_append_of_le_length hk]; exact ih k h1 hk
    · rw [List.take_of_length_le (by rw [List.length_append, List.length_singleton]; omega)]; exact hg
set_option maxRecDepth 10000 in
set_option maxHeartbeats 1000000 in
theorem find19 (a : Option Addr) (c : Nat) (b : List UInt8) (w : World) (pa : Option Addr) (pn pc : Nat) (p : List (Int × ByteArray)) (hr : RB w (.slice a b.length c) b) (hev : EVw w) (hP : PSA w.heap.size w (.slice pa pn pc) p) (hp : p.length ≤ 140737488351232) :
    Calls Tryd.prog 31 #[.slice a b.length c, .slice pa pn pc] w fun e w' => ∃ t k er, DOUT b t k er ∧ Below w.heap.size w w' ∧
      ((er ≠ 0 ∧ e = .returned (.tuple #[.agg (Vi.cs ⟨0, 0, 0, 0, 0, 0, ByteArray.empty, 0, 0⟩), .int .i64 er])) ∨ (er = 0 ∧ ∃ h pp e0, Fin b (goF p) h pp e0 ∧ e = .returned (.tuple #[.agg (Vi.cs (fwF p h).1), .int .i64 (if (fwF p h).1.dp = (pn : Int) then 0 else if nestB (fwF p h).1 = true then 30 else 31)]))) := by
  have b0 : Below w.heap.size w (w.alloc zero9) := (Below.refl _ _).alloc (Nat.le_refl _) _
  have H0 : Hid (Below w.heap.size w (w.alloc zero9) ∧ blk (w.alloc zero9) w.heap.size 60 #[.int .i64 0, .int .i64 0, .int .i64 0, .int .i64 0, .int .i64 0, .int .i64 0, .string { data := #[] }, .int .i64 0, .int .i64 0] ∧ RB (w.alloc zero9) (.slice a b.length c) b ∧ EVw (w.alloc zero9) ∧ PSA w.heap.size (w.alloc zero9) (.slice pa pn pc) p) := ⟨b0, heap_new _ _, hr.keep b0, hev.keep b0, hP.keep (fun k hk => b0.block k hk)⟩
  clear hr hev hP b0
  go_enter Tryd.func31, Tryd.ntmps31
  go_wp2_with fail
  refine (check21 _ b _ H0.out.2.2.1 H0.out.2.2.2.1).mono ?_
  rintro e w1 ⟨t, k, er, rfl, hd, hb1⟩
  have H1 : Hid (Below w.heap.size w w1 ∧ blk w1 w.heap.size 60 #[.int .i64 0, .int .i64 0, .int .i64 0, .int .i64 0, .int .i64 0, .int .i64 0, .string { data := #[] }, .int .i64 0, .int .i64 0] ∧ RB w1 (.slice a b.length c) b ∧ EVw w1 ∧ PSA w1.heap.size w1 (.slice pa pn pc) p) := by
    obtain ⟨q1, q2, q3, q4, q5⟩ := H0.out
    have h2 := q1.trans (hb1.mono q1.size)
    refine ⟨h2, q2.keep (hb1.block _ q2.lt), q3.keep hb1, q4.keep hb1, ?_⟩
    obtain ⟨a', c', e', h⟩ := q5.keep (w' := w1) (fun k hk => hb1.block k (Nat.lt_of_lt_of_le hk q1.size))
    refine ⟨a', c', e', ?_⟩
    rcases h with h | ⟨g, o, g1, g2, g3⟩
    · exact .inl h
    · exact .inr ⟨g, o, g1, Nat.lt_of_lt_of_le g2 h2.size, g3⟩
  have HD := Lib.hid hd
  generalize hRb : w.heap.size = Rb at *
  have HZ : Hid (Rb = w.heap.size) := hRb.symm
  clear hb1 H0 hRb
  by_cases he : er = 0
  · subst he
    have hl : b.length ≤ 1048576 := (dout_txt hd).2.2
    have HC := Lib.hid (follow22 a c b w1 pa pn pc p H1.out.2.2.1 H1.out.2.2.2.1 hl H1.out.2.2.2.2 hp)
    clear hd hl
    go_wp2_with fail
    refine HC.out.mono ?_
    rintro e w2 ⟨h, pp, e0, hF, hb2, rfl⟩
    have H2 : Hid (Below Rb w w2 ∧ blk w2 Rb 60 #[.int .i64 0, .int .i64 0, .int .i64 0, .int .i64 0, .int .i64 0, .int .i64 0, .string { data := #[] }, .int .i64 0, .int .i64 0]) := by
      obtain ⟨q1, q2, _⟩ := H1.out
      exact ⟨q1.trans (hb2.mono (by have := q1.size; have := HZ.out; omega)), q2.keep (hb2.block _ q2.lt)⟩
    have HF := Lib.hid hF
    obtain ⟨⟨qkd, qfr, qto, qdp, qup, qnt, qky, qpl, qfi⟩, hq⟩ : ∃ q, (fwF p h).1 = q := ⟨_, rfl⟩
    have HQ := Lib.hid hq
    rw [hq]
    generalize hE : (if (⟨qkd, qfr, qto, qdp, qup, qnt, qky, qpl, qfi⟩ : Vi).dp = (pn : Int) then (0 : Int) else if nestB ⟨qkd, qfr, qto, qdp, qup, qnt, qky, qpl, qfi⟩ = true then 30 else 31) = E
    have HE := Lib.hid hE
    obtain ⟨z0, z1, z2, z3, z4, z5, z6, z7, z8⟩ := H2.out.2.cells9
    obtain ⟨f0, f1, f2, f3, f4, f5, f6, f7, f8⟩ := H2.out.2.frozen9
    clear HC hF hb2 H1 hq hE
    go_wp2
    obtain ⟨y1, y2⟩ := box9B H2.out.2 (.int .i64 qkd) (.int .i64 qfr) (.int .i64 qto) (.int .i64 qdp) (.int .i64 qup) (.int .i64 qnt) (.string qky) (.int .i64 qpl) (.int .i64 qfi)
    generalize hX : set9 w2 Rb (.int .i64 qkd) (.int .i64 qfr) (.int .i64 qto) (.int .i64 qdp) (.int .i64 qup) (.int .i64 qnt) (.string qky) (.int .i64 qpl) (.int .i64 qfi) = X at *
    unfold set9 at hX
    rw [hX]
    refine bodyPost_ret (v := .tuple #[.agg #[.int .i64 qkd, .int .i64 qfr, .int .i64 qto, .int .i64 qdp, .int .i64 qup, .int .i64 qnt, .string qky, .int .i64 qpl, .int .i64 qfi], .int .i64 E]) (results_cell47t Tryd.results31 _ _ Rb _ rfl y2 rfl) rfl ?_
    have hb := H2.out.1
    exact ⟨t, k, 0, HD.out, ⟨y1.os.trans hb.os, y1.tape.trans hb.tape, y1.output.trans hb.output, Nat.le_trans hb.size y1.size, fun k hk => (y1.block k (Nat.lt_of_lt_of_le hk hb.size) (by have := HZ.out; omega)).trans (hb.block k (by have := HZ.out; omega))⟩, .inr ⟨rfl, h, pp, e0, HF.out, by rw [HQ.out, HE.out]⟩⟩
  · have he' : (er != 0) = true := by simpa using he
    obtain ⟨z0, z1, z2, z3, z4, z5, z6, z7, z8⟩ := H1.out.2.1.cells9
    obtain ⟨f0, f1, f2, f3, f4, f5, f6, f7, f8⟩ := H1.out.2.1.frozen9
    clear hd
    go_wp2
    obtain ⟨y1, y2⟩ := box9B H1.out.2.1 (.int .i64 0) (.int .i64 0) (.int .i64 0) (.int .i64 0) (.int .i64 0) (.int .i64 0) (.string { data := #[] }) (.int .i64 0) (.int .i64 0)
    generalize hX : set9 w1 Rb (.int .i64 0) (.int .i64 0) (.int .i64 0) (.int .i64 0) (.int .i64 0) (.int .i64 0) (.string { data := #[] }) (.int .i64 0) (.int .i64 0) = X at *
    unfold set9 at hX
    rw [hX]
    refine bodyPost_ret (v := .tuple #[.agg #[.int .i64 0, .int .i64 0, .int .i64 0, .int .i64 0, .int .i64 0, .int .i64 0, .string { data := #[] }, .int .i64 0, .int .i64 0], .int .i64 er]) (results_cell47t Tryd.results31 _ _ Rb _ rfl y2 rfl) rfl ?_
    have hb := H1.out.1
    exact ⟨t, k, er, HD.out, ⟨y1.os.trans hb.os, y1.tape.trans hb.tape, y1.output.trans hb.output, Nat.le_trans hb.size y1.size, fun k hk => (y1.block k (Nat.lt_of_lt_of_le hk hb.size) (by have := HZ.out; omega)).trans (hb.block k (by have := HZ.out; omega))⟩, .inl ⟨he, rfl⟩⟩
end Go.Proofs.YtdlnnnlmlaploabDoor
namespace Go.Proofs.YtdlnnnlmlaploabDoor
/-! ### The spans of a stack go on into those of the whole: plain lists -/
/-- one span goes on as another: its end may be set -/
structure Ag (x y : Sp) : Prop where
  kd : y.kind = x.kind
  fr : y.fr = x.fr
  dp : y.dep = x.dep
  up : y.up = x.up
  nt : y.nth = x.nth
  ky : y.key = x.key
  to : x.to ≠ 0 → y.to = x.to
theorem Ag.refl (x : Sp) : Ag x x := ⟨rfl, rfl, rfl, rfl, rfl, rfl, fun _ => rfl⟩
theorem Ag.trans {x y z : Sp} (h : Ag x y) (k : Ag y z) : Ag x z := ⟨k.kd.trans h.kd, k.fr.trans h.fr, k.dp.trans h.dp, k.up.trans h.up, k.nt.trans h.nt, k.ky.trans h.ky, fun e => (k.to (by rw [h.to e]; exact e)).trans (h.to e)⟩
/-- a list of spans goes on as another: what is new stands below one of P, or below what is new -/
structure Ext (P : Int → Prop) (A B : List Sp) : Prop where
  old : ∀ (j : Nat) (x : Sp), A[j]? = some x → ∃ y, B[j]? = some y ∧ Ag x y
  new : ∀ (j : Nat) (y : Sp), A.length ≤ j → B[j]? = some y → P y.up ∨ (A.length : Int) ≤ y.up
theorem Ext.len {P : Int → Prop} {A B : List Sp} (h : Ext P A B) : A.length ≤ B.length := by
  rcases Nat.lt_or_ge B.length A.length with g | g
  · obtain ⟨y, hy, _⟩ := h.old B.length _ (List.getElem?_eq_getElem g)
    rw [List.getElem?_eq_none (Nat.le_refl _)] at hy
    cases hy
  · exact g
theorem Ext.trans {P P' : Int → Prop} {A B C : List Sp} (h : Ext P A B) (k : Ext P' B C) (hp : ∀ u, P' u → P u ∨ (A.length : Int) ≤ u) : Ext P A C where
  old := fun j x hx => by
    obtain ⟨y, hy, a1⟩ := h.old j x hx
    obtain ⟨z, hz, a2⟩ := k.old j y hy
    exact ⟨z, hz, a1.trans a2⟩
  new := fun j z hj hz => by
    by_cases hb : j < B.length
    · obtain ⟨z', hz', a⟩ := k.old j _ (List.getElem?_eq_getElem hb)
      obtain rfl := Option.some.inj (hz.symm.trans hz')
      rw [a.up]
      exact h.new j _ hj (List.getElem?_eq_getElem hb)
    · rcases k.new j z (by omega) hz with g | g
      · exact hp _ g
      · have := h.len
        exact .inr (by omega)
theorem Ext.refl (P : Int → Prop) (A : List Sp) : Ext P A A where
  old := fun j x hx => ⟨x, hx, .refl x⟩
  new := fun j y hj hy => by rw [List.getElem?_eq_none hj] at hy; cases hy
theorem Ext.app {P : Int → Prop} {A B : List Sp} (hB : ∀ y ∈ B, P y.up ∨ (A.length : Int) ≤ y.up) : Ext P A (A ++ B) where
  old := fun j x hx => by
    have hl := (List.getElem?_eq_some_iff.1 hx).1
    exact ⟨x, by rw [List.getElem?_append_left hl]; exact hx, .refl x⟩
  new := fun j y hj hy => by
    rw [List.getElem?_append_right hj] at hy
    exact hB y (List.mem_of_getElem? hy)
theorem Ext.set {P : Int → Prop} {A B : List Sp} {x y : Sp} (h : Ag x y) : Ext P (A ++ x :: B) (A ++ y :: B) where
  old := fun j z hz => by
    by_cases h1 : j < A.length
    · rw [List.getElem?_append_left h1] at hz ⊢
      exact ⟨z, hz, .refl z⟩
    · rw [List.getElem?_append_right (by omega)] at hz ⊢
      match hj : j - A.length with
      | 0 =>
        rw [hj] at hz
        simp only [List.getElem?_cons_zero, Option.some.injEq] at hz ⊢
        subst hz
        exact ⟨y, rfl, h⟩
      | m + 1 =>
        rw [hj] at hz
        simp only [List.getElem?_cons_succ] at hz ⊢
        exact ⟨z, hz, .refl z⟩
  new := fun j z hj hz => by
    rw [List.getElem?_eq_none (by simpa using hj)] at hz
    cases hz
/-- the places of what is open -/
def plS : List Fr → Int → Prop
  | [], k => k = -1
  | _ :: r, k => k = ((stS r).1.length : Int) ∨ plS r k
theorem plS_top : ∀ st : List Fr, plS st (dueS st).up
  | [] => rfl
  | _ :: _ => .inl rfl
def spO : Out → List Sp
  | .go st _ => (stS st).1
  | .val t _ => walkT t 0 (dueS [])
  | .bad _ _ => []
def plO : Out → Int → Prop
  | .go st _ => plS st
  | .val _ _ => fun _ => False
  | .bad _ _ => fun _ => False
theorem spO_deliver {st : List Fr} {t : T} {j : Nat} (hw : AW st) : spO (deliver st t j) = (stS st).1 ++ walkT t (stS st).1.length (dueS st) := by
  match st, hw with
  | [], _ => rfl
  | f :: r, hw => exact stS_join hw
theorem plO_deliver {st : List Fr} {t : T} {j : Nat} {u : Int} (h : plO (deliver st t j) u) : plS st u := by
  match st, h with
  | [], h => exact h.elim
  | f :: r, h => exact h
def Grow (st : List Fr) (o : Out) : Prop := Ext (plS st) (stS st).1 (spO o) ∧ ∀ u, plO o u → plS st u ∨ ((stS st).1.length : Int) ≤ u
theorem grow_leaf {st : List Fr} {t : T} {j : Nat} (hw : AW st) (ht : t = tNum t.n ∨ t = tStr t.s) : Grow st (deliver st t j) := by
  refine ⟨?_, fun u hu => .inl (plO_deliver hu)⟩
  rw [spO_deliver hw]
  refine Ext.app fun y hy => .inl ?_
  have e : y.up = (dueS st).up := by
    rcases ht with e | e
    · rw [e, walkT_num] at hy; rw [List.mem_singleton.1 hy]
    · rw [e, walkT_str] at hy; rw [List.mem_singleton.1 hy]
  rw [e]
  exact plS_top st
theorem grow_open {st : List Fr} (d : Bool) (i : Nat) : Grow st (.go ({ d := d } :: st) i) := by
  refine ⟨?_, fun u hu => ?_⟩
  · show Ext _ _ (stS ({ d := d } :: st)).1
    rw [stS_open]
    refine Ext.app fun y hy => .inl ?_
    rw [List.mem_singleton.1 hy]
    exact plS_top st
  · rcases hu with rfl | hu
    · exact .inr (Int.le_refl _)
    · exact .inl hu
theorem grow_close {f : Fr} {r : List Fr} {i : Nat} (hw : AW r) : Grow (f :: r) (deliver r f.close i) := by
  refine ⟨?_, fun u hu => .inl (.inr (plO_deliver hu))⟩
  rw [spO_deliver hw, stS_close, stS_top]
  exact Ext.set ⟨rfl, rfl, rfl, rfl, rfl, rfl, fun e => absurd rfl e⟩
theorem grow_opn {b : List UInt8} {st : List Fr} {i : Nat} (hw : AW st) (hb : ∀ p e, opn b st i ≠ .bad p e) : Grow st (opn b st i) := by
  unfold opn at hb ⊢
  split
  · rename_i h1
    rw [if_pos h1] at hb
    split
    · rename_i h2; rw [if_pos h2] at hb; exact absurd rfl (hb _ _)
    · exact grow_open false _
  · rename_i h1
    rw [if_neg h1] at hb
    split
    · rename_i h3
      rw [if_pos h3] at hb
      split
      · rename_i h2; rw [if_pos h2] at hb; exact absurd rfl (hb _ _)
      · exact grow_open true _
    · rename_i h3
      rw [if_neg h3] at hb
      unfold scal at hb ⊢
      split
      · rename_i h4
        rw [if_pos h4] at hb
        cases hn : numb b i with
        | bad p e => rw [hn] at hb; exact absurd rfl (hb _ _)
        | ok n j => exact grow_leaf hw (.inl rfl)
      · rename_i h4
        rw [if_neg h4] at hb
        split
        · rename_i h5
          rw [if_pos h5] at hb
          cases hn : strg b i with
          | bad p e => rw [hn] at hb; exact absurd rfl (hb _ _)
          | ok n j => exact grow_leaf hw (.inr rfl)
        · rename_i h5
          rw [if_neg h5] at hb
          exact absurd rfl (hb _ _)
theorem grow_step {b : List UInt8} {st : List Fr} {i : Nat} (hO : OI b (.go st i)) (hb : ∀ p e, step b st i ≠ .bad p e) : Grow st (step b st i) := by
  obtain ⟨_, _, hs⟩ := hO
  unfold step at hb ⊢
  split
  · rename_i h1; rw [if_pos h1] at hb; exact absurd rfl (hb _ _)
  · rename_i h1
    rw [if_neg h1] at hb
    match st, hs, hb with
    | [], hs, hb => exact grow_opn trivial hb
    | f :: r, hs, hb =>
      dsimp only at hb ⊢
      split
      · rename_i hf
        rw [if_pos hf] at hb
        split
        · exact grow_close hs.2.1
        · rename_i hc
          rw [if_neg hc] at hb
          unfold keyy at hb ⊢
          split
          · rename_i h2; rw [if_pos h2] at hb; exact absurd rfl (hb _ _)
          · rename_i h2
            rw [if_neg h2] at hb
            cases hn : strg b i with
            | bad p e => rw [hn] at hb; exact absurd rfl (hb _ _)
            | ok s j =>
              rw [hn] at hb
              dsimp only at hb ⊢
              split
              · rename_i h3; rw [if_pos h3] at hb; exact absurd rfl (hb _ _)
              · exact ⟨Ext.refl _ _, fun u hu => .inl hu⟩
      · rename_i hf
        rw [if_neg hf] at hb
        split
        · exact grow_close hs.2.1
        · rename_i hc
          rw [if_neg hc] at hb
          refine grow_opn (fun e => ?_) hb
          cases hh : f.has with
          | true => rfl
          | false => exact absurd ⟨e, hh⟩ hf
theorem run_grow {b : List UInt8} (hlim : b.length ≤ 1048576) {o q : Out} (H : Run b o q) : ∀ {t : T} {n : Nat}, q = .val t n → OI b o → Ext (plO o) (spO o) (walkT t 0 (dueS [])) := by
  induction H with
  | refl o => intro t n e _; subst e; exact Ext.refl _ _
  | @more st i o hr ih =>
    intro t n e hO
    subst e
    have hb : ∀ p e, step b st i ≠ .bad p e := fun p e h => by
      rw [h] at hr
      cases hr
    obtain ⟨h1, h2⟩ := grow_step hO hb
    exact h1.trans (ih rfl (oi_step (by omega) hO)) h2
theorem Run.rest {b : List UInt8} {o p q : Out} (h : Run b o p) (k : Run b o q) (hq : q.fin) : Run b p q := by
  induction h with
  | refl o => exact k
  | more _ ih =>
    cases k with
    | refl => exact hq.elim
    | more k' => exact ih k'
theorem dout_run {b : List UInt8} {t : T} {k : Nat} (h : DOUT b t k 0) : ∃ n, Run b (.go [] 0) (.val t n) := by
  rcases h with ⟨_, _, _, n, hr, _⟩ | ⟨_, ⟨e, _⟩ | ⟨hr, _⟩ | ⟨_, _, e⟩⟩
  · exact ⟨n, hr⟩
  · cases e
  · have := run_er hr; omega
  · cases e
/-! ### The same of what is shown -/
/-- alike but for the end and the two last -/
structure Eq6 (x y : Vi) : Prop where
  kd : y.kd = x.kd
  fr : y.fr = x.fr
  dp : y.dp = x.dp
  up : y.up = x.up
  nt : y.nt = x.nt
  ky : y.ky = x.ky
theorem Eq6.refl (x : Vi) : Eq6 x x := ⟨rfl, rfl, rfl, rfl, rfl, rfl⟩
theorem Eq6.trans {x y z : Vi} (h : Eq6 x y) (k : Eq6 y z) : Eq6 x z := ⟨k.kd.trans h.kd, k.fr.trans h.fr, k.dp.trans h.dp, k.up.trans h.up, k.nt.trans h.nt, k.ky.trans h.ky⟩
theorem Eq6.symm {x y : Vi} (h : Eq6 x y) : Eq6 y x := ⟨h.kd.symm, h.fr.symm, h.dp.symm, h.up.symm, h.nt.symm, h.ky.symm⟩
structure EX (ls : List Lv) (K L : List Vi) : Prop where
  old : ∀ (j : Nat) (x : Vi), K[j]? = some x → ∃ y, L[j]? = some y ∧ Eq6 x y ∧ (x.to ≠ 0 → y.to = x.to)
  new : ∀ (j : Nat) (y : Vi), K.length ≤ j → L[j]? = some y → (y.up = -1 ∨ ∃ l ∈ ls, l.pl = y.up) ∨ (K.length : Int) ≤ y.up
theorem plS_ls : ∀ {ls : List Lv} {st : List Fr}, LRw ls st → ∀ {k : Int}, plS st k → k = -1 ∨ ∃ l ∈ ls, l.pl = k
  | [], [], _, _, h => .inl h
  | l :: r, f :: s, hw, k, h => by
    rcases h with h | h
    · exact .inr ⟨l, by simp, by rw [hw.1.bs.pl, h]⟩
    · rcases plS_ls hw.2 h with e | ⟨x, hx, e⟩
      · exact .inl e
      · exact .inr ⟨x, by simp [hx], e⟩
  | [], _ :: _, h, _, _ => h.elim
  | _ :: _, [], h, _, _ => h.elim
theorem EX.of {ls : List Lv} {K : List Vi} {A B : List Sp} {P : Int → Prop} (h : K.map Vi.o = A.map Sp.v) (hx : Ext P A B) (hP : ∀ k, P k → k = -1 ∨ ∃ l ∈ ls, l.pl = k) : EX ls K (B.map Sp.v) := by
  have hl : K.length = A.length := by rw [← List.length_map (f := Vi.o), h, List.length_map]
  constructor
  · intro j x hj
    have h1 : (A.map Sp.v)[j]? = some x.o := by rw [← h, List.getElem?_map, hj]; rfl
    rw [List.getElem?_map, Option.map_eq_some_iff] at h1
    obtain ⟨a, ha, hax⟩ := h1
    obtain ⟨y, hy, ag⟩ := hx.old j a ha
    refine ⟨y.v, by rw [List.getElem?_map, hy]; rfl, ⟨?_, ?_, ?_, ?_, ?_, ?_⟩, fun hne => ?_⟩
    · rw [show x.kd = x.o.kd from rfl, ← hax]; exact ag.kd
    · rw [show x.fr = x.o.fr from rfl, ← hax]; exact congrArg Int.ofNat ag.fr
    · rw [show x.dp = x.o.dp from rfl, ← hax]; exact congrArg Int.ofNat ag.dp
    · rw [show x.up = x.o.up from rfl, ← hax]; exact ag.up
    · rw [show x.nt = x.o.nt from rfl, ← hax]; exact congrArg Int.ofNat ag.nt
    · rw [show x.ky = x.o.ky from rfl, ← hax]; exact ag.ky
    · rw [show x.to = x.o.to from rfl, ← hax] at hne ⊢
      have hne' : a.to ≠ 0 := fun e => hne (by show (a.to : Int) = 0; rw [e]; rfl)
      exact congrArg Int.ofNat (ag.to hne')
  · intro j y hj hy
    rw [List.getElem?_map, Option.map_eq_some_iff] at hy
    obtain ⟨a, ha, rfl⟩ := hy
    rcases hx.new j a (by omega) ha with g | g
    · exact .inl (hP _ g)
    · exact .inr (by rw [hl]; exact g)
/-- what was shown so far goes on into the spans of the whole -/
theorem Rch.ext {b : List UInt8} (hlim : b.length ≤ 1048576) {h : List Vi} {s : RS} (H : Rch b gT h s) {t : T} {k : Nat} (hd : DOUT b t k 0) : EX s.ls (sk h) ((walkT t 0 (dueS [])).map Sp.v) := by
  obtain ⟨n, hr⟩ := dout_run hd
  have hp := H.plain hlim
  have h0 : OI b (.go [] 0) := ⟨Nat.zero_le _, rfl, trivial⟩
  match s, hp with
  | .val ls i m, hp =>
    obtain ⟨st, h1, _, h3, h4⟩ := hp
    exact EX.of h4 (run_grow hlim (h1.rest hr trivial) rfl (oi_run (by omega) h1 h0)) fun k hk => plS_ls h3 hk
  | .mid [] i m, hp =>
    obtain ⟨t', h1, h4⟩ := hp
    have e := Run.unique h1 hr trivial trivial
    injection e with e1 e2
    subst e1
    exact EX.of h4 (Ext.refl (fun _ => False) _) fun k hk => hk.elim
  | .mid (l :: r) i m, hp =>
    obtain ⟨f, st, h1, h2, h3, h4⟩ := hp
    refine EX.of h4 (run_grow hlim (h1.rest hr trivial) rfl (oi_run (by omega) h1 h0)) fun k hk => ?_
    rcases hk with rfl | hk
    · exact .inr ⟨l, by simp [RS.ls], h2.bs.pl⟩
    · rcases plS_ls h3 hk with e | ⟨x, hx, e⟩
      · exact .inl e
      · exact .inr ⟨x, by simp [RS.ls, hx], e⟩
end Go.Proofs.YtdlnnnlmlaploabDoor
