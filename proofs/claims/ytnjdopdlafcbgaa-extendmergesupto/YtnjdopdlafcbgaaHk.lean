import Derived.Test.YtnjdopdlafcbgaaHh
import Derived.Test.YtnjdopdlafcbgaaHj
namespace Go.Proofs.Ytnjdopdlafcbgaa
open Go.RowKit Go.Deep
theorem wp_append_gen {o : Oper} {a : Act} {K : Act → World → Prop} {Q : Exit → Act → World → Prop} {w : World} (s x : Operand) (t : TypeId)
    (ho : o.op = .call { callee := .builtin .append, args := #[s, x], argTypes := #[t, t] })
    (base : Nat) (e : TypeId) (i : TypeInfo) (z : Value) (size bytes : Nat) (ht : Try.prog.underlying t = some (.slice e)) (hi : Try.prog.info? e = some i) (hz : i.zero = some z)
    (hsize : i.size = size) (hby : i.bytes = bytes) (hzs : z.cells.size = size) (hsz : 0 < size)
    (v : Value) (n : Nat) (xs : List Value) (hs : a.eval s = v) (hown : w.ownsRow base e size v n xs)
    (ao : Option Addr) (m c : Nat) (news : List Value) (hx : a.eval x = .slice ao m c) (hl : news.length = m * size) (hnone : ao = none → m = 0) (hnews : ∀ ad, ao = some ad → ∀ j u, news[j]? = some u → w.cell? (ad.add j) = some u) (h1 : ∀ u ∈ news, u.oneCell' = true)
    (h63 : n + m ≤ maxLen) (hbytes : (n + m) * bytes ≤ 140737488355328) (hbase : base ≤ w.heap.size)
    (h : ∀ a' c' w', w'.ownsRow base e size (.slice a' (n + m) c') (n + m) (xs ++ news) → w.grownBy w' v.ownBlock → K (a.put o.dst (.slice a' (n + m) c')) w') : Oper.wp Try.prog o a w K Q := by
  cases ao with
  | some ad =>
    refine wp_append_own w s x t ho base e i z size bytes ht hi hz hsize hby hzs hsz v n xs hs hown ad m c news hx hl (hnews ad rfl) h1 h63 hbytes hbase (fun v' w' h2 h3 _ => ?_)
    obtain ⟨a', c', rfl⟩ := ownForm h2
    exact h a' c' w' h2 h3
  | none =>
    obtain rfl := hnone rfl
    have hnil : news = [] := List.eq_nil_of_length_eq_zero (by simpa using hl)
    subst hnil
    have hrun : (Builtin.append_ #[t, t] o.type #[v, .slice none 0 c]).run Try.prog w = .ok v w := by
      rcases hown.2 with ⟨rfl, _⟩ | ⟨g, cap, cur, rfl, _, _, hnc, _⟩
      · simp [Builtin.append_, run_underlying ht, sizeOf, typeInfo, hi, Builtin.lenOf, Builtin.firstCells]
      · simp [Builtin.append_, run_underlying ht, sizeOf, typeInfo, hi, Builtin.lenOf, Builtin.firstCells, hnc, storeCells]
    obtain ⟨a', c', rfl⟩ := ownForm hown
    have hfin := h a' c' w (by simpa using hown) ⟨rfl, rfl, rfl, Nat.le_refl _, fun _ _ _ => rfl⟩
    unfold Oper.wp
    simp [execOp, ho, resolve, invoke, builtin, hs, hx, hrun, Result.andThen]
    exact hfin
theorem tkA {P : Program} {ops : Array Oper} {Q : Exit → Act → World → Prop} {md : Region.Mode} {S : World → Prop} {i : Nat} {oi : Oper} {v : Value} {fuel : Nat} {listed : Array Bool} {a : Act} {w : World} (hi : ops[i]? = some oi) (hy : YieldsIf P ops S oi v a) (hS : S w)
    (h : wpAnyH P md ops Q S fuel (listed.setIfInBounds i true) (a.put oi.dst v) w) (hs : Region.noSelect ops = true := by kernel_rfl) (hf : Region.free md ops listed i = true := by kernel_rfl) (hr : (Region.ready md ops listed).contains i = true := by kernel_rfl)
    (hQ : ∀ c a w, Q (.panic c) (a.put oi.dst v) w → Q (.panic c) a w := by exact fun _ _ _ h => h) : wpAnyH P md ops Q S (fuel + 1) listed a w := wpAnyH_take hi hs hf hr hQ hy hS h
theorem tkB {P : Program} {ops : Array Oper} {Q : Exit → Act → World → Prop} {md : Region.Mode} {S : World → Prop} {i : Nat} {oi : Oper} {v : Value} {fuel : Nat} {listed : Array Bool} {a : Act} {w : World} (hi : ops[i]? = some oi) (hS : S w)
    (h : wpAnyH P md ops Q S fuel (listed.setIfInBounds i true) (a.put oi.dst v) w) (hy : YieldsIf P ops S oi v a := by exact Or.inl ⟨by rfl, fun w hw => by go_simp⟩) (hs : Region.noSelect ops = true := by kernel_rfl) (hf : Region.free md ops listed i = true := by kernel_rfl) (hr : (Region.ready md ops listed).contains i = true := by kernel_rfl)
    (hQ : ∀ c a w, Q (.panic c) (a.put oi.dst v) w → Q (.panic c) a w := by exact fun _ _ _ h => h) : wpAnyH P md ops Q S (fuel + 1) listed a w := wpAnyH_take hi hs hf hr hQ hy hS h
theorem zq : (∀ (a : Act) (t : Tmp) (v : Value), a.put (some t) v = { a with tmps := a.tmps.setIfInBounds t v }) ∧ (∀ (l : List Oper) (i : Nat) (h : i < l.toArray.size), l.toArray[i] = l[i]'(by simpa using h)) ∧ (∀ (x : Oper) (l : List Oper) (h : 0 < (x :: l).length), (x :: l)[0] = x) ∧ (∀ (x : Oper) (l : List Oper) (i : Nat) (h : i + 1 < (x :: l).length), (x :: l)[i + 1] = l[i]'(Nat.lt_of_succ_lt_succ h)) ∧
    (∀ (l : List Bool) (i : Nat) (b : Bool), l.toArray.setIfInBounds i b = (l.set i b).toArray) ∧ (∀ (l : List Value) (i : Nat) (b : Value), l.toArray.setIfInBounds i b = (l.set i b).toArray) ∧ (∀ (x b : Bool) (l : List Bool), (x :: l).set 0 b = b :: l) ∧ (∀ (x b : Value) (l : List Value), (x :: l).set 0 b = b :: l) ∧ (∀ (x b : Bool) (l : List Bool) (i : Nat), (x :: l).set (i + 1) b = x :: l.set i b) ∧ (∀ (x b : Value) (l : List Value) (i : Nat), (x :: l).set (i + 1) b = x :: l.set i b) :=
  ⟨fun _ _ _ => rfl, fun _ _ _ => by simp, fun _ _ _ => rfl, fun _ _ _ _ => rfl, fun _ _ _ => by simp, fun _ _ _ => by simp, fun _ _ _ => rfl, fun _ _ _ => rfl, fun _ _ _ _ => rfl, fun _ _ _ _ => rfl⟩
/-- the boxes of the reference's merge -/
def MR (H : Nat) (w x : World) (na ma na2 ma2 : Option Addr) (nc mc nc2 mc2 n1 n2 m1 m2 : Nat) (sz qu sz2 qu2 : Int) (ag ag2 : ByteArray) (nl : Value) (a b : Int) (c : ByteArray) (pl : Value) : Prop :=
  x.heap[H]? = some (.cells #[.slice na n1 nc, .int .i64 sz, .int .i64 qu, .string ag, .slice ma m1 mc] 35 (0, 0)) ∧ x.heap[H + 1]? = some (.cells #[.slice na2 n2 nc2, .int .i64 sz2, .int .i64 qu2, .string ag2, .slice ma2 m2 mc2] 35 (0, 0)) ∧ x.heap[H + 1 + 1]? = some (.cells #[.slice none 0 0, .int .i64 0, .int .i64 0, .string ⟨#[]⟩, .slice none 0 0] 35 (0, 0)) ∧ x.heap[H + 1 + 1 + 1]? = some (.cells #[nl, .int .i64 a, .int .i64 b, .string c, pl] 35 (0, 0)) ∧ H + 4 ≤ x.heap.size ∧ Below H w x
section
variable {H : Nat} {w x y : World} {na ma na2 ma2 : Option Addr} {nc mc nc2 mc2 n1 n2 m1 m2 : Nat} {sz qu sz2 qu2 : Int} {ag ag2 : ByteArray} {nl pl : Value} {a b : Int} {c : ByteArray}
theorem MR.keep (h : MR H w x na ma na2 ma2 nc mc nc2 mc2 n1 n2 m1 m2 sz qu sz2 qu2 ag ag2 nl a b c pl) (hb : Below (H + 4) x y) : MR H w y na ma na2 ma2 nc mc nc2 mc2 n1 n2 m1 m2 sz qu sz2 qu2 ag ag2 nl a b c pl :=
  ⟨(hb.block _ (by omega)).trans h.1, (hb.block _ (by omega)).trans h.2.1, (hb.block _ (by omega)).trans h.2.2.1, (hb.block _ (by omega)).trans h.2.2.2.1, Nat.le_trans h.2.2.2.2.1 hb.size, h.2.2.2.2.2.trans (hb.mono (by omega))⟩
theorem MR.cells (h : MR H w x na ma na2 ma2 nc mc nc2 mc2 n1 n2 m1 m2 sz qu sz2 qu2 ag ag2 nl a b c pl) : MC H na ma na2 ma2 nc mc nc2 mc2 n1 n2 m1 m2 sz qu sz2 qu2 ag ag2 x := by
  have e1 := h.1
  have e2 := h.2.1
  refine ⟨⟨?_, ?_, ?_, ?_, ?_⟩, ?_, ?_, ?_, ?_, ?_⟩ <;> simp [World.cell?, e1, e2]
theorem MR.wish (h : MR H w x na ma na2 ma2 nc mc nc2 mc2 n1 n2 m1 m2 sz qu sz2 qu2 ag ag2 nl a b c pl) :
    x.cell? ⟨H + 1 + 1 + 1, 0, none⟩ = some nl ∧ x.cell? ⟨H + 1 + 1 + 1, 1, none⟩ = some (.int .i64 a) ∧ x.cell? ⟨H + 1 + 1 + 1, 2, none⟩ = some (.int .i64 b) ∧ x.cell? ⟨H + 1 + 1 + 1, 3, none⟩ = some (.string c) ∧ x.cell? ⟨H + 1 + 1 + 1, 4, none⟩ = some pl ∧ ∀ j, x.frozen? ⟨H + 1 + 1 + 1, j, none⟩ = false := by
  have e := h.2.2.2.1
  refine ⟨?_, ?_, ?_, ?_, ?_, fun j => ?_⟩ <;> simp [World.cell?, World.frozen?, e]
theorem MR.set (h : MR H w x na ma na2 ma2 nc mc nc2 mc2 n1 n2 m1 m2 sz qu sz2 qu2 ag ag2 nl a b c pl) (j : Nat) (u : Value) {nl' pl' : Value} {a' b' : Int} {c' : ByteArray} (he : (#[nl, .int .i64 a, .int .i64 b, .string c, pl] : Array Value).setIfInBounds j u = #[nl', .int .i64 a', .int .i64 b', .string c', pl']) : MR H w (x.setCell ⟨H + 1 + 1 + 1, j, none⟩ u) na ma na2 ma2 nc mc nc2 mc2 n1 n2 m1 m2 sz qu sz2 qu2 ag ag2 nl' a' b' c' pl' :=
  ⟨(Below.heap_setCell _ _ _ _ (by show H ≠ H + 1 + 1 + 1; omega)).trans h.1, (Below.heap_setCell _ _ _ _ (by show H + 1 ≠ H + 1 + 1 + 1; omega)).trans h.2.1, (Below.heap_setCell _ _ _ _ (by show H + 1 + 1 ≠ H + 1 + 1 + 1; omega)).trans h.2.2.1, by rw [ow.set h.2.2.2.1 j u, he], by simpa [World.setCell] using h.2.2.2.2.1, h.2.2.2.2.2.setCell (by show H ≤ H + 1 + 1 + 1; omega) _⟩
end
theorem MR.start (w : World) {na ma na2 ma2 : Option Addr} {nc mc nc2 mc2 : Nat} {ns ns2 : List (ByteArray × Int)} {sz qu sz2 qu2 : Int} {ag ag2 : ByteArray} {es es2 : List PE} : MR w.heap.size w ((((w.alloc (.cells #[.slice na ns.length nc, .int .i64 sz, .int .i64 qu, .string ag, .slice ma es.length mc] 35)).alloc (.cells #[.slice na2 ns2.length nc2, .int .i64 sz2, .int .i64 qu2, .string ag2, .slice ma2 es2.length mc2] 35)).alloc (.cells #[.slice none 0 0, .int .i64 0, .int .i64 0, .string ⟨#[]⟩, .slice none 0 0] 35)).alloc (.cells #[.slice none 0 0, .int .i64 0, .int .i64 0, .string ⟨#[]⟩, .slice none 0 0] 35)) na ma na2 ma2 nc mc nc2 mc2 ns.length ns2.length es.length es2.length sz qu sz2 qu2 ag ag2 (.slice none 0 0) 0 0 ⟨#[]⟩ (.slice none 0 0) := by
  have b : Below w.heap.size w ((((w.alloc (.cells #[.slice na ns.length nc, .int .i64 sz, .int .i64 qu, .string ag, .slice ma es.length mc] 35)).alloc (.cells #[.slice na2 ns2.length nc2, .int .i64 sz2, .int .i64 qu2, .string ag2, .slice ma2 es2.length mc2] 35)).alloc (.cells #[.slice none 0 0, .int .i64 0, .int .i64 0, .string ⟨#[]⟩, .slice none 0 0] 35)).alloc (.cells #[.slice none 0 0, .int .i64 0, .int .i64 0, .string ⟨#[]⟩, .slice none 0 0] 35)) := ((((Below.refl _ _).alloc (Nat.le_refl _) _).alloc (by simp) _).alloc (by simp; omega) _).alloc (by simp; omega) _
  refine ⟨?_, ?_, ?_, ?_, by simp, b⟩
  · exact (Below.heap_alloc _ _ _ (by simp; omega)).trans ((Below.heap_alloc _ _ _ (by simp; omega)).trans ((Below.heap_alloc _ _ _ (by simp)).trans (heap_new _ _)))
  · exact (Below.heap_alloc _ _ _ (by first | (simp; done) | (simp; omega))).trans ((Below.heap_alloc _ _ _ (by first | (simp; done) | (simp; omega))).trans (by have := heap_new (w.alloc (.cells #[.slice na ns.length nc, .int .i64 sz, .int .i64 qu, .string ag, .slice ma es.length mc] 35)) (.cells #[.slice na2 ns2.length nc2, .int .i64 sz2, .int .i64 qu2, .string ag2, .slice ma2 es2.length mc2] 35); simpa using this))
  · exact (Below.heap_alloc _ _ _ (by simp)).trans (by have := heap_new ((w.alloc (.cells #[.slice na ns.length nc, .int .i64 sz, .int .i64 qu, .string ag, .slice ma es.length mc] 35)).alloc (.cells #[.slice na2 ns2.length nc2, .int .i64 sz2, .int .i64 qu2, .string ag2, .slice ma2 es2.length mc2] 35)) (.cells #[.slice none 0 0, .int .i64 0, .int .i64 0, .string ⟨#[]⟩, .slice none 0 0] 35); simpa using this)
  · have := heap_new (((w.alloc (.cells #[.slice na ns.length nc, .int .i64 sz, .int .i64 qu, .string ag, .slice ma es.length mc] 35)).alloc (.cells #[.slice na2 ns2.length nc2, .int .i64 sz2, .int .i64 qu2, .string ag2, .slice ma2 es2.length mc2] 35)).alloc (.cells #[.slice none 0 0, .int .i64 0, .int .i64 0, .string ⟨#[]⟩, .slice none 0 0] 35)) (.cells #[.slice none 0 0, .int .i64 0, .int .i64 0, .string ⟨#[]⟩, .slice none 0 0] 35)
    simpa using this
end Go.Proofs.Ytnjdopdlafcbgaa
