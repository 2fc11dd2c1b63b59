import Derived.Test.YtldkecjfjcnkfaaLa
import Derived.Test.YtldkecjfjcnkfaaHj
import Derived.Test.YtldkecjfjcnkfaaLz
namespace Go.Proofs.Ytldkecjfjcnkfaa
open Go.RowKit Go.Deep
theorem ptN_len (ns : List (ByteArray × Int)) (key : ByteArray) (id : Int) : (ptN ns key id).length ≤ ns.length + 1 := by
  unfold ptN
  have : ∀ ns : List (ByteArray × Int), (ns.filter (lsN key)).length + (ns.filter (gsN key)).length ≤ ns.length := by
    intro ns
    induction ns with
    | nil => simp
    | cons e l ih =>
      simp only [List.filter_cons, List.length_cons]
      have hx : ¬ (lsN key e = true ∧ gsN key e = true) := fun h => by
        have := less_trans _ _ _ h.1 h.2
        rw [less_irr] at this
        cases this
      cases h1 : lsN key e <;> cases h2 : gsN key e <;> simp [h1, h2] at hx ⊢ <;> omega
  have := this ns
  simp only [List.length_append, List.length_cons, List.length_nil]
  omega
/-- the names that are put together -/
def mdN (ns : List (ByteArray × Int)) : List (ByteArray × Int) := ns.foldl (fun l x => ptN l x.1 (wiI x.2 256)) []
theorem mdN_snoc {ns : List (ByteArray × Int)} {i : Nat} {x : ByteArray × Int} (h : ns[i]? = some x) : mdN (ns.take (i + 1)) = ptN (mdN (ns.take i)) x.1 (wiI x.2 256) := by
  unfold mdN
  rw [List.take_add_one, h, List.foldl_append]
  rfl
theorem mdN_len : ∀ (l : List (ByteArray × Int)) (a : List (ByteArray × Int)), (l.foldl (fun l x => ptN l x.1 (wiI x.2 256)) a).length ≤ a.length + l.length
  | [], a => by simp
  | x :: l, a => by
    have h1 := mdN_len l (ptN a x.1 (wiI x.2 256))
    have h2 := ptN_len a x.1 (wiI x.2 256)
    simp only [List.foldl_cons, List.length_cons]
    omega
/-- does the key rise behind those that are there -/
def rsB (acc : List PE) (k : ByteArray) : Bool := match acc.getLast? with
  | none => true
  | some e => Op.bytesLess e.key.toList k.toList
def stE (acc : List PE) (e : PE) : List PE := if owB e.key = false ∧ rsB acc e.key = true ∧ wk e.t 1 = 0 then acc ++ [e] else acc
/-- the other pairs that are kept -/
def mdE (es : List PE) : List PE := es.foldl stE []
theorem mdE_snoc {es : List PE} {i : Nat} {e : PE} (h : es[i]? = some e) : mdE (es.take (i + 1)) = stE (mdE (es.take i)) e := by
  unfold mdE
  rw [List.take_add_one, h, List.foldl_append]
  rfl
theorem stE_len (acc : List PE) (e : PE) : (stE acc e).length ≤ acc.length + 1 := by
  unfold stE
  split <;> simp
theorem mdE_len : ∀ (l a : List PE), (l.foldl stE a).length ≤ a.length + l.length
  | [], a => by simp
  | x :: l, a => by
    have h1 := mdE_len l (stE a x)
    have h2 := stE_len a x
    simp only [List.foldl_cons, List.length_cons]
    omega
theorem mdE_mem : ∀ (l a : List PE) (e : PE), e ∈ l.foldl stE a → e ∈ a ∨ e ∈ l
  | [], a, e, h => .inl h
  | x :: l, a, e, h => by
    rcases mdE_mem l (stE a x) e h with h1 | h1
    · unfold stE at h1
      split at h1
      · rcases List.mem_append.1 h1 with h2 | h2
        · exact .inl h2
        · simp at h2; subst h2; exact .inr (by simp)
      · exact .inl h1
    · exact .inr (List.mem_cons_of_mem _ h1)
/-- what a round of the names reads -/
def TF (H g : Nat) (nv : Value) (p : Nat) (xs : ByteArray) (xi : Int) (x : World) : Prop :=
  x.cell? ⟨H, 0, none⟩ = some nv ∧ x.cell? ⟨g, p, none⟩ = some (.string xs) ∧ x.cell? ⟨g, p + 1, none⟩ = some (.int .i64 xi)
theorem TF.keep {H g : Nat} {nv : Value} {p : Nat} {xs : ByteArray} {xi : Int} {x y : World} (h : TF H g nv p xs xi x) (hb : Below x.heap.size x y) : TF H g nv p xs xi y :=
  ⟨Below.cellS hb (Nat.le_refl _) h.1, Below.cellS hb (Nat.le_refl _) h.2.1, Below.cellS hb (Nat.le_refl _) h.2.2⟩
theorem TF.keep4 {H g : Nat} {nv : Value} {p : Nat} {xs : ByteArray} {xi : Int} {x y : World} (h : TF H g nv p xs xi x) (hb : Below (H + 3) x y) (hg : g < H) (hH : H < H + 3) : TF H g nv p xs xi y :=
  ⟨(World.cell?_of_block (w := x) (a := ⟨H, 0, none⟩) (hb.block H (by omega))).trans h.1, (World.cell?_of_block (w := x) (a := ⟨g, p, none⟩) (hb.block g (by omega))).trans h.2.1, (World.cell?_of_block (w := x) (a := ⟨g, p + 1, none⟩) (hb.block g (by omega))).trans h.2.2⟩
theorem TF.set {H g j : Nat} {nv u : Value} {p : Nat} {xs : ByteArray} {xi : Int} {x : World} (h : TF H g nv p xs xi x) (hg : g < H) : TF H g nv p xs xi (x.setCell ⟨H + 1 + 1, j, none⟩ u) :=
  ⟨(World.cell?_of_block (w := x) (a := ⟨H, 0, none⟩) (Below.heap_setCell _ _ _ _ (by show H ≠ H + 1 + 1; omega))).trans h.1, (World.cell?_of_block (w := x) (a := ⟨g, p, none⟩) (Below.heap_setCell _ _ _ _ (by show g ≠ H + 1 + 1; omega))).trans h.2.1, (World.cell?_of_block (w := x) (a := ⟨g, p + 1, none⟩) (Below.heap_setCell _ _ _ _ (by show g ≠ H + 1 + 1; omega))).trans h.2.2⟩
/-- the boxes of made -/
def MI (H : Nat) (x : World) (na ma : Option Addr) (n m nc mc : Nat) (sz qu : Int) (ag : ByteArray) (nl : Value) (s q : Int) (yl : Value) : Prop :=
  x.heap[H]? = some (.cells #[.slice na n nc, .int .i64 sz, .int .i64 qu, .string ag, .slice ma m mc] 35 (0, 0)) ∧ x.heap[H + 1]? = some (.cells #[.slice none 0 0, .int .i64 0, .int .i64 0, .string ⟨#[]⟩, .slice none 0 0] 35 (0, 0)) ∧ x.heap[H + 1 + 1]? = some (.cells #[nl, .int .i64 s, .int .i64 q, .string ag, yl] 35 (0, 0)) ∧ H + 3 ≤ x.heap.size
section
variable {H n m nc mc : Nat} {w x y : World} {na ma : Option Addr} {sz qu s q : Int} {ag : ByteArray} {nl yl : Value} {l : List (ByteArray × Int)} {acc : List PE}
theorem MI.keep (h : MI H x na ma n m nc mc sz qu ag nl s q yl) (hb : Below (H + 3) x y) : MI H y na ma n m nc mc sz qu ag nl s q yl :=
  ⟨(hb.block _ (by omega)).trans h.1, (hb.block _ (by omega)).trans h.2.1, (hb.block _ (by omega)).trans h.2.2.1, Nat.le_trans h.2.2.2 hb.size⟩
theorem MI.set0 (h : MI H x na ma n m nc mc sz qu ag nl s q yl) (v : Value) : MI H (x.setCell ⟨H + 1 + 1, 0, none⟩ v) na ma n m nc mc sz qu ag v s q yl :=
  ⟨(Below.heap_setCell _ _ _ _ (by show H ≠ H + 1 + 1; omega)).trans h.1, (Below.heap_setCell _ _ _ _ (by show H + 1 ≠ H + 1 + 1; omega)).trans h.2.1, ow.set h.2.2.1 0 _, by simpa [World.setCell] using h.2.2.2⟩
theorem MI.set1 (h : MI H x na ma n m nc mc sz qu ag nl s q yl) (v : Int) : MI H (x.setCell ⟨H + 1 + 1, 1, none⟩ (.int .i64 v)) na ma n m nc mc sz qu ag nl v q yl :=
  ⟨(Below.heap_setCell _ _ _ _ (by show H ≠ H + 1 + 1; omega)).trans h.1, (Below.heap_setCell _ _ _ _ (by show H + 1 ≠ H + 1 + 1; omega)).trans h.2.1, ow.set h.2.2.1 1 _, by simpa [World.setCell] using h.2.2.2⟩
theorem MI.set2 (h : MI H x na ma n m nc mc sz qu ag nl s q yl) (v : Int) : MI H (x.setCell ⟨H + 1 + 1, 2, none⟩ (.int .i64 v)) na ma n m nc mc sz qu ag nl s v yl :=
  ⟨(Below.heap_setCell _ _ _ _ (by show H ≠ H + 1 + 1; omega)).trans h.1, (Below.heap_setCell _ _ _ _ (by show H + 1 ≠ H + 1 + 1; omega)).trans h.2.1, ow.set h.2.2.1 2 _, by simpa [World.setCell] using h.2.2.2⟩
theorem MI.set4 (h : MI H x na ma n m nc mc sz qu ag nl s q yl) (v : Value) : MI H (x.setCell ⟨H + 1 + 1, 4, none⟩ v) na ma n m nc mc sz qu ag nl s q v :=
  ⟨(Below.heap_setCell _ _ _ _ (by show H ≠ H + 1 + 1; omega)).trans h.1, (Below.heap_setCell _ _ _ _ (by show H + 1 ≠ H + 1 + 1; omega)).trans h.2.1, ow.set h.2.2.1 4 _, by simpa [World.setCell] using h.2.2.2⟩
theorem MI.box (h : MI H x na ma n m nc mc sz qu ag nl s q yl) : x.cell? ⟨H, 0, none⟩ = some (.slice na n nc) ∧ x.cell? ⟨H, 1, none⟩ = some (.int .i64 sz) ∧ x.cell? ⟨H, 2, none⟩ = some (.int .i64 qu) ∧ x.cell? ⟨H, 3, none⟩ = some (.string ag) ∧ x.cell? ⟨H, 4, none⟩ = some (.slice ma m mc) := by
  have e := h.1
  refine ⟨?_, ?_, ?_, ?_, ?_⟩ <;> simp [World.cell?, e]
theorem MI.xs (h : MI H x na ma n m nc mc sz qu ag nl s q yl) : x.cell? ⟨H + 1 + 1, 0, none⟩ = some nl ∧ x.cell? ⟨H + 1 + 1, 1, none⟩ = some (.int .i64 s) ∧ x.cell? ⟨H + 1 + 1, 2, none⟩ = some (.int .i64 q) ∧ x.cell? ⟨H + 1 + 1, 3, none⟩ = some (.string ag) ∧ x.cell? ⟨H + 1 + 1, 4, none⟩ = some yl ∧ ∀ j, x.frozen? ⟨H + 1 + 1, j, none⟩ = false := by
  have e := h.2.2.1
  refine ⟨?_, ?_, ?_, ?_, ?_, fun j => ?_⟩ <;> simp [World.cell?, World.frozen?, e]
/-- the state of made -/
def MQ (H : Nat) (w x : World) (na ma : Option Addr) (n m nc mc : Nat) (sz qu : Int) (ag : ByteArray) (nl : Value) (s q : Int) (yl : Value) (l : List (ByteArray × Int)) (acc : List PE) : Prop :=
  MI H x na ma n m nc mc sz qu ag nl s q yl ∧ x.ownsRow (H + 3) 46 2 nl l.length (nsC l) ∧ x.ownsRow (H + 3) 59 6 yl acc.length (gCs acc) ∧ Below H w x
theorem own_any {e : TypeId} {sz : Nat} {v : Value} {k : Nat} {xs : List Value} {B : Nat} (h : x.ownsRow B e sz v k xs) (hb : Below x.heap.size x y) : y.ownsRow B e sz v k xs :=
  h.kept (grown_of_below hb) (by cases hv : v.ownBlock with | none => exact .inl rfl | some q => exact .inr (by simp))
theorem MQ.keep (h : MQ H w x na ma n m nc mc sz qu ag nl s q yl l acc) (hb : Below x.heap.size x y) : MQ H w y na ma n m nc mc sz qu ag nl s q yl l acc :=
  ⟨h.1.keep (hb.mono h.1.2.2.2), own_any h.2.1 hb, own_any h.2.2.1 hb, h.2.2.2.trans (hb.mono (by have := h.1.2.2.2; omega))⟩
theorem own_set {e : TypeId} {sz : Nat} {v u : Value} {k j : Nat} {xs : List Value} (h : x.ownsRow (H + 3) e sz v k xs) : (x.setCell ⟨H + 1 + 1, j, none⟩ u).ownsRow (H + 3) e sz v k xs :=
  h.kept (grown_setCell _ _ _) (owns_ne h (by show H + 1 + 1 < H + 3; omega))
theorem MQ.put {nl3 : Value} {l3 : List (ByteArray × Int)} (h : MQ H w x na ma n m nc mc sz qu ag nl s q yl l acc) (hown : y.ownsRow (x.heap.size + 1) 46 2 nl3 l3.length (nsC l3)) (hb : Below x.heap.size x y) : MQ H w (y.setCell ⟨H + 1 + 1, 0, none⟩ nl3) na ma n m nc mc sz qu ag nl3 s q yl l3 acc := by
  have k := h.keep hb
  have hs := h.1.2.2.2
  exact ⟨k.1.set0 nl3, own_set (own_mono hown (by omega)), own_set k.2.2.1, k.2.2.2.setCell (by show H ≤ H + 1 + 1; omega) _⟩
theorem MQ.setA (h : MQ H w x na ma n m nc mc sz qu ag nl s q yl l acc) (v : Int) : MQ H w (x.setCell ⟨H + 1 + 1, 1, none⟩ (.int .i64 v)) na ma n m nc mc sz qu ag nl v q yl l acc :=
  ⟨h.1.set1 v, own_set h.2.1, own_set h.2.2.1, h.2.2.2.setCell (by show H ≤ H + 1 + 1; omega) _⟩
theorem MQ.setB (h : MQ H w x na ma n m nc mc sz qu ag nl s q yl l acc) (v : Int) : MQ H w (x.setCell ⟨H + 1 + 1, 2, none⟩ (.int .i64 v)) na ma n m nc mc sz qu ag nl s v yl l acc :=
  ⟨h.1.set2 v, own_set h.2.1, own_set h.2.2.1, h.2.2.2.setCell (by show H ≤ H + 1 + 1; omega) _⟩
theorem own_types {e f : TypeId} {sz sz2 : Nat} {v u : Value} {k k2 : Nat} {xs ys : List Value} {B B2 : Nat} (h : x.ownsRow B e sz v k xs) (h2 : x.ownsRow B2 f sz2 u k2 ys) (hne : e ≠ f) : v.ownBlock = none ∨ v.ownBlock ≠ u.ownBlock := by
  rcases h.2 with ⟨rfl, _⟩ | ⟨g, cap, cur, rfl, _, hg, _⟩
  · exact .inl rfl
  · rcases h2.2 with ⟨rfl, _⟩ | ⟨g2, cap2, cur2, rfl, _, hg2, _⟩
    · exact .inr (by simp [Value.ownBlock])
    · refine .inr fun e2 => ?_
      simp only [Value.ownBlock] at e2
      have e3 : g = g2 := by simpa using e2
      subst e3
      rw [hg] at hg2
      cases hg2
      exact hne rfl
theorem MQ.more {yl' : Value} {e : PE} (h : MQ H w x na ma n m nc mc sz qu ag nl s q yl l acc) (ho : y.ownsRow (H + 3) 59 6 yl' (acc.length + 1) (gCs acc ++ gC e)) (hg : x.grownBy y yl.ownBlock) : MQ H w (y.setCell ⟨H + 1 + 1, 4, none⟩ yl') na ma n m nc mc sz qu ag nl s q yl' l (acc ++ [e]) := by
  have hb : Below (H + 3) x y := (Below.refl _ _).grown hg h.1.2.2.2 (fun k hk => (World.ownsRow.lt h.2.2.1 k hk).1)
  have hs := h.1.2.2.2
  have e9 : gCs [e] = gC e := by simp [gCs]
  refine ⟨(h.1.keep hb).set4 yl', own_set (h.2.1.kept hg (own_types h.2.1 h.2.2.1 (by decide))), ?_, (h.2.2.2.trans (hb.mono (by omega))).setCell (by show H ≤ H + 1 + 1; omega) _⟩
  rw [gCs_app, e9, List.length_append]
  exact own_set ho
end
end Go.Proofs.Ytldkecjfjcnkfaa
