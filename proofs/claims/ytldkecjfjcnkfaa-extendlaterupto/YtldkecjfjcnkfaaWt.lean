import Derived.Test.YtldkecjfjcnkfaaWn
namespace Go.Proofs.Ytldkecjfjcnkfaa
open Go.RowKit Go.Deep
def nsC (ns : List (ByteArray × Int)) : List Value := ns.flatMap fun x => [.string x.1, .int .i64 x.2]
theorem nsC_len (ns : List (ByteArray × Int)) : (nsC ns).length = ns.length * 2 := by
  induction ns with
  | nil => rfl
  | cons x ns ih =>
    have : nsC (x :: ns) = [.string x.1, .int .i64 x.2] ++ nsC ns := by simp [nsC]
    rw [this, List.length_append, ih]
    simp
    omega
theorem nsC_get : ∀ (ns : List (ByteArray × Int)) (i : Nat) (x : ByteArray × Int), ns[i]? = some x → (nsC ns)[i * 2]? = some (.string x.1) ∧ (nsC ns)[i * 2 + 1]? = some (.int .i64 x.2)
  | [], i, x, h => by simp at h
  | y :: ns, 0, x, h => by
    simp at h
    subst h
    simp [nsC]
  | y :: ns, i + 1, x, h => by
    have e : nsC (y :: ns) = [.string y.1, .int .i64 y.2] ++ nsC ns := by simp [nsC]
    have := nsC_get ns i x (by simpa using h)
    rw [e, List.getElem?_append_right (by simp; omega), List.getElem?_append_right (by simp; omega)]
    have e1 : (i + 1) * 2 - [Value.string y.1, Value.int .i64 y.2].length = i * 2 := by simp; omega
    have e2 : (i + 1) * 2 + 1 - [Value.string y.1, Value.int .i64 y.2].length = i * 2 + 1 := by simp; omega
    rw [e1, e2]
    exact this
theorem info46 : (Try.prog.info? 46).map (fun i => (i.zero, i.size, i.bytes)) = some (some (.agg #[.string ByteArray.empty, .int .i64 0]), 2, 24) := by kernel_rfl
theorem names_of {w : World} {B : Nat} {v : Value} {ns : List (ByteArray × Int)} (h : w.ownsRow B 46 2 v ns.length (nsC ns)) : RNs w v ns := by
  rcases h.2 with ⟨rfl, h0⟩ | ⟨g, cap, cur, rfl, _, hg, _, _, hsz, hx⟩
  · obtain rfl : ns = [] := List.length_eq_zero_iff.1 h0
    exact ⟨none, 0, rfl, .inl rfl⟩
  · refine ⟨_, _, rfl, .inr ⟨g, 0, rfl, (Array.getElem?_eq_some_iff.1 hg).1, fun i x hi => ?_⟩⟩
    have hlt := (List.getElem?_eq_some_iff.1 hi).1
    have h2 := nsC_get ns i x hi
    rw [← hx, List.getElem?_take_of_lt (by omega), List.getElem?_take_of_lt (by omega)] at h2
    simp only [Array.getElem?_toList] at h2
    constructor
    · simp only [World.cell?, hg]; simpa using h2.1
    · simp only [World.cell?, hg]; simpa using h2.2
/-- the length of a slice lies within its capacity -/
def capped (v : Value) : Prop := ∀ a n c, v = .slice a n c → n ≤ c ∧ (a = none → c = 0)
theorem and_more {a b c d e : Prop} (h : a ∧ b ∧ c) (h1 : d) (h2 : e) : a ∧ b ∧ c ∧ d ∧ e := ⟨h.1, h.2.1, h.2.2, h1, h2⟩
theorem own_cap {w : World} {B : Nat} {e : TypeId} {size : Nat} {v : Value} {n : Nat} {xs : List Value} (h : w.ownsRow B e size v n xs) : ∀ a c, v = .slice a n c → n ≤ c ∧ (a = none → c = 0) := fun a c e => by
  rcases h.2 with ⟨rfl, h0⟩ | ⟨g, cap, cur, rfl, _, hg, hle, _⟩
  · simp at e
    exact ⟨by omega, fun _ => by omega⟩
  · simp at e
    exact ⟨by omega, fun h => by rw [h] at e; simp at e⟩
/-- append(none, names...) -/
theorem append_names {ops : Array Oper} {rest : List Oper} {o : Oper} {a : Act} {Q : Exit → Act → World → Prop} {w : World} {xv : Value} {ns : List (ByteArray × Int)} (hgd : o.guard = none) (s x : Operand)
    (ho : o.op = .call { callee := .builtin .append, args := #[s, x], argTypes := #[32, 32] }) (hs : a.eval s = .slice none 0 0) (hx : a.eval x = xv)
    (hr : RNs w xv ns) (hlim : ns.length * 24 ≤ 140737488351232)
    (h : ∀ a' c' w', RNs w' (.slice a' ns.length c') ns → (ns.length ≤ c' ∧ (a' = none → c' = 0)) → (∀ g, (Value.slice a' ns.length c').ownBlock = some g → w.heap.size ≤ g) → Below w.heap.size w w' → wpList Try.prog ops Q rest (a.put o.dst (.slice a' ns.length c')) w') : wpList Try.prog ops Q (o :: rest) a w := by
  obtain ⟨i0, hi, hz0, hz1, hz2⟩ := info_parts info46
  obtain ⟨ad, c, rfl, hr⟩ := hr
  have fin : ∀ v' w', w'.ownsRow w.heap.size 46 2 v' ns.length (nsC ns) → w.grownBy w' (Value.slice none 0 0).ownBlock → wpList Try.prog ops Q rest (a.put o.dst v') w' := fun v' w' h1 h2 => by
    obtain ⟨a', c', rfl⟩ := ownForm h1
    exact h a' c' w' (names_of h1) (own_cap h1 _ _ rfl) (fun g hg => (World.ownsRow.lt h1 g hg).1) ((Below.refl _ w).grown h2 (Nat.le_refl _) (fun k hk => by simp [Value.ownBlock] at hk))
  rcases hr with rfl | ⟨b, off, rfl, _, hc⟩
  · cases ad with
    | none =>
      refine wpList_plain hgd fun K hK => ?_
      have hrun : (Builtin.append_ #[32, 32] o.type #[.slice none 0 0, .slice none 0 c]).run Try.prog w = .ok (.slice none 0 0) w := by
        simp [Builtin.append_, run_underlying Try.underlying32, sizeOf, typeInfo, hi, Builtin.lenOf, Builtin.firstCells]
      simp only [List.length_nil] at hx
      unfold Oper.wp
      simp [execOp, ho, resolve, invoke, builtin, hs, hx, hrun, Result.andThen]
      exact hK _ _ (h none 0 w ⟨none, 0, rfl, .inl rfl⟩ ⟨Nat.le_refl _, fun _ => rfl⟩ (fun g hg => by simp [Value.ownBlock] at hg) (Below.refl _ _))
    | some ad =>
      refine wpList_append_own w hgd s x 32 ho w.heap.size 46 i0 _ 2 24 Try.underlying32 hi hz0 hz1 hz2 rfl (by omega) (.slice none 0 0) 0 [] hs (World.ownsRow_nil _ _ _ _) ad 0 c [] hx (by simp) (fun j u hu => by simp at hu) (fun u hu => by cases hu) (by unfold maxLen; omega) (by omega) (Nat.le_refl _) (fun v' w' h1 h2 _ => ?_)
      exact fin v' w' (by simpa [nsC] using h1) h2
  · refine wpList_append_own w hgd s x 32 ho w.heap.size 46 i0 _ 2 24 Try.underlying32 hi hz0 hz1 hz2 rfl (by omega) (.slice none 0 0) 0 [] hs (World.ownsRow_nil _ _ _ _) ⟨b, off, none⟩ ns.length c (nsC ns) hx (nsC_len ns) (fun j u hu => ?_) (fun u hu => ?_) (by unfold maxLen; omega) (by omega) (Nat.le_refl _) (fun v' w' h1 h2 _ => fin v' w' (by simpa using h1) h2)
    · have hj := (List.getElem?_eq_some_iff.1 hu).1
      rw [nsC_len] at hj
      have hadd : (⟨b, off, none⟩ : Addr).add j = ⟨b, off + j, none⟩ := by unfold Addr.add; split <;> simp_all
      obtain ⟨x, hx⟩ : ∃ x, ns[j / 2]? = some x := ⟨_, List.getElem?_eq_getElem (by omega)⟩
      have h1 := hc _ x hx
      have h2 := nsC_get ns _ x hx
      rw [hadd]
      rcases Nat.mod_two_eq_zero_or_one j with e | e
      · have e' : j / 2 * 2 = j := by omega
        rw [e'] at h1 h2
        rw [h1.1, ← h2.1]; exact hu
      · have e' : j / 2 * 2 + 1 = j := by omega
        rw [Nat.add_assoc, e'] at h1
        rw [e'] at h2
        rw [h1.2, ← h2.2]; exact hu
    · simp only [nsC, List.mem_flatMap] at hu
      obtain ⟨x, _, hx⟩ := hu
      simp at hx
      rcases hx with rfl | rfl <;> rfl
theorem RD.lift {S S' : Nat → Prop} {w w' : World} (hs : w.heap.size ≤ w'.heap.size) (hb : ∀ b, b < w.heap.size → w'.heap[b]? = w.heap[b]?) (hS : ∀ b, b < w.heap.size → S' b) {dn : Nat} {ky : Nat → ByteArray} {dv : Nat → T} {y : Value} (h : RD S w dn ky dv y) : RD S' w' dn ky dv y := by
  have h0 : RV S w (.mk 0 0 ByteArray.empty 0 (fun _ => .no) dn ky dv) (.slice none 0 0) y := ⟨⟨none, 0, rfl, .inl rfl⟩, h⟩
  exact (RV.lift hs hb hS _ _ _ h0).2
theorem RD.below {S : Nat → Prop} {w w' : World} {dn : Nat} {ky : Nat → ByteArray} {dv : Nat → T} {y : Value} (h : RD S w dn ky dv y) (hb : Below w.heap.size w w') : RD (fun _ => True) w' dn ky dv y :=
  h.lift hb.size (fun b hlt => hb.block b hlt) (fun _ _ => trivial)
set_option maxHeartbeats 1000000 in
/-- FarPairs: false leaves pairs that are small -/
theorem far14 (dn : Nat) (ky : Nat → ByteArray) (dv : Nat → T) (y : Value) (w : World) (hok : ∀ i, i < dn → (ky i).size ≤ 140737488351232 ∧ (dv i).ok) (hdn : dn ≤ 140737488351232) (hr : RD (fun _ => True) w dn ky dv y) :
    Calls Try.prog 14 #[y] w fun e w' => ∃ r, e = .returned (.bool r) ∧ Below w.heap.size w w' ∧ (r = false → dn ≤ 2147483647 ∧ ∀ i, i < dn → (dv i).small) := by
  have hb0 : Below w.heap.size w (w.alloc (Obj.cells #[.int .i64 0] 52)) := (Below.refl _ _).alloc (Nat.le_refl _) _
  have HR : Hid (RD (fun b => b ≠ w.heap.size) (w.alloc (Obj.cells #[.int .i64 0] 52)) dn ky dv y) := hr.lift hb0.size (fun b hb => hb0.block b hb) (fun b hb => by omega)
  have HP := Lib.hid (fun h1 h2 => pairs31 w.heap.size 0 65520 dn ky dv (fun i _ => value18 (dv i)) y (w.alloc (Obj.cells #[.int .i64 0] 52)) (by omega) (by omega) (by omega) (by omega) hok hdn HR.out h1 h2)
  obtain ⟨a, ca, rfl, -⟩ := hr
  clear hok
  go_enter Try.func14, Try.ntmps14
  go_wp2_with fail
  refine (HP.out (by go_simp) (by go_simp)).mono ?_
  rintro e w1 ⟨r, rfl, hb, _, m', _, h⟩
  have HE : Hid (Below w.heap.size w w1 ∧ (r = false → dn ≤ 2147483647 ∧ ∀ i, i < dn → (dv i).small)) := by
    refine ⟨⟨hb.os, hb.tape, hb.output, Nat.le_trans (by simp) hb.size, fun k hk => ?_⟩, fun hh => (h hh).2.2⟩
    rw [hb.block k (by simp; omega) (by omega), Below.heap_alloc _ _ _ hk]
  clear hb h
  go_wp2
  go_ret
  exact ⟨r, rfl, HE.out⟩
end Go.Proofs.Ytldkecjfjcnkfaa
