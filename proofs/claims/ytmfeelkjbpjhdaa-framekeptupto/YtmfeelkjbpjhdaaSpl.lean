import Derived.Test.YtmfeelkjbpjhdaaPushW
namespace Go.Proofs.Ytmfeelkjbpjhdaa
open Go.RowKit
/-- a list of lists that is read -/
def RBS (w : World) (v : Value) (bs : List (List UInt8)) : Prop :=
  ∃ a c, v = .slice a bs.length c ∧ bs.length ≤ c ∧ (bs = [] ∨ ∃ g o, a = some ⟨g, o, none⟩ ∧ g < w.heap.size ∧ ∀ i, i < bs.length → ∃ u, w.cell? ⟨g, o + i, none⟩ = some u ∧ RB w u (bs.getD i []))
theorem RBS.keep {w w' : World} {v : Value} {bs : List (List UInt8)} (h : RBS w v bs) (hb : Below w.heap.size w w') : RBS w' v bs := by
  obtain ⟨a, c, rfl, hle, h⟩ := h
  refine ⟨a, c, rfl, hle, ?_⟩
  rcases h with h | ⟨g, o, h1, h2, h3⟩
  · exact .inl h
  · refine .inr ⟨g, o, h1, Nat.lt_of_lt_of_le h2 hb.size, fun i hi => ?_⟩
    obtain ⟨u, h4, h5⟩ := h3 i hi
    exact ⟨u, (World.cell?_of_block (w := w) (hb.block g h2)).trans h4, h5.keep hb⟩
theorem drewN2 (w : World) (n m : Nat) : (w.drewN n).drewN m = w.drewN (n + m) := by simp [World.drewN, Nat.add_assoc]
theorem RBS.nil (w : World) (a : Option Addr) (c : Nat) : RBS w (.slice a 0 c) [] := ⟨a, c, rfl, Nat.zero_le _, .inl rfl⟩
theorem row_rbs {w : World} {B : Nat} {v : Value} {bs : List (List UInt8)} {us : List Value} (h : w.ownsRow B 28 1 v bs.length us) (hu : us.length = bs.length) (hr : ∀ i, i < bs.length → RB w (us.getD i undef) (bs.getD i [])) : RBS w v bs := by
  have h' := h
  rcases h.2 with ⟨rfl, h0⟩ | ⟨g, cap, cur, rfl, _, hg, hle, _⟩
  · have : bs = [] := List.length_eq_zero_iff.1 h0
    subst this; exact RBS.nil _ _ _
  · refine ⟨_, cap, rfl, hle, .inr ⟨g, 0, rfl, (Array.getElem?_eq_some_iff.1 hg).1, fun i hi => ⟨us.getD i undef, ?_, hr i hi⟩⟩⟩
    have := World.ownsRow.cellAt h' i (by omega)
    rw [Nat.zero_add, this]
    simp [List.getElem?_eq_getElem (show i < us.length by omega)]
theorem BK.rb {S : Nat → Prop} {w : World} {u : Value} {l : List UInt8} (h : BK S w u l) : RB w u l := by
  obtain ⟨g, _, rfl, h3⟩ := h
  exact rb_block h3 _ rfl
theorem OB.rbs {B : Nat} {S : Nat → Prop} {w : World} {v : Value} {bs : List (List UInt8)} (h : OB B S w v bs) : RBS w v bs := by
  obtain ⟨us, h1, h2, h3⟩ := h
  exact row_rbs h2 h1.1 (fun i hi => (h3 i hi).rb)
set_option maxHeartbeats 1000000 in
theorem sameBodies (v1 v2 : Value) (bs : List (List UInt8)) (w : World) (hl : bs.length ≤ 140737488351232) (hb : ∀ b ∈ bs, b.length ≤ 140737488351232) (h1 : RBS w v1 bs) (h2 : RBS w v2 bs) :
    Calls Try.prog 15 #[v1, v2] w fun e w' => e = .returned (.bool true) ∧ ∃ n, w' = w.drewN n := by
  have HH : Hid (RBS w v1 bs ∧ RBS w v2 bs ∧ ∀ b ∈ bs, b.length ≤ 140737488351232) := ⟨h1, h2, hb⟩
  obtain ⟨a1, c1, rfl, _, h1⟩ := h1
  obtain ⟨a2, c2, rfl, _, h2⟩ := h2
  clear h1 h2 hb
  go_enter Try.func15, Try.ntmps15
  go_wp2
  go_loopw [5] (fun i wr => ∃ k nq : Nat, k ≤ bs.length ∧ i = .int .i64 k ∧ wr = w.drewN nq) (fun i _ => bs.length - (intOf i).toNat)
  case atStart => exact ⟨0, 0, Nat.zero_le _, rfl, rfl⟩
  case round =>
    obtain ⟨k, nq, hk, rfl, hw⟩ := hrel
    by_cases hlt : k < bs.length
    · obtain ⟨hr1, hr2, hb⟩ := HH.out
      obtain ⟨_, _, e1, _, h1⟩ := hr1
      obtain ⟨_, _, e2, _, h2⟩ := hr2
      simp only [Value.slice.injEq] at e1 e2
      obtain ⟨rfl, _, rfl⟩ := e1
      obtain ⟨rfl, _, rfl⟩ := e2
      rcases h1 with h | ⟨g1, o1, rfl, _, h1⟩
      · rw [h] at hlt; simp at hlt
      rcases h2 with h | ⟨g2, o2, rfl, _, h2⟩
      · rw [h] at hlt; simp at hlt
      obtain ⟨u1, k1, r1⟩ := h1 k hlt
      obtain ⟨u2, k2, r2⟩ := h2 k hlt
      have hbk : (bs.getD k []).length ≤ 140737488351232 := hb _ (by simp [List.getD, List.getElem?_eq_getElem hlt])
      have SM : Hid (∀ n, Calls Try.prog 6 #[u1, u2] (wr.drewN n) fun e w' => e = .returned (.bool true) ∧ ∃ m, w' = wr.drewN m) := fun n => by
        subst hw
        refine (same u1 u2 _ ((w.drewN nq).drewN n) hbk (r1.keep (belowDrew _ _) |>.keep (belowDrew _ _)) (r2.keep (belowDrew _ _) |>.keep (belowDrew _ _))).mono ?_
        rintro e w' ⟨rfl, m, rfl⟩
        exact ⟨rfl, n + m, drewN2 _ _ _⟩
      have q1 : wr.cell? ⟨g1, o1 + k, none⟩ = some u1 := by rw [hw]; exact k1
      have q2 : wr.cell? ⟨g2, o2 + k, none⟩ = some u2 := by rw [hw]; exact k2
      obtain ⟨x1, y1, z1, rfl⟩ : ∃ a n c, u1 = .slice a n c := by obtain ⟨a, c, e, _⟩ := r1; exact ⟨a, _, c, e⟩
      obtain ⟨x2, y2, z2, rfl⟩ : ∃ a n c, u2 = .slice a n c := by obtain ⟨a, c, e, _⟩ := r2; exact ⟨a, _, c, e⟩
      have HW : Hid (wr = w.drewN nq) := hw
      clear h1 h2 k1 k2 r1 r2 hb hbk hw HH
      go_wp2
      go_quiet ((go_at_call 6; exact SM.out _))
      go_wp2
      go_roundw
      case rel => exact ⟨k + 1, _, by omega, by go_num, by rw [HW.out]; exact drewN2 _ _ _⟩
      case measure => simp [intOf]; omega
    · subst hw
      go_wp2
      go_ret
      exact ⟨rfl, nq, rfl⟩
/-- a list of own lists -/
def OR (B : Nat) (w : World) (v : Value) (bs : List (List UInt8)) : Prop := ∃ us : List Value, us.length = bs.length ∧ w.ownsRow B 28 1 v bs.length us ∧ ∀ i, i < bs.length → OW B w (us.getD i undef) (bs.getD i [])
theorem OR.rbs {B : Nat} {w : World} {v : Value} {bs : List (List UInt8)} (h : OR B w v bs) : RBS w v bs := by
  obtain ⟨us, h1, h2, h3⟩ := h
  exact row_rbs h2 h1 (fun i hi => (h3 i hi).rb)
theorem OR.nil (B : Nat) (w : World) : OR B w (.slice none 0 0) [] := ⟨[], rfl, World.ownsRow_nil _ _ _ _, fun i h => by simp at h⟩
theorem OR.form {B : Nat} {w : World} {v : Value} {bs : List (List UInt8)} (h : OR B w v bs) : ∃ a c, v = .slice a bs.length c := by
  obtain ⟨a, c, e, _⟩ := h.rbs
  exact ⟨a, c, e⟩
theorem OR.keep {B : Nat} {w w' : World} {v : Value} {bs : List (List UInt8)} (h : OR B w v bs) (hb : ∀ k, B ≤ k → k < w.heap.size → w'.heap[k]? = w.heap[k]?) : OR B w' v bs := by
  obtain ⟨us, h1, h2, h3⟩ := h
  exact ⟨us, h1, ownsRow_keep h2 hb, fun i hi => ownsRow_keep (h3 i hi) hb⟩
/-- append(bodies, body) where the body is a list of its own -/
theorem append_own {ops : Array Oper} {rest : List Oper} {o : Oper} {a : Act} {Q : Exit → Act → World → Prop} {w : World} {B : Nat} {sv : Value} {bs : List (List UInt8)} (hgd : o.guard = none) (s x : Operand)
    (ho : o.op = .call { callee := .builtin .append, args := #[s, x], argTypes := #[26, 26] }) (hs : a.eval s = sv) (hown : OR B w sv bs) (b : Nat) (u : Value) (l : List UInt8) (hx : a.eval x = .slice (some ⟨b, 0, none⟩) 1 1)
    (hc : w.cell? ⟨b, 0, none⟩ = some u) (hu : OW B w u l) (hB : B ≤ w.heap.size) (hlim : bs.length < 1073741824)
    (h : ∀ v' w', OR B w' v' (bs ++ [l]) → Below B w w' → wpList Try.prog ops Q rest (a.put o.dst v') w') : wpList Try.prog ops Q (o :: rest) a w := by
  obtain ⟨i0, hi, hz0, hz1, hz2⟩ := info_parts infoB
  obtain ⟨us, h1, h2, h3⟩ := hown
  refine wpList_append_own w hgd s x 26 ho B 28 i0 _ 1 24 Try.underlying26 hi hz0 hz1 hz2 rfl (by omega) sv bs.length us hs h2 ⟨b, 0, none⟩ 1 1 [u] hx rfl (fun j y hy => ?_) (fun y hy => ?_) (by unfold maxLen; omega) (by omega) hB (fun v' w' k1 k2 _ => ?_)
  · match j, hy with
    | 0, hy => simp at hy; subst hy; simpa [Addr.add] using hc
  · simp at hy; subst hy
    obtain ⟨a, c, e⟩ := hu.form
    rw [e]; rfl
  · refine h v' w' ⟨us ++ [u], by simp [h1], by simpa using k1, fun i hi => ?_⟩ ((Below.refl B w).grown k2 hB (fun k hk => (World.ownsRow.lt h2 k hk).1))
    have kb : ∀ {u : Value} {l : List UInt8}, OW B w u l → OW B w' u l := fun h => ownsRow_keep2 (e2 := 28) h k2 (row_of h2) (by decide)
    rw [List.length_append, List.length_singleton] at hi
    by_cases hlt : i < bs.length
    · have := kb (h3 i hlt)
      rw [List.getD_eq_getElem?_getD, List.getD_eq_getElem?_getD, List.getElem?_append_left (by omega), List.getElem?_append_left (by omega), ← List.getD_eq_getElem?_getD, ← List.getD_eq_getElem?_getD]
      exact this
    · have hi' : i = bs.length := by omega
      subst hi'
      have := kb hu
      rw [List.getD_eq_getElem?_getD, List.getD_eq_getElem?_getD, List.getElem?_append_right (by omega), List.getElem?_append_right (by omega)]
      simpa [h1] using this
theorem RB.cut {w : World} {a : Option Addr} {c m n : Nat} {l : List UInt8} (h : RB w (.slice a l.length c) l) (h1 : m ≤ n) (h2 : n ≤ l.length) : RB w (.slice (if c = m then a else a.map (·.add m)) (n - m) (c - m)) ((l.drop m).take (n - m)) := by
  have hle := h.le
  have hd := (RN.of_rb h).drop (m := m) (by omega)
  have e : l.length - m = (l.drop m).length := by rw [List.length_drop]
  rw [e] at hd
  exact hd.rb.take (n - m) (by rw [List.length_drop]; omega)
end Go.Proofs.Ytmfeelkjbpjhdaa
