import Derived.Test.YthleiochiigddaaXc
namespace Go.Proofs.Ythleiochiigddaa
open Go.RowKit
set_option maxHeartbeats 1000000 in
theorem partT (b v : Int) (s : Value) (l : List UInt8) (part : Int) (w : World) (hr : RB w s l) : Calls Try.prog 7 #[sc b v, s, .int .i64 part] w (QE w (pcL b v l part) (pcE b v l part)) := by
  have HR0 : Hid (RB w s l) := hr
  obtain ⟨a, c, rfl, -, -⟩ := hr
  have HS : Hid (BS (w.alloc (.cells #[.int .i64 b, .int .i64 v] 23)) w.heap.size b v) := heapNew _ _
  have b0 : Below w.heap.size w (w.alloc (.cells #[.int .i64 b, .int .i64 v] 23)) := (Below.refl _ _).alloc (Nat.le_refl _) _
  have HR : Hid (Below w.heap.size w (w.alloc (.cells #[.int .i64 b, .int .i64 v] 23)) ∧ RB (w.alloc (.cells #[.int .i64 b, .int .i64 v] 23)) (.slice a l.length c) l) := ⟨b0, HR0.out.keep b0⟩
  have hl0 := HS.out.c0
  have hl1 := HS.out.c1
  clear b0 HR0
  obtain ⟨len, hlen⟩ : ∃ n, l.length = n := ⟨_, rfl⟩
  have HN : Hid (l.length = len) := hlen
  rw [hlen] at HR ⊢
  clear hlen
  go_enter Try.func7, Try.ntmps7
  go_wp2_with fail
  generalize w.alloc (.cells #[.int .i64 b, .int .i64 v] 23) = w0 at *
  refine (partsT b v len w0).mono ?_
  rintro e w1 ⟨rfl, b1⟩
  have H1 : Hid (Below w.heap.size w w1 ∧ RB w1 (.slice a len c) l) := ⟨HR.out.1.trans (b1.mono HR.out.1.size), HR.out.2.keep b1⟩
  have hl0 := (HS.out.keep b1).c0
  have hl1 := (HS.out.keep b1).c1
  clear b1 HR HS
  rcases pt_three b v len with ⟨e1, e2⟩ | ⟨e1, e2⟩ | ⟨hg, hn1, hn2, e1, e2⟩
  · have HP : Hid (ptE b v l.length = 10) := by rw [HN.out]; exact e2
    rw [e1, e2]
    clear e1 e2
    go_wp2
    go_ret2
    exact QE.no HP.out (by decide) H1.out.1
  · have HP : Hid (ptE b v l.length = 230) := by rw [HN.out]; exact e2
    rw [e1, e2]
    clear e1 e2
    go_wp2
    go_ret2
    exact QE.no HP.out (by decide) H1.out.1
  · have HP : Hid (ptE b v l.length = 0 ∧ ptN b v l.length = cnt b len) := by rw [HN.out]; exact ⟨e2, e1⟩
    have HG : Hid (gd b v = 0) := hg
    have hbd := pw_bd (gd_ok hg)
    rw [e1, e2]
    clear e1 e2 hg
    by_cases h0 : part < 0
    · have q : decide (part < 0) = true := decide_eq_true h0
      go_wp2
      go_ret2
      exact QE.none HP.out.1 (.inl h0) H1.out.1
    have q : decide (part < 0) = false := decide_eq_false h0
    by_cases h1 : cnt b len ≤ part
    · have HQ : Hid (ptN b v l.length ≤ part) := by rw [HP.out.2]; exact h1
      generalize cnt b len = cn at *
      go_wp2
      go_ret2
      exact QE.none HP.out.1 (.inr HQ.out) H1.out.1
    have HQ : Hid (¬ (part < 0 ∨ ptN b v l.length ≤ part)) := show ¬ (part < 0 ∨ ptN b v l.length ≤ part) by rw [HP.out.2]; omega
    have HY := Lib.hid (pc_yes HP.out.1 HQ.out)
    obtain ⟨B, N, k, f, m, rfl, hN, rfl, hf, hfk, hfN, hfm, hm0, hm⟩ := part_num hbd.1 hbd.2 hn1 hn2 (show 0 ≤ part by omega) (show part < cnt b len by omega)
    obtain rfl : len = N := by omega
    obtain ⟨-, hcap, g, o, rfl⟩ := rb_some H1.out.2 (by rw [HN.out]; omega)
    rw [HN.out] at hcap
    have HX : Hid ((pcL (B : Int) v l (k : Int)) = (l.drop f).take m ∧ pcE (B : Int) v l (k : Int) = 0) := by
      refine ⟨?_, HY.out.2⟩
      rw [HY.out.1, Int.toNat_natCast, Int.toNat_natCast, ← hfk]
      exact (take_min l f B m (by rw [HN.out]; exact hm)).symm
    have HL := Lib.hid (lengthT B len k f m (by omega) (by omega) hf hfN hm w1)
    have HB : Hid (RB w1 (.slice (some ⟨g, o + f, Option.none⟩) m (c - f)) ((l.drop f).take m) ∧ ((l.drop f).take m).length ≤ 140737488351232 ∧ ((l.drop f).take m).length = m) := by
      have h9 := H1.out.2
      rw [← HN.out] at h9
      have h8 : ((l.drop f).take m).length = m := cut_len l f m (by rw [HN.out]; exact hfm)
      exact ⟨rb_sub h9 (by rw [HN.out]; exact hfm) hm0, by rw [h8]; omega, h8⟩
    have hw : IntKind.i64.wrap ((k : Int) * B) = f := by rw [hf]; simp [IntKind.wrap, IntKind.bits, IntKind.signed]; omega
    generalize cnt (B : Int) len = cn at *
    have hkc : ¬ cn ≤ (k : Int) := h1
    clear HP HQ HY hm hf hfk h1 h0 hn1 hN
    go_wp2_with fail
    refine HL.out.mono ?_
    rintro e w2 ⟨rfl, rfl⟩
    go_wp2_with fail
    refine (clone _ _ _ HB.out.1 HB.out.2.1).mono ?_
    rintro e w2 ⟨v2, rfl, o2, b2⟩
    obtain ⟨a2, c2, rfl⟩ := o2.form
    have H2 : Hid (QE w (pcL (B : Int) v l (k : Int)) (pcE (B : Int) v l (k : Int)) (.returned (.tuple #[.slice a2 ((l.drop f).take m).length c2, .int .i64 0])) w2) := by
      rw [HX.out.1, HX.out.2]
      exact ⟨a2, c2, rfl, o2.rb, H1.out.1.trans (b2.mono H1.out.1.size)⟩
    clear o2 b2
    generalize ((l.drop f).take m).length = ml at *
    go_wp2
    go_ret2
    exact H2.out
/-- a list of lists of bytes of one's own -/
theorem infoL : (Try.prog.info? 24).map (fun i => (i.zero, i.size, i.bytes)) = some (some (.slice Option.none 0 0), 1, 24) := by kernel_rfl
def LB (G : Nat) (w : World) (v : Value) (n : Nat) (f : Nat → List UInt8) : Prop := ∃ us : List Value, us.length = n ∧ w.ownsRow G 24 1 v n us ∧ ∀ i, i < n → OW G w (us.getD i undef) (f i)
theorem LB.nil (G : Nat) (w : World) (f : Nat → List UInt8) : LB G w (.slice Option.none 0 0) 0 f := ⟨[], rfl, World.ownsRow_nil _ _ _ _, fun i hi => absurd hi (by omega)⟩
theorem LB.form {G : Nat} {w : World} {v : Value} {n : Nat} {f : Nat → List UInt8} (h : LB G w v n f) : ∃ a c, v = .slice a n c := by
  obtain ⟨us, _, h, _⟩ := h
  exact ownsRow_form h
theorem ownsRow_grow {w w' : World} {B e size n : Nat} {v : Value} {xs : List Value} (h : w.ownsRow B e size v n xs) (hb : Below w.heap.size w w') : w'.ownsRow B e size v n xs := by
  refine ⟨h.1, ?_⟩
  rcases h.2 with h1 | ⟨g, cap, cur, h1, h2, h3, h4⟩
  · exact .inl h1
  · exact .inr ⟨g, cap, cur, h1, h2, (hb.block g (Array.getElem?_eq_some_iff.1 h3).1).trans h3, h4⟩
theorem LB.grow {G : Nat} {w w' : World} {v : Value} {n : Nat} {f : Nat → List UInt8} (h : LB G w v n f) (hb : Below w.heap.size w w') : LB G w' v n f := by
  obtain ⟨us, h1, h2, h3⟩ := h
  exact ⟨us, h1, ownsRow_grow h2 hb, fun i hi => (h3 i hi).grow hb⟩
theorem OW.one {B : Nat} {w : World} {v : Value} {l : List UInt8} (h : OW B w v l) : v.oneCell' = true := by
  obtain ⟨a, c, rfl⟩ := h.form
  rfl
/-- l = append(l, p) -/
theorem append_list {ops : Array Oper} {rest : List Oper} {o : Oper} {a : Act} {Q : Exit → Act → World → Prop} {w : World} {G n : Nat} {sv : Value} {f : Nat → List UInt8} (hgd : o.guard = Option.none) (s x : Operand)
    (ho : o.op = .call { callee := .builtin .append, args := #[s, x], argTypes := #[37, 37] }) (hs : a.eval s = sv) (hown : LB G w sv n f) (b : Nat) (u : Value) (hx : a.eval x = .slice (some ⟨b, 0, Option.none⟩) 1 1)
    (hc : w.cell? ⟨b, 0, Option.none⟩ = some u) (hu : OW G w u (f n)) (hB : G ≤ w.heap.size) (hlim : n < 1073741824)
    (h : ∀ v' w', LB G w' v' (n + 1) f → Below G w w' → wpList Try.prog ops Q rest (a.put o.dst v') w') : wpList Try.prog ops Q (o :: rest) a w := by
  obtain ⟨i0, hi, hz0, hz1, hz2⟩ := info_parts infoL
  obtain ⟨us, h1, h2, h3⟩ := hown
  refine wpList_append_own w hgd s x 37 ho G 24 i0 _ 1 24 Try.underlying37 hi hz0 hz1 hz2 rfl (by omega) sv n us hs h2 ⟨b, 0, Option.none⟩ 1 1 [u] hx rfl (fun j y hy => ?_) (fun y hy => ?_) (by unfold maxLen; omega) (by omega) hB (fun v' w' k1 k2 _ => ?_)
  · match j, hy with
    | 0, hy => simp at hy; subst hy; simpa [Addr.add] using hc
  · simp at hy; subst hy; exact hu.one
  · have kb : ∀ {u' : Value} {l' : List UInt8}, OW G w u' l' → OW G w' u' l' := fun {u' l'} hq => by
      refine ⟨hq.1, ?_⟩
      rcases hq.2 with q1 | ⟨g, cap, cur, q1, q2, q3, q4⟩
      · exact .inl q1
      · refine .inr ⟨g, cap, cur, q1, q2, (k2.block g (Array.getElem?_eq_some_iff.1 q3).1 fun e => ?_).trans q3, q4⟩
        obtain ⟨_, cs, hr⟩ := ownsRow_lt h2 g e.symm
        rw [q3] at hr
        simp at hr
    refine h v' w' ⟨us ++ [u], by simp [h1], by simpa using k1, fun i hi => ?_⟩ ((Below.refl G w).grown k2 hB (fun k hk => (World.ownsRow.lt h2 k hk).1))
    by_cases hlt : i < n
    · have := kb (h3 i hlt)
      rw [List.getD_eq_getElem?_getD, List.getElem?_append_left (by omega), ← List.getD_eq_getElem?_getD]
      exact this
    · obtain rfl : n = i := by omega
      rw [List.getD_eq_getElem?_getD, List.getElem?_append_right (by omega), h1]
      simpa using kb hu
end Go.Proofs.Ythleiochiigddaa
