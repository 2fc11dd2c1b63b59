import Derived.Test.YtphehachmgfcaabDoorOnes
namespace Go.Proofs.YtphehachmgfcaabDoor
open Go.RowKit Go.Shelf
theorem on1_ext (l : List UInt8) (n d : Nat) (h : ∀ i, n ≤ i → bit l i = false) : on1 l (n + d) = on1 l n := by
  induction d with
  | zero => rfl
  | succ d ih => rw [← Nat.add_assoc, on1_no (h _ (by omega)), ih]
theorem OZ.form {B : Nat} {w : World} {v : Value} {zs : List Int} (h : OZ B w v zs) : ∃ a c, v = .slice a zs.length c := by
  obtain ⟨a, c, h, _⟩ := h.rz.form
  exact ⟨a, c, h⟩
theorem OZ.grow {B : Nat} {w w' : World} {v : Value} {zs : List Int} (h : OZ B w v zs) (hb : Below w.heap.size w w') : OZ B w' v zs := by
  refine ⟨h.1, ?_⟩
  rcases h.2 with h1 | ⟨g, cap, cur, h1, h2, h3, h4⟩
  · exact .inl h1
  · exact .inr ⟨g, cap, cur, h1, h2, (hb.block g (Array.getElem?_eq_some_iff.1 h3).1).trans h3, h4⟩
theorem OZ.alloc {B : Nat} {w : World} {v : Value} {zs : List Int} (h : OZ B w v zs) (o : Obj) : OZ B (w.alloc o) v zs := h.grow ((Below.refl _ _).alloc (Nat.le_refl _) _)
theorem append_int {ops : Array Oper} {rest : List Oper} {o : Oper} {a : Act} {Q : Exit → Act → World → Prop} {w : World} {B : Nat} {sv : Value} {zs : List Int} (hgd : o.guard = none) (s x : Operand)
    (ho : o.op = .call { callee := .builtin .append, args := #[s, x], argTypes := #[22, 22] }) (hs : a.eval s = sv) (hown : OZ B w sv zs) (b : Nat) (c : Int) (hx : a.eval x = .slice (some ⟨b, 0, none⟩) 1 1)
    (hc : w.cell? ⟨b, 0, none⟩ = some (.int .i64 c)) (hB : B ≤ w.heap.size) (hlim : zs.length < 17592186043904)
    (h : ∀ v' w', OZ B w' v' (zs ++ [c]) → Below B w w' → wpList Tryd.prog ops Q rest (a.put o.dst v') w') : wpList Tryd.prog ops Q (o :: rest) a w := by
  obtain ⟨i0, hi, hz0, hz1, hz2⟩ := info_parts info3
  refine wpList_append_own w hgd s x 22 ho B 3 i0 _ 1 8 Tryd.underlying22 hi hz0 hz1 hz2 rfl (by omega) sv zs.length (zs.map (Value.int .i64)) hs hown ⟨b, 0, none⟩ 1 1 [.int .i64 c] hx rfl (fun j u hu => ?_) (fun u hu => ?_) (by unfold maxLen; omega) (by omega) hB (fun v' w' h1 h2 _ => ?_)
  · match j, hu with
    | 0, hu => simp at hu; subst hu; simpa [Addr.add] using hc
  · simp at hu; subst hu; rfl
  · refine h v' w' ?_ ((Below.refl B w).grown h2 hB (fun k hk => (World.ownsRow.lt hown k hk).1))
    have e : zs.map (Value.int .i64) ++ [Value.int .i64 c] = (zs ++ [c]).map (Value.int .i64) := by simp
    rw [e] at h1
    simpa [OZ] using h1
/-- the set places below k, as numbers -/
def onK (l : List UInt8) (k : Nat) : List Int := (on1 l k).map (fun x => (x.1 : Int))
theorem onK_yes {l : List UInt8} {k : Nat} (h : k < 65536) (hb : bit l k = true) : onK l (k + 1) = onK l k ++ [(k : Int)] := by unfold onK; rw [on1_yes h hb]; simp
theorem onK_no {l : List UInt8} {k : Nat} (hb : bit l k = false) : onK l (k + 1) = onK l k := by unfold onK; rw [on1_no hb]
theorem onK_len (l : List UInt8) (k : Nat) : (onK l k).length ≤ k := by unfold onK; rw [List.length_map]; exact on1_len l k
set_option maxHeartbeats 1000000 in
theorem count14_no (n : Int) (h0 : -9223372036854775808 ≤ n) (h1 : n ≤ 9223372036854775807) (v : Value) (l : List UInt8) (w : World) (hr : RB w v l) (hm : MT w) (hl : l.length ≤ 140737488351232) (hck : ck n l ≠ 0) :
    Calls Tryd.prog 14 #[.int .i64 n, v] w fun e w' => e = .returned (.tuple #[.int .i64 0, .int .i64 (ck n l)]) ∧ Below w.heap.size w w' := by
  have HC : Hid (Calls Tryd.prog 9 #[.int .i64 n, v] w fun e w' => e = .returned (.int .i64 (ck n l)) ∧ ∃ nq, w' = w.drewN nq) := check10 n h0 h1 v l w hr hm hl
  obtain ⟨a, c, rfl, _⟩ := hr
  have hz : (ck n l != 0) = true := by simpa using hck
  clear hck hm
  generalize ck n l = z at *
  go_enter Tryd.func14, Tryd.ntmps14
  go_wp2_with (go_at_call 9; refine HC.out.mono ?_; rintro e w1 ⟨rfl, nq, rfl⟩)
  go_ret2
  exact ⟨rfl, belowDrew _ _⟩
set_option maxHeartbeats 1000000 in
theorem ones13_no (n : Int) (h0 : -9223372036854775808 ≤ n) (h1 : n ≤ 9223372036854775807) (v : Value) (l : List UInt8) (w : World) (hr : RB w v l) (hm : MT w) (hl : l.length ≤ 140737488351232) (hck : ck n l ≠ 0) :
    Calls Tryd.prog 13 #[.int .i64 n, v] w fun e w' => e = .returned (.tuple #[.slice none 0 0, .int .i64 (ck n l)]) ∧ Below w.heap.size w w' := by
  have HC : Hid (Calls Tryd.prog 9 #[.int .i64 n, v] w fun e w' => e = .returned (.int .i64 (ck n l)) ∧ ∃ nq, w' = w.drewN nq) := check10 n h0 h1 v l w hr hm hl
  obtain ⟨a, c, rfl, _⟩ := hr
  have hz : (ck n l != 0) = true := by simpa using hck
  clear hck hm
  generalize ck n l = z at *
  go_enter Tryd.func13, Tryd.ntmps13
  go_wp2_with (go_at_call 9; refine HC.out.mono ?_; rintro e w1 ⟨rfl, nq, rfl⟩)
  go_ret2
  exact ⟨rfl, belowDrew _ _⟩
/-- what Ones answers -/
def ON (n : Int) (l : List UInt8) (zs : List Int) (er : Int) : Prop := (ck n l ≠ 0 ∧ zs = [] ∧ er = ck n l) ∨ (ck n l = 0 ∧ zs = onZ l ∧ er = 0)
theorem ON.unique {n : Int} {l : List UInt8} {zs zs' : List Int} {er er' : Int} (h : ON n l zs er) (h' : ON n l zs' er') : zs = zs' ∧ er = er' := by
  rcases h with ⟨h1, rfl, rfl⟩ | ⟨h1, rfl, rfl⟩
  · rcases h' with ⟨g1, rfl, rfl⟩ | ⟨g1, rfl, rfl⟩
    · exact ⟨rfl, rfl⟩
    · exact absurd g1 h1
  · rcases h' with ⟨g1, rfl, rfl⟩ | ⟨g1, rfl, rfl⟩
    · exact absurd h1 g1
    · exact ⟨rfl, rfl⟩
set_option maxHeartbeats 2000000 in
theorem ones24 (n : Int) (h0 : -9223372036854775808 ≤ n) (h1 : n ≤ 9223372036854775807) (v : Value) (l : List UInt8) (w : World) (hr : RB w v l) (hl : l.length ≤ 140737488351232) :
    Calls Tryd.prog 24 #[.int .i64 n, v] w fun e w' => ∃ v' zs er, e = .returned (.tuple #[v', .int .i64 er]) ∧ OZ w.heap.size w' v' zs ∧ ON n l zs er ∧ Below w.heap.size w w' := by
  have HC : Hid (Calls Tryd.prog 41 #[.int .i64 n, v] w fun e w' => e = .returned (.int .i64 (ck n l)) ∧ ∃ nq, w' = w.drewN nq) := check11 n h0 h1 v l w hr hl
  have HR : Hid (RB w v l) := hr
  obtain ⟨a, c, rfl, _⟩ := hr
  by_cases hck : ck n l = 0
  · obtain ⟨k0, k1, k2, k3⟩ := ck_ok hck
    obtain ⟨m, rfl⟩ := Int.eq_ofNat_of_zero_le k0
    have HCK : Hid (ck m l = 0 ∧ l.length = (m + 7) / 8 ∧ ∀ i, m ≤ i → bit l i = false) := ⟨hck, by simpa using k2, by simpa using k3⟩
    have hm : m ≤ 65536 := by omega
    rw [hck] at HC
    clear k3 k2 hck k0 k1 h0 h1
    go_enter Tryd.func24, Tryd.ntmps24
    go_wp2_with (go_at_call 41; refine HC.out.mono ?_; rintro e w1 ⟨rfl, nq0, rfl⟩)
    refine (open32 _ l _ (HR.out.keep (belowDrew _ _)) (by have := HCK.out.2.1; omega)).mono ?_
    rintro e w2 ⟨v2, rfl, ho, hb2⟩
    obtain ⟨a2, c2, rfl⟩ := ho.form
    have hb : Below w.heap.size w w2 := (belowDrew w nq0).trans hb2
    rw [bl_len] at *
    have HO : Hid (OB w.heap.size w2 (.slice a2 (8 * l.length) c2) (bl l (8 * l.length)) ∧ Below w.heap.size w w2) := ⟨ho, hb⟩
    clear ho hb hb2
    go_wp2
    go_loopw [8, 9] (fun x i wr => ∃ (k : Nat) (a3 : Option Addr) (c3 : Nat), k ≤ m ∧ i = .int .i64 k ∧ x = .slice a3 (onK l k).length c3 ∧ OZ w2.heap.size wr x (onK l k) ∧ Below w2.heap.size w2 wr) (fun _ i _ => m - (intOf i).toNat)
    case atStart => exact ⟨0, none, 0, Nat.zero_le _, rfl, rfl, World.ownsRow_nil _ _ _ _, Below.refl _ _⟩
    case round =>
      obtain ⟨k, a3, c3, hk, rfl, rfl, ho3, hb3⟩ := hrel
      by_cases hlt : k < m
      · have hk8 : k < 8 * l.length := by have := HCK.out.2.1; omega
        obtain ⟨g, rfl, _, hgl, hc, _⟩ := HO.out.1.at k hk8
        rw [lb_bl l _ k hk8] at hc
        have hc3 : wr.cell? ⟨g, k, none⟩ = some (.bool (bit l k)) := (hb3.cell (p := ⟨g, k, none⟩) hgl).trans hc
        have hB := hb3.size
        clear hc
        by_cases hbit : bit l k = true
        · have HS : Hid (onK l (k + 1) = onK l k ++ [(k : Int)] ∧ (onK l k).length ≤ k) := ⟨onK_yes (by omega) hbit, onK_len l k⟩
          have HP : Hid (OZ w2.heap.size wr (.slice a3 (onK l k).length c3) (onK l k) ∧ Below w2.heap.size w2 wr) := ⟨ho3, hb3⟩
          rw [hbit] at hc3
          clear hbit ho3 hb3
          go_wp2_with (at_builtin; refine append_int rfl _ _ rfl rfl (HP.out.1.alloc _) wr.heap.size (k : Int) rfl (by go_simp) (by simp; omega) (by have := HS.out.2; omega) ?_; (intro v' w3 ho' hb'; obtain ⟨a4, c4, rfl⟩ := ho'.form))
          have hlen : (onK l k).length + 1 = (onK l (k + 1)).length := by rw [HS.out.1]; simp
          have ho4 : OZ w2.heap.size w3 (.slice a4 ((onK l k).length + 1) c4) (onK l (k + 1)) := by rw [HS.out.1]; simpa using ho'
          exact ⟨⟨k + 1, a4, c4, by omega, by go_num, by rw [hlen], ho4, (HP.out.2.alloc hB _).trans hb'⟩, by simp [intOf]; omega⟩
        · have hbf : bit l k = false := by simpa using hbit
          rw [hbf] at hc3
          have he := onK_no hbf
          rw [← he] at ho3
          clear hbit hbf
          go_wp2
          exact ⟨⟨k + 1, a3, c3, by omega, by go_num, by rw [he], by rw [← he]; exact ho3, hb3⟩, by simp [intOf]; omega⟩
      · obtain rfl : k = m := by omega
        have hon : onK l k = onZ l := by
          unfold onK onZ
          have h2 := HCK.out
          obtain ⟨d, hd⟩ := Nat.exists_eq_add_of_le (show k ≤ 8 * l.length by omega)
          rw [hd, on1_ext l k d h2.2.2]
        have HP : Hid (OZ w2.heap.size wr (.slice a3 (onK l k).length c3) (onK l k) ∧ Below w2.heap.size w2 wr) := ⟨ho3, hb3⟩
        clear ho3 hb3
        go_wp2
        go_ret2
        exact ⟨_, onK l k, 0, rfl, rowMono HP.out.1 HO.out.2.size, .inr ⟨HCK.out.1, hon, rfl⟩, HO.out.2.trans (HP.out.2.mono HO.out.2.size)⟩
  · have HCK : Hid (ck n l ≠ 0) := hck
    have hz : (ck n l != 0) = true := by simpa using hck
    clear hck
    generalize hzz : ck n l = z at *
    have HZ : Hid (ck n l = z) := hzz
    clear hzz
    go_enter Tryd.func24, Tryd.ntmps24
    go_wp2_with (go_at_call 41; refine HC.out.mono ?_; rintro e w1 ⟨rfl, nq, rfl⟩)
    go_ret2
    exact ⟨_, [], z, rfl, World.ownsRow_nil _ _ _ _, .inl ⟨by rw [HZ.out]; exact HCK.out, rfl, HZ.out.symm⟩, belowDrew _ _⟩
set_option maxHeartbeats 1000000 in
theorem count23R (n : Int) (h0 : -9223372036854775808 ≤ n) (h1 : n ≤ 9223372036854775807) (v : Value) (l : List UInt8) (w : World) (hr : RB w v l) (hl : l.length ≤ 140737488351232) :
    Calls Tryd.prog 23 #[.int .i64 n, v] w fun e w' => ∃ (zs : List Int) (er : Int), e = .returned (.tuple #[.int .i64 ((zs.length : Nat) : Int), .int .i64 er]) ∧ ON n l zs er ∧ Below w.heap.size w w' := by
  have HR : Hid (RB w v l) := hr
  obtain ⟨a, c, rfl, _⟩ := hr
  go_enter Tryd.func23, Tryd.ntmps23
  go_wp2_with (go_at_call 24; refine (ones24 n h0 h1 _ l _ HR.out hl).mono ?_; rintro e w1 ⟨v', zs, er, rfl, ho, hon, hb⟩; obtain ⟨a', c', rfl⟩ := ho.form)
  go_ret2
  exact ⟨zs, er, rfl, hon, hb⟩
theorem onZ_len (l : List UInt8) (h : l.length ≤ 8192) : (onZ l).length ≤ 65536 := by
  unfold onZ; rw [List.length_map]; exact Nat.le_trans (on1_len _ _) (by omega)
set_option maxHeartbeats 2000000 in
theorem counts6 (n : Int) (h0 : -9223372036854775808 ≤ n) (h1 : n ≤ 9223372036854775807) (v : Value) (l : List UInt8) (w : World) (hr : RB w v l) (hm : MT w) (hl : l.length ≤ 140737488351232) :
    Calls Tryd.prog 6 #[.int .i64 n, v] w fun e w' => e = .returned (.bool true) ∧ Below w.heap.size w w' := by
  have HR : Hid (RB w v l ∧ MT w) := ⟨hr, hm⟩
  clear hm
  obtain ⟨a, c, rfl, _⟩ := hr
  obtain ⟨zs, er, HZ, hzl⟩ : ∃ zs er, Hid (ON n l zs er) ∧ zs.length ≤ 65536 := by
    by_cases h : ck n l = 0
    · exact ⟨onZ l, 0, .inr ⟨h, rfl, rfl⟩, onZ_len l (by have := ck_ok h; omega)⟩
    · exact ⟨[], ck n l, .inl ⟨h, rfl, rfl⟩, by simp⟩
  have HCnt : Hid (∀ (v : Value) (w : World), RB w v l → MT w → Calls Tryd.prog 14 #[.int .i64 n, v] w fun e w' => e = .returned (.tuple #[.int .i64 ((zs.length : Nat) : Int), .int .i64 er]) ∧ Below w.heap.size w w') := fun v w hr hm => by
    rcases HZ.out with ⟨h, rfl, rfl⟩ | ⟨h, rfl, rfl⟩
    · exact count14_no n h0 h1 v l w hr hm hl h
    · have := count23 n h0 h1 v l w hr hm hl h
      unfold onZ; rw [List.length_map]; exact this
  have HOne : Hid (∀ (v : Value) (w : World), RB w v l → MT w → Calls Tryd.prog 13 #[.int .i64 n, v] w fun e w' => ∃ v', e = .returned (.tuple #[v', .int .i64 er]) ∧ OZ w.heap.size w' v' zs ∧ Below w.heap.size w w') := fun v w hr hm => by
    rcases HZ.out with ⟨h, rfl, rfl⟩ | ⟨h, rfl, rfl⟩
    · refine (ones13_no n h0 h1 v l w hr hm hl h).mono ?_
      rintro e w' ⟨rfl, hb⟩
      exact ⟨_, rfl, World.ownsRow_nil _ _ _ _, hb⟩
    · exact ones13 n h0 h1 v l w hr hm hl h
  go_enter Tryd.func6, Tryd.ntmps6
  go_wp2_with (go_at_call 16; refine (copied9 HR.out.1 hl).mono ?_; rintro e w1 ⟨v1, rfl, ho, hb1⟩; obtain ⟨a1, c1, rfl⟩ := ho.form)
  have H1 : Hid (RB w1 (.slice a1 l.length c1) l ∧ RB w1 (.slice a l.length c) l ∧ MT w1 ∧ Below w.heap.size w w1) := ⟨ho.rb, HR.out.1.keep hb1, HR.out.2.keep hb1, hb1⟩
  clear ho hb1 HR
  go_wp2_with (go_at_call 14; refine (HCnt.out _ _ H1.out.1 H1.out.2.2.1).mono ?_; rintro e w2 ⟨rfl, hb2⟩)
  have H2 : Hid (RB w2 (.slice a1 l.length c1) l ∧ RB w2 (.slice a l.length c) l ∧ MT w2 ∧ Below w.heap.size w w2) := ⟨H1.out.1.keep hb2, H1.out.2.1.keep hb2, H1.out.2.2.1.keep hb2, H1.out.2.2.2.trans (hb2.mono H1.out.2.2.2.size)⟩
  clear hb2 H1
  go_wp2_with (go_at_call 23; refine (count23R n h0 h1 _ l _ H2.out.2.1 hl).mono ?_; rintro e w3 ⟨zs3, er3, rfl, hon, hb3⟩; obtain ⟨rfl, rfl⟩ := ON.unique HZ.out hon; clear hon)
  have H3 : Hid (RB w3 (.slice a1 l.length c1) l ∧ RB w3 (.slice a l.length c) l ∧ MT w3 ∧ Below w.heap.size w w3) := ⟨H2.out.1.keep hb3, H2.out.2.1.keep hb3, H2.out.2.2.1.keep hb3, H2.out.2.2.2.trans (hb3.mono H2.out.2.2.2.size)⟩
  clear hb3 H2
  refine (same12 _ _ l _ hl H3.out.1 H3.out.2.1).mono ?_
  rintro e w4 ⟨rfl, nq, rfl⟩
  go_wp2_with (go_at_call 13; refine (HOne.out _ _ (H3.out.1.keep (belowDrew _ _)) (H3.out.2.2.1.keep (belowDrew _ _))).mono ?_; rintro e w5 ⟨v5, rfl, ho5, hb5⟩; obtain ⟨a5, c5, rfl⟩ := ho5.form)
  have hb35 : Below w3.heap.size w3 w5 := (belowDrew w3 nq).trans hb5
  have H5 : Hid (RB w5 (.slice a1 l.length c1) l ∧ RB w5 (.slice a l.length c) l ∧ RZ w5 (.slice a5 zs.length c5) zs ∧ Below w.heap.size w w5) := ⟨H3.out.1.keep hb35, H3.out.2.1.keep hb35, ho5.rz, H3.out.2.2.2.trans (hb35.mono H3.out.2.2.2.size)⟩
  clear hb35 hb5 ho5 H3
  go_wp2_with (go_at_call 24; refine (ones24 n h0 h1 _ l _ H5.out.2.1 hl).mono ?_; rintro e w6 ⟨v6, zs6, er6, rfl, ho6, hon6, hb6⟩; obtain ⟨rfl, rfl⟩ := ON.unique HZ.out hon6; clear hon6; obtain ⟨a6, c6, rfl⟩ := ho6.form)
  have H6 : Hid (RB w6 (.slice a1 l.length c1) l ∧ RB w6 (.slice a l.length c) l ∧ RZ w6 (.slice a5 zs.length c5) zs ∧ RZ w6 (.slice a6 zs.length c6) zs ∧ Below w.heap.size w w6) := ⟨H5.out.1.keep hb6, H5.out.2.1.keep hb6, H5.out.2.2.1.keep hb6, ho6.rz, H5.out.2.2.2.trans (hb6.mono H5.out.2.2.2.size)⟩
  clear hb6 ho6 H5
  refine (same19 _ _ zs _ (by omega) H6.out.2.2.1 H6.out.2.2.2.1).mono ?_
  rintro e w7 ⟨rfl, nq7, rfl⟩
  go_wp2_with (go_at_call 15; refine (same12 _ _ l _ hl (H6.out.1.keep (belowDrew _ _)) (H6.out.2.1.keep (belowDrew _ _))).mono ?_; rintro e w8 ⟨rfl, nq8, rfl⟩)
  go_ret
  exact ⟨rfl, belowN H6.out.2.2.2.2 _⟩
end Go.Proofs.YtphehachmgfcaabDoor
