import Derived.Test.YtmfbhihjiebagaaDoorPb
namespace Go.Proofs.YtmfbhihjiebagaaDoor
open Go.Shelf Go.RowKit Go.Deep
/-- runs that the call owns -/
def OR (B : Nat) (w : World) (v : Value) (rs : List (Int × Int)) : Prop := w.ownsRow B 48 2 v rs.length (rsC rs)
theorem OR.form {B : Nat} {w : World} {v : Value} {rs : List (Int × Int)} (h : OR B w v rs) : ∃ a c, v = .slice a rs.length c := ownForm h
theorem OR.rr {B : Nat} {w : World} {v : Value} {rs : List (Int × Int)} (h : OR B w v rs) : RR (fun b => B ≤ b) w v rs := runs_of h
theorem OR.grow {B : Nat} {w w' : World} {v : Value} {rs : List (Int × Int)} (h : OR B w v rs) (hb : Below w.heap.size w w') : OR B w' v rs := by
  refine ⟨h.1, ?_⟩
  rcases h.2 with h1 | ⟨g, cap, cur, h1, h2, h3, h4⟩
  · exact .inl h1
  · exact .inr ⟨g, cap, cur, h1, h2, (hb.block g (Array.getElem?_eq_some_iff.1 h3).1).trans h3, h4⟩
theorem OR.alloc {B : Nat} {w : World} {v : Value} {rs : List (Int × Int)} (h : OR B w v rs) (o : Obj) : OR B (w.alloc o) v rs := h.grow ((Below.refl _ _).alloc (Nat.le_refl _) _)
theorem append_run {ops : Array Oper} {rest : List Oper} {o : Oper} {a : Act} {Q : Exit → Act → World → Prop} {w : World} {B : Nat} {sv : Value} {rs : List (Int × Int)} (hgd : o.guard = none) (s x : Operand)
    (ho : o.op = .call { callee := .builtin .append, args := #[s, x], argTypes := #[25, 25] }) (hs : a.eval s = sv) (hown : OR B w sv rs) (b : Nat) (y : Int × Int) (hx : a.eval x = .slice (some ⟨b, 0, none⟩) 1 1)
    (hc0 : w.cell? ⟨b, 0, none⟩ = some (.int .i64 y.1)) (hc1 : w.cell? ⟨b, 1, none⟩ = some (.int .i64 y.2)) (hB : B ≤ w.heap.size) (hlim : rs.length < 2147483647)
    (h : ∀ v' w', OR B w' v' (rs ++ [y]) → Below B w w' → wpList Tryd.prog ops Q rest (a.put o.dst v') w') : wpList Tryd.prog ops Q (o :: rest) a w := by
  obtain ⟨i0, hi, hz0, hz1, hz2⟩ := info_parts infoRng
  refine wpList_append_own w hgd s x 25 ho B 48 i0 _ 2 16 Tryd.underlying25 hi hz0 hz1 hz2 rfl (by omega) sv rs.length (rsC rs) hs hown ⟨b, 0, none⟩ 1 1 [.int .i64 y.1, .int .i64 y.2] hx rfl (fun j u hu => ?_) (fun u hu => ?_) (by unfold maxLen; omega) (by omega) hB (fun v' w' h1 h2 _ => ?_)
  · match j, hu with
    | 0, hu => simp at hu; subst hu; simpa [Addr.add] using hc0
    | 1, hu => simp at hu; subst hu; simpa [Addr.add] using hc1
  · simp at hu; rcases hu with rfl | rfl <;> rfl
  · refine h v' w' ?_ ((Below.refl B w).grown h2 hB (fun k hk => (World.ownsRow.lt hown k hk).1))
    have e : rsC rs ++ [Value.int .i64 y.1, Value.int .i64 y.2] = rsC (rs ++ [y]) := by simp [rsC]
    rw [e] at h1
    have e2 : rs.length + 1 = (rs ++ [y]).length := by simp
    rw [e2] at h1
    exact h1
theorem numGo_le : ∀ (f : Nat) (l : List UInt8) (n c : Nat), c ≤ (numGo f l n c).2 ∧ (numGo f l n c).2 ≤ c + l.length
  | 0, l, n, c => ⟨Nat.le_refl _, Nat.le_add_right _ _⟩
  | f + 1, [], n, c => ⟨Nat.le_refl _, Nat.le_refl _⟩
  | f + 1, x :: r, n, c => by
    rw [numGo]
    split
    · have := numGo_le f r (10 * n + (x.toNat - 48)) (c + 1)
      simp only [List.length_cons]
      omega
    · simp
theorem numR_ok {l : List UInt8} {n c : Nat} (h : numR l = some (n, c)) : n < 4096 ∧ 1 ≤ c ∧ c ≤ l.length := by
  unfold numR at h
  split at h
  · cases h
  · rename_i h1
    have h2 := numGo_le 5 l 0 0
    have h3 := Option.some.inj h
    rw [h3] at h1 h2
    simp only at h1 h2
    omega
/-- a run that a text begins with: its first place, how many, how many bytes stand for it -/
def nrun (l : List UInt8) : Option (Nat × Nat × Nat) :=
  match numR l with
  | none => none
  | some (a, c) => if c < l.length ∧ l.getD c 0 = 45 then (match numR (l.drop (c + 1)) with | none => none | some (b, c2) => if b ≤ a then none else some (a, b - a + 1, c + 1 + c2)) else some (a, 1, c)
def runsR : Nat → List UInt8 → List (Int × Int) → Option (List (Int × Int))
  | 0, _, _ => none
  | f + 1, l, acc =>
    match nrun l with
    | none => none
    | some (a, m, c) => if c = l.length then some (acc ++ [((a : Int), (m : Int))]) else if l.getD c 0 = 44 then runsR f (l.drop (c + 1)) (acc ++ [((a : Int), (m : Int))]) else none
theorem runsR_no {f : Nat} {l : List UInt8} {acc : List (Int × Int)} (h : nrun l = none) : runsR (f + 1) l acc = none := by rw [runsR, h]
theorem runsR_end {f : Nat} {l : List UInt8} {acc : List (Int × Int)} {a m c : Nat} (h : nrun l = some (a, m, c)) (hc : c = l.length) : runsR (f + 1) l acc = some (acc ++ [((a : Int), (m : Int))]) := by rw [runsR, h]; exact if_pos hc
theorem runsR_bad {f : Nat} {l : List UInt8} {acc : List (Int × Int)} {a m c : Nat} (h : nrun l = some (a, m, c)) (hc : c ≠ l.length) (hx : l.getD c 0 ≠ 44) : runsR (f + 1) l acc = none := by
  rw [runsR, h]; show (if _ then _ else if _ then _ else none) = none; rw [if_neg hc, if_neg hx]
theorem runsR_go {f : Nat} {l : List UInt8} {acc : List (Int × Int)} {a m c : Nat} (h : nrun l = some (a, m, c)) (hc : c ≠ l.length) (hx : l.getD c 0 = 44) : runsR (f + 1) l acc = runsR f (l.drop (c + 1)) (acc ++ [((a : Int), (m : Int))]) := by
  rw [runsR, h]; show (if _ then _ else if _ then _ else none) = _; rw [if_neg hc, if_pos hx]
def RRes (B : Nat) (l : List UInt8) (v : Value) (bb : Bool) (w' : World) : Prop :=
  (runsR (l.length + 1) l [] = none ∧ v = .slice none 0 0 ∧ bb = false) ∨ ∃ rs, runsR (l.length + 1) l [] = some rs ∧ bb = true ∧ OR B w' v rs ∧ rs.length ≤ 4097
set_option maxHeartbeats 2000000 in
set_option maxRecDepth 100000 in
theorem rruns (s : ByteArray) (w : World) (hs : s.size ≤ 4096) :
    Calls Tryd.prog 43 #[.string s] w fun e w' => ∃ v bb, e = .returned (.tuple #[v, .bool bb]) ∧ RRes w.heap.size s.data.toList v bb w' ∧ Below w.heap.size w w' := by
  have HZ : Hid (s.data.toList.length = s.size) := (by simp : s.data.toList.length = s.size)
  go_enter Tryd.func43, Tryd.ntmps43
  go_wp2
  go_loopw [4, 5] (fun v t wr => ∃ (i n : Nat) (a : Option Addr) (c : Nat), i ≤ s.size ∧ t = .int .i64 i ∧ v = .slice a n c ∧ Hid (∃ acc f, acc.length = n ∧ n ≤ i ∧ s.size - i < f ∧ runsR (s.data.toList.length + 1) s.data.toList [] = runsR f (s.data.toList.drop i) acc ∧ OR w.heap.size wr v acc) ∧ Hid (Below w.heap.size w wr)) (fun _ t _ => s.size - (intOf t).toNat)
  case atStart => exact ⟨0, 0, none, 0, Nat.zero_le _, rfl, rfl, (⟨[], s.data.toList.length + 1, rfl, Nat.le_refl _, by have := HZ.out; omega, rfl, World.ownsRow_nil _ _ _ _⟩ : ∃ (acc : List (Int × Int)) (f : Nat), acc.length = 0 ∧ 0 ≤ 0 ∧ s.size - 0 < f ∧ runsR (s.data.toList.length + 1) s.data.toList [] = runsR f (s.data.toList.drop 0) acc ∧ OR w.heap.size _ _ acc), (Below.refl _ _ : Below w.heap.size w _)⟩
  case round =>
    obtain ⟨i, n, la, lc, hi, rfl, rfl, hh, hbel⟩ := hrel
    obtain ⟨acc, f0, ha, hni, hf, hu, how⟩ := hh.out
    obtain ⟨f, rfl⟩ : ∃ f, f0 = f + 1 := ⟨f0 - 1, by omega⟩
    have HI : Hid (acc.length = n ∧ s.size - i < f + 1 ∧ runsR (s.data.toList.length + 1) s.data.toList [] = runsR (f + 1) (s.data.toList.drop i) acc) := ⟨ha, hf, hu⟩
    have HO : Hid (OR w.heap.size wr (.slice la n lc) acc) := how
    clear hh ha hf hu how
    have hzz := HZ.out
    go_wp2_with fail
    refine (rnumber s i _ hi (by omega)).mono ?_
    rintro e w1 ⟨rfl, rfl⟩
    cases hn1 : numR (s.data.toList.drop i) with
    | none =>
      have h1 : nmN s.data.toList i = 0 := by rw [nmN, hn1]
      have h2 : nmK s.data.toList i = -1 := by rw [nmK, hn1]
      rw [h1, h2]
      have HR : Hid (RRes w.heap.size s.data.toList (.slice none 0 0) false w1) := .inl ⟨by rw [HI.out.2.2]; exact runsR_no (by rw [nrun, hn1]), rfl, rfl⟩
      clear HI HO
      go_wp2
      go_ret2
      exact ⟨_, _, rfl, HR.out, hbel.out⟩
    | some q =>
      obtain ⟨a0, c⟩ := q
      obtain ⟨q1, q2, q3⟩ := numR_ok hn1
      rw [List.length_drop, hzz] at q3
      have h1 : nmN s.data.toList i = (a0 : Int) := by rw [nmN, hn1]
      have h2 : nmK s.data.toList i = ((i + c : Nat) : Int) := by rw [nmK, hn1]
      rw [h1, h2]
      obtain ⟨k, hk⟩ : ∃ k, k = i + c := ⟨_, rfl⟩
      rw [← hk]
      have HKR : Hid (k = i + c) := hk
      have hkb : k ≤ s.size := by omega
      have hki : i < k := by omega
      clear hk
      by_cases hdash : ∃ h : k < s.size, s[k] = 45
      · obtain ⟨hkl, hd⟩ := hdash
        have hxk := index_s s k hkl (k : Int) rfl
        rw [hd] at hxk
        have hkl' : (k : Int) < (s.size : Int) := by omega
        have HG0 : Hid (c < (s.data.toList.drop i).length ∧ (s.data.toList.drop i).getD c 0 = 45) := (⟨by have := HKR.out; rw [List.length_drop, hzz]; omega, by rw [drop_getD, ← HKR.out, bgetD s k hkl, hd]⟩ : c < (s.data.toList.drop i).length ∧ (s.data.toList.drop i).getD c 0 = 45)
        have HDD : Hid ((s.data.toList.drop i).drop (c + 1) = s.data.toList.drop (k + 1)) := (by have := HKR.out; rw [List.drop_drop]; congr 1; omega : (s.data.toList.drop i).drop (c + 1) = s.data.toList.drop (k + 1))
        have HC2 : Hid (Calls Tryd.prog 54 #[.string s, .int .i64 ((k : Int) + 1)] w1 fun e w' => e = .returned (.tuple #[.int .i64 (nmN s.data.toList (k + 1)), .int .i64 (nmK s.data.toList (k + 1))]) ∧ w' = w1) := by
          have h9 := rnumber s (k + 1) w1 (by omega) (by omega)
          rw [show ((k + 1 : Nat) : Int) = (k : Int) + 1 by omega] at h9
          exact h9
        go_wp2_with fail
        refine HC2.out.mono ?_
        rintro e w2 ⟨rfl, rfl⟩
        clear HC2
        cases hn2 : numR (s.data.toList.drop (k + 1)) with
        | none =>
          have g1 : nmN s.data.toList (k + 1) = 0 := by rw [nmN, hn2]
          have g2 : nmK s.data.toList (k + 1) = -1 := by rw [nmK, hn2]
          rw [g1, g2]
          have HR : Hid (RRes w.heap.size s.data.toList (.slice none 0 0) false w2) := .inl ⟨by rw [HI.out.2.2]; exact runsR_no (by rw [nrun, hn1]; show (if _ then _ else _) = none; rw [if_pos HG0.out, HDD.out, hn2]), rfl, rfl⟩
          clear HI HO HG0 HDD
          go_wp2
          go_ret2
          exact ⟨_, _, rfl, HR.out, hbel.out⟩
        | some q =>
          obtain ⟨b0, c2⟩ := q
          obtain ⟨p1, p2, p3⟩ := numR_ok hn2
          rw [List.length_drop, hzz] at p3
          have g1 : nmN s.data.toList (k + 1) = (b0 : Int) := by rw [nmN, hn2]
          have g2 : nmK s.data.toList (k + 1) = ((k + 1 + c2 : Nat) : Int) := by rw [nmK, hn2]
          rw [g1, g2]
          obtain ⟨j, hj⟩ : ∃ j, j = k + 1 + c2 := ⟨_, rfl⟩
          rw [← hj]
          have HKR2 : Hid (j = i + (c + 1 + c2)) := (by have := HKR.out; omega : j = i + (c + 1 + c2))
          have hjb : j ≤ s.size := by omega
          have hji : i < j := by omega
          clear hj
          by_cases hle : b0 ≤ a0
          · have HR : Hid (RRes w.heap.size s.data.toList (.slice none 0 0) false w2) := .inl ⟨by rw [HI.out.2.2]; exact runsR_no (by rw [nrun, hn1]; show (if _ then _ else _) = none; rw [if_pos HG0.out, HDD.out, hn2]; exact if_pos hle), rfl, rfl⟩
            have hle' : (b0 : Int) ≤ (a0 : Int) := by omega
            clear HI HO HG0 HDD
            go_wp2
            go_ret2
            exact ⟨_, _, rfl, HR.out, hbel.out⟩
          · have HNR : Hid (nrun (s.data.toList.drop i) = some (a0, b0 - a0 + 1, c + 1 + c2)) := (by rw [nrun, hn1]; show (if _ then _ else _) = _; rw [if_pos HG0.out, HDD.out, hn2]; exact if_neg hle : nrun (s.data.toList.drop i) = some (a0, b0 - a0 + 1, c + 1 + c2))
            have hle' : ¬ (b0 : Int) ≤ (a0 : Int) := by omega
            have hmm : (b0 : Int) - (a0 : Int) + 1 = ((b0 - a0 + 1 : Nat) : Int) := by omega
            obtain ⟨m0, hm0⟩ : ∃ m, m = b0 - a0 + 1 := ⟨_, rfl⟩
            rw [← hm0] at HNR hmm
            have hm1 : m0 ≤ 4096 := by omega
            clear hm0
            clear HKR
            have HKR := HKR2
            clear HKR2
            clear HG0 HDD hn1 hn2 g1 g2 h1 h2 hxk hd hkl hkl'
            have hk4 : n < 2147483647 := by omega
            go_upto_region 12 with (at_builtin; refine append_run rfl (.tmp 42) (.tmp 49) rfl rfl (HO.out.alloc _) w2.heap.size ((a0 : Int), (m0 : Int)) rfl (by go_simp) (by go_simp) (by have := hbel.out.size; simp; omega) (by have := HI.out.1; omega) ?_; intro v' w3 ho2 hb2)
            have HO2 : Hid (OR w.heap.size w3 v' (acc ++ [((a0 : Int), (m0 : Int))])) := ho2
            have HB2 : Hid (Below w.heap.size w w3) := (hbel.out.alloc hbel.out.size _).trans hb2
            obtain ⟨a', c', rfl⟩ := HO2.out.form
            have HLN : Hid ((acc ++ [((a0 : Int), (m0 : Int))]).length = n + 1) := (by rw [List.length_append, HI.out.1]; rfl : (acc ++ [((a0 : Int), (m0 : Int))]).length = n + 1)
            rw [HLN.out]
            clear ho2 hb2 hbel HO
            by_cases hend : j = s.size
            · have HR : Hid (RRes w.heap.size s.data.toList (.slice a' (n + 1) c') true w3) := .inr ⟨_, by rw [HI.out.2.2]; exact runsR_end HNR.out (by have h7 := HKR.out; rw [List.length_drop, HZ.out]; omega), rfl, by have h9 := HO2.out; rw [HLN.out] at h9; exact h9, by have h7 := HI.out.1; simp only [List.length_append, List.length_cons, List.length_nil]; omega⟩
              have hend' : (j : Int) = (s.size : Int) := by omega
              clear HI HO2 HNR
              go_wp2
              all_goals go_ret2
              all_goals exact ⟨_, _, rfl, HR.out, HB2.out⟩
            · have hkl2 : j < s.size := by omega
              have hend' : ¬ (j : Int) = (s.size : Int) := by omega
              have hxk := index_s s j hkl2 (j : Int) rfl
              have HG : Hid ((s.data.toList.drop i).getD (c + 1 + c2) 0 = s[j]) := (by have h7 := HKR.out; rw [drop_getD, ← bgetD s j hkl2]; congr 1; omega : (s.data.toList.drop i).getD (c + 1 + c2) 0 = s[j])
              generalize s[j] = z at *
              by_cases hz44 : z = 44
              · have HJ : Hid (∃ (acc' : List (Int × Int)) (f' : Nat), acc'.length = n + 1 ∧ n + 1 ≤ j + 1 ∧ s.size - (j + 1) < f' ∧ runsR (s.data.toList.length + 1) s.data.toList [] = runsR f' (s.data.toList.drop (j + 1)) acc' ∧ OR w.heap.size w3 (.slice a' (n + 1) c') acc') := by
                  have h9 := HO2.out
                  rw [HLN.out] at h9
                  have h8 := HI.out.2.1
                  exact (⟨_, f, HLN.out, by omega, by omega, by rw [HI.out.2.2, runsR_go HNR.out (by have h7 := HKR.out; rw [List.length_drop, HZ.out]; omega) (by rw [HG.out]; exact hz44), List.drop_drop]; have h7 := HKR.out; congr 2; omega, h9⟩ : ∃ (acc' : List (Int × Int)) (f' : Nat), acc'.length = n + 1 ∧ n + 1 ≤ j + 1 ∧ s.size - (j + 1) < f' ∧ runsR (s.data.toList.length + 1) s.data.toList [] = runsR f' (s.data.toList.drop (j + 1)) acc' ∧ OR w.heap.size w3 (.slice a' (n + 1) c') acc')
                subst hz44
                clear HI HO2 HNR HG HZ
                go_wp2
                all_goals exact ⟨⟨j + 1, n + 1, a', c', by omega, by go_num, rfl, HJ, HB2⟩, by simp [intOf]; omega⟩
              · have HR : Hid (RRes w.heap.size s.data.toList (.slice none 0 0) false w3) := .inl ⟨by rw [HI.out.2.2]; exact runsR_bad HNR.out (by have h7 := HKR.out; rw [List.length_drop, HZ.out]; omega) (by rw [HG.out]; exact hz44), rfl, rfl⟩
                have hne : ¬ (z.toNat : Int) = 44 := by intro h; exact hz44 (UInt8.toNat_inj.1 (by show z.toNat = 44; omega))
                clear HI HO2 HNR HG
                go_wp2
                all_goals go_ret2
                all_goals exact ⟨_, _, rfl, HR.out, HB2.out⟩
      · have HG0 : Hid (¬ (c < (s.data.toList.drop i).length ∧ (s.data.toList.drop i).getD c 0 = 45)) := (fun h => hdash ⟨by have h7 := HKR.out; have := h.1; rw [List.length_drop, hzz] at this; omega, by have h9 := h.2; rw [drop_getD, ← HKR.out, bgetD s k (by have h7 := HKR.out; have := h.1; rw [List.length_drop, hzz] at this; omega)] at h9; exact h9⟩ : ¬ (c < (s.data.toList.drop i).length ∧ (s.data.toList.drop i).getD c 0 = 45))
        have HNR : Hid (nrun (s.data.toList.drop i) = some (a0, 1, c)) := (by rw [nrun, hn1]; show (if _ then _ else _) = _; rw [if_neg HG0.out] : nrun (s.data.toList.drop i) = some (a0, 1, c))
        have HNR1 : Hid (nrun (s.data.toList.drop i) = some (a0, 1, c)) := HNR.out
        clear HG0 hn1 h1 h2
        by_cases hkl : k < s.size
        · have hd : ¬ s[k] = 45 := fun h => hdash ⟨hkl, h⟩
          have hxk0 := index_s s k hkl (k : Int) rfl
          have hkl' : (k : Int) < (s.size : Int) := by omega
          have hne45 : ¬ (s[k].toNat : Int) = 45 := by intro h; exact hd (UInt8.toNat_inj.1 (by show s[k].toNat = 45; omega))
          have hkk1 : k ≤ 4096 := by omega
          have hk4 : n < 2147483647 := by omega
          go_upto_region 12 with (at_builtin; refine append_run rfl (.tmp 42) (.tmp 49) rfl rfl (HO.out.alloc _) w1.heap.size ((a0 : Int), (1 : Int)) rfl (by go_simp) (by go_simp) (by have := hbel.out.size; simp; omega) (by have := HI.out.1; omega) ?_; intro v' w3 ho2 hb2)
          have HO2 : Hid (OR w.heap.size w3 v' (acc ++ [((a0 : Int), (1 : Int))])) := ho2
          have HB2 : Hid (Below w.heap.size w w3) := (hbel.out.alloc hbel.out.size _).trans hb2
          obtain ⟨a', c', rfl⟩ := HO2.out.form
          have HLN : Hid ((acc ++ [((a0 : Int), (1 : Int))]).length = n + 1) := (by rw [List.length_append, HI.out.1]; rfl : (acc ++ [((a0 : Int), (1 : Int))]).length = n + 1)
          rw [HLN.out]
          clear ho2 hb2 hbel HO
          by_cases hend : k = s.size
          · have HR : Hid (RRes w.heap.size s.data.toList (.slice a' (n + 1) c') true w3) := .inr ⟨_, by rw [HI.out.2.2]; exact runsR_end HNR.out (by have h7 := HKR.out; rw [List.length_drop, HZ.out]; omega), rfl, by have h9 := HO2.out; rw [HLN.out] at h9; exact h9, by have h7 := HI.out.1; simp only [List.length_append, List.length_cons, List.length_nil]; omega⟩
            have hend' : (k : Int) = (s.size : Int) := by omega
            clear HI HO2 HNR
            go_wp2
            all_goals go_ret2
            all_goals exact ⟨_, _, rfl, HR.out, HB2.out⟩
          · have hkl2 : k < s.size := by omega
            have hend' : ¬ (k : Int) = (s.size : Int) := by omega
            have hxk := index_s s k hkl2 (k : Int) rfl
            have HG : Hid ((s.data.toList.drop i).getD (c) 0 = s[k]) := (by have h7 := HKR.out; rw [drop_getD, ← bgetD s k hkl2]; congr 1; omega : (s.data.toList.drop i).getD (c) 0 = s[k])
            generalize s[k] = z at *
            by_cases hz44 : z = 44
            · have HJ : Hid (∃ (acc' : List (Int × Int)) (f' : Nat), acc'.length = n + 1 ∧ n + 1 ≤ k + 1 ∧ s.size - (k + 1) < f' ∧ runsR (s.data.toList.length + 1) s.data.toList [] = runsR f' (s.data.toList.drop (k + 1)) acc' ∧ OR w.heap.size w3 (.slice a' (n + 1) c') acc') := by
                have h9 := HO2.out
                rw [HLN.out] at h9
                have h8 := HI.out.2.1
                exact (⟨_, f, HLN.out, by omega, by omega, by rw [HI.out.2.2, runsR_go HNR.out (by have h7 := HKR.out; rw [List.length_drop, HZ.out]; omega) (by rw [HG.out]; exact hz44), List.drop_drop]; have h7 := HKR.out; congr 2; omega, h9⟩ : ∃ (acc' : List (Int × Int)) (f' : Nat), acc'.length = n + 1 ∧ n + 1 ≤ k + 1 ∧ s.size - (k + 1) < f' ∧ runsR (s.data.toList.length + 1) s.data.toList [] = runsR f' (s.data.toList.drop (k + 1)) acc' ∧ OR w.heap.size w3 (.slice a' (n + 1) c') acc')
              subst hz44
              clear HI HO2 HNR HG HZ
              go_wp2
              all_goals exact ⟨⟨k + 1, n + 1, a', c', by omega, by go_num, rfl, HJ, HB2⟩, by simp [intOf]; omega⟩
            · have HR : Hid (RRes w.heap.size s.data.toList (.slice none 0 0) false w3) := .inl ⟨by rw [HI.out.2.2]; exact runsR_bad HNR.out (by have h7 := HKR.out; rw [List.length_drop, HZ.out]; omega) (by rw [HG.out]; exact hz44), rfl, rfl⟩
              have hne : ¬ (z.toNat : Int) = 44 := by intro h; exact hz44 (UInt8.toNat_inj.1 (by show z.toNat = 44; omega))
              clear HI HO2 HNR HG
              go_wp2
              all_goals go_ret2
              all_goals exact ⟨_, _, rfl, HR.out, HB2.out⟩
        · have hkl' : ¬ (k : Int) < (s.size : Int) := by omega
          have hkk1 : k ≤ 4096 := by omega
          have hk4 : n < 2147483647 := by omega
          go_upto_region 12 with (at_builtin; refine append_run rfl (.tmp 42) (.tmp 49) rfl rfl (HO.out.alloc _) w1.heap.size ((a0 : Int), (1 : Int)) rfl (by go_simp) (by go_simp) (by have := hbel.out.size; simp; omega) (by have := HI.out.1; omega) ?_; intro v' w3 ho2 hb2)
          have HO2 : Hid (OR w.heap.size w3 v' (acc ++ [((a0 : Int), (1 : Int))])) := ho2
          have HB2 : Hid (Below w.heap.size w w3) := (hbel.out.alloc hbel.out.size _).trans hb2
          obtain ⟨a', c', rfl⟩ := HO2.out.form
          have HLN : Hid ((acc ++ [((a0 : Int), (1 : Int))]).length = n + 1) := (by rw [List.length_append, HI.out.1]; rfl : (acc ++ [((a0 : Int), (1 : Int))]).length = n + 1)
          rw [HLN.out]
          clear ho2 hb2 hbel HO
          by_cases hend : k = s.size
          · have HR : Hid (RRes w.heap.size s.data.toList (.slice a' (n + 1) c') true w3) := .inr ⟨_, by rw [HI.out.2.2]; exact runsR_end HNR.out (by have h7 := HKR.out; rw [List.length_drop, HZ.out]; omega), rfl, by have h9 := HO2.out; rw [HLN.out] at h9; exact h9, by have h7 := HI.out.1; simp only [List.length_append, List.length_cons, List.length_nil]; omega⟩
            have hend' : (k : Int) = (s.size : Int) := by omega
            clear HI HO2 HNR
            go_wp2
            all_goals go_ret2
            all_goals exact ⟨_, _, rfl, HR.out, HB2.out⟩
          · have hkl2 : k < s.size := by omega
            have hend' : ¬ (k : Int) = (s.size : Int) := by omega
            have hxk := index_s s k hkl2 (k : Int) rfl
            have HG : Hid ((s.data.toList.drop i).getD (c) 0 = s[k]) := (by have h7 := HKR.out; rw [drop_getD, ← bgetD s k hkl2]; congr 1; omega : (s.data.toList.drop i).getD (c) 0 = s[k])
            generalize s[k] = z at *
            by_cases hz44 : z = 44
            · have HJ : Hid (∃ (acc' : List (Int × Int)) (f' : Nat), acc'.length = n + 1 ∧ n + 1 ≤ k + 1 ∧ s.size - (k + 1) < f' ∧ runsR (s.data.toList.length + 1) s.data.toList [] = runsR f' (s.data.toList.drop (k + 1)) acc' ∧ OR w.heap.size w3 (.slice a' (n + 1) c') acc') := by
                have h9 := HO2.out
                rw [HLN.out] at h9
                have h8 := HI.out.2.1
                exact (⟨_, f, HLN.out, by omega, by omega, by rw [HI.out.2.2, runsR_go HNR.out (by have h7 := HKR.out; rw [List.length_drop, HZ.out]; omega) (by rw [HG.out]; exact hz44), List.drop_drop]; have h7 := HKR.out; congr 2; omega, h9⟩ : ∃ (acc' : List (Int × Int)) (f' : Nat), acc'.length = n + 1 ∧ n + 1 ≤ k + 1 ∧ s.size - (k + 1) < f' ∧ runsR (s.data.toList.length + 1) s.data.toList [] = runsR f' (s.data.toList.drop (k + 1)) acc' ∧ OR w.heap.size w3 (.slice a' (n + 1) c') acc')
              subst hz44
              clear HI HO2 HNR HG HZ
              go_wp2
              all_goals exact ⟨⟨k + 1, n + 1, a', c', by omega, by go_num, rfl, HJ, HB2⟩, by simp [intOf]; omega⟩
            · have HR : Hid (RRes w.heap.size s.data.toList (.slice none 0 0) false w3) := .inl ⟨by rw [HI.out.2.2]; exact runsR_bad HNR.out (by have h7 := HKR.out; rw [List.length_drop, HZ.out]; omega) (by rw [HG.out]; exact hz44), rfl, rfl⟩
              have hne : ¬ (z.toNat : Int) = 44 := by intro h; exact hz44 (UInt8.toNat_inj.1 (by show z.toNat = 44; omega))
              clear HI HO2 HNR HG
              go_wp2
              all_goals go_ret2
              all_goals exact ⟨_, _, rfl, HR.out, HB2.out⟩
end Go.Proofs.YtmfbhihjiebagaaDoor
