import Derived.Test.YtoiehkpmemmldaaDoorCo
import Derived.Laws.AppendOwn
import Derived.Laws.AppendOwnNone
namespace Go.Proofs.YtoiehkpmemmldaaDoor
open Go.RowKit
/-- the string at a place of a list -/
def sa (l : List ByteArray) (i : Nat) : ByteArray := l.getD i ByteArray.empty
theorem sa_get {l : List ByteArray} {i : Nat} (h : i < l.length) : sa l i = l[i] := by unfold sa; simp [List.getD, List.getElem?_eq_getElem h]
theorem sa_mem {l : List ByteArray} {i : Nat} (h : i < l.length) : sa l i ∈ l := by rw [sa_get h]; exact List.getElem_mem h
theorem sa_drop {l : List ByteArray} {k : Nat} (h : k < l.length) : l.drop k = sa l k :: l.drop (k + 1) := by rw [sa_get h]; exact List.drop_eq_getElem_cons h
theorem sa_take {l : List ByteArray} {k : Nat} (h : k < l.length) : l.take (k + 1) = l.take k ++ [sa l k] := by rw [sa_get h]; exact List.take_succ_eq_append_getElem h
/-- the slice v reads as the list l -/
def SR (w : World) (l : List ByteArray) (v : Value) : Prop := ∃ a c, v = .slice a l.length c ∧ l.length ≤ c ∧ (l = [] ∨ ∃ b o, a = some ⟨b, o, none⟩ ∧ b < w.heap.size ∧ ∀ i, i < l.length → w.cell? ⟨b, o + i, none⟩ = some (.string (sa l i)))
/-- sizes that an argument keeps to -/
def FL (l : List ByteArray) : Prop := l.length * 16 ≤ 140737488351232 ∧ ∀ s ∈ l, s.size ≤ 140737488351232
theorem FL.sa {l : List ByteArray} (h : FL l) {i : Nat} (hi : i < l.length) : (sa l i).size ≤ maxLen := Nat.le_trans (h.2 _ (sa_mem hi)) (by unfold maxLen; omega)
theorem SR.keep {w w' : World} {l : List ByteArray} {v : Value} (h : SR w l v) (hb : Below w.heap.size w w') : SR w' l v := by
  obtain ⟨a, c, rfl, hc, h⟩ := h
  refine ⟨a, c, rfl, hc, ?_⟩
  rcases h with h | ⟨g, o, h1, h2, h3⟩
  · exact .inl h
  · exact .inr ⟨g, o, h1, Nat.lt_of_lt_of_le h2 hb.size, fun i hi => (World.cell?_of_block (w := w) (hb.block g h2)).trans (h3 i hi)⟩
theorem SR.cellAt {w : World} {l : List ByteArray} {a : Option Addr} {n c : Nat} (h : SR w l (.slice a n c)) {k : Nat} (hk : k < l.length) : ∃ b o, a = some ⟨b, o, none⟩ ∧ b < w.heap.size ∧ w.cell? ⟨b, o + k, none⟩ = some (.string (sa l k)) := by
  obtain ⟨a', c', he, _, h⟩ := h
  cases he
  rcases h with h | ⟨g, o, h1, h2, h3⟩
  · subst h; simp at hk
  · exact ⟨g, o, h1, h2, h3 k hk⟩
/-- a row of strings that the call owns -/
def OS (B : Nat) (w : World) (v : Value) (l : List ByteArray) : Prop := w.ownsRow B 9 1 v l.length (l.map .string)
theorem info9 : (Tryd.prog.info? 9).map (fun i => (i.zero, i.size, i.bytes)) = some (some (.string ByteArray.empty), 1, 16) := by kernel_rfl
theorem OS.sr {B : Nat} {w : World} {v : Value} {l : List ByteArray} (h : OS B w v l) : SR w l v := by
  have h' := h
  rcases h.2 with ⟨rfl, h0⟩ | ⟨g, cap, cur, rfl, _, hg, hc, _⟩
  · have : l = [] := List.length_eq_zero_iff.1 h0
    subst this; exact ⟨none, 0, rfl, Nat.le_refl _, .inl rfl⟩
  · refine ⟨_, cap, rfl, hc, .inr ⟨g, 0, rfl, (Array.getElem?_eq_some_iff.1 hg).1, fun i hi => ?_⟩⟩
    have := World.ownsRow.cellAt h' i (by omega)
    rw [Nat.zero_add, this, sa_get hi]
    simp [List.getElem?_eq_getElem hi]
theorem OS.form {B : Nat} {w : World} {v : Value} {l : List ByteArray} (h : OS B w v l) : ∃ a c, v = .slice a l.length c := by
  obtain ⟨a, c, h, _⟩ := h.sr
  exact ⟨a, c, h⟩
theorem OS.grow {B : Nat} {w w' : World} {v : Value} {l : List ByteArray} (h : OS B w v l) (hb : Below w.heap.size w w') : OS B w' v l := by
  refine ⟨h.1, ?_⟩
  rcases h.2 with h1 | ⟨g, cap, cur, h1, h2, h3, h4⟩
  · exact .inl h1
  · exact .inr ⟨g, cap, cur, h1, h2, (hb.block g (Array.getElem?_eq_some_iff.1 h3).1).trans h3, h4⟩
theorem OS.alloc {B : Nat} {w : World} {v : Value} {l : List ByteArray} (h : OS B w v l) (o : Obj) : OS B (w.alloc o) v l := h.grow ((Below.refl _ _).alloc (Nat.le_refl _) _)
theorem append_sa {ops : Array Oper} {rest : List Oper} {o : Oper} {a : Act} {Q : Exit → Act → World → Prop} {w : World} {B : Nat} {sv : Value} {l : List ByteArray} (hgd : o.guard = none) (s x : Operand)
    (ho : o.op = .call { callee := .builtin .append, args := #[s, x], argTypes := #[29, 29] }) (hs : a.eval s = sv) (hown : OS B w sv l) (b : Nat) (c : ByteArray) (hx : a.eval x = .slice (some ⟨b, 0, none⟩) 1 1)
    (hc : w.cell? ⟨b, 0, none⟩ = some (.string c)) (hB : B ≤ w.heap.size) (hlim : l.length * 16 < 140737488351232)
    (h : ∀ v' w', OS B w' v' (l ++ [c]) → Below B w w' → wpList Tryd.prog ops Q rest (a.put o.dst v') w') : wpList Tryd.prog ops Q (o :: rest) a w := by
  obtain ⟨i0, hi, hz0, hz1, hz2⟩ := info_parts info9
  refine wpList_append_own w hgd s x 29 ho B 9 i0 _ 1 16 Tryd.underlying29 hi hz0 hz1 hz2 rfl (by omega) sv l.length (l.map .string) hs hown ⟨b, 0, none⟩ 1 1 [.string c] hx rfl (fun j u hu => ?_) (fun u hu => ?_) (by unfold maxLen; omega) (by omega) hB (fun v' w' h1 h2 _ => ?_)
  · match j, hu with
    | 0, hu => simp at hu; subst hu; simpa [Addr.add] using hc
  · simp at hu; subst hu; rfl
  · refine h v' w' ?_ ((Below.refl B w).grown h2 hB (fun k hk => (World.ownsRow.lt hown k hk).1))
    have e : l.map Value.string ++ [Value.string c] = (l ++ [c]).map .string := by simp
    rw [e] at h1
    simpa [OS] using h1
set_option maxHeartbeats 1000000 in
theorem twin11 (v : Value) (l : List ByteArray) (w : World) (hl : l.length * 16 ≤ 140737488351232) (hr : SR w l v) :
    Calls Tryd.prog 29 #[v] w fun e w' => ∃ v, e = .returned v ∧ OS w.heap.size w' v l ∧ Below w.heap.size w w' := by
  obtain ⟨va, vc, rfl, hvc, hr0⟩ := hr
  have HR : Hid (SR w l (.slice va l.length vc)) := ⟨va, vc, rfl, hvc, hr0⟩
  generalize hN : l.length = N at *
  have HN : Hid (l.length = N) := hN
  clear hN hr0 hvc
  go_enter Tryd.func29, Tryd.ntmps29
  go_wp2
  go_loopw [3, 4] (fun v t wr => ∃ (k : Nat) (a : Option Addr) (cp : Nat), k ≤ N ∧ t = .int .i64 k ∧ v = .slice a k cp ∧ OS w.heap.size wr v (l.take k) ∧ Below w.heap.size w wr) (fun _ t _ => N - (intOf t).toNat)
  case atStart => exact ⟨0, none, 0, Nat.zero_le _, rfl, rfl, World.ownsRow_nil _ _ _ _, Below.refl _ _⟩
  case round =>
    obtain ⟨k, a, cp, hk, rfl, rfl, hown, hbel⟩ := hrel
    by_cases hlt : k < N
    · have hkl : k < l.length := by have := HN.out; omega
      obtain ⟨b, off, rfl, hb, hc⟩ := HR.out.cellAt hkl
      have hck : wr.cell? ⟨b, off + k, none⟩ = some (.string (sa l k)) := (hbel.cell (p := ⟨b, off + k, none⟩) hb).trans hc
      have HT : Hid (l.take (k + 1) = l.take k ++ [sa l k] ∧ (l.take k).length = k) := ⟨sa_take hkl, by rw [List.length_take]; omega⟩
      clear hc HR HN hkl
      generalize sa l k = y at *
      go_wp2_with (at_builtin; refine append_sa rfl _ _ rfl rfl (hown.alloc _) wr.heap.size y rfl (by go_simp) (by have := hbel.size; simp; omega) (by rw [HT.out.2]; omega) ?_; intro v' w1 hown' hb1)
      obtain ⟨a', c', rfl⟩ := hown'.form
      have hbel' : Below w.heap.size w w1 := (hbel.alloc hbel.size _).trans hb1
      have hlen : (l.take k ++ [y]).length = k + 1 := by rw [List.length_append, HT.out.2]; rfl
      have hown2 : OS w.heap.size w1 (.slice a' (k + 1) c') (l.take (k + 1)) := by rw [hlen] at hown'; rw [HT.out.1]; exact hown'
      clear hown hbel hb1 hown'
      go_wp2
      go_roundw
      case rel => exact ⟨k + 1, a', c', by omega, by go_num, by rw [hlen], by rw [hlen]; exact hown2, hbel'⟩
      case measure => simp [intOf]; omega
    · obtain rfl : k = N := by omega
      have hn := HN.out
      rw [List.take_of_length_le (by omega)] at hown
      go_wp2
      go_ret
      exact ⟨_, rfl, hown, hbel⟩
theorem ret_b {a b : Bool} (h : a = b) : Ending.returned (.bool a) = .returned (.bool b) := by rw [h]
theorem ba_ext {s t : ByteArray} (h : s.toList = t.toList) : s = t := by
  rw [ByteArray.toList_eq, ByteArray.toList_eq] at h
  obtain ⟨⟨a⟩⟩ := s; obtain ⟨⟨b⟩⟩ := t
  simp at h; subst h; rfl
theorem nlB {s t : ByteArray} (h : ¬ s = t) : (s.toList == t.toList) = false := by
  rw [beq_eq_false_iff_ne]; exact fun e => h (ba_ext e)
theorem dr2 (w : World) (a b : Nat) : (w.drewN a).drewN b = w.drewN (a + b) := World.drewN_drewN ..
/-- the two lists are the same -/
def smB (l m : List ByteArray) : Bool := decide (l = m)
theorem smB_len {l m : List ByteArray} (h : ¬ l.length = m.length) : smB l m = false := by simp [smB]; intro e; exact h (by rw [e])
theorem smB_at {l m : List ByteArray} {k : Nat} (h : ¬ sa l k = sa m k) : smB l m = false := by simp [smB]; intro e; exact h (by rw [e])
theorem smB_all {l m : List ByteArray} (h : l.length = m.length) (ha : ∀ i, i < l.length → sa l i = sa m i) : smB l m = true := by
  simp only [smB, decide_eq_true_eq]
  refine List.ext_getElem h fun i h1 h2 => ?_
  have := ha i h1
  rwa [sa_get h1, sa_get h2] at this
set_option maxHeartbeats 1000000 in
theorem same14 (v1 v2 : Value) (l m : List ByteArray) (w : World) (hl : l.length * 16 ≤ 140737488351232) (_hm : m.length * 16 ≤ 140737488351232) (h1 : SR w l v1) (h2 : SR w m v2) :
    Calls Tryd.prog 14 #[v1, v2] w fun e w' => e = .returned (.bool (smB l m)) ∧ ∃ n, w' = w.drewN n := by
  have H1 : Hid (SR w l v1) := h1
  have H2 : Hid (SR w m v2) := h2
  obtain ⟨a1, c1, rfl, _, _⟩ := h1
  obtain ⟨a2, c2, rfl, _, _⟩ := h2
  by_cases hlm : l.length = m.length
  · have HQ : Hid ((∀ i, i < l.length → sa l i = sa m i) → smB l m = true) := smB_all hlm
    have HX : Hid (m.length = l.length) := hlm.symm
    rw [HX.out] at H2 ⊢
    clear hlm
    generalize hn : l.length = n at *
    have HN : Hid (l.length = n) := hn
    clear hn
    go_enter Tryd.func14, Tryd.ntmps14
    go_wp2
    go_loopw [5] (fun i wr => ∃ k nq : Nat, k ≤ n ∧ i = .int .i64 k ∧ wr = w.drewN nq ∧ Hid (∀ i, i < k → sa l i = sa m i)) (fun i _ => n - (intOf i).toNat)
    case atStart => exact ⟨0, 0, Nat.zero_le _, rfl, rfl, fun i h => by omega⟩
    case round =>
      obtain ⟨k, nq, hk, rfl, rfl, HA⟩ := hrel
      by_cases hlt : k < n
      · obtain ⟨b1, o1, rfl, _, k1⟩ := H1.out.cellAt (k := k) (by have := HN.out; omega)
        obtain ⟨b2, o2, rfl, _, k2⟩ := H2.out.cellAt (k := k) (by have := HX.out; omega)
        by_cases hs : sa l k = sa m k
        · have HA' : Hid (∀ i, i < k + 1 → sa l i = sa m i) := fun i hi => by
            by_cases e : i = k
            · rw [e]; exact hs
            · exact HA.out i (by omega)
          rw [← hs] at k2
          generalize sa l k = x at k1 k2
          clear hs HA H1 H2
          go_wp2
          go_quiet (fail)
          go_wp2
          exact ⟨⟨k + 1, _, by omega, by go_num, rfl, HA'⟩, by simp [intOf]; omega⟩
        · have HF : Hid (smB l m = false) := smB_at hs
          have hs' : ((sa l k).toList == (sa m k).toList) = false := nlB hs
          generalize sa l k = x at k1 hs'
          generalize sa m k = y at k2 hs'
          clear hs HA H1 H2
          go_wp2
          go_quiet (fail)
          go_wp2
          go_ret
          exact ⟨ret_b HF.out.symm, _, dr2 _ _ _⟩
      · obtain rfl : k = n := by omega
        have HT : Hid (smB l m = true) := HQ.out HA.out
        go_wp2
        go_ret
        exact ⟨ret_b HT.out.symm, nq, rfl⟩
  · have HF : Hid (smB l m = false) := smB_len hlm
    have hne : ((l.length : Int) == (m.length : Int)) = false := by simp; omega
    go_enter Tryd.func14, Tryd.ntmps14
    go_wp2
    go_ret
    exact ⟨ret_b HF.out.symm, 0, rfl⟩
/-- the first error of the names -/
def fe : List ByteArray → Int
  | [] => 0
  | s :: l => if ce s = 0 then fe l else ce s
/-- the error of a path -/
def pe (l : List ByteArray) : Int := if l.length = 0 then 50 else if 16 < l.length then 55 else fe l
theorem pe0 {l : List ByteArray} (h0 : l.length = 0) : pe l = 50 := by unfold pe; rw [if_pos h0]
theorem pe1 {l : List ByteArray} (h0 : ¬ l.length = 0) (h1 : 16 < l.length) : pe l = 55 := by unfold pe; rw [if_neg h0, if_pos h1]
theorem pe2 {l : List ByteArray} (h0 : ¬ l.length = 0) (h1 : ¬ 16 < l.length) : pe l = fe l := by unfold pe; rw [if_neg h0, if_neg h1]
theorem fe_ok {l : List ByteArray} {k : Nat} (h : k < l.length) (h0 : ce (sa l k) = 0) : fe (l.drop k) = fe (l.drop (k + 1)) := by rw [sa_drop h, fe, if_pos h0]
theorem fe_end {l : List ByteArray} {k : Nat} (h : pe l = fe l) (h1 : fe (l.drop k) = fe l) (h2 : l.length = k) : pe l = 0 := by
  rw [h, ← h1, List.drop_of_length_le (by omega)]; rfl
theorem fe_bad {l : List ByteArray} {k : Nat} (h : k < l.length) (h0 : ¬ ce (sa l k) = 0) : fe (l.drop k) = ce (sa l k) := by rw [sa_drop h, fe, if_neg h0]
set_option maxHeartbeats 1000000 in
theorem path21 (v : Value) (l : List ByteArray) (w : World) (hf : FL l) (hr : SR w l v) :
    Calls Tryd.prog 11 #[v] w fun e w' => e = .returned (.int .i64 (pe l)) ∧ Below w.heap.size w w' := by
  have HR : Hid (SR w l v) := hr
  have HF : Hid (FL l) := hf
  have hl := hf.1
  obtain ⟨va, vc, rfl, _, _⟩ := hr
  clear hf
  by_cases h0 : l.length = 0
  · have HE : Hid (pe l = 50) := pe0 h0
    rw [h0]
    go_enter Tryd.func11, Tryd.ntmps11
    go_wp2
    go_ret
    exact ⟨ret_i HE.out.symm, Below.refl _ _⟩
  have g0 : ((l.length : Int) == 0) = false := beq_eq_false_iff_ne.2 (by omega)
  by_cases h1 : 16 < l.length
  · have HE : Hid (pe l = 55) := pe1 h0 h1
    go_enter Tryd.func11, Tryd.ntmps11
    go_wp2
    go_ret
    exact ⟨ret_i HE.out.symm, Below.refl _ _⟩
  have HE : Hid (pe l = fe l) := pe2 h0 h1
  generalize hN : l.length = N at *
  have HN : Hid (l.length = N) := hN
  clear hN h0
  go_enter Tryd.func11, Tryd.ntmps11
  go_wp2
  go_loopw [14] (fun t wr => ∃ (k : Nat), k ≤ N ∧ t = .int .i64 k ∧ Hid (fe (l.drop k) = fe l) ∧ Hid (Below w.heap.size w wr)) (fun t _ => N - (intOf t).toNat)
  case atStart => exact ⟨0, Nat.zero_le _, rfl, rfl, Below.refl _ _⟩
  case round =>
    obtain ⟨k, hk, rfl, HD, HB⟩ := hrel
    by_cases hlt : k < N
    · have hkl : k < l.length := by have := HN.out; omega
      obtain ⟨b, off, rfl, hb, hc⟩ := HR.out.cellAt hkl
      have hck : wr.cell? ⟨b, off + k, none⟩ = some (.string (sa l k)) := (HB.out.cell (p := ⟨b, off + k, none⟩) hb).trans hc
      have HC : ∀ w, Hid (Calls Tryd.prog 25 #[.string (sa l k)] w fun e w' => e = .returned (.int .i64 (ce (sa l k))) ∧ Below w.heap.size w w') := fun w => component15 _ w (HF.out.sa hkl)
      by_cases hz : ce (sa l k) = 0
      · have HD' : Hid (fe (l.drop (k + 1)) = fe l) := (fe_ok hkl hz).symm.trans HD.out
        rw [hz] at HC
        clear hc hz hkl
        generalize sa l k = y at *
        go_wp2_with fail
        refine ((HC _).out).mono ?_
        rintro e w1 ⟨rfl, hb1⟩
        have HB' : Hid (Below w.heap.size w w1) := HB.out.trans (hb1.mono HB.out.size)
        clear hck hb1
        go_wp2
        go_roundw
        case rel => exact ⟨k + 1, by omega, by go_num, HD', HB'⟩
        case measure => simp [intOf]; omega
      · have HD' : Hid (pe l = ce (sa l k)) := HE.out.trans (HD.out.symm.trans (fe_bad hkl hz))
        have hz' : (ce (sa l k) == 0) = false := by simp [hz]
        clear hc hz hkl
        generalize ce (sa l k) = z at *
        generalize sa l k = y at *
        go_wp2_with fail
        refine ((HC _).out).mono ?_
        rintro e w1 ⟨rfl, hb1⟩
        have HB' : Hid (Below w.heap.size w w1) := HB.out.trans (hb1.mono HB.out.size)
        clear hck hb1
        go_wp2
        go_ret
        exact ⟨ret_i HD'.out.symm, HB'.out⟩
    · obtain rfl : k = N := by omega
      have HZ : Hid (pe l = 0) := fe_end HE.out HD.out HN.out
      go_wp2
      go_ret
      exact ⟨ret_i HZ.out.symm, HB.out⟩

end Go.Proofs.YtoiehkpmemmldaaDoor
