import Derived.Test.YtkagcefboahgkaaWh
namespace Go.Proofs.Ytkagcefboahgkaa
open Go.RowKit
/-- a write as it is handed in -/
structure Wv where
  at_ : Int
  dv : Value
  dl : List UInt8
def Wv.cs (u : Wv) : List Value := [.int .i64 u.at_, u.dv]
/-- a list of writes that is read -/
def RWv (w : World) (v : Value) (us : List Wv) : Prop :=
  (∃ a c, v = .slice a us.length c ∧ us.length ≤ c ∧ (us = [] ∨ ∃ g o, a = some ⟨g, o, none⟩ ∧ g < w.heap.size ∧ ∀ i u, us[i]? = some u → w.cell? ⟨g, o + i * 2, none⟩ = some (.int .i64 u.at_) ∧ w.cell? ⟨g, o + i * 2 + 1, none⟩ = some u.dv)) ∧ ∀ u ∈ us, RB w u.dv u.dl ∧ u.dl.length ≤ 140737488351232
theorem RWv.keep {w w' : World} {v : Value} {us : List Wv} (h : RWv w v us) (hb : Below w.heap.size w w') : RWv w' v us := by
  obtain ⟨⟨a, c, rfl, hle, h⟩, h2⟩ := h
  refine ⟨⟨a, c, rfl, hle, ?_⟩, fun u hu => ⟨(h2 u hu).1.keep hb, (h2 u hu).2⟩⟩
  rcases h with h | ⟨g, o, h1, h2, h3⟩
  · exact .inl h
  · exact .inr ⟨g, o, h1, Nat.lt_of_lt_of_le h2 hb.size, fun i u hi => ⟨(World.cell?_of_block (w := w) (hb.block g h2)).trans (h3 i u hi).1, (World.cell?_of_block (w := w) (hb.block g h2)).trans (h3 i u hi).2⟩⟩
/-- a list of writes of one's own -/
def OWv (B : Nat) (w : World) (v : Value) (us : List Wv) : Prop := w.ownsRow B 35 2 v us.length (us.flatMap Wv.cs)
theorem OWv.at {B : Nat} {w : World} {g c n : Nat} {us : List Wv} (h : OWv B w (.slice (some ⟨g, 0, none⟩) n c) us) (i : Nat) (u : Wv) (hu : us[i]? = some u) : w.cell? ⟨g, i * 2, none⟩ = some (.int .i64 u.at_) ∧ w.cell? ⟨g, i * 2 + 1, none⟩ = some u.dv := by
  rcases h.2 with ⟨e, _⟩ | ⟨g', c', cur, e, _, h2, h3, h4, h5, h6⟩
  · cases e
  simp only [Value.slice.injEq, Option.some.injEq, Addr.mk.injEq] at e
  obtain ⟨⟨rfl, _⟩, _, rfl⟩ := e
  obtain ⟨hi, hu'⟩ := List.getElem?_eq_some_iff.1 hu
  have h0 := flat_at Wv.cs 2 us i 0 (fun _ _ => rfl) hi (by omega)
  have h1 := flat_at Wv.cs 2 us i 1 (fun _ _ => rfl) hi (by omega)
  rw [hu'] at h0 h1
  have hlt : i * 2 + 1 < us.length * 2 := by omega
  rw [← h6, List.getElem?_take_of_lt (by omega)] at h0 h1
  simp only [Nat.add_zero] at h0
  simp only [World.cell?, h2]
  exact ⟨by simpa [Wv.cs] using h0, by simpa [Wv.cs] using h1⟩
theorem OWv.rw {B : Nat} {w : World} {v : Value} {us : List Wv} (h : OWv B w v us) (hd : ∀ u ∈ us, RB w u.dv u.dl ∧ u.dl.length ≤ 140737488351232) : RWv w v us := by
  refine ⟨?_, hd⟩
  have h' := h
  rcases h.2 with ⟨rfl, h0⟩ | ⟨g, cap, cur, rfl, _, hg, hle, _⟩
  · have : us = [] := List.length_eq_zero_iff.1 h0
    subst this; exact ⟨none, 0, rfl, Nat.le_refl _, .inl rfl⟩
  · exact ⟨_, cap, rfl, hle, .inr ⟨g, 0, rfl, (Array.getElem?_eq_some_iff.1 hg).1, fun i u hu => by rw [Nat.zero_add]; exact h'.at i u hu⟩⟩
theorem infoWr : (Try.prog.info? 35).map (fun i => (i.zero, i.size, i.bytes)) = some (some (.agg #[.int .i64 0, .slice none 0 0]), 2, 32) := by kernel_rfl
theorem append_wr {ops : Array Oper} {rest : List Oper} {o : Oper} {a : Act} {Q : Exit → Act → World → Prop} {w : World} {B : Nat} {sv : Value} {l : List Wv} (hgd : o.guard = none) (s x : Operand)
    (ho : o.op = .call { callee := .builtin .append, args := #[s, x], argTypes := #[23, 23] }) (hs : a.eval s = sv) (hown : OWv B w sv l) (b : Nat) (u : Wv) (hx : a.eval x = .slice (some ⟨b, 0, none⟩) 1 1)
    (hc : w.heap[b]? = some (.cells #[.int .i64 u.at_, u.dv] 35 (0, 0))) (hu : u.dv.oneCell' = true) (hB : B ≤ w.heap.size) (hlim : l.length < 1073741824)
    (h : ∀ v' w', OWv B w' v' (l ++ [u]) → Below B w w' → wpList Try.prog ops Q rest (a.put o.dst v') w') : wpList Try.prog ops Q (o :: rest) a w := by
  obtain ⟨i0, hi, hz0, hz1, hz2⟩ := info_parts infoWr
  refine wpList_append_own w hgd s x 23 ho B 35 i0 _ 2 32 Try.underlying23 hi hz0 hz1 hz2 rfl (by omega) sv l.length (l.flatMap Wv.cs) hs hown ⟨b, 0, none⟩ 1 1 u.cs hx rfl (fun j y hy => ?_) (fun y hy => ?_) (by unfold maxLen; omega) (by omega) hB (fun v' w' h1 h2 _ => ?_)
  · have hadd : (⟨b, 0, none⟩ : Addr).add j = ⟨b, j, none⟩ := by unfold Addr.add; split <;> simp_all
    rw [hadd]
    simp only [World.cell?, hc]
    simpa [Wv.cs] using hy
  · simp [Wv.cs] at hy
    rcases hy with rfl | rfl
    · rfl
    · exact hu
  · refine h v' w' ?_ ((Below.refl B w).grown h2 hB (fun k hk => (World.ownsRow.lt hown k hk).1))
    unfold OWv
    simpa using h1
/-- a write whose sector the disk has -/
def isIn (n : Nat) (u : Wv) : Bool := decide (0 ≤ u.at_) && decide (u.at_ < n)
theorem RB.one {w : World} {v : Value} {l : List UInt8} (h : RB w v l) : v.oneCell' = true := by
  obtain ⟨a, c, rfl, _⟩ := h; rfl
set_option maxHeartbeats 2000000 in
theorem inside (v : Value) (us : List Wv) (n : Nat) (w : World) (hr : RWv w v us) (_hn : n ≤ 1073741824) (hl : us.length ≤ 1073741824) :
    Calls Try.prog 11 #[v, .int .i64 n] w fun e w' => ∃ v', e = .returned v' ∧ OWv w.heap.size w' v' (us.filter (isIn n)) ∧ Below w.heap.size w w' := by
  have HR : Hid (RWv w v us) := hr
  obtain ⟨⟨a, c, rfl, _, _⟩, _⟩ := hr
  have H0 : Hid (OWv w.heap.size w (.slice none 0 0) ((us.take 0).filter (isIn n))) := World.ownsRow_nil _ _ _ _
  have HF : Hid (∀ k, ((us.take k).filter (isIn n)).length ≤ k) := fun k => Nat.le_trans (List.length_filter_le _ _) (List.length_take_le _ _)
  generalize hln : us.length = ln at *
  have HLN : Hid (us.length = ln) := hln
  clear hln
  go_enter Try.func11, Try.ntmps11
  go_wp2
  go_loopw [5, 6] (fun v i wr => ∃ (k vn : Nat) (va : Option Addr) (vc : Nat), k ≤ ln ∧ i = .int .i64 k ∧ v = .slice va vn vc ∧ Hid (OWv w.heap.size wr (.slice va vn vc) ((us.take k).filter (isIn n)) ∧ Below w.heap.size w wr)) (fun _ i _ => ln - (intOf i).toNat)
  case atStart => exact ⟨0, 0, none, 0, Nat.zero_le _, rfl, rfl, H0.out, Below.refl _ _⟩
  case round =>
    clear H0
    obtain ⟨k, vn, va, vc, hk, rfl, rfl, H⟩ := hrel
    by_cases hlt : k < ln
    · obtain ⟨u, hu⟩ : ∃ u, us[k]? = some u := ⟨us[k]'(by rw [HLN.out]; exact hlt), List.getElem?_eq_getElem _⟩
      obtain ⟨g, o, rfl, hc1, hc2⟩ : ∃ g o, a = some ⟨g, o, none⟩ ∧ wr.cell? ⟨g, o + k * 2, none⟩ = some (.int .i64 u.at_) ∧ wr.cell? ⟨g, o + k * 2 + 1, none⟩ = some u.dv := by
        obtain ⟨⟨a', c', e, _, h⟩, _⟩ := HR.out.keep H.out.2
        simp only [Value.slice.injEq] at e
        rcases h with h0 | ⟨g, o, e2, _, h⟩
        · rw [h0] at hu; simp at hu
        · exact ⟨g, o, by rw [e.1, e2], h k u hu⟩
      have HT : Hid ((us.take (k + 1)).filter (isIn n) = (us.take k).filter (isIn n) ++ if isIn n u then [u] else []) := by
        obtain ⟨h1, h2⟩ := List.getElem?_eq_some_iff.1 hu
        show (us.take (k + 1)).filter (isIn n) = _
        rw [List.take_succ_eq_append_getElem h1, List.filter_append, h2]
        by_cases hb : isIn n u = true <;> simp [hb]
      have hone : u.dv.oneCell' = true := (HR.out.2 u (List.mem_of_getElem? hu)).1.one
      by_cases h0 : 0 ≤ u.at_
      · by_cases h1 : u.at_ < n
        · have hin : isIn n u = true := by simp [isIn, h0, h1]
          rw [hin] at HT
          have HA : Hid (OWv w.heap.size (wr.alloc (.cells #[.int .i64 u.at_, u.dv] 35)) (.slice va vn vc) ((us.take k).filter (isIn n)) ∧ w.heap.size ≤ (wr.alloc (.cells #[.int .i64 u.at_, u.dv] 35)).heap.size ∧ Below w.heap.size w (wr.alloc (.cells #[.int .i64 u.at_, u.dv] 35)) ∧ ((us.take k).filter (isIn n)).length < 1073741824) :=
            ⟨ownsRow_fr (S := fun _ => True) H.out.1 (Fr.of_below ((Below.refl _ _).alloc (Nat.le_refl _) _)) (fun _ _ => trivial), by have := H.out.2.size; simp; omega, H.out.2.alloc H.out.2.size _, by have := HF.out k; omega⟩
          have hq0 : decide (0 ≤ u.at_) = true := decide_eq_true h0
          have hq1 : decide (u.at_ < (n : Int)) = true := decide_eq_true h1
          have HG : Hid (∀ W : World, (W.alloc (.cells #[.int .i64 u.at_, u.dv] 35)).heap[W.heap.size]? = some (.cells #[.int .i64 u.at_, u.dv] 35 (0, 0))) := fun W => heapNew _ _
          clear H hin hu
          obtain ⟨ua, ud, ul⟩ := u
          dsimp only at *
          go_wp2_with (at_builtin; refine append_wr rfl _ _ rfl rfl HA.out.1 wr.heap.size ⟨ua, ud, ul⟩ rfl (HG.out wr) hone HA.out.2.1 HA.out.2.2.2 ?_; intro v' w1 ho1 hb1; obtain ⟨a', n', c', rfl⟩ : ∃ a n c, v' = .slice a n c := (by obtain ⟨a, c, e⟩ := ownsRow_form ho1; exact ⟨a, _, c, e⟩); have HN : Hid (OWv w.heap.size w1 (.slice a' n' c') ((us.take (k + 1)).filter (isIn n)) ∧ Below w.heap.size w w1) := ⟨by rw [HT.out]; exact ho1, HA.out.2.2.1.trans hb1⟩; clear ho1 hb1 HA HT)
          go_roundw
          case rel => exact ⟨k + 1, n', a', c', by omega, by go_num, rfl, HN⟩
          case measure => (simp [intOf]; omega)
        · have hin : isIn n u = false := by simp [isIn, h1]
          rw [hin] at HT
          have hq0 : decide (0 ≤ u.at_) = true := decide_eq_true h0
          have hq1 : decide (u.at_ < (n : Int)) = false := decide_eq_false h1
          have HN : Hid (OWv w.heap.size wr (.slice va vn vc) ((us.take (k + 1)).filter (isIn n)) ∧ Below w.heap.size w wr) := ⟨by rw [HT.out]; simpa using H.out.1, H.out.2⟩
          clear H hin hu HT
          obtain ⟨ua, ud, ul⟩ := u
          dsimp only at *
          go_wp2
          go_roundw
          case rel => exact ⟨k + 1, vn, va, vc, by omega, by go_num, rfl, HN⟩
          case measure => (simp [intOf]; omega)
      · have hin : isIn n u = false := by simp [isIn, h0]
        rw [hin] at HT
        have hq0 : decide (0 ≤ u.at_) = false := decide_eq_false h0
        have HN : Hid (OWv w.heap.size wr (.slice va vn vc) ((us.take (k + 1)).filter (isIn n)) ∧ Below w.heap.size w wr) := ⟨by rw [HT.out]; simpa using H.out.1, H.out.2⟩
        clear H hin hu HT
        obtain ⟨ua, ud, ul⟩ := u
        dsimp only at *
        go_wp2
        go_roundw
        case rel => exact ⟨k + 1, vn, va, vc, by omega, by go_num, rfl, HN⟩
        case measure => (simp [intOf]; omega)
    · have hkn : k = us.length := by rw [HLN.out]; omega
      have HE : Hid (OWv w.heap.size wr (.slice va vn vc) (us.filter (isIn n)) ∧ Below w.heap.size w wr) := ⟨by have := H.out.1; rw [hkn, List.take_length] at this; exact this, H.out.2⟩
      clear H hkn
      go_wp2
      go_ret
      exact ⟨_, rfl, HE.out.1, HE.out.2⟩
end Go.Proofs.Ytkagcefboahgkaa
