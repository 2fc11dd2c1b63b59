import Derived.Test.YtkagcefboahgkaaFl
namespace Go.Proofs.Ytkagcefboahgkaa
open Go.RowKit
/-- an image of whole sectors -/
def wh (l : List UInt8) : List UInt8 := if l.length < 64 then fl l else l.take (64 * min (l.length / 64) 512)
theorem wh_gd (l : List UInt8) : (wh l).length % 64 = 0 ∧ 64 ≤ (wh l).length ∧ (wh l).length ≤ 32768 := by
  unfold wh
  split
  · rw [fl_len]; omega
  · rw [List.length_take]
    have := Nat.min_le_right (l.length / 64) 512
    have := Nat.min_le_left (l.length / 64) 512
    have h3 : 1 ≤ min (l.length / 64) 512 := by rw [Nat.le_min]; omega
    generalize min (l.length / 64) 512 = m at *
    rw [Nat.min_eq_left (by omega)]
    omega
theorem RB.pre {w : World} {a : Option Addr} {n c m : Nat} {l : List UInt8} (h : RB w (.slice a n c) l) (hm : m ≤ l.length) : RB w (.slice a m c) (l.take m) := by
  obtain ⟨a', c', e, hle, h⟩ := h
  simp only [Value.slice.injEq] at e
  obtain ⟨rfl, _, rfl⟩ := e
  have hl : (l.take m).length = m := by rw [List.length_take]; omega
  refine ⟨a, c, by rw [hl], by omega, ?_⟩
  rcases h with rfl | ⟨g, o, e, hg, hc⟩
  · exact .inl (by simp)
  · exact .inr ⟨g, o, e, hg, fun i hi => by rw [hl] at hi; rw [byt_take _ _ _ hi]; exact hc i (by omega)⟩
set_option maxHeartbeats 1000000 in
theorem whole_big (v : Value) (l : List UInt8) (w : World) (m : Nat) (hr : RB w v l) (hl : l.length ≤ 140737488351232) (h64 : 64 ≤ l.length) (hm : m = min (l.length / 64) 512) :
    Calls Try.prog 7 #[v] w fun e w' => ∃ v', e = .returned v' ∧ OW w.heap.size w' v' (l.take (64 * m)) ∧ Below w.heap.size w w' := by
  have HR : Hid (RB w v l) := hr
  have H0 : Hid (OW w.heap.size w (.slice none 0 0) []) := World.ownsRow_nil _ _ _ _
  have hm1 : 1 ≤ m ∧ m ≤ 512 ∧ 64 * m ≤ l.length := by
    subst hm
    have := Nat.min_le_right (l.length / 64) 512
    have := Nat.min_le_left (l.length / 64) 512
    have h3 : 1 ≤ min (l.length / 64) 512 := by rw [Nat.le_min]; omega
    generalize min (l.length / 64) 512 = m at *
    omega
  obtain ⟨hm2, hm3, hm4⟩ := hm1
  have HP : Hid (∀ c a, v = .slice a l.length c → RB w (.slice a (64 * m) c) (l.take (64 * m))) := fun c a e => by
    have := HR.out
    rw [e] at this
    exact this.pre hm4
  have HL : Hid ((l.take (64 * m)).length ≤ 32768) := by
    show (l.take (64 * m)).length ≤ 32768
    rw [List.length_take]; omega
  obtain ⟨a, c, rfl, hlc, _⟩ := hr
  have HX := Lib.hid (HP.out c a rfl)
  clear HP HR
  by_cases hbig : 512 < l.length / 64
  · have hm5 : m = 512 := by omega
    subst hm5
    generalize l.length = n at *
    have hq : decide ((512 : Int) < (n : Int) / 64) = true := decide_eq_true (by omega)
    go_enter Try.func7, Try.ntmps7
    go_wp2_with (at_builtin; refine append_bytes rfl _ _ rfl rfl H0.out rfl HX.out (Nat.le_refl _) (by have := HL.out; simp at this ⊢; omega) ?_; intro v' w1 ho1 hb1; rw [List.nil_append] at ho1; obtain ⟨a', n', c', rfl⟩ : ∃ a n c, v' = .slice a n c := (by obtain ⟨a, c, e⟩ := ho1.form; exact ⟨a, _, c, e⟩))
    go_ret
    exact ⟨_, rfl, ho1, hb1⟩
  · have hm5 : m = l.length / 64 := by omega
    have hq : decide ((512 : Int) < (l.length : Int) / 64) = false := decide_eq_false (by omega)
    have hmc : (l.length : Int) / 64 = (m : Int) := by omega
    generalize l.length = n at *
    clear hm hm5
    have hm0 : ((m : Int) == 0) = false := beq_eq_false_iff_ne.2 (by omega)
    go_enter Try.func7, Try.ntmps7
    go_wp2_with (at_builtin; refine append_bytes rfl _ _ rfl rfl H0.out rfl HX.out (Nat.le_refl _) (by have := HL.out; simp at this ⊢; omega) ?_; intro v' w1 ho1 hb1; rw [List.nil_append] at ho1; obtain ⟨a', n', c', rfl⟩ : ∃ a n c, v' = .slice a n c := (by obtain ⟨a, c, e⟩ := ho1.form; exact ⟨a, _, c, e⟩))
    go_ret
    exact ⟨_, rfl, ho1, hb1⟩
set_option maxHeartbeats 1000000 in
theorem whole_small (v : Value) (l : List UInt8) (w : World) (hr : RB w v l) (h64 : l.length < 64) :
    Calls Try.prog 7 #[v] w fun e w' => ∃ v', e = .returned v' ∧ OW w.heap.size w' v' (fl l) ∧ Below w.heap.size w w' := by
  have HR : Hid (RB w v l) := hr
  have H0 : Hid (OW w.heap.size w (.slice none 0 0) []) := World.ownsRow_nil _ _ _ _
  obtain ⟨a, c, rfl, hlc, _⟩ := hr
  have HX : Hid (RB w (.slice a 0 c) []) := by have := HR.out.pre (m := 0) (Nat.zero_le _); show RB w (.slice a 0 c) []; simpa using this
  have HLL : Hid (l.length < 64) := h64
  have hq : decide ((512 : Int) < (l.length : Int) / 64) = false := decide_eq_false (by omega)
  have hmc : (l.length : Int) / 64 = 0 := by omega
  generalize hn : l.length = n at *
  go_enter Try.func7, Try.ntmps7
  go_wp2_with (at_builtin; refine append_bytes rfl _ _ rfl rfl H0.out rfl HX.out (Nat.le_refl _) (by simp) ?_; intro v' w1 ho1 hb1; rw [List.nil_append] at ho1; obtain ⟨a', c', rfl⟩ := ho1.form; have HO : Hid (OW w.heap.size w1 (.slice a' 0 c') [] ∧ Below w.heap.size w w1) := ⟨ho1, hb1⟩; clear ho1 hb1)
  refine (full _ l w1 (HR.out.keep HO.out.2) (by omega)).mono ?_
  rintro e w2 ⟨g, rfl, hg, hrb, hb2⟩
  have HO2 : Hid (OW w.heap.size w2 (.slice a' 0 c') [] ∧ RB w2 (.slice (some ⟨g, 0, none⟩) 64 64) (fl l) ∧ Below w.heap.size w w2) := ⟨HO.out.1.grow hb2, hrb, HO.out.2.trans (hb2.mono HO.out.2.size)⟩
  clear hrb hb2 hg HO
  go_wp2_with (at_builtin; refine append_bytes rfl _ _ rfl rfl HO2.out.1 rfl HO2.out.2.1 (HO2.out.2.2.size) (by rw [fl_len]; simp) ?_; intro v' w3 ho3 hb3; rw [List.nil_append] at ho3; obtain ⟨a3, n3, c3, rfl⟩ : ∃ a n c, v' = .slice a n c := (by obtain ⟨a, c, e⟩ := ho3.form; exact ⟨a, _, c, e⟩))
  go_ret
  exact ⟨_, rfl, ho3, HO2.out.2.2.trans hb3⟩
theorem whole (v : Value) (l : List UInt8) (w : World) (hr : RB w v l) (hl : l.length ≤ 140737488351232) :
    Calls Try.prog 7 #[v] w fun e w' => ∃ v', e = .returned v' ∧ OW w.heap.size w' v' (wh l) ∧ Below w.heap.size w w' := by
  by_cases h : l.length < 64
  · unfold wh; rw [if_pos h]; exact whole_small v l w hr h
  · unfold wh; rw [if_neg h]; exact whole_big v l w _ hr hl (by omega) rfl
theorem cell_new0 (w : World) (v : Value) (t : TypeId) : (w.alloc (.cells #[v] t)).cell? ⟨w.heap.size, 0, none⟩ = some v := by
  simp only [World.cell?, heapNew]
  rfl
/-- bools of one's own -/
def OBo (B : Nat) (w : World) (v : Value) (l : List Bool) : Prop := w.ownsRow B 4 1 v l.length (l.map Value.bool)
theorem OBo.rb {B : Nat} {w : World} {v : Value} {l : List Bool} (h : OBo B w v l) : RBo w v l := by
  have h' := h
  rcases h.2 with ⟨rfl, h0⟩ | ⟨g, cap, cur, rfl, _, hg, hle, _⟩
  · have : l = [] := List.length_eq_zero_iff.1 h0
    subst this; exact ⟨none, 0, rfl, Nat.le_refl _, .inl rfl⟩
  · refine ⟨_, cap, rfl, hle, .inr ⟨g, 0, rfl, (Array.getElem?_eq_some_iff.1 hg).1, fun i hi => ?_⟩⟩
    have := World.ownsRow.cellAt h' i (by omega)
    rw [Nat.zero_add, this]
    simp [hi, List.getD]
/-- which writes are kept -/
def kp (keep : List Bool) (n : Nat) : List Bool := (List.range n).map fun i => keep.getD i false
theorem kp_len (keep : List Bool) (n : Nat) : (kp keep n).length = n := by simp [kp]
theorem kp_succ (keep : List Bool) (n : Nat) : kp keep (n + 1) = kp keep n ++ [keep.getD n false] := by simp [kp, List.range_succ]
theorem kp_at (keep : List Bool) (n i : Nat) (h : i < n) : (kp keep n).getD i false = keep.getD i false := by simp [kp, List.getD, h]
theorem infoBo : (Try.prog.info? 4).map (fun i => (i.zero, i.size, i.bytes)) = some (some (.bool false), 1, 1) := by kernel_rfl
theorem append_bool {ops : Array Oper} {rest : List Oper} {o : Oper} {a : Act} {Q : Exit → Act → World → Prop} {w : World} {B : Nat} {sv : Value} {l : List Bool} (hgd : o.guard = none) (s x : Operand)
    (ho : o.op = .call { callee := .builtin .append, args := #[s, x], argTypes := #[51, 51] }) (hs : a.eval s = sv) (hown : OBo B w sv l) (b : Nat) (c : Bool) (hx : a.eval x = .slice (some ⟨b, 0, none⟩) 1 1)
    (hc : w.cell? ⟨b, 0, none⟩ = some (.bool c)) (hB : B ≤ w.heap.size) (hlim : l.length < 1073741824)
    (h : ∀ v' w', OBo B w' v' (l ++ [c]) → Below B w w' → wpList Try.prog ops Q rest (a.put o.dst v') w') : wpList Try.prog ops Q (o :: rest) a w := by
  obtain ⟨i0, hi, hz0, hz1, hz2⟩ := info_parts infoBo
  refine wpList_append_own w hgd s x 51 ho B 4 i0 _ 1 1 Try.underlying51 hi hz0 hz1 hz2 rfl (by omega) sv l.length (l.map Value.bool) hs hown ⟨b, 0, none⟩ 1 1 [.bool c] hx rfl (fun j u hu => ?_) (fun u hu => ?_) (by unfold maxLen; omega) (by omega) hB (fun v' w' h1 h2 _ => ?_)
  · match j, hu with
    | 0, hu => simp at hu; subst hu; simpa [Addr.add] using hc
  · simp at hu; subst hu; rfl
  · refine h v' w' ?_ ((Below.refl B w).grown h2 hB (fun k hk => (World.ownsRow.lt hown k hk).1))
    unfold OBo
    simpa using h1
end Go.Proofs.Ytkagcefboahgkaa
