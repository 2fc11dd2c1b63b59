import Derived.Test.YteafkmdgnfbcfaaDoorMakeR
import Derived.Deep.RegionLaw
namespace Go.Proofs.YteafkmdgnfbcfaaDoor
open Go.RowKit
theorem step_call30 {ops : Array Oper} {o : Oper} {a : Act} {w : World} {K : Act → World → Prop} {Q : Exit → Act → World → Prop} {E : Prop} (hg : o.guard = none) (x : Operand) (v r : Value)
    (ho : o.op = .call { callee := .value (.func 15), args := #[x], argTypes := #[3] }) (hx : a.eval x = v) (hc : ∀ w, Calls Tryd.prog 15 #[v] w fun e w' => e = .returned r ∧ w = w')
    (h : K (a.put o.dst r) w) : if Region.wanted o (yielded ops a.tmps) = true then Oper.wp Tryd.prog o a w K Q else E := by
  have hw : Region.wanted o (yielded ops a.tmps) = true := by simp [Region.wanted, hg]
  rw [if_pos hw]
  have hr : (execOp a.eval o).run Tryd.prog w = .ok (.enter 15 #[v]) w := by
    obtain ⟨d, op, t, p, af, gd⟩ := o
    simp only at ho hg
    subst ho hg
    go_simp
    rw [← hx]
    unfold Act.eval
    cases x <;> simp
  unfold Oper.wp
  rw [hr, Oper.upon_enter]
  refine (hc w).mono ?_
  rintro e w' ⟨rfl, rfl⟩
  exact h
theorem step_append_bool {ops : Array Oper} {o : Oper} {a : Act} {Q : Exit → Act → World → Prop} {K : Act → World → Prop} {E : Prop} {w : World} {B : Nat} {sv : Value} {l : List Bool} (hgd : o.guard = none) (s x : Operand)
    (ho : o.op = .call { callee := .builtin .append, args := #[s, x], argTypes := #[34, 34] }) (hs : a.eval s = sv) (hown : OB B w sv l) (b : Nat) (c : Bool) (hx : a.eval x = .slice (some ⟨b, 0, none⟩) 1 1)
    (hc : w.cell? ⟨b, 0, none⟩ = some (.bool c)) (hB : B ≤ w.heap.size) (hlim : l.length < 140737488351232)
    (h : ∀ v' w', OB B w' v' (l ++ [c]) → Below B w w' → K (a.put o.dst v') w') : if Region.wanted o (yielded ops a.tmps) = true then Oper.wp Tryd.prog o a w K Q else E := by
  have hw : Region.wanted o (yielded ops a.tmps) = true := by simp [Region.wanted, hgd]
  rw [if_pos hw]
  obtain ⟨i0, hi, hz0, hz1, hz2⟩ := info_parts info4
  refine wp_append_own w s x 34 ho B 4 i0 _ 1 1 Tryd.underlying34 hi hz0 hz1 hz2 rfl (by omega) sv l.length (l.map Value.bool) hs hown ⟨b, 0, none⟩ 1 1 [.bool c] hx rfl (fun j u hu => ?_) (fun u hu => ?_) (by unfold maxLen; omega) (by omega) hB (fun v' w' h1 h2 _ => ?_)
  · match j, hu with
    | 0, hu => simp at hu; subst hu; simpa [Addr.add] using hc
  · simp at hu; subst hu; rfl
  · refine h v' w' ?_ ((Below.refl B w).grown h2 hB (fun k hk => (World.ownsRow.lt hown k hk).1))
    have e : l.map Value.bool ++ [Value.bool c] = (l ++ [c]).map Value.bool := by simp
    rw [e] at h1
    simpa [OB] using h1
/-- the first k bits -/
def bl (l : List UInt8) (k : Nat) : List Bool := (List.range k).map (bit l)
theorem bl_len (l : List UInt8) (k : Nat) : (bl l k).length = k := by simp [bl]
theorem bl_snoc (l : List UInt8) (k : Nat) : bl l (k + 1) = bl l k ++ [bit l k] := by simp [bl, List.range_succ]
theorem lb_bl (l : List UInt8) (k i : Nat) (h : i < k) : lb (bl l k) i = bit l i := by
  unfold lb bl
  simp [List.getD, h]
theorem test_bit (l : List UInt8) (i : Nat) : (((byt l (i / 8)).toNat : Int) / (mk (i % 8) : Int) % 2 == 1) = bit l i := by
  have h := div_mk (byt l (i / 8)) (i % 8) (Nat.mod_lt _ (by omega))
  unfold bit
  rw [← h, Bool.eq_iff_iff, beq_iff_eq, beq_iff_eq]
  have : (((byt l (i / 8)).toNat : Int) / (mk (i % 8) : Int) % 2) = (((byt l (i / 8)).toNat / mk (i % 8) % 2 : Nat) : Int) := by simp
  rw [this]; omega
set_option maxHeartbeats 1000000 in
theorem open32 (v : Value) (l : List UInt8) (w : World) (hr : RB w v l) (hl : l.length ≤ 100000) :
    Calls Tryd.prog 9 #[v] w fun e w' => ∃ v', e = .returned v' ∧ OB w.heap.size w' v' (bl l (8 * l.length)) ∧ Below w.heap.size w w' := by
  obtain ⟨va, vc, rfl, hr⟩ := hr
  generalize hN : l.length = N at *
  have HN : Hid (l.length = N) := hN
  clear hN
  have HR : Hid (l = [] ∨ ∃ g o, va = some (⟨g, o, none⟩ : Addr) ∧ g < w.heap.size ∧ ∀ i, i < N → w.cell? ⟨g, o + i, none⟩ = some (.int .u8 ((byt l i).toNat : Int))) := hr
  clear hr
  go_enter Tryd.func9, Tryd.ntmps9
  go_wp2
  go_loopw [3, 4] (fun b t wr => ∃ (k : Nat) (a : Option Addr) (c : Nat), k ≤ 8 * N ∧ t = .int .i64 k ∧ b = .slice a k c ∧ OB w.heap.size wr b (bl l k) ∧ Below w.heap.size w wr) (fun _ t _ => 8 * N - (intOf t).toNat)
  case atStart => exact ⟨0, none, 0, Nat.zero_le _, rfl, rfl, World.ownsRow_nil _ _ _ _, Below.refl _ _⟩
  case round =>
    obtain ⟨k, a, c, hk, rfl, rfl, ho, hb⟩ := hrel
    by_cases hlt : k < 8 * N
    · rcases HR.out with hnil | ⟨g, o, rfl, hg, hc⟩
      · have := HN.out; rw [hnil] at this; simp at this; omega
      have hck : wr.cell? ⟨g, o + k / 8, none⟩ = some (.int .u8 ((byt l (k / 8)).toNat : Int)) := (hb.cell (p := ⟨g, o + k / 8, none⟩) hg).trans (hc (k / 8) (by omega))
      have ht := test_bit l k
      have hm := mk_pos (k % 8)
      have hm2 := mk_lt (k % 8)
      have hx := UInt8.toNat_lt (byt l (k / 8))
      have hB := hb.size
      have HS : Hid (bl l (k + 1) = bl l k ++ [bit l k] ∧ (bl l k).length = k) := ⟨bl_snoc l k, bl_len l k⟩
      have HO : Hid (OB w.heap.size wr (.slice a k c) (bl l k) ∧ Below w.heap.size w wr) := ⟨ho, hb⟩
      clear hc HR HN ho hb
      generalize bit l k = bt at *
      generalize (byt l (k / 8)).toNat = x at *
      generalize hp : k / 8 = p at *
      have hk8 : IntKind.i64.wrap ((k : Int) / 8) = (p : Int) := by rw [show (k : Int) / 8 = (p : Int) by omega]; exact wrap_nat p (by omega)
      have b1 : (0 : Int) ≤ (p : Int) := by omega
      have b2 : (p : Int) < (N : Int) := by omega
      have hx0 : IntKind.i64.wrap (x : Int) = (x : Int) := wrap_nat x (by omega)
      have hm0 : mk (k % 8) ≠ 0 := by omega
      have hq1 : (x : Int).tdiv (mk (k % 8) : Int) = ((x / mk (k % 8) : Nat) : Int) := by rw [Int.tdiv_eq_ediv_of_nonneg (by omega)]; simp
      have hq2 : ((((x / mk (k % 8) : Nat) : Int)) % 2 == 1) = bt := by rw [← ht]; simp
      have hq3 : x / mk (k % 8) ≤ x := Nat.div_le_self _ _
      generalize x / mk (k % 8) = q at *
      have hq4 : IntKind.i64.wrap (q : Int) = (q : Int) := wrap_nat q (by omega)
      have hq5 : (q : Int).tmod 2 = (q : Int) % 2 := Int.tmod_eq_emod_of_nonneg (by omega)
      have hq6 : IntKind.i64.wrap ((q : Int) % 2) = (q : Int) % 2 := by
        have := wrap_nat (q % 2) (by omega)
        simpa using this
      clear ht
      have HW : Hid (∀ w, Calls Tryd.prog 15 #[.int .i64 k] w fun e w' => e = .returned (.int .i64 (mk (k % 8) : Int)) ∧ w = w') := fun w => weight30 k (by omega) w
      go_wp2
      generalize mk (k % 8) = m at *
      have h13 : OB w.heap.size (wr.drew.alloc (Obj.cells #[.bool bt] 4)) (.slice a k c) (bl l k) := (HO.out.1.drew 1).alloc _
      have h14 : (wr.drew.alloc (Obj.cells #[.bool bt] 4)).cell? ⟨wr.heap.size, 0, none⟩ = some (.bool bt) := by go_simp
      have H15 : Hid (w.heap.size ≤ (wr.drew.alloc (Obj.cells #[.bool bt] 4)).heap.size) := Nat.le_trans hB ((belowDrew wr 1).alloc (Nat.le_refl _) (Obj.cells #[.bool bt] 4)).size
      go_region_law (first
        | (refine step_append_bool (w := wr.drew.alloc (Obj.cells #[.bool bt] 4)) (sv := .slice a k c) (l := bl l k) (B := w.heap.size) rfl (.tmp 12) (.tmp 24) rfl rfl h13 wr.heap.size bt rfl h14 H15.out (by rw [HS.out.2]; omega) ?_; intro v' w1 ho' hb1; obtain ⟨a', c', rfl⟩ := ho'.form)
        | (refine step_call30 rfl (.tmp 19) (.int .i64 k) (.int .i64 m) rfl rfl HW.out ?_))
      all_goals go_wp2
      all_goals
        have hlen : (bl l k).length + 1 = k + 1 := by rw [HS.out.2]
        have ho2 : OB w.heap.size w1 (.slice a' ((bl l k).length + 1) c') (bl l (k + 1)) := by rw [HS.out.1]; simpa using ho'
        refine ⟨⟨k + 1, a', c', by omega, by go_num, by rw [hlen], ho2, ?_⟩, by simp [intOf]; omega⟩
        · exact ((belowN HO.out.2 1).alloc hB _).trans hb1
    · obtain rfl : k = 8 * N := by omega
      go_wp2
      go_ret
      exact ⟨_, rfl, ho, hb⟩
end Go.Proofs.YteafkmdgnfbcfaaDoor
