import Derived.Test.YtpojcdepifeniaaDoorBk
import Derived.Test.YtpojcdepifeniaaDoorNext
import Derived.Test.YtpojcdepifeniaaDoorOfp
import Derived.Test.YtpojcdepifeniaaDoorOpenY
namespace Go.Proofs.YtpojcdepifeniaaDoor
open Go.RowKit
theorem OZ.alloc {B : Nat} {w : World} {v : Value} {zs : List Int} (h : OZ B w v zs) (o : Obj) : OZ B (w.alloc o) v zs := World.ownsRow.alloc h o
theorem OZ.form {B : Nat} {w : World} {v : Value} {zs : List Int} (h : OZ B w v zs) : ∃ a c, v = .slice a zs.length c := by
  obtain ⟨a, c, h, _⟩ := h.rz.form
  exact ⟨a, c, h⟩
theorem append_int {ops : Array Oper} {rest : List Oper} {o : Oper} {a : Act} {Q : Exit → Act → World → Prop} {w : World} {B : Nat} {sv : Value} {zs : List Int} (hgd : o.guard = none) (s x : Operand)
    (ho : o.op = .call { callee := .builtin .append, args := #[s, x], argTypes := #[31, 31] }) (hs : a.eval s = sv) (hown : OZ B w sv zs) (b : Nat) (c : Int) (hx : a.eval x = .slice (some ⟨b, 0, none⟩) 1 1)
    (hc : w.cell? ⟨b, 0, none⟩ = some (.int .i64 c)) (hB : B ≤ w.heap.size) (hlim : zs.length < 17592186043904)
    (h : ∀ v' w', OZ B w' v' (zs ++ [c]) → Below B w w' → wpList Tryd.prog ops Q rest (a.put o.dst v') w') : wpList Tryd.prog ops Q (o :: rest) a w := by
  obtain ⟨i0, hi, hz0, hz1, hz2⟩ := info_parts info3
  refine wpList_append_own w hgd s x 31 ho B 3 i0 _ 1 8 Tryd.underlying31 hi hz0 hz1 hz2 rfl (by omega) sv zs.length (zs.map (Value.int .i64)) hs hown ⟨b, 0, none⟩ 1 1 [.int .i64 c] hx rfl (fun j u hu => ?_) (fun u hu => ?_) (by unfold maxLen; omega) (by omega) hB (fun v' w' h1 h2 _ => ?_)
  · match j, hu with
    | 0, hu => simp at hu; subst hu; simpa [Addr.add] using hc
  · simp at hu; subst hu; rfl
  · refine h v' w' ?_ ((Below.refl B w).grown h2 hB (fun k hk => (World.ownsRow.lt hown k hk).1))
    have e : zs.map (Value.int .i64) ++ [Value.int .i64 c] = (zs ++ [c]).map (Value.int .i64) := by simp
    rw [e] at h1
    simpa [OZ] using h1
theorem iz_get (zs : List Int) (j : Nat) (h : j < zs.length) : iz zs j = zs[j] := by unfold iz; simp [List.getD, List.getElem?_eq_getElem h]
theorem mem_iz (zs : List Int) (x : Int) : x ∈ zs ↔ ∃ j, j < zs.length ∧ iz zs j = x := by
  rw [List.mem_iff_getElem]
  constructor
  · rintro ⟨j, h, rfl⟩; exact ⟨j, h, iz_get zs j h⟩
  · rintro ⟨j, h, rfl⟩; exact ⟨j, h, (iz_get zs j h).symm⟩
theorem inn_mem (zs : List Int) (i : Nat) : inn zs zs.length i = decide ((i : Int) ∈ zs) := by
  rw [Bool.eq_iff_iff, decide_eq_true_eq, mem_iz]
  unfold inn
  simp only [List.any_eq_true, List.mem_range, beq_iff_eq]
/-- those that are places below n -/
def fz (n : Nat) (zs : List Int) : List Int := zs.filter (fun z => decide (0 ≤ z) && decide (z < n))
theorem fz_mem {n : Nat} {zs : List Int} {z : Int} (h : z ∈ fz n zs) : 0 ≤ z ∧ z < n := by
  have := (List.mem_filter.1 h).2
  simpa using this
theorem fz_len (n : Nat) (zs : List Int) : (fz n zs).length ≤ zs.length := List.length_filter_le _ _
theorem take_snocZ (zs : List Int) (k : Nat) (h : k < zs.length) : zs.take (k + 1) = zs.take k ++ [iz zs k] := by
  rw [List.take_succ_eq_append_getElem h, iz_get zs k h]
theorem fz_yes {n : Nat} {zs : List Int} {k : Nat} (h : k < zs.length) (h0 : 0 ≤ iz zs k) (h1 : iz zs k < n) : fz n (zs.take (k + 1)) = fz n (zs.take k) ++ [iz zs k] := by
  unfold fz; rw [take_snocZ zs k h, List.filter_append]; simp [h0, h1]
theorem fz_no {n : Nat} {zs : List Int} {k : Nat} (h : k < zs.length) (h0 : ¬ (0 ≤ iz zs k ∧ iz zs k < n)) : fz n (zs.take (k + 1)) = fz n (zs.take k) := by
  unfold fz; rw [take_snocZ zs k h, List.filter_append]
  have : (decide (0 ≤ iz zs k) && decide (iz zs k < (n : Int))) = false := by
    rw [Bool.eq_false_iff]; intro h; simp at h; exact h0 h
  simp [this]
set_option maxHeartbeats 1000000 in
theorem has12 (v : Value) (zs : List Int) (x : Int) (w : World) (hr : RZ w v zs) (hl : zs.length ≤ 140737488351232) :
    Calls Tryd.prog 22 #[v, .int .i64 x] w fun e w' => e = .returned (.bool (decide (x ∈ zs))) ∧ ∃ n, w' = w.drewN n := by
  obtain ⟨a1, c1, rfl, k1⟩ := hr.form
  have HH : Hid (zs = [] ∨ ∃ g o, a1 = some ⟨g, o, none⟩ ∧ g < w.heap.size ∧ ∀ i, i < zs.length → w.cell? ⟨g, o + i, none⟩ = some (.int .i64 (iz zs i))) := k1
  clear hr k1
  generalize hD : decide (x ∈ zs) = D
  have HD : Hid (decide (x ∈ zs) = D) := hD
  clear hD
  go_enter Tryd.func22, Tryd.ntmps22
  go_wp2
  go_loopw [5] (fun i wr => ∃ k nq : Nat, k ≤ zs.length ∧ i = .int .i64 k ∧ wr = w.drewN nq ∧ ∀ j, j < k → iz zs j ≠ x) (fun i _ => zs.length - (intOf i).toNat)
  case atStart => exact ⟨0, 0, Nat.zero_le _, rfl, rfl, fun j hj => absurd hj (Nat.not_lt_zero _)⟩
  case round =>
    obtain ⟨k, nq, hk, rfl, rfl, hne⟩ := hrel
    have HNE : Hid (∀ j, j < k → iz zs j ≠ x) := hne
    clear hne
    by_cases hlt : k < zs.length
    · rcases HH.out with h | ⟨g1, o1, rfl, _, h1⟩
      · rw [h] at hlt; simp at hlt
      have q1 := h1 k hlt
      by_cases hx : iz zs k = x
      · have hDt : D = true := by rw [← HD.out, decide_eq_true_eq]; exact (mem_iz zs x).2 ⟨k, hlt, hx⟩
        rw [hx] at q1
        clear h1 HH hx
        go_wp2
        go_ret
        exact ⟨by subst hDt; rfl, _, rfl⟩
      · have hxb : (iz zs k == x) = false := beq_eq_false_iff_ne.2 hx
        have HN2 : Hid (∀ j, j < k + 1 → iz zs j ≠ x) := fun j hj => by
          by_cases h : j = k
          · rw [h]; exact hx
          · exact HNE.out j (by omega)
        clear h1 HH HNE hx
        generalize iz zs k = y at *
        go_wp2
        exact ⟨⟨k + 1, _, by omega, by go_num, rfl, HN2.out⟩, by simp [intOf]; omega⟩
    · have hDf : D = false := by
        rw [← HD.out, decide_eq_false_iff_not]
        intro h
        obtain ⟨j, hj, he⟩ := (mem_iz zs x).1 h
        exact HNE.out j (by omega) he
      go_wp2
      go_ret
      exact ⟨by subst hDf; rfl, _, rfl⟩
theorem of10_in {m : Nat} {os : List Int} {b : List UInt8} {er : Int} (h : OR m os b er) (hin : ∀ z ∈ os, 0 ≤ z ∧ z < m) : er = 0 ∧ BF m (fun i => decide ((i : Int) ∈ os)) b := by
  rcases h with ⟨_, _, k, hk, hbad⟩ | ⟨h1, _, h2⟩
  · have := hin (iz os k) ((mem_iz os _).2 ⟨k, hk, rfl⟩)
    omega
  · exact ⟨h1, h2.1, fun i => by rw [h2.2, inn_mem]⟩
theorem on1_ones (l : List UInt8) (a b : Nat) (hm : a + b ≤ 65536) (h : ∀ i, a ≤ i → i < a + b → bit l i = true) : (on1 l (a + b)).length = (on1 l a).length + b := by
  induction b with
  | zero => rfl
  | succ b ih =>
    have := ih (by omega) (fun i h1 h2 => h i h1 (by omega))
    rw [show a + (b + 1) = (a + b) + 1 by omega, on1_yes (by omega) (h _ (by omega) (by omega))]
    simp; omega
theorem on1_zeros (l : List UInt8) (s d : Nat) (h : ∀ i, s ≤ i → i < s + d → bit l i = false) : on1 l (s + d) = on1 l s := by
  induction d with
  | zero => rfl
  | succ d ih => rw [show s + (d + 1) = (s + d) + 1 by omega, on1_no (h _ (by omega) (by omega)), ih (fun i h1 h2 => h i h1 (by omega))]
theorem next_is {m : Nat} (hm6 : m ≤ 65536) {l : List UInt8} (hck : ck m l = 0) {fr k : Nat} {on : Bool} (hfr : fr ≤ m) (hx : NX m l fr on k) (v : Value) (w : World) (hr : RB w v l) (hm : MT w) :
    Calls Tryd.prog 21 #[.int .i64 m, v, .int .i64 fr, .bool on] w fun e w' => e = .returned (.tuple #[.int .i64 k, .int .i64 0]) ∧ ∃ nq, w' = w.drewN nq := by
  have hl : l.length ≤ 8192 := by have := ck_ok hck; simp at this; omega
  refine Calls.mono (next21 m (by omega) (by omega) v l fr (by omega) (by omega) on w hr hm (by omega)) ?_
  rintro e w' ⟨r, er, rfl, h, hq⟩
  obtain ⟨rfl, rfl⟩ := NR.unique h (.inr (.inr ⟨hck, by omega, by omega, rfl, k, rfl, by simpa using hx⟩))
  exact ⟨rfl, hq⟩
theorem ck_of_bf {m : Nat} (hm : m ≤ 65536) {f : Nat → Bool} {o : List UInt8} (h : BF m f o) : ck m o = 0 :=
  ck_fine hm h.1 (fun k h1 _ => by rw [h.2 k]; simp; omega)
end Go.Proofs.YtpojcdepifeniaaDoor
