import Derived.Test.YtpnbhcjbbcekeaaGoodRef
import Derived.Deep.MidRow
import Derived.Lib.Hide
import Derived.Lib.OwnKind
namespace Go.Proofs.Ytpnbhcjbbcekeaa
open Go.RowKit
theorem heapNew (w : World) (o : Obj) : (w.alloc o).heap[w.heap.size]? = some o := by show (w.heap.push o)[w.heap.size]? = some o; simp
/-- a piece: its length, its leaves, what is not looked at -/
structure Pc where
  l : Int
  v : Int
  r : List Value
def Pc.ls (x : Pc) : List Value := .int .i64 x.l :: .int .i64 x.v :: x.r
def Pc.ok (x : Pc) : Prop := x.r.length = 33 ∧ ∀ u ∈ x.r, u.oneCell' = true
theorem Pc.ok.len {x : Pc} (h : x.ok) : x.ls.length = 35 := by unfold Pc.ls; simp [h.1]
/-- the slice v of pieces reads as these -/
def RP (w : World) (v : Value) (ps : List Pc) : Prop :=
  ∃ a c, v = .slice a ps.length c ∧ ps.length ≤ c ∧ (ps = [] ∨ ∃ g o, a = some ⟨g, o, none⟩ ∧ g < w.heap.size ∧ ∀ i x, ps[i]? = some x → w.rangeAt g (o + i * 35) x.ls) ∧ ∀ x ∈ ps, x.ok
theorem RP.keep {w w' : World} {v : Value} {ps : List Pc} (h : RP w v ps) (hb : Below w.heap.size w w') : RP w' v ps := by
  obtain ⟨a, c, rfl, hle, h, hm⟩ := h
  refine ⟨a, c, rfl, hle, ?_, hm⟩
  rcases h with h | ⟨g, o, h1, h2, h3⟩
  · exact .inl h
  · exact .inr ⟨g, o, h1, Nat.lt_of_lt_of_le h2 hb.size, fun i x hx j u hu => (World.cell?_of_block (w := w) (hb.block g h2)).trans (h3 i x hx j u hu)⟩
theorem RP.at {w : World} {a : Option Addr} {n c : Nat} {ps : List Pc} (h : RP w (.slice a n c) ps) (i : Nat) (x : Pc) (hx : ps[i]? = some x) : ∃ g o, a = some ⟨g, o, none⟩ ∧ g < w.heap.size ∧ w.rangeAt g (o + i * 35) x.ls ∧ x.ok := by
  obtain ⟨a', c', e, _, h, hm⟩ := h
  simp only [Value.slice.injEq] at e
  obtain ⟨rfl, -, -⟩ := e
  rcases h with rfl | ⟨g, o, rfl, h2, h3⟩
  · simp at hx
  · exact ⟨g, o, rfl, h2, h3 i x hx, hm x (List.mem_of_getElem? hx)⟩
/-- may the piece be? -/
def mb (b : Int) (x : Pc) : Bool := pl x.v && decide (1 ≤ x.l) && decide (x.l ≤ x.v * b)
theorem pl_bd {n : Int} (h : pl n = true) : 1 ≤ n ∧ n ≤ 1024 := by
  unfold pl at h; simp only [Bool.or_eq_true, beq_iff_eq] at h; omega
theorem mb_v {b : Int} {x : Pc} (h : pl x.v = false) : mb b x = false := by unfold mb; rw [h]; rfl
theorem pl_lo {n : Int} (h : n < 1) : pl n = false := by
  cases e : pl n with
  | false => rfl
  | true => have := pl_bd e; omega
theorem pl_hi {n : Int} (h : 1024 < n) : pl n = false := by
  cases e : pl n with
  | false => rfl
  | true => have := pl_bd e; omega
theorem mb_bd {b : Int} {x : Pc} (hb : pw b = true) (h : mb b x = true) : 1 ≤ x.l ∧ x.l ≤ 16777216 := by
  unfold mb at h
  simp only [Bool.and_eq_true, decide_eq_true_eq] at h
  obtain ⟨⟨h1, h2⟩, h3⟩ := h
  have c1 := pl_bd h1
  have c2 := pw_bd hb
  have : x.v * b ≤ 1024 * 16384 := Int.mul_le_mul c1.2 c2.2 (by omega) (by omega)
  omega
theorem wr_small {z : Int} (h0 : 0 ≤ z) (h1 : z ≤ 16777216) : wrap64 z = z := by unfold wrap64; omega
theorem ret_b {a b : Bool} (h : a = b) : Ending.returned (.bool a) = .returned (.bool b) := by rw [h]
theorem info35 {cs : List Value} (h : cs.length = 35) : (Try.prog.info? 34).map (·.size) = some cs.length := by rw [h]; kernel_rfl
set_option maxHeartbeats 1000000 in
theorem mayBe9 (b v : Int) (x : Pc) (hb : pw b = true) (w : World) :
    Calls Try.prog 9 #[sc b v, .agg (Value.int .i64 x.l :: .int .i64 x.v :: x.r).toArray] w fun e w' => e = .returned (.bool (mb b x)) ∧ Below w.heap.size w w' := by
  have hbd := pw_bd hb
  have HB : Hid (pw b = true) := hb
  clear hb
  obtain ⟨m, hm⟩ : ∃ m, mb b x = m := ⟨_, rfl⟩
  have HM : Hid (mb b x = m) := hm
  by_cases c1 : x.v < 1
  · obtain rfl : m = false := by rw [← hm]; exact mb_v (pl_lo c1)
    clear hm
    go_enter Try.func9, Try.ntmps9
    go_wp2
    go_ret
    exact ⟨ret_b HM.out.symm, ((Below.refl _ _).alloc (Nat.le_refl _) _).alloc (by simp) _⟩
  by_cases c2 : 1024 < x.v
  · obtain rfl : m = false := by rw [← hm]; exact mb_v (pl_hi c2)
    clear hm
    go_enter Try.func9, Try.ntmps9
    go_wp2
    go_ret
    exact ⟨ret_b HM.out.symm, ((Below.refl _ _).alloc (Nat.le_refl _) _).alloc (by simp) _⟩
  have hp := oc_leaf x.v (by omega) (by omega)
  cases hpl : pl x.v
  · obtain rfl : m = false := by rw [← hm]; exact mb_v hpl
    rw [hpl] at hp
    clear hm hpl
    go_enter Try.func9, Try.ntmps9
    go_wp2_with (go_at_call 15; refine (ones _ (by omega) (by omega) _).mono ?_; rintro e w' ⟨rfl, rfl⟩)
    go_ret
    exact ⟨ret_b HM.out.symm, ((Below.refl _ _).alloc (Nat.le_refl _) _).alloc (by simp) _⟩
  · have hmul : x.v * b ≤ 1024 * 16384 := Int.mul_le_mul (by omega) hbd.2 (by omega) (by omega)
    have hmul0 : 0 ≤ x.v * b := Int.mul_nonneg (by omega) (by omega)
    have hwr : wrap64 (x.v * b) = x.v * b := wr_small hmul0 (by omega)
    have hm2 : (decide (1 ≤ x.l) && decide (x.l ≤ x.v * b)) = m := by rw [← hm]; unfold mb; rw [hpl]; simp
    rw [hpl] at hp
    clear hm hpl
    by_cases c3 : x.l < 1
    · obtain rfl : m = false := by rw [← hm2]; simp; omega
      clear hm2
      go_enter Try.func9, Try.ntmps9
      go_wp2_with (go_at_call 15; refine (ones _ (by omega) (by omega) _).mono ?_; rintro e w' ⟨rfl, rfl⟩)
      go_ret
      exact ⟨ret_b HM.out.symm, ((Below.refl _ _).alloc (Nat.le_refl _) _).alloc (by simp) _⟩
    · obtain rfl : m = decide (x.l ≤ x.v * b) := by rw [← hm2]; simp; omega
      clear hm2 hmul hmul0
      go_enter Try.func9, Try.ntmps9
      go_wp2_with (go_at_call 15; refine (ones _ (by omega) (by omega) _).mono ?_; rintro e w' ⟨rfl, rfl⟩)
      go_ret
      exact ⟨by rw [hwr]; exact ret_b HM.out.symm, ((Below.refl _ _).alloc (Nat.le_refl _) _).alloc (by simp) _⟩
end Go.Proofs.Ytpnbhcjbbcekeaa
