import Derived.Test.YtkbfphdedgeofaaRg
namespace Go.Proofs.Ytkbfphdedgeofaa
open Go.RowKit
theorem RBS.drop {w : World} {a : Option Addr} {n c m : Nat} {bs : List (List UInt8)} (h : RBS w (.slice a n c) bs) (hm : m ≤ bs.length) : RBS w (.slice (if c = m then a else a.map (·.add m)) (n - m) (c - m)) (bs.drop m) := by
  obtain ⟨a', c', e, hle, h⟩ := h
  simp only [Value.slice.injEq] at e
  obtain ⟨rfl, rfl, rfl⟩ := e
  refine ⟨_, _, by rw [List.length_drop], by rw [List.length_drop]; omega, ?_⟩
  by_cases h0 : bs.length = m
  · left; rw [← h0, List.drop_length]
  right
  rcases h with rfl | ⟨g, o, rfl, hg, h⟩
  · simp at hm h0; omega
  rw [if_neg (by omega)]
  refine ⟨g, o + m, by simp [Addr.add_mid], hg, fun i hi => ?_⟩
  rw [List.length_drop] at hi
  obtain ⟨u, h1, h2⟩ := h (m + i) (by omega)
  refine ⟨u, by rw [Nat.add_assoc]; exact h1, ?_⟩
  have e : (bs.drop m).getD i [] = bs.getD (m + i) [] := by simp [List.getD]
  rw [e]; exact h2
/-- handshakes that are told: none, or a list of them -/
def SMet (w : World) (v : Value) (met : List (List UInt8)) : Prop := (met = [] ∧ ∃ a c, v = .slice a 0 c) ∨ ∃ B, OM B w v met
structure RPO (w : World) (S : Nat) (h : Bool) (T : List UInt8) (av : Value) (mv bv : Value) (er : Int) (met bs : List (List UInt8)) (w' : World) : Prop where
  rf : ∃ av', RF w' S h av' er ∧ OW (S + 1) w' av' T ∧ (T = [] → av' = .slice none 0 0) ∧ (av'.ownBlock = av.ownBlock ∨ ∀ g, av'.ownBlock = some g → w.heap.size ≤ g)
  sm : SMet w' mv met
  rb : RBS w' bv bs
  fr : Fr (fun k => k ≠ S ∧ av.ownBlock ≠ some k) w w'
set_option maxHeartbeats 1000000 in
theorem refPush_nil (w : World) (v : Value) :
    Calls Try.prog 17 #[.pointer none, v] w fun e w' => e = .returned (.tuple #[.slice none 0 0, .slice none 0 0, .int .i64 1]) ∧ w' = w := by
  go_enter Try.func17, Try.ntmps17
  go_wp2
  go_ret3
  exact ⟨rfl, rfl⟩
set_option maxHeartbeats 1000000 in
theorem refPush_broken (w : World) (S : Nat) (h : Bool) (av v : Value) (f : Int) (k : RF w S h av f) (hf : f ≠ 0) :
    Calls Try.prog 17 #[.pointer (some ⟨S, 0, none⟩), v] w fun e w' => e = .returned (.tuple #[.slice none 0 0, .slice none 0 0, .int .i64 103]) ∧ w' = w := by
  have c2 := k.c2
  have hf' : (f != 0) = true := by simp [hf]
  clear k
  go_enter Try.func17, Try.ntmps17
  go_wp2
  go_ret3
  exact ⟨rfl, rfl⟩
set_option maxHeartbeats 1000000 in
theorem refHeld_nil (w : World) :
    Calls Try.prog 21 #[.pointer none] w fun e w' => e = .returned (.int .i64 0) ∧ w' = w := by
  go_enter Try.func21, Try.ntmps21
  go_wp2
  go_ret
  exact ⟨rfl, rfl⟩
set_option maxHeartbeats 1000000 in
theorem refHeld_broken (w : World) (S : Nat) (h : Bool) (av : Value) (f : Int) (k : RF w S h av f) (hf : f ≠ 0) :
    Calls Try.prog 21 #[.pointer (some ⟨S, 0, none⟩)] w fun e w' => e = .returned (.int .i64 0) ∧ w' = w := by
  have c2 := k.c2
  have hf' : (f != 0) = true := by simp [hf]
  clear k
  go_enter Try.func21, Try.ntmps21
  go_wp2
  go_ret
  exact ⟨rfl, rfl⟩
set_option maxHeartbeats 1000000 in
theorem pushN_nil (w : World) (v : Value) (hv : ∃ a n c, v = .slice a n c) :
    Calls Try.prog 16 #[.pointer none, v] w fun e w' => e = .returned (.tuple #[.slice none 0 0, .slice none 0 0, .int .i64 1]) ∧ w' = w := by
  obtain ⟨a, n, c, rfl⟩ := hv
  go_enter Try.func16, Try.ntmps16
  go_wp2
  go_step3
  go_wp2
  rw [Exit.noGoto_ret]
  go_ret3
  exact ⟨rfl, rfl⟩
set_option maxHeartbeats 1000000 in
theorem pushN_broken (w : World) (R p s : Nat) (hv v : Value) (f : Int) (hk : RK w R p s hv f) (hf : f ≠ 0) (hfm : ∃ a n c, v = .slice a n c) :
    Calls Try.prog 16 #[.pointer (some ⟨R, 0, none⟩), v] w fun e w' => e = .returned (.tuple #[.slice none 0 0, .slice none 0 0, .int .i64 103]) ∧ w' = w := by
  obtain ⟨a, n, c, rfl⟩ := hfm
  have c3 := hk.c3
  have hf' : (f != 0) = true := by simp [hf]
  clear hk
  go_enter Try.func16, Try.ntmps16
  go_wp2
  go_step3
  go_wp2
  rw [Exit.noGoto_ret]
  go_ret3
  exact ⟨rfl, rfl⟩
set_option maxHeartbeats 1000000 in
theorem held_nil (w : World) :
    Calls Try.prog 20 #[.pointer none] w fun e w' => e = .returned (.int .i64 0) ∧ w' = w := by
  go_enter Try.func20, Try.ntmps20
  go_wp2
  go_ret
  exact ⟨rfl, rfl⟩
set_option maxHeartbeats 1000000 in
theorem fault_nil (w : World) :
    Calls Try.prog 22 #[.pointer none] w fun e w' => e = .returned (.int .i64 1) ∧ w' = w := by
  go_enter Try.func22, Try.ntmps22
  go_wp2
  go_ret
  exact ⟨rfl, rfl⟩
set_option maxHeartbeats 1000000 in
theorem refNew (w : World) (h : Bool) :
    Calls Try.prog 15 #[.bool h] w fun e w' => e = .returned (.pointer (some ⟨w.heap.size, 0, none⟩)) ∧ RF w' w.heap.size h (.slice none 0 0) 0 ∧ Below w.heap.size w w' := by
  go_enter Try.func15, Try.ntmps15
  go_wp2
  go_ret
  exact ⟨rfl, heapNew _ _, (Below.refl _ _).alloc (Nat.le_refl _) _⟩
end Go.Proofs.Ytkbfphdedgeofaa
