import Derived.Test.YtglknmelcianjaaRj2
import Derived.Test.YtglknmelcianjaaMa
namespace Go.Proofs.Ytglknmelcianjaa
open Go.RowKit
section
variable {S : Nat → Prop} {w w' : World} {p q lb cap : Nat} {wv : Value} {ps : List (Wt × Value)} {lf : Int} {D : Dk}
theorem write_nil (w : World) (n : Int) (v : Value) : Calls Try.prog 29 #[.pointer none, .int .i64 n, v] w fun e w' => e = .returned (.int .i64 1) ∧ w' = w := by
  go_enter Try.func29, Try.ntmps29
  go_wp2
  go_ret
  exact ⟨rfl, rfl⟩
theorem sync_nil (w : World)  : Calls Try.prog 31 #[.pointer none] w fun e w' => e = .returned (.int .i64 1) ∧ w' = w := by
  go_enter Try.func31, Try.ntmps31
  go_wp2
  go_ret
  exact ⟨rfl, rfl⟩
theorem crash_nil (w : World) (v : Value) (a b : Int) : Calls Try.prog 35 #[.pointer none, v, .int .i64 a, .int .i64 b] w fun e w' => e = .returned (.int .i64 1) ∧ w' = w := by
  go_enter Try.func35, Try.ntmps35
  go_wp2
  go_ret
  exact ⟨rfl, rfl⟩
theorem image_nil (w : World)  : Calls Try.prog 26 #[.pointer none] w fun e w' => e = .returned (.slice none 0 0) ∧ w' = w := by
  go_enter Try.func26, Try.ntmps26
  go_wp2
  go_ret
  exact ⟨rfl, rfl⟩
theorem durable_nil (w : World)  : Calls Try.prog 17 #[.pointer none] w fun e w' => e = .returned (.slice none 0 0) ∧ w' = w := by
  go_enter Try.func17, Try.ntmps17
  go_wp2
  go_ret
  exact ⟨rfl, rfl⟩
theorem copy_nil (w : World)  : Calls Try.prog 10 #[.pointer none] w fun e w' => e = .returned (.pointer none) ∧ w' = w := by
  go_enter Try.func10, Try.ntmps10
  go_wp2
  go_ret
  exact ⟨rfl, rfl⟩
set_option maxHeartbeats 1000000 in
theorem write_no (h : DK S w p D) (s : Int) (hs : s < 0 ∨ D.last.length < 64 * s + 64) (v : Value) : Calls Try.prog 29 #[.pointer (some ⟨p, 0, none⟩), .int .i64 s, v] w fun e w' => e = .returned (.int .i64 120) ∧ w' = w := by
  have HC := Lib.hid (has_no h s hs)
  clear hs
  go_enter Try.func29, Try.ntmps29
  go_wp2_with fail
  refine HC.out.mono ?_
  rintro e w1 ⟨rfl, rfl⟩
  clear HC
  go_wp2_with fail
  go_ret
  exact ⟨rfl, rfl⟩
set_option maxHeartbeats 1000000 in
theorem write_size (h : DK S w p D) (s : Nat) (hs : 64 * s + 64 ≤ D.last.length) (v : Value) (d : List UInt8) (hr : RB w v d) (hd : d.length ≠ 64) : Calls Try.prog 29 #[.pointer (some ⟨p, 0, none⟩), .int .i64 s, v] w fun e w' => e = .returned (.int .i64 121) ∧ w' = w := by
  have HC := Lib.hid (has_yes h s hs)
  clear hs
  obtain ⟨a, c, rfl, _, _⟩ := hr
  generalize d.length = n at *
  have hq : ((n : Int) != 64) = true := bne_iff_ne.2 (by omega)
  go_enter Try.func29, Try.ntmps29
  go_wp2_with fail
  refine HC.out.mono ?_
  rintro e w1 ⟨rfl, rfl⟩
  clear HC
  go_wp2_with fail
  go_ret
  exact ⟨rfl, rfl⟩
set_option maxHeartbeats 1000000 in
theorem rwrite_no (h : RI S w q lb cap wv ps lf D) (s : Int) (hs : s < 0 ∨ D.last.length < 64 * s + 64) (v : Value) : Calls Try.prog 30 #[.pointer (some ⟨q, 0, none⟩), .int .i64 s, v] w fun e w' => e = .returned (.int .i64 120) ∧ w' = w := by
  have c0 := h.c0
  have hx := h.gd.max
  clear h
  generalize D.last.length = ll at *
  have hd : Int.tdiv (ll : Int) 64 = ((ll / 64 : Nat) : Int) := by rw [Int.tdiv_eq_ediv_of_nonneg (by omega)]; omega
  have hw : IntKind.i64.wrap ((ll : Int) / 64) = ((ll / 64 : Nat) : Int) := by
    rw [show (ll : Int) / 64 = ((ll / 64 : Nat) : Int) by omega]
    exact IntWalk.i64_in _ (by omega)
  by_cases h0 : s < 0
  · go_enter Try.func30, Try.ntmps30
    go_wp2
    go_ret
    exact ⟨rfl, rfl⟩
  · have h2 : ((ll / 64 : Nat) : Int) ≤ s := by omega
    have h3 : (ll : Int) / 64 ≤ s := by omega
    have h4 : 0 ≤ s := by omega
    go_enter Try.func30, Try.ntmps30
    go_wp2
    go_ret
    exact ⟨rfl, rfl⟩
set_option maxHeartbeats 1000000 in
theorem rwrite_size (h : RI S w q lb cap wv ps lf D) (s : Nat) (hs : 64 * s + 64 ≤ D.last.length) (v : Value) (d : List UInt8) (hr : RB w v d) (hd : d.length ≠ 64) : Calls Try.prog 30 #[.pointer (some ⟨q, 0, none⟩), .int .i64 s, v] w fun e w' => e = .returned (.int .i64 121) ∧ w' = w := by
  have c0 := h.c0
  have hx := h.gd.max
  clear h
  obtain ⟨a, c, rfl, _, _⟩ := hr
  generalize d.length = n at *
  generalize D.last.length = ll at *
  have hd1 : Int.tdiv (ll : Int) 64 = ((ll / 64 : Nat) : Int) := by rw [Int.tdiv_eq_ediv_of_nonneg (by omega)]; omega
  have hw : IntKind.i64.wrap ((ll : Int) / 64) = ((ll / 64 : Nat) : Int) := by
    rw [show (ll : Int) / 64 = ((ll / 64 : Nat) : Int) by omega]
    exact IntWalk.i64_in _ (by omega)
  have hq : ((n : Int) != 64) = true := bne_iff_ne.2 (by omega)
  have h2 : ¬ ((ll / 64 : Nat) : Int) ≤ s := by omega
  have h3 : ¬ (ll : Int) / 64 ≤ s := by omega
  have h4 : ¬ (s : Int) < 0 := by omega
  go_enter Try.func30, Try.ntmps30
  go_wp2
  go_ret
  exact ⟨rfl, rfl⟩
set_option maxHeartbeats 1000000 in
theorem crash_size (h : DK S w p D) (kv : Value) (keep : List Bool) (hk : RBo w kv keep) (hkl : keep.length ≠ D.ws.length) (torn cut : Int) : Calls Try.prog 35 #[.pointer (some ⟨p, 0, none⟩), kv, .int .i64 torn, .int .i64 cut] w fun e w' => e = .returned (.int .i64 121) ∧ w' = w := by
  obtain ⟨lb, cap, mb, ov, M, L, h⟩ := h
  have c2 := h.c2
  obtain ⟨oa, oc, rfl⟩ := h.ovf
  obtain ⟨ka, kc, rfl, _, _⟩ := hk
  clear h
  generalize D.ws.length = n at *
  generalize keep.length = m at *
  have hq : ((m : Int) != (n : Int)) = true := bne_iff_ne.2 (by omega)
  go_enter Try.func35, Try.ntmps35
  go_wp2_with fail
  go_ret
  exact ⟨rfl, rfl⟩
set_option maxHeartbeats 1000000 in
theorem rcrash_size (h : RI S w q lb cap wv ps lf D) (kv : Value) (keep : List Bool) (hk : RBo w kv keep) (hkl : keep.length ≠ D.ws.length) (torn cut : Int) : Calls Try.prog 36 #[.pointer (some ⟨q, 0, none⟩), kv, .int .i64 torn, .int .i64 cut] w fun e w' => e = .returned (.int .i64 121) ∧ w' = w := by
  have c1 := h.c1
  obtain ⟨oa, oc, hwv⟩ := h.wform
  rw [hwv] at c1
  rw [h.ws, List.length_map] at hkl
  obtain ⟨ka, kc, rfl, _, _⟩ := hk
  clear h hwv
  generalize ps.length = n at *
  generalize keep.length = m at *
  have hq : ((m : Int) != (n : Int)) = true := bne_iff_ne.2 (by omega)
  go_enter Try.func36, Try.ntmps36
  go_wp2_with fail
  go_ret
  exact ⟨rfl, rfl⟩
set_option maxHeartbeats 2000000 in
theorem rcrash_arg (h : RI S w q lb cap wv ps lf D) (kv : Value) (keep : List Bool) (hk : RBo w kv keep) (hkl : keep.length = D.ws.length) (torn cut : Int) (hb : torn < -1 ∨ D.ws.length ≤ torn ∨ torn ≠ -1 ∧ (cut < 0 ∨ 64 < cut)) :
    Calls Try.prog 36 #[.pointer (some ⟨q, 0, none⟩), kv, .int .i64 torn, .int .i64 cut] w fun e w' => e = .returned (.int .i64 2) ∧ w' = w := by
  have c1 := h.c1
  obtain ⟨oa, oc, hwv⟩ := h.wform
  rw [hwv] at c1
  have hl : D.ws.length = ps.length := by rw [h.ws, List.length_map]
  rw [hl] at hkl hb
  obtain ⟨ka, kc, rfl, _, _⟩ := hk
  rw [hkl]
  clear h hkl hwv hl
  generalize ps.length = n at *
  by_cases h1 : torn < -1
  · have ht1 : decide (torn < -1) = true := decide_eq_true h1
    go_enter Try.func36, Try.ntmps36
    go_wp2_with fail
    go_ret
    exact ⟨rfl, rfl⟩
  · have ht1 : decide (torn < -1) = false := decide_eq_false h1
    by_cases h2 : (n : Int) ≤ torn
    · have ht2 : decide ((n : Int) ≤ torn) = true := decide_eq_true h2
      go_enter Try.func36, Try.ntmps36
      go_wp2_with fail
      go_ret
      exact ⟨rfl, rfl⟩
    · have ht2 : decide ((n : Int) ≤ torn) = false := decide_eq_false h2
      obtain ⟨h3, h4⟩ : torn ≠ -1 ∧ (cut < 0 ∨ 64 < cut) := by omega
      have ht3 : (torn != -1) = true := bne_iff_ne.2 h3
      by_cases h5 : cut < 0
      · have ht5 : decide (cut < 0) = true := decide_eq_true h5
        go_enter Try.func36, Try.ntmps36
        go_wp2_with fail
        go_ret
        exact ⟨rfl, rfl⟩
      · have ht5 : decide (cut < 0) = false := decide_eq_false h5
        have ht6 : decide ((64 : Int) < cut) = true := decide_eq_true (by omega)
        go_enter Try.func36, Try.ntmps36
        go_wp2_with fail
        go_ret
        exact ⟨rfl, rfl⟩
/-- a new disk of the reference's -/
theorem ri_new {B lb cap : Nat} {l : List UInt8} (ho : OW B w (.slice (some ⟨lb, 0, none⟩) l.length cap) l) (hB : B ≤ w.heap.size) (hg : Gd ⟨l, [], none⟩) : RK (fun k => B ≤ k) (w.alloc (.cells #[.slice (some ⟨lb, 0, none⟩) l.length cap, .slice none 0 0, .bool false, .int .i64 0] 47)) w.heap.size ⟨l, [], none⟩ := by
  have hb : Below w.heap.size w (w.alloc (.cells #[.slice (some ⟨lb, 0, none⟩) l.length cap, .slice none 0 0, .bool false, .int .i64 0] 47)) := (Below.refl _ _).alloc (Nat.le_refl _) _
  have hlb : B ≤ lb := by
    rcases ho.2 with ⟨e, _⟩ | ⟨g, c, cur, e, h1, _⟩
    · cases e
    · simp only [Value.slice.injEq, Option.some.injEq, Addr.mk.injEq] at e
      omega
  refine ⟨lb, cap, .slice none 0 0, [], 0, heapNew _ _, (fun k hk => by cases hk), ?_, rfl, World.ownsRow_nil _ _ _ _, (fun p hp => by simp at hp), hB, hlb, (fun g hg => by simp [Value.ownBlock] at hg), hg⟩
  have := ownsRow_fr (S := fun _ => True) ho (Fr.of_below hb) (fun _ _ => trivial)
  exact OW.mono this (Nat.zero_le _)
end
end Go.Proofs.Ytglknmelcianjaa
