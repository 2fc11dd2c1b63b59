import Derived.Test.YthleiochiigddaaXd
namespace Go.Proofs.Ythleiochiigddaa
open Go.RowKit
/-- the parts of a text -/
def chk (l : List UInt8) (B : Nat) (i : Nat) : List UInt8 := (l.drop (i * B)).take B
theorem LB.mono {G G' : Nat} {w : World} {v : Value} {n : Nat} {f : Nat → List UInt8} (h : LB G w v n f) (hg : G' ≤ G) : LB G' w v n f := by
  obtain ⟨us, h1, h2, h3⟩ := h
  exact ⟨us, h1, ownsRow_base h2 hg, fun i hi => (h3 i hi).mono hg⟩
set_option maxHeartbeats 2000000 in
theorem cutT (B N : Nat) (v : Int) (s : Value) (l : List UInt8) (hB : 64 ≤ B) (hB2 : B ≤ 16384) (hN1 : 1 ≤ N) (hN2 : N ≤ 1048576) (hlN : l.length = N) (w : World) (hr : RB w s l) :
    Calls Try.prog 16 #[sc (B : Int) v, s] w fun e w' => ∃ lv, e = .returned lv ∧ LB w.heap.size w' lv (cnt B N).toNat (chk l B) ∧ Below w.heap.size w w' := by
  have HR0 : Hid (RB w s l) := hr
  obtain ⟨a, c, rfl, -, -⟩ := hr
  have HS : Hid (BS (w.alloc (.cells #[.int .i64 (B : Int), .int .i64 v] 23)) w.heap.size (B : Int) v) := heapNew _ _
  have b0 : Below w.heap.size w (w.alloc (.cells #[.int .i64 (B : Int), .int .i64 v] 23)) := (Below.refl _ _).alloc (Nat.le_refl _) _
  have HN : Hid (l.length = N) := hlN
  have HR : Hid (Below w.heap.size w (w.alloc (.cells #[.int .i64 (B : Int), .int .i64 v] 23)) ∧ RB (w.alloc (.cells #[.int .i64 (B : Int), .int .i64 v] 23)) (.slice a l.length c) l) := ⟨b0, HR0.out.keep b0⟩
  rw [hlN] at HR ⊢
  clear b0 HR0 hlN
  obtain ⟨-, hcap, g, o, rfl⟩ := rb_some HR.out.2 (by rw [HN.out]; omega)
  rw [HN.out] at hcap
  have hsz : (w.alloc (.cells #[.int .i64 (B : Int), .int .i64 v] 23)).heap.size = w.heap.size + 1 := by simp
  have HZ := Lib.hid hsz
  clear hsz
  go_enter Try.func16, Try.ntmps16
  go_wp2
  generalize w.alloc (.cells #[.int .i64 (B : Int), .int .i64 v] 23) = w0 at *
  go_loopw [5, 6] (fun lv tt wr => ∃ (k t : Nat) (a : Option Addr) (cp : Nat), k ≤ t ∧ t ≤ 1064960 ∧ tt = .int .i64 t ∧ lv = .slice a k cp ∧ Hid (LB w0.heap.size wr (.slice a k cp) k (chk l B) ∧ Below w0.heap.size w0 wr) ∧ Hid (t = k * B ∧ (k = 0 ∨ (t : Int) - B < N))) (fun _ tt _ => (1064960 - intOf tt).toNat)
  case atStart => exact ⟨0, 0, Option.none, 0, Nat.le_refl _, by omega, rfl, rfl, ⟨LB.nil _ _ _, Below.refl _ _⟩, ⟨by simp, .inl rfl⟩⟩
  case round =>
    obtain ⟨k, t, al, cl, hkt, ht1, rfl, rfl, HL, HT⟩ := hrel
    have hl0 := (HS.out.keep HL.out.2).c0
    by_cases hlt : t < N
    · have HT2 : Hid (t + B = (k + 1) * B ∧ (k + 1 = 0 ∨ ((t + B : Nat) : Int) - B < N)) := ⟨by rw [Nat.add_mul, ← HT.out.1]; omega, .inr (by omega)⟩
      obtain ⟨m, hm⟩ : ∃ m, m = min B (N - t) := ⟨_, rfl⟩
      have HB : Hid (RB wr (.slice (some ⟨g, o + t, Option.none⟩) m (c - t)) (chk l B k) ∧ (chk l B k).length = m) := by
        have h9 := HR.out.2.keep HL.out.2
        rw [← HN.out] at h9
        have h8 : ((l.drop t).take m).length = m := cut_len l t m (by rw [HN.out]; omega)
        have h7 : chk l B k = (l.drop t).take m := by
          unfold chk
          rw [← HT.out.1]
          exact (take_min l t B m (by rw [HN.out]; exact hm)).symm
        rw [h7]
        exact ⟨rb_sub h9 (by rw [HN.out]; omega) (by omega), h8⟩
      have HO : Hid (OW wr.heap.size wr (.slice Option.none 0 0) []) := World.ownsRow_nil _ _ _ _
      by_cases hc : N < t + B
      · obtain rfl : m = N - t := by omega
        have hci : (N : Int) < t + B := by omega
        clear hm HT
        go_wp2_with (first
          | (at_builtin; refine append_bytes rfl _ _ rfl rfl HO.out rfl HB.out.1 (Nat.le_refl _) (by rw [HB.out.2]; simp; omega) ?_; intro v' w1 ho1 hb1; rw [List.nil_append] at ho1; obtain ⟨a', c', rfl⟩ := ho1.form; rw [HB.out.2] at ho1 ⊢; have HL1 : Hid (LB w0.heap.size w1 (.slice al k cl) k (chk l B) ∧ Below w0.heap.size w0 w1 ∧ OW w0.heap.size w1 (.slice a' (N - t) c') (chk l B k)) := (⟨HL.out.1.grow hb1, HL.out.2.trans (hb1.mono HL.out.2.size), ho1.mono HL.out.2.size⟩ : LB w0.heap.size w1 (.slice al k cl) k (chk l B) ∧ Below w0.heap.size w0 w1 ∧ OW w0.heap.size w1 (.slice a' (N - t) c') (chk l B k)); have hl1 := (HS.out.keep HL1.out.2.1).c0; clear ho1 hb1 HL HO HB)
          | (at_builtin; refine append_list rfl _ _ rfl rfl (HL1.out.1.grow ((Below.refl _ _).alloc (Nat.le_refl _) _)) w1.heap.size (.slice a' (N - t) c') rfl (by go_simp) (HL1.out.2.2.alloc _) (by have := HL1.out.2.1.size; simp; omega) (by omega) ?_; intro v2 w2 hl2 hb2; obtain ⟨a2, c2, rfl⟩ := hl2.form; have H2 : Hid (LB w0.heap.size w2 (.slice a2 (k + 1) c2) (k + 1) (chk l B) ∧ Below w0.heap.size w0 w2) := (⟨hl2, (HL1.out.2.1.alloc HL1.out.2.1.size _).trans hb2⟩ : LB w0.heap.size w2 (.slice a2 (k + 1) c2) (k + 1) (chk l B) ∧ Below w0.heap.size w0 w2); have hl3 := (HS.out.keep H2.out.2).c0; clear hl2 hb2 HL1))
        go_roundw
        case rel => exact ⟨k + 1, t + B, a2, c2, by omega, by omega, by go_num, rfl, H2, HT2⟩
        case measure => simp [intOf]; omega
      · obtain rfl : B = m := by omega
        have hci : ¬ (N : Int) < t + B := by omega
        have HB : Hid (RB wr (.slice (some ⟨g, o + t, Option.none⟩) (t + B - t) (c - t)) (chk l B k) ∧ (chk l B k).length = B) := ⟨by rw [Nat.add_sub_cancel_left]; exact HB.out.1, HB.out.2⟩
        clear hm HT
        go_wp2_with (first
          | (at_builtin; refine append_bytes rfl _ _ rfl rfl HO.out rfl HB.out.1 (Nat.le_refl _) (by rw [HB.out.2]; simp; omega) ?_; intro v' w1 ho1 hb1; rw [List.nil_append] at ho1; obtain ⟨a', c', rfl⟩ := ho1.form; rw [HB.out.2] at ho1 ⊢; have HL1 : Hid (LB w0.heap.size w1 (.slice al k cl) k (chk l B) ∧ Below w0.heap.size w0 w1 ∧ OW w0.heap.size w1 (.slice a' (B) c') (chk l B k)) := (⟨HL.out.1.grow hb1, HL.out.2.trans (hb1.mono HL.out.2.size), ho1.mono HL.out.2.size⟩ : LB w0.heap.size w1 (.slice al k cl) k (chk l B) ∧ Below w0.heap.size w0 w1 ∧ OW w0.heap.size w1 (.slice a' (B) c') (chk l B k)); have hl1 := (HS.out.keep HL1.out.2.1).c0; clear ho1 hb1 HL HO HB)
          | (at_builtin; refine append_list rfl _ _ rfl rfl (HL1.out.1.grow ((Below.refl _ _).alloc (Nat.le_refl _) _)) w1.heap.size (.slice a' (B) c') rfl (by go_simp) (HL1.out.2.2.alloc _) (by have := HL1.out.2.1.size; simp; omega) (by omega) ?_; intro v2 w2 hl2 hb2; obtain ⟨a2, c2, rfl⟩ := hl2.form; have H2 : Hid (LB w0.heap.size w2 (.slice a2 (k + 1) c2) (k + 1) (chk l B) ∧ Below w0.heap.size w0 w2) := (⟨hl2, (HL1.out.2.1.alloc HL1.out.2.1.size _).trans hb2⟩ : LB w0.heap.size w2 (.slice a2 (k + 1) c2) (k + 1) (chk l B) ∧ Below w0.heap.size w0 w2); have hl3 := (HS.out.keep H2.out.2).c0; clear hl2 hb2 HL1))
        go_roundw
        case rel => exact ⟨k + 1, t + B, a2, c2, by omega, by omega, by go_num, rfl, H2, HT2⟩
        case measure => simp [intOf]; omega
    · have hc : cnt B N = k := cnt_eq (t := t) (by omega) (by omega) (by rw [HT.out.1]; simp) (by omega) (by rcases HT.out.2 with h | h; exact .inl (by omega); exact .inr h)
      have HC : Hid ((cnt B N).toNat = k) := show (cnt B N).toNat = k by rw [hc]; simp
      clear HT hc
      go_wp2
      go_ret
      refine ⟨_, rfl, ?_, HR.out.1.trans (HL.out.2.mono HR.out.1.size)⟩
      rw [HC.out]
      exact HL.out.1.mono HR.out.1.size
end Go.Proofs.Ythleiochiigddaa
