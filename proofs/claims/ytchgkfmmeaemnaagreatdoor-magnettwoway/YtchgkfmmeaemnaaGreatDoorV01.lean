import Derived.Test.YtchgkfmmeaemnaaGreatDoorV00
namespace Go.Proofs.YtchgkfmmeaemnaaGreatDoor
open Go.Shelf Go.RowKit
theorem esc_app (a b : List UInt8) : esc (a ++ b) = esc a ++ esc b := by simp [esc]
theorem dg_ix : ∀ n : Fin 16, ix (dg n.val) = (n.val : Int) := by decide +kernel
theorem cod_dg (x : UInt8) : cod (ix (dg (x.toNat / 16))) (ix (dg (x.toNat % 16))) = x := by
  have h1 := dg_ix ⟨x.toNat / 16, by have := x.toNat_lt; omega⟩
  have h2 := dg_ix ⟨x.toNat % 16, by omega⟩
  simp only at h1 h2
  rw [h1, h2]
  unfold cod
  rw [show (16 * ((x.toNat / 16 : Nat) : Int) + ((x.toNat % 16 : Nat) : Int)).toNat = x.toNat by omega]
  simp
/-- a written byte is read -/
theorem stp_sg (x : UInt8) (r : List UInt8) : stp (sg x ++ r) = some (x, (sg x).length) := by
  cases hb : isB x with
  | true =>
    have e : sg x = [x] := by unfold sg; rw [if_pos hb]
    rw [e]
    unfold stp
    rw [show (([x] ++ r).getD 0 0) = x from rfl, if_pos hb]
    rfl
  | false =>
    have e : sg x = [37, dg (x.toNat / 16), dg (x.toNat % 16)] := by unfold sg; rw [if_neg (by rw [hb]; decide)]
    rw [e]
    have h1 := dg_ix ⟨x.toNat / 16, by have := x.toNat_lt; omega⟩
    have h2 := dg_ix ⟨x.toNat % 16, by omega⟩
    simp only at h1 h2
    unfold stp
    have g0 : (([37, dg (x.toNat / 16), dg (x.toNat % 16)] ++ r).getD 0 0) = 37 := rfl
    have g1 : (([37, dg (x.toNat / 16), dg (x.toNat % 16)] ++ r).getD 1 0) = dg (x.toNat / 16) := rfl
    have g2 : (([37, dg (x.toNat / 16), dg (x.toNat % 16)] ++ r).getD 2 0) = dg (x.toNat % 16) := rfl
    rw [g0, g1, g2, cod_dg, if_neg (by decide), if_neg (by simp), if_neg (by rw [h1, h2]; omega), if_neg (by rw [hb]; decide)]
    rfl
theorem stN_sg (x : UInt8) (r : List UInt8) : stN (sg x ++ r) = (sg x).length ∧ stC (sg x ++ r) = x := by
  unfold stN stC
  rw [stp_sg]
  exact ⟨rfl, rfl⟩
theorem sg_pos1 (x : UInt8) : 1 ≤ (sg x).length := by unfold sg; split <;> simp
theorem une_esc : ∀ (l pre acc : List UInt8) (f : Nat), (esc l).length < f → une f (pre ++ esc l) pre.length acc = (acc ++ l, -1)
  | [], pre, acc, f, h => by
    cases f with
    | zero => simp [une]
    | succ f => simp [une, esc]
  | x :: l, pre, acc, f, h => by
    have e : esc (x :: l) = sg x ++ esc l := rfl
    cases f with
    | zero => omega
    | succ f =>
      have h1 := sg_pos1 x
      have hd : (pre ++ esc (x :: l)).drop pre.length = sg x ++ esc l := by rw [List.drop_left]; rfl
      have h2 := stN_sg x (esc l)
      rw [e, List.length_append] at h
      rw [une, if_neg (by rw [e, List.length_append, List.length_append]; omega), hd, h2.1, h2.2, if_neg (by omega)]
      have h3 := une_esc l (pre ++ sg x) (acc ++ [x]) f (by omega)
      rw [List.length_append, List.append_assoc] at h3
      rw [e, h3]
      simp
theorem uneL_esc (l : List UInt8) : uneL (esc l) = (l, -1) := by
  have h := une_esc l [] [] ((esc l).length + 1) (by omega)
  simpa [uneL] using h
theorem ix_dg0 : ∀ n : Fin 256, 0 ≤ ix (UInt8.ofNat n.val) → dg (ix (UInt8.ofNat n.val)).toNat = UInt8.ofNat n.val := by decide +kernel
theorem ix_dg (b : UInt8) (h : 0 ≤ ix b) : dg (ix b).toNat = b := by
  have := ix_dg0 ⟨b.toNat, b.toNat_lt⟩
  simp only [UInt8.ofNat_toNat] at this
  exact this h
theorem isB_cod {l : List UInt8} {c : UInt8} {n : Nat} (h : stp l = some (c, n)) (hl : l ≠ []) : l.take n = sg c ∧ 1 ≤ n := by
  unfold stp at h
  split at h
  · rename_i hb
    cases h
    cases l with
    | nil => exact absurd rfl hl
    | cons a t =>
      refine ⟨?_, by omega⟩
      have e : (a :: t).getD 0 0 = a := rfl
      rw [e] at hb ⊢
      unfold sg
      rw [if_pos hb]
      simp
  · split at h
    · cases h
    · rename_i h3
      split at h
      · cases h
      · rename_i h4
        split at h
        · cases h
        · rename_i h5
          cases h
          match l, h3, h4, h5 with
          | a :: b :: d :: r, h3, h4, h5 =>
            refine ⟨?_, by omega⟩
            simp only [not_or, ne_eq, Decidable.not_not, Int.not_lt] at h3 h4
            have e0 : (a :: b :: d :: r).getD 0 0 = a := rfl
            have e1 : (a :: b :: d :: r).getD 1 0 = b := rfl
            have e2 : (a :: b :: d :: r).getD 2 0 = d := rfl
            rw [e0] at h3
            rw [e1, e2] at h4 h5 ⊢
            have k1 := ix_dg b h4.1
            have k2 := ix_dg d h4.2
            have b1 := ix_bd b
            have b2 := ix_bd d
            have ec : (cod (ix b) (ix d)).toNat = (16 * ix b + ix d).toNat := by
              unfold cod
              rw [UInt8.toNat_ofNat', Nat.mod_eq_of_lt (by omega)]
            unfold sg
            rw [if_neg h5, ec]
            rw [show (16 * ix b + ix d).toNat / 16 = (ix b).toNat by omega, show (16 * ix b + ix d).toNat % 16 = (ix d).toNat by omega, k1, k2, h3.1]
            rfl
          | [], h3, _, _ => simp at h3
          | [a], h3, _, _ => simp at h3
          | [a, b], h3, _, _ => simp at h3
/-- what is read is written so -/
theorem une_back : ∀ (f : Nat) (l acc : List UInt8) (k : Nat), l.length < f + k → k ≤ l.length → esc acc = l.take k → (une f l k acc).2 < 0 → esc (une f l k acc).1 = l
  | 0, l, acc, k, h, hk, _, _ => by omega
  | f + 1, l, acc, k, h, hk, he, hn => by
    unfold une at hn ⊢
    split
    · rw [he]
      exact List.take_of_length_le (by assumption)
    · rename_i h1
      rw [if_neg h1] at hn
      split
      · rename_i h2
        rw [if_pos h2] at hn
        simp only at hn
        omega
      · rename_i h2
        rw [if_neg h2] at hn
        have hne : l.drop k ≠ [] := fun e => by have := congrArg List.length e; simp at this; omega
        cases hs : stp (l.drop k) with
        | none => exact absurd (by unfold stN; rw [hs]) h2
        | some q =>
          obtain ⟨c, n⟩ := q
          have e1 : stN (l.drop k) = n := by unfold stN; rw [hs]
          have e2 : stC (l.drop k) = c := by unfold stC; rw [hs]
          obtain ⟨ht, hn1⟩ := isB_cod hs hne
          have hle := stN_drop (l := l) (k := k) (by omega)
          rw [e1] at hle
          rw [e1, e2] at hn ⊢
          refine une_back f l (acc ++ [c]) (k + n) (by omega) hle ?_ hn
          rw [esc_app, he, show esc [c] = sg c by simp [esc], ← ht, List.take_add]
theorem uneL_back (l : List UInt8) (h : (uneL l).2 < 0) : esc (uneL l).1 = l := by
  unfold uneL at h ⊢
  exact une_back (l.length + 1) l [] 0 (by omega) (Nat.zero_le _) rfl h
theorem uneL_inj {a b : List UInt8} (h : esc a = esc b) : a = b := by
  have h1 := uneL_esc a
  rw [h, uneL_esc] at h1
  exact (Prod.mk.inj h1).1.symm
/-- a byte that may stand in a link's text -/
def okB (c : UInt8) : Bool := !(decide (c.toNat ≤ 32) || (decide (127 ≤ c.toNat) || (c == 38 || (c == 61 || (c == 35 || (c == 43 || (c == 34 || (c == 60 || c == 62))))))))
theorem okB_bare : ∀ n : Fin 256, isB (UInt8.ofNat n.val) = true → okB (UInt8.ofNat n.val) = true := by decide +kernel
theorem okB_dg : ∀ n : Fin 16, okB (dg n.val) = true := by decide +kernel
theorem esc_ok (l : List UInt8) : ∀ c ∈ esc l, okB c = true := by
  intro c hc
  unfold esc at hc
  obtain ⟨x, _, hx⟩ := List.mem_flatMap.1 hc
  cases hb : isB x with
  | true =>
    unfold sg at hx
    rw [if_pos hb] at hx
    obtain rfl : c = x := by simpa using hx
    have := okB_bare ⟨c.toNat, c.toNat_lt⟩
    simp only [UInt8.ofNat_toNat] at this
    exact this hb
  | false =>
    unfold sg at hx
    rw [if_neg (by rw [hb]; decide)] at hx
    simp only [List.mem_cons, List.not_mem_nil, or_false] at hx
    rcases hx with rfl | rfl | rfl
    · decide
    · exact okB_dg ⟨x.toNat / 16, by have := x.toNat_lt; omega⟩
    · exact okB_dg ⟨x.toNat % 16, by omega⟩
end Go.Proofs.YtchgkfmmeaemnaaGreatDoor
namespace Go.Proofs.YtchgkfmmeaemnaaGreatDoor
open Go.Shelf Go.RowKit
theorem num9 (n : Int) (w : World) : Calls Tryz.prog 7 #[.int .i64 n] w fun e w' => e = .returned (.int .i64 n) ∧ w' = w := by
  go_enter Tryz.func7, Tryz.ntmps7
  go_wp2
  go_ret
  exact ⟨rfl, rfl⟩
end Go.Proofs.YtchgkfmmeaemnaaGreatDoor
