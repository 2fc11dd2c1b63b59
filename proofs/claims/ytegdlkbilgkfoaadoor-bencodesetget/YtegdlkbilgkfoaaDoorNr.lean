import Derived.Test.YtegdlkbilgkfoaaDoorRb
import Derived.Test.YtegdlkbilgkfoaaDoorSame
import Derived.Test.YtegdlkbilgkfoaaDoorAwk
namespace Go.Proofs.YtegdlkbilgkfoaaDoor
open Go.RowKit Go.Deep
theorem nrm_k {t : T} {ar : Int} (h : wk t ar = 0) : (nrm t).k = t.k ∧ (nrm t).n = t.n ∧ (nrm t).s = t.s := by
  cases t with
  | no => exact ⟨rfl, rfl, rfl⟩
  | mk k n s ln l dn ky dv =>
    obtain ⟨⟨k1, k4, q1, q2, q3, q4⟩, _⟩ := wk_mk h
    have hs : k ≠ 2 → ByteArray.empty = s := fun e => by
      rcases q2 with e2 | e2
      · exact absurd e2 e
      · rw [empty_of e2]; rfl
    have hn : k ≠ 1 → 0 = n := fun e => by
      rcases q1 with e2 | e2
      · exact absurd e2 e
      · exact e2.symm
    have hk : k = 1 ∨ k = 2 ∨ k = 3 ∨ k = 4 := by omega
    rcases hk with rfl | rfl | rfl | rfl
    · exact ⟨rfl, rfl, hs (by decide)⟩
    · exact ⟨rfl, hn (by decide), rfl⟩
    · exact ⟨rfl, hn (by decide), hs (by decide)⟩
    · exact ⟨rfl, hn (by decide), hs (by decide)⟩
theorem vv_nrm {t : T} {ar : Int} (h : wk t ar = 0) (x y : Value) : vv (nrm t) x y = vv t x y := by
  obtain ⟨h1, h2, h3⟩ := nrm_k h
  unfold vv
  rw [h1, h2, h3]
theorem five_nrm {t : T} {ar : Int} (h : wk t ar = 0) {w : World} {b o : Nat} {x y : Value} (g : five w b o t x y) : five w b o (nrm t) x y := by
  obtain ⟨h1, h2, h3⟩ := nrm_k h
  unfold five at g ⊢
  rw [h1, h2, h3]
  exact g
theorem rv_nrm {S : Nat → Prop} {w : World} : ∀ (t : T) (ar : Int) (x y : Value), wk t ar = 0 → RV S w t x y → RV S w (nrm t) x y := by
  intro t
  induction t with
  | no => intro ar x y _ h; exact h
  | mk k n s ln l dn ky dv il id =>
    intro ar x y hw h
    obtain ⟨⟨k1, k4, q1, q2, q3, q4⟩, hc⟩ := wk_mk hw
    obtain ⟨⟨a, ca, rfl, hL⟩, ⟨a', ca', rfl, hD⟩⟩ := h
    have hl : k ≠ 3 → ln = 0 := fun e => by
      rcases q3 with e2 | e2
      · exact absurd e2 e
      · exact e2
    have hd : k ≠ 4 → dn = 0 := fun e => by
      rcases q4 with e2 | e2
      · exact absurd e2 e
      · exact e2
    have hk : k = 1 ∨ k = 2 ∨ k = 3 ∨ k = 4 := by omega
    rcases hk with rfl | rfl | rfl | rfl
    · obtain rfl := hl (by decide)
      obtain rfl := hd (by decide)
      exact ⟨⟨a, ca, rfl, .inl rfl⟩, ⟨a', ca', rfl, .inl rfl⟩⟩
    · obtain rfl := hl (by decide)
      obtain rfl := hd (by decide)
      exact ⟨⟨a, ca, rfl, .inl rfl⟩, ⟨a', ca', rfl, .inl rfl⟩⟩
    · obtain rfl := hd (by decide)
      obtain ⟨_, cl, _⟩ := hc (by decide)
      refine ⟨⟨a, ca, by rw [lsN_len], ?_⟩, ⟨a', ca', rfl, .inl rfl⟩⟩
      rcases hL with h | ⟨b, o, h1, h2, h3, h4⟩
      · exact .inl (by rw [lsN_len]; exact h)
      · refine .inr ⟨b, o, h1, h2, h3, fun i hi => ?_⟩
        rw [lsN_len] at hi
        obtain ⟨x', y', g1, g2⟩ := h4 i hi
        dsimp only
        rw [lsN_get _ _ hi]
        exact ⟨x', y', il i _ _ _ (cl i hi) g1, five_nrm (cl i hi) g2⟩
    · obtain rfl := hl (by decide)
      obtain ⟨_, _, cd⟩ := hc (by decide)
      refine ⟨⟨a, ca, rfl, .inl rfl⟩, ⟨a', ca', by rw [lsN_len], ?_⟩⟩
      rcases hD with h | ⟨b, o, h1, h2, h3, h4⟩
      · exact .inl (by rw [lsN_len]; exact h)
      · refine .inr ⟨b, o, h1, h2, h3, fun i hi => ?_⟩
        rw [lsN_len] at hi
        obtain ⟨x', y', g1, g2, g3⟩ := h4 i hi
        dsimp only
        rw [lsN_get _ _ hi]
        exact ⟨x', y', id i _ _ _ (cd i hi).2 g1, g2, five_nrm (cd i hi).2 g3⟩
theorem ok_nrm : ∀ (t : T), t.ok → (nrm t).ok := by
  intro t
  induction t with
  | no => intro h; exact h
  | mk k n s ln l dn ky dv il id =>
    intro ⟨h1, h2, h3, h4, h5⟩
    unfold nrm
    split
    · exact ok_num n
    · split
      · exact ⟨h1, Nat.zero_le _, Nat.zero_le _, fun i hi => absurd hi (Nat.not_lt_zero _), fun i hi => absurd hi (Nat.not_lt_zero _)⟩
      · split
        · refine ⟨by show ByteArray.size _ ≤ _; decide, by rw [lsN_len]; exact h2, Nat.zero_le _, fun i hi => ?_, fun i hi => absurd hi (Nat.not_lt_zero _)⟩
          rw [lsN_len] at hi
          dsimp only
          rw [lsN_get _ _ hi]
          exact il i (h4 i hi)
        · refine ⟨by show ByteArray.size _ ≤ _; decide, Nat.zero_le _, by rw [lsN_len]; exact h3, fun i hi => absurd hi (Nat.not_lt_zero _), fun i hi => ?_⟩
          rw [lsN_len] at hi
          dsimp only
          rw [lsN_get _ _ hi]
          exact ⟨(h5 i hi).1, id i (h5 i hi).2⟩
theorem same_nrm (t : T) (ar : Int) (x y x2 y2 : Value) (w : World) (hw : wk t ar = 0) (hok : t.ok) (h1 : RV (fun _ => True) w t x y) (h2 : RV (fun _ => True) w (nrm t) x2 y2) :
    Calls Tryd.prog 12 #[vv t x y, vv t x2 y2] w fun e w' => e = .returned (.bool true) ∧ Below w.heap.size w w' := by
  have := same11 (nrm t) x y x2 y2 w (ok_nrm t hok) (rv_nrm t ar x y hw h1) h2
  rw [vv_nrm hw, vv_nrm hw] at this
  exact this
/-- what is read of a text that is written, whatever follows -/
theorem run_written {t : T} (r : List UInt8) (hw : wk t 0 = 0) (hf : t.full) (hr : t.rng) (hok : t.ok) : Run (txt t ++ r) (.go [] 0) (.val (nrm t) (txt t).length) := by
  have := reads t (txt t ++ r) r [] 0 hw hf hr hok trivial rfl
  rw [Nat.zero_add] at this
  exact this
theorem dout_written {t : T} (hw : wk t 0 = 0) (hf : t.full) (hr : t.rng) (hok : t.ok) (hl : (txt t).length ≤ 1048576) : DOUT (txt t) (nrm t) 0 0 := by
  have := run_written [] hw hf hr hok
  rw [List.append_nil] at this
  exact .inl ⟨rfl, rfl, hl, _, this, Nat.le_refl _⟩
end Go.Proofs.YtegdlkbilgkfoaaDoor
