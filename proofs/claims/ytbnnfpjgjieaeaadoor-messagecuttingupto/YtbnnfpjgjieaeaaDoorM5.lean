import Derived.Test.YtbnnfpjgjieaeaaDoorM4
namespace Go.Proofs.YtbnnfpjgjieaeaaDoor
open Go.RowKit
/-- the handshake that is still to come -/
def gt (h : Bool) (hb : List UInt8) : List UInt8 := if h then Fm.sgn ++ hb else []
theorem sgn_len : Fm.sgn.length = 20 := rfl
theorem wirB_cons (y : Mg) (ms : List Mg) : wirB (y :: ms) = frm (encB y.m y.D y.hb) ++ wirB ms := rfl
theorem nm_pre {T0 Z b rest : List UInt8} (h4 : 4 ≤ T0.length) (h : T0 ++ Z = frm b ++ rest) (hb : b.length ≤ 32768) : Fm.nm T0 = b.length := by
  rw [← Fm.nm_app T0 Z h4, h]; exact nm_frm b rest hb
theorem wir_cons {T0 Z : List UInt8} {ms : List Mg} (h4 : 4 ≤ T0.length) (h : T0 ++ Z = wirB ms) : ∃ y ms', ms = y :: ms' := by
  cases ms with
  | nil =>
    have : T0.length + Z.length = 0 := by rw [← List.length_append, h]; rfl
    omega
  | cons y ms' => exact ⟨y, ms', rfl⟩
theorem sok_pre {T Z rest : List UInt8} (h : T ++ Z = Fm.sgn ++ rest) : Fm.sok T 0 = true := by
  rw [Fm.sokp]
  intro j hj h20
  rw [Nat.zero_add] at h20 ⊢
  have h1 : byt (T ++ Z) j = byt T j := by unfold byt; rw [List.getD_eq_getElem?_getD, List.getD_eq_getElem?_getD, List.getElem?_append_left hj]
  have h2 : byt (Fm.sgn ++ rest) j = byt Fm.sgn j := by unfold byt; rw [List.getD_eq_getElem?_getD, List.getD_eq_getElem?_getD, List.getElem?_append_left (by rw [sgn_len]; exact h20)]
  rw [← h1, ← h2, h]
theorem hel_pre {hb t : List UInt8} (h48 : hb.length = 48) : Fm.hel ((Fm.sgn ++ hb) ++ t) = hb := by
  unfold Fm.hel
  rw [List.append_assoc, List.drop_left' sgn_len, List.take_left' h48]
theorem rd_pre {hb : List UInt8} (h48 : hb.length = 48) {hs : Bool} {T0 : List UInt8} {met bs : List (List UInt8)} {h' : Bool} {r : List UInt8} {e : Int} (x : Fm.Rd hs T0 met bs h' r e) :
    ∀ (ms : List Mg) (Z : List UInt8), T0 ++ Z = gt hs hb ++ wirB ms → (∀ y ∈ ms, (encB y.m y.D y.hb).length ≤ 32768) →
      e = 0 ∧ ∃ j, j ≤ ms.length ∧ bs = encs (ms.take j) ∧ r ++ Z = gt h' hb ++ wirB (ms.drop j) ∧ ((met = [] ∧ h' = hs) ∨ (hs = true ∧ met = [hb] ∧ h' = false)) ∧ (h' = true → j = 0) := by
  induction x with
  | bad l h1 =>
    intro ms Z h hm
    exfalso
    have : Fm.sok l 0 = true := sok_pre (Z := Z) (rest := hb ++ wirB ms) (by rw [h]; unfold gt; rw [if_pos rfl, List.append_assoc])
    rw [this] at h1
    exact Bool.noConfusion h1
  | few l h1 h2 => intro ms Z h hm; exact ⟨rfl, 0, Nat.zero_le _, by simp [encs], by simpa using h, .inl ⟨rfl, rfl⟩, fun _ => rfl⟩
  | hello l met bs h0 r e h1 h2 x ih =>
    intro ms Z h hm
    have e1 : l = (Fm.sgn ++ hb) ++ l.drop 68 := by
      have h3 : (l ++ Z).take 68 = Fm.sgn ++ hb := by
        rw [h]; unfold gt; rw [if_pos rfl]
        exact List.take_left' (by rw [List.length_append, sgn_len, h48])
      rw [List.take_append_of_le_length h2] at h3
      conv => lhs; rw [← List.take_append_drop 68 l, h3]
    have e2 : l.drop 68 ++ Z = gt false hb ++ wirB ms := by
      have h3 := h
      unfold gt at h3
      rw [if_pos rfl, e1, List.append_assoc] at h3
      have := List.append_cancel_left h3
      rw [show gt false hb = [] from rfl, List.nil_append]
      exact this
    obtain ⟨rfl, j, hj, hbs, hr, hmet, hj0⟩ := ih ms Z e2 hm
    rcases hmet with ⟨rfl, rfl⟩ | ⟨hf, _⟩
    · refine ⟨rfl, j, hj, hbs, hr, .inr ⟨rfl, ?_, rfl⟩, hj0⟩
      rw [e1]
      rw [hel_pre h48]
    · exact Bool.noConfusion hf
  | num l h1 => intro ms Z h hm; exact ⟨rfl, 0, Nat.zero_le _, by simp [encs], by simpa using h, .inl ⟨rfl, rfl⟩, fun _ => rfl⟩
  | big l h1 h2 =>
    intro ms Z h hm
    have h' : l ++ Z = wirB ms := by rw [h]; rfl
    obtain ⟨y, ms', rfl⟩ := wir_cons h1 h'
    have hy := hm y (by simp)
    have := nm_pre h1 h' hy
    omega
  | part l h1 h2 h3 => intro ms Z h hm; exact ⟨rfl, 0, Nat.zero_le _, by simp [encs], by simpa using h, .inl ⟨rfl, rfl⟩, fun _ => rfl⟩
  | body l met bs h0 r e h1 h2 h3 x ih =>
    intro ms Z h hm
    have h' : l ++ Z = wirB ms := by rw [h]; rfl
    obtain ⟨y, ms', rfl⟩ := wir_cons h1 h'
    have hy := hm y (by simp)
    have hn := nm_pre h1 h' hy
    rw [hn] at h3 x ih
    have e0 : (l ++ Z).drop (4 + (encB y.m y.D y.hb).length) = wirB ms' := by rw [h', wirB_cons]; exact drop_frm _ _
    rw [List.drop_append_of_le_length h3] at e0
    obtain ⟨rfl, j, hj, hbs, hr, hmet, hj0⟩ := ih ms' Z (by rw [e0]; rfl) (fun z hz => hm z (by simp [hz]))
    refine ⟨rfl, j + 1, by simpa using hj, ?_, by rw [List.drop_succ_cons]; exact hr, hmet, ?_⟩
    · have e2 : (l.drop 4).take (Fm.nm l) = encB y.m y.D y.hb := by
        have e3 : ((l ++ Z).drop 4).take (encB y.m y.D y.hb).length = encB y.m y.D y.hb := by rw [h', wirB_cons]; exact body_frm _ _
        rw [List.drop_append_of_le_length (by omega), List.take_append_of_le_length (by rw [List.length_drop]; omega)] at e3
        rw [hn]; exact e3
      rw [e2, hbs, List.take_succ_cons]
      rfl
    · intro hh
      rcases hmet with ⟨_, hq⟩ | ⟨hq, _⟩
      · rw [hq] at hh; exact Bool.noConfusion hh
      · exact Bool.noConfusion hq
end Go.Proofs.YtbnnfpjgjieaeaaDoor
