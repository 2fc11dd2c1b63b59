import Derived.Test.YtkkmifgnkpjkdaaDoorCp
namespace Go.Proofs.YtkkmifgnkpjkdaaDoor
open Go.RowKit
theorem stB_sm {l m : List ByteArray} (_h : l.length ≤ m.length) : stB l m = smB l (m.take l.length) := by
  unfold stB smB
  exact decide_eq_decide.2 List.prefix_iff_eq_take
set_option maxHeartbeats 1000000 in
theorem begins9 (v1 v2 : Value) (l m : List ByteArray) (w : World) (hl : l.length * 16 ≤ 140737488351232) (_hm : m.length * 16 ≤ 140737488351232) (h1 : SR w l v1) (h2 : SR w m v2) :
    Calls Tryd.prog 9 #[v1, v2] w fun e w' => e = .returned (.bool (stB l m)) ∧ ∃ n, w' = w.drewN n := by
  have H1 : Hid (SR w l v1) := h1
  have H2 : Hid (SR w m v2) := h2
  obtain ⟨a1, c1, rfl, _, _⟩ := h1
  obtain ⟨a2, c2, rfl, hc2, _⟩ := h2
  by_cases hle : l.length ≤ m.length
  · have HB : Hid (stB l m = smB l (m.take l.length)) := stB_sm hle
    have HT : Hid (SR w (m.take l.length) (.slice a2 l.length c2)) := H2.out.take hle
    have hlen : (m.take l.length).length * 16 ≤ 140737488351232 := by rw [List.length_take]; omega
    go_enter Tryd.func9, Tryd.ntmps9
    go_wp2_with fail
    refine (same14 _ _ l (m.take l.length) _ hl hlen H1.out HT.out).mono ?_
    rintro e w' ⟨rfl, n, rfl⟩
    generalize smB l (m.take l.length) = z at *
    go_wp2
    go_ret
    exact ⟨ret_b HB.out.symm, _, rfl⟩
  · have HB : Hid (stB l m = false) := stB_len (by omega)
    go_enter Tryd.func9, Tryd.ntmps9
    go_wp2
    go_ret
    exact ⟨ret_b HB.out.symm, 0, rfl⟩
theorem begC {L : List (List ByteArray)} {w : World} {x y : Value} {i j : Nat} {b : Bool} (hf : PF L) (hi : i < L.length) (hj : j < L.length) (hb : stB (la L i) (la L j) = b) (hx : SR w (la L i) x) (hy : SR w (la L j) y) :
    ∀ nn, Calls Tryd.prog 9 #[x, y] (w.drewN nn) fun e w' => e = .returned (.bool b) ∧ ∃ n, w' = (w.drewN nn).drewN n := fun nn => by
  rw [← hb]
  exact begins9 x y _ _ _ (hf.la hi).1 (hf.la hj).1 (hx.keep (drB _ _)) (hy.keep (drB _ _))
theorem er_ne {l m : List ByteArray} : er l m ≠ 0 ↔ stB l m = true ∨ stB m l = true := by
  rw [er_begin]; unfold Begin stB; simp
theorem er_bools {l m : List ByteArray} (h : er l m ≠ 0) : (er l m = 56 ∧ stB l m = true ∧ stB m l = true) ∨ (er l m = 57 ∧ ((stB l m = true ∧ stB m l = false) ∨ (stB l m = false ∧ stB m l = true))) := by
  cases h1 : stB l m <;> cases h2 : stB m l
  · rw [er_ff h1 h2] at h; exact absurd rfl h
  · exact .inr ⟨er_ft h1 h2, .inr ⟨rfl, rfl⟩⟩
  · exact .inr ⟨er_tf h1 h2, .inl ⟨rfl, rfl⟩⟩
  · exact .inl ⟨er_tt h1 h2, rfl, rfl⟩
end Go.Proofs.YtkkmifgnkpjkdaaDoor
