import Derived.Test.YtdlnnnlmlaploaaDoorSJ
namespace Go.Proofs.YtdlnnnlmlaploaaDoor
theorem byt_lt {b : List UInt8} {i : Nat} {x : UInt8} (h : byt b i = x) (hx : x ≠ 0) : i < b.length := by
  rcases Nat.lt_or_ge i b.length with g | g
  · exact g
  · rw [byt_end g] at h; exact absurd h.symm hx
/-- how Skim's reading ends is what layer 2 says of the text; if there is no fault it has shown the spans of the tree -/
theorem Fin.out {b : List UInt8} (hlim : b.length ≤ 1048576) {h : List Vi} {p er : Int} (H : Fin b gT h p er) : ∃ t, ∃ k : Nat, p = (k : Int) ∧ DOUT b t k er ∧ (er = 0 → (sk h).map Vi.o = (walkT t 0 (dueS [])).map Sp.v) := by
  have bad : ∀ {k : Nat} {e : Int}, Run b (.go [] 0) (.bad k e) → DOUT b t0 k e := fun hr => .inr ⟨rfl, .inr (.inl ⟨hr, hlim⟩)⟩
  cases H with
  | vstop _ _ hg => cases hg
  | estop _ _ _ hg => cases hg
  | @vbad h ls i n er i' hr hz hv =>
    obtain ⟨st, h1, h2, h3, _⟩ := hr.plain hlim
    obtain ⟨hi, _⟩ := run_at hlim h1
    refine ⟨t0, i', rfl, bad ?_, fun e => absurd e hz⟩
    rcases hv with ⟨c1, c2, j, c3, rfl⟩ | ⟨c1, c2, c3, rfl, rfl⟩
    · have e := step_leaf hi h2 c1 c2
      rw [c3] at e
      exact h1.snoc e
    · have hl : 32 ≤ st.length := by rw [← h3.len]; exact c2
      rcases c3 with c3 | c3
      · exact h1.snoc (by rw [sx_list c1 h2 c3, if_pos hl])
      · exact h1.snoc (by rw [sx_dict c1 h2 c3, if_pos hl])
  | @pbad h l r i n er i' hr hb hp =>
    obtain ⟨f, s, h1, h2, h3, _⟩ := hr.plain hlim
    obtain ⟨hi, _⟩ := run_at hlim h1
    obtain ⟨c1, hp⟩ := hp
    have hkd : l.kd = f.kd := by have := congrArg Vi.kd h2.bs.o; exact this
    have hd : f.d = true := by
      rw [c1] at hkd
      unfold Fr.kd at hkd
      cases hf : f.d with
      | true => rfl
      | false => rw [hf] at hkd; cases hkd
    have hnz : er ≠ 0 := by
      rcases hp with ⟨_, e, _⟩ | ⟨_, ⟨_, _, e, _⟩ | ⟨_, _, _, _, _, e, _⟩⟩
      · rw [e]; decide
      · exact e
      · rw [e]; decide
    refine ⟨t0, i', rfl, bad ?_, fun e => absurd e hnz⟩
    rcases hp with ⟨c2, rfl, rfl⟩ | ⟨c2, c3⟩
    · refine h1.snoc ?_
      have hlt : i' < b.length := by
        rcases c2 with c2 | c2 | c2
        · exact byt_lt c2 (by decide)
        · exact byt_lt c2 (by decide)
        · exact byt_lt c2 (by decide)
      unfold step
      rw [if_neg (by omega)]
      dsimp only
      rw [if_pos ⟨hd, h2.has hd⟩, if_neg hb]
      unfold keyy
      rw [if_pos (by rcases c2 with c2 | c2 | c2 <;> rw [c2] <;> rfl)]
    · have e := sx_key (r := s) hi hd (h2.has hd) hb (fun e => c2 (.inr (.inl e))) (fun e => c2 (.inr (.inr e))) (fun e => c2 (.inl e))
      rcases c3 with ⟨j, c3, _, rfl⟩ | ⟨t, j, c3, c4, c5, rfl, rfl⟩
      · rw [c3] at e
        exact h1.snoc e
      · rw [c3] at e
        dsimp only at e
        have hps : f.ps ≠ [] := fun e0 => by
          rw [h2.pa] at c4
          unfold Fr.num at c4
          rw [if_pos hd, e0] at c4
          simp at c4
        rw [if_pos ⟨hps, by rw [← h2.kd hd hps]; exact c5⟩] at e
        exact h1.snoc e
  | @trail h i n hr hi =>
    obtain ⟨t, h1, _⟩ := hr.plain hlim
    exact ⟨t0, i, rfl, .inr ⟨rfl, .inl ⟨rfl, hi, hlim, t, h1⟩⟩, fun e => by cases e⟩
  | @done h i n hr hi =>
    obtain ⟨t, h1, h2⟩ := hr.plain hlim
    exact ⟨t, 0, rfl, .inl ⟨rfl, rfl, hlim, i, h1, hi⟩, fun _ => h2⟩
/-- the cells of the spans of a tree -/
def spT (t : T) : List Value := spW ((walkT t 0 (dueS [])).map Sp.v)
def spN (t : T) : Nat := (walkT t 0 (dueS [])).length
/-- Skim's answer, by layer 2's words -/
def SKA (b : List UInt8) (B : Nat) (w' : World) (v : Value) (k : Nat) (er : Int) : Prop :=
  ∃ t, DOUT b t k er ∧ ((er ≠ 0 ∧ v = .slice none 0 0) ∨ (er = 0 ∧ w'.ownsRow B 45 7 v (spN t) (spT t)))
theorem SKO.out {b : List UInt8} {w w' : World} {v : Value} {p er : Int} (h : SKO b w w' v p er) : ∃ k : Nat, p = (k : Int) ∧ SKA b (w.heap.size + 1) w' v k er := by
  rcases h with ⟨h1, rfl, rfl, rfl⟩ | ⟨h1, hh, h2, h3⟩
  · exact ⟨0, rfl, t0, .inr ⟨rfl, .inr (.inr ⟨h1, rfl, rfl⟩)⟩, .inl ⟨by decide, rfl⟩⟩
  · obtain ⟨t, k, rfl, d, e⟩ := h2.out h1
    refine ⟨k, rfl, t, d, ?_⟩
    rcases h3 with h3 | ⟨rfl, _, h3⟩
    · exact .inl h3
    · refine .inr ⟨rfl, ?_⟩
      have e' := e rfl
      have hl : (sk hh).length = spN t := by rw [← List.length_map (f := Vi.o), e', List.length_map]; rfl
      rw [spW_o, e', hl] at h3
      exact h3
end Go.Proofs.YtdlnnnlmlaploaaDoor
