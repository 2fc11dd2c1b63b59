namespace Go.Proofs.YtoiehkpmemmldaaDoor
/- the tree of laid paths, plain: N u is the number of the folder u (not 0), 0 of a path; S is the map, k its key -/
section
variable {α : Type} (e : α)
def KO (N : List α → Option Nat) (u : List α) (k : Nat × α) : Prop := (u = [] ∧ k = (0, e)) ∨ ∃ v x m, u = v ++ [x] ∧ N v = some m ∧ m ≠ 0 ∧ k = (m, x)
def setN [DecidableEq α] (N : List α → Option Nat) (u : List α) (m : Nat) (v : List α) : Option Nat := if v = u then some m else N v
def setS [DecidableEq α] (S : Nat × α → Option Nat) (k : Nat × α) (m : Nat) (v : Nat × α) : Option Nat := if v = k then some m else S v
structure TI (c : Nat) (N : List α → Option Nat) (S : Nat × α → Option Nat) : Prop where
  closed : ∀ u x, N (u ++ [x]) ≠ none → ∃ m, N u = some m ∧ m ≠ 0
  inj : ∀ u v m, N u = some m → N v = some m → m ≠ 0 → u = v
  low : ∀ u m, N u = some m → m ≤ c
  look : ∀ u k, KO e N u k → S k = N u
  fresh : ∀ f x, c < f → S (f, x) = none
theorem TI.nil : TI e 0 (fun _ => none) (fun _ => none) := ⟨fun _ _ h => absurd rfl h, fun _ _ _ h => by simp at h, fun _ _ h => by simp at h, fun _ _ _ => rfl, fun _ _ _ => rfl⟩
variable {e} {c : Nat} {N : List α → Option Nat} {S : Nat × α → Option Nat}
theorem KO.low (T : TI e c N S) {u k} (h : KO e N u k) : k.1 ≤ c := by
  rcases h with ⟨_, rfl⟩ | ⟨v, x, m, _, hm, _, rfl⟩
  · exact Nat.zero_le _
  · exact T.low _ _ hm
theorem snoc_ne (v : List α) (x : α) : v ≠ v ++ [x] := fun h => by have := congrArg List.length h; simp at this
theorem TI.ins [DecidableEq α] (T : TI e c N S) {u k} (hk : KO e N u k) (hn : N u = none) {m : Nat} (hm : m = 0 ∨ m = c + 1) : TI e (c + 1) (setN N u m) (setS S k m) := by
  have hkl := hk.low T
  refine ⟨fun v x h => ?_, fun a b p ha hb hp => ?_, fun v p h => ?_, fun v k' h => ?_, fun f x h => ?_⟩
  · by_cases hu : v ++ [x] = u
    · rcases hk with ⟨rfl, _⟩ | ⟨v', x', m', rfl, hv', hm', _⟩
      · simp at hu
      · obtain ⟨rfl, h2⟩ := List.append_inj' hu rfl
        exact ⟨m', by unfold setN; rw [if_neg (snoc_ne _ _)]; exact hv', hm'⟩
    · unfold setN at h
      rw [if_neg hu] at h
      obtain ⟨m', h1, h2⟩ := T.closed v x h
      refine ⟨m', ?_, h2⟩
      unfold setN
      rw [if_neg (fun hh => by rw [hh, hn] at h1; cases h1)]
      exact h1
  · unfold setN at ha hb
    by_cases h1 : a = u <;> by_cases h2 : b = u
    · rw [h1, h2]
    · rw [if_pos h1] at ha; rw [if_neg h2] at hb
      have := T.low _ _ hb
      simp at ha
      omega
    · rw [if_neg h1] at ha; rw [if_pos h2] at hb
      have := T.low _ _ ha
      simp at hb
      omega
    · rw [if_neg h1] at ha; rw [if_neg h2] at hb
      exact T.inj _ _ _ ha hb hp
  · unfold setN at h
    split at h
    · simp at h; omega
    · have := T.low _ _ h; omega
  · by_cases hv : v = u
    · subst hv
      have : k' = k := by
        rcases h with ⟨h1, rfl⟩ | ⟨v1, x1, m1, h1, h2, h3, rfl⟩
        · rcases hk with ⟨_, rfl⟩ | ⟨v2, x2, m2, g1, _⟩
          · rfl
          · rw [h1] at g1; simp at g1
        · rcases hk with ⟨g1, rfl⟩ | ⟨v2, x2, m2, g1, g2, g3, rfl⟩
          · rw [h1] at g1; simp at g1
          · rw [h1] at g1
            obtain ⟨rfl, h5⟩ := List.append_inj' g1 rfl
            simp at h5
            subst h5
            unfold setN at h2
            rw [if_neg (fun hh => snoc_ne v1 x1 (hh.trans h1))] at h2
            rw [h2] at g2
            simp at g2
            rw [g2]
      rw [this]
      simp [setS, setN]
    · have e2 : setN N u m v = N v := by unfold setN; rw [if_neg hv]
      rw [e2]
      have key : S k' = N v ∧ k' ≠ k := by
        rcases h with ⟨rfl, rfl⟩ | ⟨a, x, p, rfl, ha, hp, rfl⟩
        · refine ⟨T.look _ _ (.inl ⟨rfl, rfl⟩), ?_⟩
          rcases hk with ⟨rfl, _⟩ | ⟨v2, x2, m2, _, _, g3, rfl⟩
          · exact absurd rfl hv
          · intro hh
            simp at hh
            omega
        · by_cases hau : a = u
          · subst hau
            unfold setN at ha
            rw [if_pos rfl] at ha
            simp at ha
            have hpc : p = c + 1 := by omega
            refine ⟨?_, fun hh => by rw [← hh] at hkl; simp at hkl; omega⟩
            rw [T.fresh p x (by omega)]
            cases hx : N (a ++ [x]) with
            | none => rfl
            | some q =>
              obtain ⟨m', h1, _⟩ := T.closed a x (by rw [hx]; simp)
              rw [hn] at h1; cases h1
          · unfold setN at ha
            rw [if_neg hau] at ha
            refine ⟨T.look _ _ (.inr ⟨a, x, p, rfl, ha, hp, rfl⟩), ?_⟩
            rcases hk with ⟨_, rfl⟩ | ⟨v2, x2, m2, rfl, g2, g3, rfl⟩
            · intro hh; simp at hh; omega
            · intro hh
              simp at hh
              obtain ⟨rfl, rfl⟩ := hh
              exact hv (by rw [T.inj _ _ _ ha g2 hp])
      unfold setS
      rw [if_neg key.2]
      exact key.1
  · unfold setS
    rw [if_neg (fun hh => by rw [← hh] at hkl; simp at hkl; omega)]
    exact T.fresh f x (by omega)

/-- the paths that are laid -/
def LI (L : List (List α)) (N : List α → Option Nat) : Prop := (∀ u, N u = some 0 ↔ u ∈ L) ∧ ∀ u, (∃ m, N u = some m ∧ m ≠ 0) ↔ ∃ q, q ∈ L ∧ u <+: q ∧ u ≠ q
theorem LI.nil : LI ([] : List (List α)) (fun _ => none) := ⟨fun u => by simp, fun u => by simp⟩
/-- of two paths one begins with the other -/
def Begin (q p : List α) : Prop := q <+: p ∨ p <+: q

/-- at the place j of the path p, N0 as it was -/
structure JI (p : List α) (N0 : List α → Option Nat) (j : Nat) (c : Nat) (N : List α → Option Nat) (S : Nat × α → Option Nat) (at' : Nat × α) (e : α) : Prop where
  ti : TI e c N S
  ko : KO e N (p.take j) at'
  done : ∀ i, i < j → ∃ m, N (p.take i) = some m ∧ m ≠ 0
  else' : ∀ u, (∀ i, i < j → u ≠ p.take i) → N u = N0 u
  no : ∀ i, i < j → N0 (p.take i) ≠ some 0
theorem JI.start (T : TI e c N S) (p : List α) : JI p N 0 c N S (0, e) e := ⟨T, .inl ⟨by simp, rfl⟩, fun i h => absurd h (Nat.not_lt_zero _), fun _ _ => rfl, fun i h => absurd h (Nat.not_lt_zero _)⟩
variable {p : List α} {N0 : List α → Option Nat} {j : Nat} {at' : Nat × α}
theorem take_ne {i j : Nat} (h : i < j) (hj : j ≤ p.length) : p.take j ≠ p.take i := fun hh => by
  have := congrArg List.length hh
  simp at this
  omega
theorem JI.here (J : JI p N0 j c N S at' e) (hj : j ≤ p.length) : S at' = N0 (p.take j) := by
  rw [J.ti.look _ _ J.ko]
  exact J.else' _ (fun i hi => take_ne hi hj)
theorem JI.step (J : JI p N0 j c N S at' e) (hj : j < p.length) {m : Nat} (hs : S at' = some m) (hm : m ≠ 0) : JI p N0 (j + 1) c N S (m, p[j]) e := by
  have h0 := J.here (by omega)
  rw [hs] at h0
  have hN : N (p.take j) = some m := by rw [← J.ti.look _ _ J.ko]; exact hs
  have e1 : p.take (j + 1) = p.take j ++ [p[j]] := by rw [List.take_succ_eq_append_getElem hj]
  refine ⟨J.ti, .inr ⟨p.take j, p[j], m, e1, hN, hm, rfl⟩, fun i hi => ?_, fun u hu => J.else' u (fun i hi => hu i (by omega)), fun i hi => ?_⟩
  · by_cases h : i < j
    · exact J.done i h
    · have : i = j := by omega
      subst this
      exact ⟨m, hN, hm⟩
  · by_cases h : i < j
    · exact J.no i h
    · have : i = j := by omega
      subst this
      rw [← h0]
      simp [hm]
theorem JI.new [DecidableEq α] (J : JI p N0 j c N S at' e) (hj : j < p.length) (hs : S at' = none) : JI p N0 (j + 1) (c + 1) (setN N (p.take j) (c + 1)) (setS S at' (c + 1)) (c + 1, p[j]) e := by
  have h0 := J.here (by omega)
  rw [hs] at h0
  have hN : N (p.take j) = none := by rw [← J.ti.look _ _ J.ko]; exact hs
  have e1 : p.take (j + 1) = p.take j ++ [p[j]] := by rw [List.take_succ_eq_append_getElem hj]
  refine ⟨J.ti.ins J.ko hN (.inr rfl), .inr ⟨p.take j, p[j], c + 1, e1, by simp [setN], by omega, rfl⟩, fun i hi => ?_, fun u hu => ?_, fun i hi => ?_⟩
  · by_cases h : i < j
    · obtain ⟨m, h1, h2⟩ := J.done i h
      refine ⟨m, ?_, h2⟩
      unfold setN
      rw [if_neg (fun hh => take_ne h (by omega) hh.symm)]
      exact h1
    · have : i = j := by omega
      subst this
      exact ⟨c + 1, by simp [setN], by omega⟩
  · unfold setN
    rw [if_neg (hu j (by omega))]
    exact J.else' u (fun i hi => hu i (by omega))
  · by_cases h : i < j
    · exact J.no i h
    · have : i = j := by omega
      subst this
      rw [← h0]
      simp
theorem pre_take {u p : List α} (h : u <+: p) : u = p.take u.length := (List.prefix_iff_eq_take.1 h)
/-- a path on the way: no -/
theorem JI.hit (J : JI p N0 j c N S at' e) {L : List (List α)} (hL : LI L N0) (hj : j ≤ p.length) (hs : S at' = some 0) : ∃ q, q ∈ L ∧ Begin q p := by
  have h0 := J.here hj
  rw [hs] at h0
  exact ⟨p.take j, (hL.1 _).1 h0.symm, .inl (List.take_prefix _ _)⟩
/-- the path's own place is taken: no -/
theorem JI.full (J : JI p N0 p.length c N S at' e) {L : List (List α)} (hL : LI L N0) {m : Nat} (hs : S at' = some m) : ∃ q, q ∈ L ∧ Begin q p := by
  have h0 := J.here (Nat.le_refl _)
  rw [hs, List.take_length] at h0
  by_cases hm : m = 0
  · subst hm
    exact ⟨p, (hL.1 _).1 h0.symm, .inl (List.prefix_refl _)⟩
  · obtain ⟨q, h1, h2, _⟩ := (hL.2 p).1 ⟨m, h0.symm, hm⟩
    exact ⟨q, h1, .inr h2⟩
/-- the path is laid -/
theorem JI.laid [DecidableEq α] (J : JI p N0 p.length c N S at' e) {L : List (List α)} (hL : LI L N0) (hs : S at' = none) :
    (∀ q, q ∈ L → ¬ Begin q p) ∧ TI e (c + 1) (setN N p 0) (setS S at' 0) ∧ LI (L ++ [p]) (setN N p 0) := by
  have h0 := J.here (Nat.le_refl _)
  rw [hs, List.take_length] at h0
  have hN : N p = none := by have := J.ti.look _ _ J.ko; rw [List.take_length] at this; rw [← this]; exact hs
  have hko := J.ko
  rw [List.take_length] at hko
  have nob : ∀ q, q ∈ L → ¬ Begin q p := by
    rintro q hq (hb | hb)
    · have hz := (hL.1 q).2 hq
      by_cases hl : q.length < p.length
      · have := J.no q.length hl
        rw [← pre_take hb] at this
        exact this hz
      · have : q = p := hb.eq_of_length (by have := hb.length_le; omega)
        rw [this, ← h0] at hz
        cases hz
    · by_cases he : p = q
      · have hz := (hL.1 q).2 hq
        rw [← he, ← h0] at hz
        cases hz
      · obtain ⟨m, h1, _⟩ := (hL.2 p).2 ⟨q, hq, hb, he⟩
        rw [← h0] at h1
        cases h1
  refine ⟨nob, J.ti.ins hko hN (.inl rfl), fun u => ?_, fun u => ?_⟩
  · unfold setN
    by_cases hu : u = p
    · rw [if_pos hu]; simp [hu]
    · rw [if_neg hu]
      by_cases hi : ∃ i, i < p.length ∧ u = p.take i
      · obtain ⟨i, hi, rfl⟩ := hi
        obtain ⟨m, h1, h2⟩ := J.done i hi
        rw [h1]
        constructor
        · intro h; simp at h; omega
        · intro h
          simp only [List.mem_append, List.mem_singleton] at h
          rcases h with h | h
          · exact absurd ((hL.1 _).2 h) (J.no i hi)
          · exact absurd h hu
      · rw [J.else' u (fun i h1 h2 => hi ⟨i, h1, h2⟩), hL.1 u]
        simp [hu]
  · unfold setN
    by_cases hu : u = p
    · rw [if_pos hu]
      constructor
      · rintro ⟨m, h1, h2⟩; simp at h1; omega
      · rintro ⟨q, hq, h1, h2⟩
        simp only [List.mem_append, List.mem_singleton] at hq
        rcases hq with hq | hq
        · exact absurd (.inr (by rw [← hu]; exact h1)) (nob q hq)
        · exact absurd (hu.trans hq.symm) h2
    · rw [if_neg hu]
      by_cases hi : ∃ i, i < p.length ∧ u = p.take i
      · obtain ⟨i, hi, rfl⟩ := hi
        obtain ⟨m, h1, h2⟩ := J.done i hi
        constructor
        · intro _
          exact ⟨p, by simp, List.take_prefix _ _, hu⟩
        · intro _
          exact ⟨m, h1, h2⟩
      · rw [J.else' u (fun i h1 h2 => hi ⟨i, h1, h2⟩), hL.2 u]
        constructor
        · rintro ⟨q, hq, h1, h2⟩
          exact ⟨q, by simp [hq], h1, h2⟩
        · rintro ⟨q, hq, h1, h2⟩
          simp only [List.mem_append, List.mem_singleton] at hq
          rcases hq with hq | hq
          · exact ⟨q, hq, h1, h2⟩
          · subst hq
            have hlt : u.length < q.length := by
              rcases Nat.lt_or_ge u.length q.length with h | h
              · exact h
              · exact absurd (h1.eq_of_length (by have := h1.length_le; omega)) h2
            exact absurd ⟨u.length, hlt, pre_take h1⟩ hi
end
end Go.Proofs.YtoiehkpmemmldaaDoor
