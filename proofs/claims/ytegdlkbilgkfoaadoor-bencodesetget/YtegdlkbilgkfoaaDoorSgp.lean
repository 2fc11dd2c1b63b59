import Derived.Test.YtegdlkbilgkfoaaDoorWith
import Derived.Test.YtegdlkbilgkfoaaDoorGet
import Derived.Test.YtegdlkbilgkfoaaDoorNr
namespace Go.Proofs.YtegdlkbilgkfoaaDoor
open Go.RowKit Go.Deep
theorem findK_rise {ky : Nat → ByteArray} {n i : Nat} {key : ByteArray} (hr : Rise ky n) (hi : i < n) (h : (ky i).toList = key.toList) : findK ky key n = some i :=
  findK_stop hi (fun q hq e => by
    have := hr q i hq hi
    rw [e, h, less_irr] at this
    cases this) h
theorem findK_not {ky : Nat → ByteArray} {n : Nat} {key : ByteArray} (hr : Rise ky n) (h : findK ky key n = none) : ∀ i, i < n → ¬ (ky i).toList = key.toList := fun i hi e => by
  rw [findK_rise hr hi e] at h; cases h
theorem wk_of {k n : Int} {s : ByteArray} {ln : Nat} {l : Nat → T} {dn : Nat} {ky : Nat → ByteArray} {dv : Nat → T} {ar : Int} (h : 1 ≤ k ∧ k ≤ 4 ∧ Own k n s ln dn)
    (hc : 3 ≤ k → ar < 32 ∧ (∀ i, i < ln → wk (l i) (ar + 1) = 0) ∧ ∀ i, i < dn → keyBad ky i = false ∧ wk (dv i) (ar + 1) = 0) : wk (.mk k n s ln l dn ky dv) ar = 0 := by
  unfold wk
  rw [if_neg (by rw [(ownB_iff k n s ln dn).2 h]; decide)]
  by_cases hk : k < 3
  · rw [if_pos hk]
  · obtain ⟨h1, h2, h3⟩ := hc (by omega)
    rw [if_neg hk, if_neg (by omega), if_neg (by rw [fstE_nil h2]; decide)]
    refine fstE_nil fun i hi => ?_
    rw [if_neg (by rw [(h3 i hi).1]; decide)]
    exact (h3 i hi).2
theorem wk_down : ∀ (t : T) (ar : Int), wk t (ar + 1) = 0 → wk t ar = 0 := by
  intro t
  induction t with
  | no => intro ar _; rfl
  | mk k n s ln l dn ky dv il id =>
    intro ar h
    obtain ⟨h1, h2⟩ := wk_mk h
    exact wk_of h1 fun hk => ⟨by have := (h2 hk).1; omega, fun i hi => il i _ ((h2 hk).2.1 i hi), fun i hi => ⟨((h2 hk).2.2 i hi).1, id i _ ((h2 hk).2.2 i hi).2⟩⟩
theorem nk_self {ky : Nat → ByteArray} {key : ByteArray} {at' : Nat} (h : ky at' = key) : nk ky key at' true = ky := by
  funext i
  unfold nk
  by_cases h1 : i < at'
  · rw [if_pos h1]
  · by_cases h2 : i = at'
    · subst h2; rw [if_neg h1, if_pos rfl, h]
    · rw [if_neg h1, if_neg h2, if_pos rfl]
theorem nv_self {dv : Nat → T} {x : T} {at' : Nat} : nv (nv dv x at' true) (dv at') at' true = dv := by
  funext i
  unfold nv
  by_cases h1 : i < at'
  · rw [if_pos h1, if_pos h1]
  · by_cases h2 : i = at'
    · subst h2; rw [if_neg h1, if_pos rfl]
    · rw [if_neg h1, if_neg h2, if_pos rfl, if_neg h1, if_neg h2, if_pos rfl]
/-- what stands in a dictionary that was taken -/
structure DT (dn : Nat) (ky : Nat → ByteArray) (dv : Nat → T) : Prop where
  rise : Rise ky dn
  vals : ∀ i, i < dn → wk (dv i) 1 = 0
theorem dt_of {k n : Int} {s : ByteArray} {ln : Nat} {l : Nat → T} {dn : Nat} {ky : Nat → ByteArray} {dv : Nat → T} (h : wk (.mk k n s ln l dn ky dv) 0 = 0) (hk : k = 4) : DT dn ky dv := by
  have h2 := (wk_mk h).2 (by omega)
  exact ⟨rise_of_good fun i hi => (h2.2.2 i hi).1, fun i hi => (h2.2.2 i hi).2⟩
theorem key_is {ky : Nat → ByteArray} {dn at' : Nat} {key : ByteArray} {f : Bool} (h : Fd ky dn key at' f) (hf : f = true) : at' < dn ∧ ky at' = key := by
  have := h.2.1 hf
  refine ⟨this.1, ba_ext ?_⟩
  have e := this.2
  rw [ByteArray.toList_eq, ByteArray.toList_eq] at e
  exact e
theorem at_lt {ky : Nat → ByteArray} {dn at' : Nat} {key : ByteArray} {f : Bool} (h : Fd ky dn key at' f) : at' < nn dn f := by
  unfold nn
  by_cases hf : f = true
  · rw [if_pos hf]; exact (key_is h hf).1
  · rw [if_neg hf]; have := h.1.1; omega
theorem nk_rise {ky : Nat → ByteArray} {dn at' : Nat} {key : ByteArray} {f : Bool} (hri : Rise ky dn) (h : Fd ky dn key at' f) : Rise (nk ky key at' f) (nn dn f) := rise_of_good (nk_good hri h)
theorem one_get {t : T} (h : wk t 0 = 0) (p : Nat → ByteArray) : getS t p 1 = (match stepT t (p 0) with | none => (zeroT, 28) | some u => (u, 0)) := by
  unfold getS
  rw [if_neg (by rw [h]; decide)]
  rfl
theorem get_set {dn : Nat} {ky : Nat → ByteArray} {dv : Nat → T} {key : ByteArray} {x : T} {at' : Nat} {f : Bool} (hd : DT dn ky dv) (h : Fd ky dn key at' f) (hx : wk x 1 = 0) (p : Nat → ByteArray) (hp : p 0 = key) : getS (withT dn ky dv key x at' f) p 1 = (x, 0) := by
  rw [one_get ((wk_with hd.rise h hd.vals).trans hx), hp]
  unfold stepT withT
  dsimp only
  rw [findK_rise (nk_rise hd.rise h) (at_lt h) (by rw [nk_at])]
  dsimp only [Option.map]
  rw [nv_at]
theorem get_had {n : Int} {s : ByteArray} {ln : Nat} {l : Nat → T} {dn : Nat} {ky : Nat → ByteArray} {dv : Nat → T} {key : ByteArray} {at' : Nat} {f : Bool} (hw : wk (.mk 4 n s ln l dn ky dv) 0 = 0) (h : Fd ky dn key at' f) (p : Nat → ByteArray) (hp : p 0 = key) :
    getS (.mk 4 n s ln l dn ky dv) p 1 = if f = true then (dv at', 0) else (zeroT, 28) := by
  rw [one_get hw, hp]
  unfold stepT
  dsimp only
  have hq := find_of_at (dt_of hw rfl).rise h.1 h.2
  cases f with
  | true => rw [hq.1 rfl]; rfl
  | false => rw [hq.2 rfl]; rfl
theorem get_other {n : Int} {s : ByteArray} {ln : Nat} {l : Nat → T} {dn : Nat} {ky : Nat → ByteArray} {dv : Nat → T} {key other : ByteArray} {x : T} {at' : Nat} {f : Bool} (hw : wk (.mk 4 n s ln l dn ky dv) 0 = 0) (h : Fd ky dn key at' f) (hx : wk x 1 = 0) (p : Nat → ByteArray) (hp : p 0 = other) (hne : ¬ other.toList = key.toList) :
    getS (withT dn ky dv key x at' f) p 1 = getS (.mk 4 n s ln l dn ky dv) p 1 := by
  have hd := dt_of hw rfl
  have hle := h.1.1
  rw [one_get ((wk_with hd.rise h hd.vals).trans hx), one_get hw, hp]
  have : stepT (withT dn ky dv key x at' f) other = stepT (.mk 4 n s ln l dn ky dv) other := by
    unfold stepT withT
    dsimp only
    cases hf : findK ky other dn with
    | some i =>
      obtain ⟨hi, hk⟩ := findK_some hf
      by_cases h1 : i < at'
      · rw [findK_rise (nk_rise hd.rise h) (i := i) (by have := at_lt h; omega) (by rw [nk_lt h1]; exact hk)]
        dsimp only [Option.map]
        rw [nv_lt h1]
      · by_cases hb : f = true
        · obtain ⟨k1, k2⟩ := key_is h hb
          have h2 : i ≠ at' := fun e => by subst e; rw [k2] at hk; exact hne hk.symm
          have hnn : nn dn f = dn := if_pos hb
          rw [findK_rise (nk_rise hd.rise h) (i := i) (by rw [hnn]; exact hi) (by rw [nk_gt (by omega), if_pos hb]; exact hk)]
          dsimp only [Option.map]
          rw [nv_gt (by omega), if_pos hb]
        · have hnn : nn dn f = dn + 1 := if_neg hb
          rw [findK_rise (nk_rise hd.rise h) (i := i + 1) (by rw [hnn]; omega) (by rw [nk_gt (by omega), if_neg hb]; exact hk)]
          dsimp only [Option.map]
          rw [nv_gt (by omega), if_neg hb]
          rfl
    | none =>
      have hno := findK_not hd.rise hf
      rw [findK_none fun i hi e => ?_]
      · rfl
      · by_cases h1 : i < at'
        · rw [nk_lt h1] at e; exact hno i (by omega) e
        · by_cases h2 : i = at'
          · subst h2; rw [nk_at] at e; exact hne e.symm
          · rw [nk_gt (by omega)] at e
            unfold nn at hi
            by_cases hb : f = true
            · rw [if_pos hb] at e hi; exact hno i hi e
            · rw [if_neg hb] at e hi; exact hno (i - 1) (by omega) e
  rw [this]
/-- to set a key to what it has -/
theorem set_back {dn : Nat} {ky : Nat → ByteArray} {dv : Nat → T} {key : ByteArray} {x : T} {at' : Nat} (hd : DT dn ky dv) (h : Fd ky dn key at' true) (hx : wk x 1 = 0) {u : T} {er : Int} (hs : WS (withT dn ky dv key x at' true) key (dv at') u er) :
    er = 0 ∧ u = .mk 4 0 { data := #[] } 0 (fun _ => .no) dn ky dv := by
  obtain ⟨k1, k2⟩ := key_is h rfl
  have hh1 := hd.vals at' k1
  have hfd : Fd (nk ky key at' true) (nn dn true) key at' true := by
    rw [nk_self k2]; exact h
  have hw : WS (withT dn ky dv key x at' true) key (dv at') (withT (nn dn true) (nk ky key at' true) (nv dv x at' true) key (dv at') at' true) 0 :=
    .inr (.inr (.inr (.inr ⟨(wk_with hd.rise h hd.vals).trans hx, rfl, wk_down _ _ hh1, hh1, rfl, _, _, _, _, _, _, _, _, _, rfl, hfd, rfl⟩)))
  obtain ⟨rfl, rfl⟩ := hs.unique hw
  refine ⟨rfl, ?_⟩
  unfold withT
  rw [nv_self, nk_self k2, nk_self k2]
  rfl
theorem with_small {ky : Nat → ByteArray} {dn at' : Nat} {key : ByteArray} {f : Bool} {dv : Nat → T} {x : T} (h : Fd ky dn key at' f) (hd : dn + 1 ≤ 2147483647) (hv : ∀ i, i < dn → (dv i).small) (hx : x.small) : (withT dn ky dv key x at' f).small := by
  have hle := h.1.1
  refine ⟨Nat.zero_le _, by unfold nn; split <;> omega, fun i hi => absurd hi (Nat.not_lt_zero _), fun i hi => ?_⟩
  unfold nn at hi
  by_cases e1 : i < at'
  · rw [nv_lt e1]; exact hv i (by omega)
  · by_cases e2 : i = at'
    · subst e2; rw [nv_at]; exact hx
    · rw [nv_gt (by omega)]
      by_cases hf : f = true
      · rw [if_pos hf] at hi ⊢; exact hv i hi
      · rw [if_neg hf] at hi ⊢; exact hv (i - 1) (by omega)
theorem sumN_two {g : Nat → Nat} (h : ∀ i, 2 ≤ g i) : ∀ n, 2 * n ≤ sumN g n
  | 0 => Nat.le_refl _
  | n + 1 => by have := sumN_two h n; have := h n; show 2 * (n + 1) ≤ sumN g n + g n; omega
theorem few {k n : Int} {s : ByteArray} {ln : Nat} {l : Nat → T} {dn : Nat} {ky : Nat → ByteArray} {dv : Nat → T} (h : wt (.mk k n s ln l dn ky dv) ≤ 2147483647) : dn + 1 ≤ 2147483647 := by
  have h1 : 2 * dn ≤ sumN (fun i => 1 + (ky i).size + wt (dv i)) dn := sumN_two (fun i => by have := wt_pos (dv i); omega) dn
  have h2 : wt (.mk k n s ln l dn ky dv) = 1 + s.size + sumN (fun i => wt (l i)) ln + sumN (fun i => 1 + (ky i).size + wt (dv i)) dn := rfl
  omega
/-- all that the law asks of the two dictionaries -/
structure SGF (t u x : T) (key : ByteArray) (f : Bool) (had : T) : Prop where
  uok : u.ok
  usm : u.small
  g1 : getS u (fun _ => key) 1 = (x, 0)
  g2 : getS t (fun _ => key) 1 = if f = true then (had, 0) else (zeroT, 28)
  hok : f = true → had.ok ∧ had.small
  back : f = true → ∀ u2 er2, WS u key had u2 er2 → er2 = 0 ∧ u2.ok ∧ (u2.k = t.k ∧ u2.n = t.n ∧ u2.s = t.s) ∧ ∀ (w : World) (x y : Value), RV (fun _ => True) w t x y → RV (fun _ => True) w u2 x y
  len : ∀ (w w' : World) (x x' : Value) (a a' : Option Addr) (n n' c c' : Nat), RV (fun _ => True) w t x (.slice a n c) → RV (fun _ => True) w' u x' (.slice a' n' c') → n' = n + (if f = true then 0 else 1)
  g3 : ∀ other : ByteArray, ¬ other.toList = key.toList → getS u (fun _ => other) 1 = getS t (fun _ => other) 1
  gok : ∀ p, (getS t p 1).1.ok
theorem sg_of {n : Int} {s : ByteArray} {ln : Nat} {l : Nat → T} {dn : Nat} {ky : Nat → ByteArray} {dv : Nat → T} {key : ByteArray} {x : T} {at' : Nat} {f : Bool} (hw : wk (.mk 4 n s ln l dn ky dv) 0 = 0) (hx : wk x 1 = 0) (h : Fd ky dn key at' f)
    (hok : (T.mk 4 n s ln l dn ky dv).ok) (hsm : (T.mk 4 n s ln l dn ky dv).small) (hwt : wt (.mk 4 n s ln l dn ky dv) ≤ 2147483647) (hxo : x.ok) (hxs : x.small) (hks : key.size ≤ 140737488351232) :
    SGF (.mk 4 n s ln l dn ky dv) (withT dn ky dv key x at' f) x key f (dv at') := by
  have hd := dt_of hw rfl
  obtain ⟨⟨_, _, q1, q2, q3, _⟩, _⟩ := wk_mk hw
  obtain ⟨o1, o2, o3, o4, o5⟩ := hok
  obtain ⟨s1, s2, s3, s4⟩ := hsm
  have hn : n = 0 := by rcases q1 with e | e; · cases e
                        · exact e
  have hs : s = { data := #[] } := by rcases q2 with e | e; · cases e
                                      · exact empty_of e
  have hl : ln = 0 := by rcases q3 with e | e; · cases e
                         · exact e
  subst hn hs hl
  refine ⟨withT_ok (by have := few hwt; omega) hks o5 hxo (fun _ => h.1.1) (fun e => (key_is h e).1), with_small h (few hwt) s4 hxs, get_set hd h hx _ rfl, get_had hw h _ rfl, fun e => ⟨(o5 _ (key_is h e).1).2, s4 _ (key_is h e).1⟩, ?_, ?_, fun other ho => get_other hw h hx _ rfl ho, ?_⟩
  · intro e u2 er2 hs
    subst e
    obtain ⟨rfl, rfl⟩ := set_back hd h hx hs
    exact ⟨rfl, ⟨Nat.zero_le _, Nat.zero_le _, o3, fun i hi => absurd hi (Nat.not_lt_zero _), o5⟩, ⟨rfl, rfl, rfl⟩, fun w x y hr => ⟨⟨_, _, hr.1.choose_spec.choose_spec.1, .inl rfl⟩, hr.2⟩⟩
  · intro w w' x1 x2 a a' m m' c c' hr hr'
    obtain ⟨b1, c1, e1, _⟩ := hr.2
    obtain ⟨b2, c2, e2, _⟩ := hr'.2
    injection e1 with _ e1 _
    injection e2 with _ e2 _
    rw [e1, e2]
    unfold nn
    split <;> omega
  · intro p
    rw [one_get hw]
    unfold stepT
    dsimp only
    cases hf : findK ky (p 0) dn with
    | none => exact zeroT_ok
    | some i => exact (o5 i (findK_some hf).1).2
end Go.Proofs.YtegdlkbilgkfoaaDoor
