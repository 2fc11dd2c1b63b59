import Derived.Test.YtegdlkbilgkfoaaDoorM08
import Derived.Test.YtegdlkbilgkfoaaDoorM09
import Derived.Test.YtegdlkbilgkfoaaDoorM18
import Derived.Test.YtegdlkbilgkfoaaDoorM15
namespace Go.Proofs.YtegdlkbilgkfoaaDoor
open Go.RowKit Go.Deep
theorem findK_rise {ky : Nat → ByteArray} {n i : Nat} {key : ByteArray} (hr : Rise ky n) (hi : i < n) (h : (ky i).toList = key.toList) : findK ky key n = some i :=
  findK_stop hi (fun q hq e => by
    have := hr q i hq hi
    rw [e, h, less_irr] at this
    cases this) h
theorem findK_not {ky : Nat → ByteArray} {n : Nat} {key : ByteArray} (hr : Rise ky n) (h : findK ky key n = none) : ∀ i, i < n → ¬ (ky i).toList = key.toList := fun i hi e => by
  rw [findK_rise hr hi e] at h; cases h
theorem wk_of {k n : Int} {s : ByteArray} {ln : Nat} {l : Nat → T} {dn : Nat} {ky : Nat → ByteArray} {dv : Nat → T} {ar : Int} (h : 1 ≤ k ∧ k ≤ 4 ∧ Own k n s ln dn)
    (hc : 3 ≤ k → ar < 32 ∧ (∀ i, i < ln → wk (l i) (ar + 1) = 0) ∧ ∀ i, i < dn → keyBad ky i = false ∧ wk (dv i) (ar + 1) = 0) : wk (.mk k n s ln l dn ky dv) ar = 0 := by
  unfold wk
  rw [if_neg (by rw [(ownB_iff k n s ln dn).2 h]; decide)]
  by_cases hk : k < 3
  · rw [if_pos hk]
  · obtain ⟨h1, h2, h3⟩ := hc (by omega)
    rw [if_neg hk, if_neg (by omega), if_neg (by rw [fstE_nil h2]; decide)]
    refine fstE_nil fun i hi => ?_
    rw [if_neg (by rw [(h3 i hi).1]; decide)]
    exact (h3 i hi).2
theorem wk_down : ∀ (t : T) (ar : Int), wk t (ar + 1) = 0 → wk t ar = 0 := by
  intro t
  induction t with
  | no => intro ar _; rfl
  | mk k n s ln l dn ky dv il id =>
    intro ar h
    obtain ⟨h1, h2⟩ := wk_mk h
    exact wk_of h1 fun hk => ⟨by have := (h2 hk).1; omega, fun i hi => il i _ ((h2 hk).2.1 i hi), fun i hi => ⟨((h2 hk).2.2 i hi).1, id i _ ((h2 hk).2.2 i hi).2⟩⟩
theorem nk_self {ky : Nat → ByteArray} {key : ByteArray} {at' : Nat} (h : ky at' = key) : nk ky key at' true = ky := by
  funext i
  unfold nk
  by_cases h1 : i < at'
  · rw [if_pos h1]
  · by_cases h2 : i = at'
    · subst h2; rw [if_neg h1, if_pos rfl, h]
    · rw [if_neg h1, if_neg h2, if_pos rfl]
theorem nv_self {dv : Nat → T} {x : T} {at' : Nat} : nv (nv dv x at' true) (dv at') at' true = dv := by
  funext i
  unfold nv
  by_cases h1 : i < at'
  · rw [if_pos h1, if_pos h1]
  · by_cases h2 : i = at'
    · subst h2; rw [if_neg h1, if_pos rfl]
    · rw [if_neg h1, if_neg h2, if_pos rfl, if_neg h1, if_neg h2, if_pos rfl]
/-- what stands in a dictionary that was taken -/
structure DT (dn : Nat) (ky : Nat → ByteArray) (dv : Nat → T) : Prop where
  rise : Rise ky dn
  vals : ∀ i, i < dn → wk (dv i) 1 = 0
theorem dt_of {k n : Int} {s : ByteArray} {ln : Nat} {l : Nat → T} {dn : Nat} {ky : Nat → ByteArray} {dv : Nat → T} (h : wk (.mk k n s ln l dn ky dv) 0 = 0) (hk : k = 4) : DT dn ky dv := by
  have h2 := (wk_mk h).2 (by omega)
  exact ⟨rise_of_good fun i hi => (h2.2.2 i hi).1, fun i hi => (h2.2.2 i hi).2⟩
theorem key_is {ky : Nat → ByteArray} {dn at' : Nat} {key : ByteArray} {f : Bool} (h : Fd ky dn key at' f) (hf : f = true) : at' < dn ∧ ky at' = key := by
  have := h.2.1 hf
  refine ⟨this.1, ba_ext ?_⟩
  have e := this.2
  rw [ByteArray.toList_eq, ByteArray.toList_eq] at e
  exact e
theorem at_lt {ky : Nat → ByteArray} {dn at' : Nat} {key : ByteArray} {f : Bool} (h : Fd ky dn key at' f) : at' < nn dn f := by
  unfold nn
  by_cases hf : f = true
  · rw [if_pos hf]; exact (key_is h hf).1
  · rw [if_neg hf]; have := h.1.1; omega
theorem nk_rise {ky : Nat → ByteArray} {dn at' : Nat} {key : ByteArray} {f : Bool} (hri : Rise ky dn) (h : Fd ky dn key at' f) : Rise (nk ky key at' f) (nn dn f) := rise_of_good (nk_good hri h)
theorem one_get {t : T} (h : wk t 0 = 0) (p : Nat → ByteArray) : getS t p 1 = (match stepT t (p 0) with | none => (zeroT, 28) | some u => (u, 0)) := by
  unfold getS
  rw [if_neg (by rw [h]; decide)]
  rfl
theorem get_set {dn : Nat} {ky : Nat → ByteArray} {dv : Nat → T} {key : ByteArray} {x : T} {at' : Nat} {f : Bool} (hd : DT dn ky dv) (h : Fd ky dn key at' f) (hx : wk x 1 = 0) (p : Nat → ByteArray) (hp : p 0 = key) : getS (withT dn ky dv key x at' f) p 1 = (x, 0) := by
  rw [one_get ((wk_with hd.rise h hd.vals).trans hx), hp]
  unfold stepT withT
  dsimp only
  rw [findK_rise (nk_rise hd.rise h) (at_lt h) (by rw [nk_at])]
  dsimp only [Option.map]
  rw [nv_at]
theorem get_had {n : Int} {s : ByteArray} {ln : Nat} {l : Nat → T} {dn : Nat} {ky : Nat → ByteArray} {dv : Nat → T} {key : ByteArray} {at' : Nat} {f : Bool} (hw : wk (.mk 4 n s ln l dn ky dv) 0 = 0) (h : Fd ky dn key at' f) (p : Nat → ByteArray) (hp : p 0 = key) :
    getS (.mk 4 n s ln l dn ky dv) p 1 = if f = true then (dv at', 0) else (zeroT, 28) := by
  rw [one_get hw, hp]
  unfold stepT
  dsimp only
  have hq := find_of_at (dt_of hw rfl).rise h.1 h.2
  cases f with
  | true => rw [hq.1 rfl]; rfl
  | false => rw [hq.2 rfl]; rfl
theorem get_other {n : Int} {s : ByteArray} {ln : Nat} {l : Nat → T} {dn : Nat} {ky : Nat → ByteArray} {dv : Nat → T} {key other : ByteArray} {x : T} {at' : Nat} {f : Bool} (hw : wk (.mk 4 n s ln l dn ky dv) 0 = 0) (h : Fd ky dn key at' f) (hx : wk x 1 = 0) (p : Nat → ByteArray) (hp : p 0 = other) (hne : ¬ other.toList = key.toList) :
    getS (withT dn ky dv key x at' f) p 1 = getS (.mk 4 n s ln l dn ky dv) p 1 := by
  have hd := dt_of hw rfl
  have hle := h.1.1
  rw [one_get ((wk_with hd.rise h hd.vals).trans hx), one_get hw, hp]
  have : stepT (withT dn ky dv key x at' f) other = stepT (.mk 4 n s ln l dn ky dv) other := by
    unfold stepT withT
    dsimp only
    cases hf : findK ky other dn with
    | some i =>
      obtain ⟨hi, hk⟩ := findK_some hf
      by_cases h1 : i < at'
      · rw [findK_rise (nk_rise hd.rise h) (i := i) (by have := at_lt h; omega) (by rw [nk_lt h1]; exact hk)]
        dsimp only [Option.map]
        rw [nv_lt h1]
      · by_cases hb : f = true
        · obtain ⟨k1, k2⟩ := key_is h hb
          have h2 : i ≠ at' := fun e => by subst e; rw [k2] at hk; exact hne hk.symm
          have hnn : nn dn f = dn := if_pos hb
          rw [findK_rise (nk_rise hd.rise h) (i := i) (by rw [hnn]; exact hi) (by rw [nk_gt (by omega), if_pos hb]; exact hk)]
          dsimp only [Option.map]
          rw [nv_gt (by omega), if_pos hb]
        · have hnn : nn dn f = dn + 1 := if_neg hb
          rw [findK_rise (nk_rise hd.rise h) (i := i + 1) (by rw [hnn]; omega) (by rw [nk_gt (by omega), if_neg hb]; exact hk)]
          dsimp only [Option.map]
          rw [nv_gt (by omega), if_neg hb]
          rfl
    | none =>
      have hno := findK_not hd.rise hf
      rw [findK_none fun i hi e => ?_]
      · rfl
      · by_cases h1 : i < at'
        · rw [nk_lt h1] at e; exact hno i (by omega) e
        · by_cases h2 : i = at'
          · subst h2; rw [nk_at] at e; exact hne e.symm
          · rw [nk_gt (by omega)] at e
            unfold nn at hi
            by_cases hb : f = true
            · rw [if_pos hb] at e hi; exact hno i hi e
            · rw [if_neg hb] at e hi; exact hno (i - 1) (by omega) e
  rw [this]
/-- to set a key to what it has -/
theorem set_back {dn : Nat} {ky : Nat → ByteArray} {dv : Nat → T} {key : ByteArray} {x : T} {at' : Nat} (hd : DT dn ky dv) (h : Fd ky dn key at' true) (hx : wk x 1 = 0) {u : T} {er : Int} (hs : WS (withT dn ky dv key x at' true) key (dv at') u er) :
    er = 0 ∧ u = .mk 4 0 { data := #[] } 0 (fun _ => .no) dn ky dv := by
  obtain ⟨k1, k2⟩ := key_is h rfl
  have hh1 := hd.vals at' k1
  have hfd : Fd (nk ky key at' true) (nn dn true) key at' true := by
    rw [nk_self k2]; exact h
  have hw : WS (withT dn ky dv key x at' true) key (dv at') (withT (nn dn true) (nk ky key at' true) (nv dv x at' true) key (dv at') at' true) 0 :=
    .inr (.inr (.inr (.inr ⟨(wk_with hd.rise h hd.vals).trans hx, rfl, wk_down _ _ hh1, hh1, rfl, _, _, _, _, _, _, _, _, _, rfl, hfd, rfl⟩)))
  obtain ⟨rfl, rfl⟩ := hs.unique hw
  refine ⟨rfl, ?_⟩
  unfold withT
  rw [nv_self, nk_self k2, nk_self k2]
  rfl
theorem with_small {ky : Nat → ByteArray} {dn at' : Nat} {key : ByteArray} {f : Bool} {dv : Nat → T} {x : T} (h : Fd ky dn key at' f) (hd : dn + 1 ≤ 2147483647) (hv : ∀ i, i < dn → (dv i).small) (hx : x.small) : (withT dn ky dv key x at' f).small := by
  have hle := h.1.1
  refine ⟨Nat.zero_le _, by unfold nn; split <;> omega, fun i hi => absurd hi (Nat.not_lt_zero _), fun i hi => ?_⟩
  unfold nn at hi
  by_cases e1 : i < at'
  · rw [nv_lt e1]; exact hv i (by omega)
  · by_cases e2 : i = at'
    · subst e2; rw [nv_at]; exact hx
    · rw [nv_gt (by omega)]
      by_cases hf : f = true
      · rw [if_pos hf] at hi ⊢; exact hv i hi
      · rw [if_neg hf] at hi ⊢; exact hv (i - 1) (by omega)
theorem sumN_two {g : Nat → Nat} (h : ∀ i, 2 ≤ g i) : ∀ n, 2 * n ≤ sumN g n
  | 0 => Nat.le_refl _
  | n + 1 => by have := sumN_two h n; have := h n; show 2 * (n + 1) ≤ sumN g n + g n; omega
theorem few {k n : Int} {s : ByteArray} {ln : Nat} {l : Nat → T} {dn : Nat} {ky : Nat → ByteArray} {dv : Nat → T} (h : wt (.mk k n s ln l dn ky dv) ≤ 2147483647) : dn + 1 ≤ 2147483647 := by
  have h1 : 2 * dn ≤ sumN (fun i => 1 + (ky i).size + wt (dv i)) dn := sumN_two (fun i => by have := wt_pos (dv i); omega) dn
  have h2 : wt (.mk k n s ln l dn ky dv) = 1 + s.size + sumN (fun i => wt (l i)) ln + sumN (fun i => 1 + (ky i).size + wt (dv i)) dn := rfl
  omega
/-- all that the law asks of the two dictionaries -/
structure SGF (t u x : T) (key : ByteArray) (f : Bool) (had : T) : Prop where
  uok : u.ok
  usm : u.small
  g1 : getS u (fun _ => key) 1 = (x, 0)
  g2 : getS t (fun _ => key) 1 = if f = true then (had, 0) else (zeroT, 28)
  hok : f = true → had.ok ∧ had.small
  back : f = true → ∀ u2 er2, WS u key had u2 er2 → er2 = 0 ∧ u2.ok ∧ (u2.k = t.k ∧ u2.n = t.n ∧ u2.s = t.s) ∧ ∀ (w : World) (x y : Value), RV (fun _ => True) w t x y → RV (fun _ => True) w u2 x y
  len : ∀ (w w' : World) (x x' : Value) (a a' : Option Addr) (n n' c c' : Nat), RV (fun _ => True) w t x (.slice a n c) → RV (fun _ => True) w' u x' (.slice a' n' c') → n' = n + (if f = true then 0 else 1)
  g3 : ∀ other : ByteArray, ¬ other.toList = key.toList → getS u (fun _ => other) 1 = getS t (fun _ => other) 1
  gok : ∀ p, (getS t p 1).1.ok
theorem sg_of {n : Int} {s : ByteArray} {ln : Nat} {l : Nat → T} {dn : Nat} {ky : Nat → ByteArray} {dv : Nat → T} {key : ByteArray} {x : T} {at' : Nat} {f : Bool} (hw : wk (.mk 4 n s ln l dn ky dv) 0 = 0) (hx : wk x 1 = 0) (h : Fd ky dn key at' f)
    (hok : (T.mk 4 n s ln l dn ky dv).ok) (hsm : (T.mk 4 n s ln l dn ky dv).small) (hwt : wt (.mk 4 n s ln l dn ky dv) ≤ 2147483647) (hxo : x.ok) (hxs : x.small) (hks : key.size ≤ 140737488351232) :
    SGF (.mk 4 n s ln l dn ky dv) (withT dn ky dv key x at' f) x key f (dv at') := by
  have hd := dt_of hw rfl
  obtain ⟨⟨_, _, q1, q2, q3, _⟩, _⟩ := wk_mk hw
  obtain ⟨o1, o2, o3, o4, o5⟩ := hok
  obtain ⟨s1, s2, s3, s4⟩ := hsm
  have hn : n = 0 := by rcases q1 with e | e; · cases e
                        · exact e
  have hs : s = { data := #[] } := by rcases q2 with e | e; · cases e
                                      · exact empty_of e
  have hl : ln = 0 := by rcases q3 with e | e; · cases e
                         · exact e
  subst hn hs hl
  refine ⟨withT_ok (by have := few hwt; omega) hks o5 hxo (fun _ => h.1.1) (fun e => (key_is h e).1), with_small h (few hwt) s4 hxs, get_set hd h hx _ rfl, get_had hw h _ rfl, fun e => ⟨(o5 _ (key_is h e).1).2, s4 _ (key_is h e).1⟩, ?_, ?_, fun other ho => get_other hw h hx _ rfl ho, ?_⟩
  · intro e u2 er2 hs
    subst e
    obtain ⟨rfl, rfl⟩ := set_back hd h hx hs
    exact ⟨rfl, ⟨Nat.zero_le _, Nat.zero_le _, o3, fun i hi => absurd hi (Nat.not_lt_zero _), o5⟩, ⟨rfl, rfl, rfl⟩, fun w x y hr => ⟨⟨_, _, hr.1.choose_spec.choose_spec.1, .inl rfl⟩, hr.2⟩⟩
  · intro w w' x1 x2 a a' m m' c c' hr hr'
    obtain ⟨b1, c1, e1, _⟩ := hr.2
    obtain ⟨b2, c2, e2, _⟩ := hr'.2
    injection e1 with _ e1 _
    injection e2 with _ e2 _
    rw [e1, e2]
    unfold nn
    split <;> omega
  · intro p
    rw [one_get hw]
    unfold stepT
    dsimp only
    cases hf : findK ky (p 0) dn with
    | none => exact zeroT_ok
    | some i => exact (o5 i (findK_some hf).1).2
end Go.Proofs.YtegdlkbilgkfoaaDoor
namespace Go.Proofs.YtegdlkbilgkfoaaDoor
open Go.RowKit Go.Deep
theorem catN_sum {f : Nat → List UInt8} {g : Nat → Nat} : ∀ n, (∀ i, i < n → (f i).length ≤ 25 * g i) → (catN f n).length ≤ 25 * sumN g n
  | 0, _ => Nat.le_refl _
  | n + 1, h => by
    have h1 := catN_sum n (fun i hi => h i (by omega))
    have h2 := h n (by omega)
    show (catN f n ++ f n).length ≤ 25 * (sumN g n + g n)
    rw [List.length_append]; omega
theorem wtx_len (s : ByteArray) (h : s.size ≤ 140737488351232) : (wtx s).length ≤ 22 + s.size := by
  have hl := Lib.itoa_length_le s.size (by omega) (by omega)
  have e2 : (wtx s).length = (Lib.itoa (s.size : Int)).length + (s.size + 1) := by
    show (Lib.itoa (s.size : Int) ++ 58 :: s.data.toList).length = _
    rw [List.length_append, List.length_cons, Array.length_toList]; rfl
  omega
/-- a text is at most 25 times as long as what FarValue counts -/
theorem txt_len (t : T) : t.ok → t.rng → (txt t).length ≤ 25 * wt t := by
  induction t with
  | no => intro _ _; exact Nat.zero_le _
  | mk k n s ln l dn ky dv il id =>
    rintro ⟨ok1, ok2, ok3, ok4, ok5⟩ ⟨r1, r2, r3, r4, r5, r6⟩
    have hw : wt (.mk k n s ln l dn ky dv) = 1 + s.size + sumN (fun i => wt (l i)) ln + sumN (fun i => 1 + (ky i).size + wt (dv i)) dn := rfl
    have h1 := Lib.itoa_length_le n r1 r2
    have h2 := wtx_len s ok1
    have h3 := catN_sum (f := fun i => txt (l i)) (g := fun i => wt (l i)) ln (fun i hi => il i (ok4 i hi) (r5 i hi))
    have h4 := catN_sum (f := fun i => wtx (ky i) ++ txt (dv i)) (g := fun i => 1 + (ky i).size + wt (dv i)) dn (fun i hi => by
      have a1 := wtx_len (ky i) (ok5 i hi).1
      have a2 := id i (ok5 i hi).2 (r6 i hi)
      show (wtx (ky i) ++ txt (dv i)).length ≤ _
      rw [List.length_append]; omega)
    rw [hw]
    show (if k = 1 then 105 :: (Lib.itoa n ++ [101]) else if k = 2 then wtx s else if k = 3 then 108 :: (catN (fun i => txt (l i)) ln ++ [101]) else 100 :: (catN (fun i => wtx (ky i) ++ txt (dv i)) dn ++ [101])).length ≤ _
    split
    · simp only [List.length_cons, List.length_append, List.length_nil]; omega
    split
    · omega
    split
    · simp only [List.length_cons, List.length_append, List.length_nil]; omega
    · simp only [List.length_cons, List.length_append, List.length_nil]; omega
end Go.Proofs.YtegdlkbilgkfoaaDoor
namespace Go.Proofs.YtegdlkbilgkfoaaDoor
open Go.RowKit Go.Deep
/-- the numbers are ints -/
def T.ints : T → Prop
  | .no => True
  | .mk _ n _ ln l dn _ dv => -9223372036854775808 ≤ n ∧ n ≤ 9223372036854775807 ∧ (∀ i, i < ln → (l i).ints) ∧ (∀ i, i < dn → (dv i).ints)
theorem rng_of (t : T) : t.ints → t.small → t.rng := by
  induction t with
  | no => intro _ _; trivial
  | mk k n s ln l dn ky dv il id =>
    rintro ⟨h1, h2, h3, h4⟩ ⟨s1, s2, s3, s4⟩
    exact ⟨h1, h2, s1, s2, fun i hi => il i (h3 i hi) (s3 i hi), fun i hi => id i (h4 i hi) (s4 i hi)⟩
section
variable {H : Type} {enc : TypeId × Value → H} {w : World}
/-- the five fields of a value that is read -/
theorem open25i {fuel : Nat} {cs : List Value} {x : DataW H × List MemPlace} (h : DataW.trod enc Tryd.prog w 0 (fun _ => true) true fuel 27 cs = some x) :
    ∃ (m : Nat) (k n : Int) (s : ByteArray) (lv dv : Value) (xl xd : DataW H × List MemPlace), fuel = m + 1 ∧ cs = [.int .i64 k, .int .i64 n, .string s, lv, dv] ∧
      x.1 = .agg [.lit (.int .i64 k), .lit (.int .i64 n), .lit (.string s.data.toList), xl.1, xd.1] ∧
      DataW.trod enc Tryd.prog w 0 (fun _ => true) true m 24 [lv] = some xl ∧ DataW.trod enc Tryd.prog w 0 (fun _ => true) true m 25 [dv] = some xd ∧ -9223372036854775808 ≤ n ∧ n ≤ 9223372036854775807 := by
  obtain ⟨xs, m, rfl, rfl, hl, hx, hf⟩ := DataW.trod_struct Tryd.underlying27 h
  rw [cells25] at hl
  obtain ⟨c0, c1, c2, c3, c4, rfl⟩ := len5 hl
  obtain ⟨x0, x1, x2, x3, x4, rfl⟩ := len5 (l := xs) (by simpa using hx)
  have f0 := hf 0 _ rfl
  have f1 := hf 1 _ rfl
  have f2 := hf 2 _ rfl
  have f3 := hf 3 _ rfl
  have f4 := hf 4 _ rfl
  simp [cells3, cells9, cells22, cells23] at f0 f1 f2 f3 f4
  obtain ⟨k, e0, rfl, _⟩ := DataW.trod_int Tryd.underlying3 f0
  obtain ⟨n, e1, rfl, hfit⟩ := DataW.trod_int Tryd.underlying3 f1
  obtain ⟨s, e2, rfl, _⟩ := DataW.trod_string Tryd.underlying9 f2
  simp at e0 e1 e2
  subst e0 e1 e2
  exact ⟨m, k, n, s, c3, c4, x3, x4, rfl, rfl, rfl, f3, f4, by simpa [Lit.wf, IntKind.min, IntKind.max, IntKind.signed, IntKind.bits] using hfit⟩
theorem rv_of_trod_i : ∀ (fuel : Nat) (cs : List Value) (x : DataW H × List MemPlace), DataW.trod enc Tryd.prog w 0 (fun _ => true) true fuel 27 cs = some x →
    (∀ q ∈ DataW.weights Tryd.prog 27 x.1, q ≤ reachBytes) → ∃ t lv dv, cs = [.int .i64 t.k, .int .i64 t.n, .string t.s, lv, dv] ∧ RV (fun _ => True) w t lv dv ∧ t.ok ∧ t.ints := by
  intro fuel
  induction fuel using Nat.strongRecOn with
  | ind fuel ih =>
  intro cs x h hw
  obtain ⟨m, k, n, s, lv, dv, xl, xd, rfl, rfl, hx, hl, hd, hn0, hn1⟩ := open25i h
  rw [hx] at hw
  simp only [DataW.weights, Tryd.underlying27, DataW.weightsEach, List.map, List.mem_append, List.append_nil, List.nil_append] at hw
  have hs : s.size ≤ reachBytes := by
    have := hw s.data.toList.length (.inl (by simp))
    rwa [Array.length_toList] at this
  obtain ⟨al, ln, cl, rfl, bl, gl⟩ := openRow Tryd.underlying24 hl (fun q hq => hw q (.inr (.inl hq))) (by rw [cells25]; omega)
  obtain ⟨ad, dn, cd, rfl, bd, gd⟩ := openRow Tryd.underlying25 hd (fun q hq => hw q (.inr (.inr hq))) (by rw [cells42]; omega)
  rw [bytes25] at bl
  rw [bytes42] at bd
  rw [cells25] at gl
  rw [cells42] at gd
  have e1 : reachBytes = 140737488351232 := rfl
  have L : ∃ l : Nat → T, (∀ i, i < ln → (l i).ok ∧ (l i).ints) ∧ RL (fun _ => True) w ln l (.slice al ln cl) := by
    rcases gl with rfl | ⟨m', rfl, b, o, rfl, hb, g⟩
    · exact ⟨fun _ => .no, fun i hi => absurd hi (Nat.not_lt_zero _), _, _, rfl, .inl rfl⟩
    have : ∀ i, i < ln → ∃ p : T × Value × Value, RV (fun _ => True) w p.1 p.2.1 p.2.2 ∧ five w b (o + i * 5) p.1 p.2.1 p.2.2 ∧ p.1.ok ∧ p.1.ints := by
      intro i hi
      obtain ⟨cs, y, _, hcell, ht, hq⟩ := g i hi
      obtain ⟨t, lv, dv, rfl, h1, h2⟩ := ih m' (by omega) cs y ht hq
      exact ⟨(t, lv, dv), h1, ⟨hcell 0 (by omega), hcell 1 (by omega), hcell 2 (by omega), hcell 3 (by omega), hcell 4 (by omega)⟩, h2⟩
    have : Inhabited (T × Value × Value) := ⟨(.no, .slice none 0 0, .slice none 0 0)⟩
    obtain ⟨f, hf⟩ := choose_lt ‹∀ i, i < ln → _›
    exact ⟨fun i => (f i).1, fun i hi => (hf i hi).2.2, _, _, rfl, .inr ⟨b, o, rfl, trivial, hb, fun i hi => ⟨_, _, (hf i hi).1, (hf i hi).2.1⟩⟩⟩
  have D : ∃ (ky : Nat → ByteArray) (l : Nat → T), (∀ i, i < dn → (ky i).size ≤ 140737488351232 ∧ (l i).ok ∧ (l i).ints) ∧ RD (fun _ => True) w dn ky l (.slice ad dn cd) := by
    rcases gd with rfl | ⟨m', rfl, b, o, rfl, hb, g⟩
    · exact ⟨fun _ => ByteArray.empty, fun _ => .no, fun i hi => absurd hi (Nat.not_lt_zero _), _, _, rfl, .inl rfl⟩
    have : ∀ i, i < dn → ∃ p : ByteArray × T × Value × Value, RV (fun _ => True) w p.2.1 p.2.2.1 p.2.2.2 ∧ w.cell? ⟨b, o + i * 6, none⟩ = some (.string p.1) ∧ five w b (o + i * 6 + 1) p.2.1 p.2.2.1 p.2.2.2 ∧ p.1.size ≤ 140737488351232 ∧ p.2.1.ok ∧ p.2.1.ints := by
      intro i hi
      obtain ⟨cs, y, _, hcell, ht, hq⟩ := g i hi
      obtain ⟨m2, s, cs', xv, rfl, rfl, hy, hv⟩ := open42 ht
      rw [hy] at hq
      simp only [DataW.weights, Tryd.underlying48, DataW.weightsEach, List.map, List.mem_append, List.append_nil] at hq
      obtain ⟨t, lv, dv, rfl, h1, h2⟩ := ih m2 (by omega) cs' xv hv (fun q h => hq q (.inr h))
      refine ⟨(s, t, lv, dv), h1, hcell 0 (by omega), ⟨hcell 1 (by omega), hcell 2 (by omega), hcell 3 (by omega), hcell 4 (by omega), hcell 5 (by omega)⟩, ?_, h2⟩
      have := hq s.data.toList.length (.inl (by simp))
      rwa [Array.length_toList] at this
    have : Inhabited (ByteArray × T × Value × Value) := ⟨(ByteArray.empty, .no, .slice none 0 0, .slice none 0 0)⟩
    obtain ⟨f, hf⟩ := choose_lt ‹∀ i, i < dn → _›
    exact ⟨fun i => (f i).1, fun i => (f i).2.1, fun i hi => (hf i hi).2.2.2, _, _, rfl, .inr ⟨b, o, rfl, trivial, hb, fun i hi => ⟨_, _, (hf i hi).1, (hf i hi).2.1, (hf i hi).2.2.1⟩⟩⟩
  obtain ⟨l, hlo, hL⟩ := L
  obtain ⟨ky, dvs, hdo, hD⟩ := D
  exact ⟨.mk k n s ln l dn ky dvs, _, _, rfl, ⟨hL, hD⟩, ⟨hs, by rw [e1] at bl; omega, by rw [e1] at bd; omega, fun i hi => (hlo i hi).1, fun i hi => ⟨(hdo i hi).1, (hdo i hi).2.1⟩⟩, hn0, hn1, fun i hi => (hlo i hi).2, fun i hi => (hdo i hi).2.2⟩
end
end Go.Proofs.YtegdlkbilgkfoaaDoor
namespace Go.Proofs.YtegdlkbilgkfoaaDoor
open Go.RowKit Go.Deep
/-- in block b a value lies that reads as t -/
def VS (w : World) (b : Nat) (t : T) (x y : Value) : Prop := obj w b (.int .i64 t.k) (.int .i64 t.n) (.string t.s) x y ∧ RV (fun _ => True) w t x y
theorem VS.keep {w w' : World} {b : Nat} {t : T} {x y : Value} (h : VS w b t x y) (hb : Below w.heap.size w w') : VS w' b t x y :=
  ⟨h.1.keep (hb.block _ h.1.lt), Below.rv hb (Nat.le_refl _) h.2⟩
set_option maxRecDepth 10000 in
set_option maxHeartbeats 4000000 in
theorem back5 (t : T) (x y : Value) (w : World) (hok : t.ok) (hin : t.ints) (hev : EVw w) (hT : TB w.heap.size w) (hr : RV (fun _ => True) w t x y) :
    Calls Tryd.prog 5 #[vv t x y] w fun e w' => e = .returned (.bool true) ∧ Below w.heap.size w w' := by
  obtain ⟨⟨xa, xn, xc, rfl⟩, ⟨ya, yn, yc, rfl⟩⟩ := hr.slices
  have HO : Hid (t.ok ∧ t.ints ∧ t.full) := ⟨hok, hin, full_of_rv _ _ _ hr⟩
  have B0 : Hid (Below w.heap.size w (w.alloc (Obj.cells #[.int .i64 t.k, .int .i64 t.n, .string t.s, .slice xa xn xc, .slice ya yn yc] 27))) := (Below.refl _ _).alloc (Nat.le_refl _) _
  have HE := Lib.hid (hev.keep B0.out)
  have HT := Lib.hid (TB.on' hT B0.out)
  have V0 : Hid (VS (w.alloc (Obj.cells #[.int .i64 t.k, .int .i64 t.n, .string t.s, .slice xa xn xc, .slice ya yn yc] 27)) w.heap.size t (.slice xa xn xc) (.slice ya yn yc)) :=
    ⟨heap_new _ _, Below.rv B0.out (Nat.le_refl _) hr⟩
  clear hok hin hev hT hr
  unfold vv
  go_enter Tryd.func5, Tryd.ntmps5
  go_wp2_with fail
  generalize (w.alloc (Obj.cells #[.int .i64 t.k, .int .i64 t.n, .string t.s, .slice xa xn xc, .slice ya yn yc] 27)) = w0 at *
  generalize hvb : w.heap.size = vb at *
  have HS : Hid (w.heap.size = vb) := hvb
  clear hvb
  refine (far7 t _ _ _ HO.out.1 V0.out.2).mono ?_
  rintro e w1 ⟨r, rfl, hb1, hsm⟩
  have B1 : Hid (Below vb w w1) := B0.out.trans (hb1.mono (HS.out ▸ B0.out.size))
  have E1 := Lib.hid (HE.out.keep hb1)
  have T1 := Lib.hid (TB.on' HT.out hb1)
  have V1 := Lib.hid (VS.keep V0.out hb1)
  clear hb1 B0 HE HT V0
  cases r with
  | true =>
    clear hsm
    go_wp2
    go_ret
    exact ⟨rfl, HS.out ▸ B1.out⟩
  | false =>
  have S1 : Hid t.small := (hsm rfl).1
  have R1 : Hid t.rng := rng_of t HO.out.2.1 S1.out
  have L1 : Hid ((txt t).length ≤ 80000000000000) := by
    have h1 := txt_len t HO.out.1 R1.out
    have h2 := (hsm rfl).2
    exact Lib.hid (by omega)
  clear hsm
  go_wp2_with fail
  refine (awake14 _ E1.out T1.out).mono ?_
  rintro e w2 ⟨rfl, hb2⟩
  have B2 : Hid (Below vb w w2) := B1.out.trans (hb2.mono (HS.out ▸ B1.out.size))
  have E2 := Lib.hid (E1.out.keep hb2)
  have T2 := Lib.hid (TB.on' T1.out hb2)
  have V2 := Lib.hid (VS.keep V1.out hb2)
  clear hb2 B1 E1 T1 V1
  obtain ⟨d0, d1, d2, d3, d4⟩ := V2.out.1.cells
  go_wp2_with fail
  show Calls Tryd.prog 16 #[vv t (.slice xa xn xc) (.slice ya yn yc)] _ _
  refine (valid12 t _ _ _ HO.out.1 V2.out.2).mono ?_
  rintro e w3 ⟨rfl, hb3⟩
  have B3 : Hid (Below vb w w3) := B2.out.trans (hb3.mono (HS.out ▸ B2.out.size))
  have E3 := Lib.hid (E2.out.keep hb3)
  have T3 := Lib.hid (TB.on' T2.out hb3)
  have V3 := Lib.hid (VS.keep V2.out hb3)
  clear hb3 B2 E2 T2 V2 d0 d1 d2 d3 d4
  obtain ⟨d0, d1, d2, d3, d4⟩ := V3.out.1.cells
  go_wp2_with fail
  show Calls Tryd.prog 17 #[vv t (.slice xa xn xc) (.slice ya yn yc)] _ _
  refine (encode7 t _ _ _ HO.out.1 S1.out R1.out L1.out T3.out V3.out.2).mono ?_
  rintro e w4 ⟨v4, er4, rfl, B, l, ho, her, hl, hb4⟩
  have B4 : Hid (Below vb w w4) := B3.out.trans (hb4.mono (HS.out ▸ B3.out.size))
  have E4 := Lib.hid (E3.out.keep hb4)
  have V4 := Lib.hid (VS.keep V3.out hb4)
  have R4 := Lib.hid ho.rb
  obtain ⟨a4, c4, rfl⟩ := ho.form'
  clear ho hb4 B3 E3 T3 V3 d0 d1 d2 d3 d4
  by_cases hw : wk t 0 = 0
  · by_cases hlen : 1048576 < (txt t).length
    · rw [if_pos hw, if_pos hlen] at her
      rw [if_neg (by rintro ⟨_, h⟩; omega)] at hl
      subst her hl
      rw [hw]
      go_wp2_with fail
      refine (num15 _ _).mono ?_
      rintro e w5 ⟨rfl, rfl⟩
      go_wp2_with fail
      refine (num15 _ _).mono ?_
      rintro e w6 ⟨rfl, rfl⟩
      go_wp2_with fail
      refine (num15 _ _).mono ?_
      rintro e w7 ⟨rfl, rfl⟩
      go_wp2_with fail
      refine (num15 _ _).mono ?_
      rintro e w8 ⟨rfl, rfl⟩
      go_wp2_with fail
      refine (num15 _ _).mono ?_
      rintro e w9 ⟨rfl, rfl⟩
      go_wp2
      go_ret
      exact ⟨rfl, HS.out ▸ B4.out⟩
    · rw [if_pos hw, if_neg hlen] at her
      rw [if_pos ⟨hw, by omega⟩] at hl
      subst her hl
      rw [hw]
      have HD := Lib.hid (dout_written hw HO.out.2.2 R1.out HO.out.1 (by omega))
      go_wp2_with fail
      refine (num15 _ _).mono ?_
      rintro e w5 ⟨rfl, rfl⟩
      go_wp2_with fail
      refine (decode10 _ _ _ R4.out E4.out).mono ?_
      rintro e w6 ⟨t', x', y', k', er', rfl, hrv, hok', hout, hb6⟩
      obtain ⟨rfl, rfl, rfl⟩ := DOUT.unique hout HD.out
      obtain ⟨⟨xa', xn', xc', rfl⟩, ⟨ya', yn', yc', rfl⟩⟩ := hrv.slices
      rw [vv_nrm hw]
      have hba : Below w6.heap.size w6 (w6.alloc (Obj.cells #[.int .i64 t.k, .int .i64 t.n, .string t.s, .slice xa' xn' xc', .slice ya' yn' yc'] 27)) := (Below.refl _ _).alloc (Nat.le_refl _) _
      have hbb := hb6.trans (hba.mono hb6.size)
      have B6 : Hid (Below vb w (w6.alloc (Obj.cells #[.int .i64 t.k, .int .i64 t.n, .string t.s, .slice xa' xn' xc', .slice ya' yn' yc'] 27))) := B4.out.trans (hbb.mono (HS.out ▸ B4.out.size))
      have V6 := Lib.hid (VS.keep V4.out hbb)
      have O6 : Hid (obj (w6.alloc (Obj.cells #[.int .i64 t.k, .int .i64 t.n, .string t.s, .slice xa' xn' xc', .slice ya' yn' yc'] 27)) w6.heap.size (.int .i64 t.k) (.int .i64 t.n) (.string t.s) (.slice xa' xn' xc') (.slice ya' yn' yc')) := heap_new _ _
      have N6 := Lib.hid (Below.rv hba (Nat.le_refl _) hrv)
      clear hba hbb hrv hok' hout hb6 R4 E4 V4 B4 HD
      unfold vv
      go_wp2_with fail
      generalize (w6.alloc (Obj.cells #[.int .i64 t.k, .int .i64 t.n, .string t.s, .slice xa' xn' xc', .slice ya' yn' yc'] 27)) = w7 at *
      generalize w6.heap.size = ub at *
      obtain ⟨d0, d1, d2, d3, d4⟩ := V6.out.1.cells
      obtain ⟨f0, f1, f2, f3, f4⟩ := O6.out.cells
      refine (num15 _ _).mono ?_
      rintro e w8 ⟨rfl, rfl⟩
      have hlen' : ((txt t).length : Int) ≤ 1048576 := by omega
      go_wp2_with fail
      refine (num15 _ _).mono ?_
      rintro e w9 ⟨rfl, rfl⟩
      go_wp2_with fail
      show Calls Tryd.prog 12 #[vv t (.slice xa xn xc) (.slice ya yn yc), vv t (.slice xa' xn' xc') (.slice ya' yn' yc')] _ _
      refine (same_nrm t 0 _ _ _ _ _ hw HO.out.1 V6.out.2 N6.out).mono ?_
      rintro e wz ⟨rfl, hbz⟩
      have BZ := B6.out.trans (hbz.mono (HS.out ▸ B6.out.size))
      go_wp2
      go_ret
      exact ⟨rfl, HS.out ▸ BZ⟩
  · rw [if_neg hw] at her
    rw [if_neg (fun h => hw h.1)] at hl
    subst her hl
    have g0 : (wk t 0 == 0) = false := beq_eq_false_iff_ne.2 hw
    generalize wk t 0 = er at *
    go_wp2_with fail
    refine (num15 _ _).mono ?_
    rintro e w5 ⟨rfl, rfl⟩
    go_wp2_with fail
    refine (num15 _ _).mono ?_
    rintro e w6 ⟨rfl, rfl⟩
    go_wp2_with fail
    refine (num15 _ _).mono ?_
    rintro e w7 ⟨rfl, rfl⟩
    go_wp2
    go_ret
    exact ⟨by simp, HS.out ▸ B4.out⟩
end Go.Proofs.YtegdlkbilgkfoaaDoor
