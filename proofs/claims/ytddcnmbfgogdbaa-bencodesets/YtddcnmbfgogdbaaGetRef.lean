import Derived.Test.YtddcnmbfgogdbaaPlain
import Derived.Laws.ResultCell
import Derived.Test.YtddcnmbfgogdbaaValids
namespace Go.Proofs.Ytddcnmbfgogdbaa
open Go.RowKit Go.Deep
theorem results_cell2 {fn : Func} {p u : Tmp} (h : fn.results = #[.cell p 25, .tmp u]) (tmps : Array Value) (w : World) (g : Nat) (cs : Array Value)
    (hp : tmps.getD p undef = .pointer (some ⟨g, 0, none⟩)) (hg : w.heap[g]? = some (.cells cs 25 (0, 0))) (hc : cs.size = 5) :
    (results fn tmps).run Try.prog w = .ok (.tuple #[.agg cs, tmps.getD u undef]) w := by
  rw [results_cell_tmp h, hp]
  have h1 : (asAddr (.pointer (some ⟨g, 0, none⟩))).run Try.prog w = .ok ⟨g, 0, none⟩ w := rfl
  rw [h1]
  simp only [Result.andThen]
  rw [run_loadVar_row w g 25 25 cs (0, 0) _ hg Try.underlying25 rfl (by rw [info25s, hc])]
/-- the first place with this key -/
def findK (ky : Nat → ByteArray) (key : ByteArray) : Nat → Option Nat
  | 0 => none
  | n + 1 => match findK ky key n with
    | some i => some i
    | none => if (ky n).toList = key.toList then some n else none
theorem findK_some {ky : Nat → ByteArray} {key : ByteArray} : ∀ {n i : Nat}, findK ky key n = some i → i < n ∧ (ky i).toList = key.toList := by
  intro n
  induction n with
  | zero => intro i h; cases h
  | succ n ih =>
    intro i h
    unfold findK at h
    cases hf : findK ky key n with
    | some q =>
      rw [hf] at h
      have e : q = i := by simpa using h
      subst e
      obtain ⟨h1, h2⟩ := ih hf
      exact ⟨by omega, h2⟩
    | none =>
      rw [hf] at h
      by_cases hk : (ky n).toList = key.toList
      · simp only [hk, if_true] at h
        have e : n = i := by simpa using h
        subst e
        exact ⟨by omega, hk⟩
      · simp only [hk, if_false] at h
        cases h
theorem findK_none {ky : Nat → ByteArray} {key : ByteArray} : ∀ {n : Nat}, (∀ i, i < n → ¬ (ky i).toList = key.toList) → findK ky key n = none := by
  intro n
  induction n with
  | zero => intro _; rfl
  | succ n ih =>
    intro h
    unfold findK
    rw [ih (fun i hi => h i (by omega))]
    simp only [h n (by omega), if_false]
theorem findK_stop {ky : Nat → ByteArray} {key : ByteArray} {i : Nat} : ∀ {n : Nat}, i < n → (∀ q, q < i → ¬ (ky q).toList = key.toList) → (ky i).toList = key.toList → findK ky key n = some i := by
  intro n
  induction n with
  | zero => intro h; omega
  | succ n ih =>
    intro h h1 h2
    unfold findK
    by_cases e : i = n
    · subst e
      rw [findK_none h1]
      simp only [h2, if_true]
    · rw [ih (by omega) h1 h2]
def stepT : T → ByteArray → Option T
  | .no, _ => none
  | .mk _ _ _ _ _ dn ky dv, key => (findK ky key dn).map dv
def walkP (t : T) (p : Nat → ByteArray) : Nat → Option T
  | 0 => some t
  | j + 1 => (walkP t p j).bind fun u => stepT u (p j)
theorem walkP_none {t : T} {p : Nat → ByteArray} {j n : Nat} (h : walkP t p j = none) (hj : j ≤ n) : walkP t p n = none := by
  induction n with
  | zero => have : j = 0 := by omega
            subst this; exact h
  | succ n ih =>
    by_cases e : j = n + 1
    · subst e; exact h
    · unfold walkP; rw [ih (by omega)]; rfl
def zeroT : T := .mk 0 0 { data := #[] } 0 (fun _ => .no) 0 (fun _ => ByteArray.empty) (fun _ => .no)
theorem zeroT_ok : zeroT.ok := ⟨Nat.zero_le _, Nat.zero_le _, Nat.zero_le _, fun _ hi => absurd hi (Nat.not_lt_zero _), fun _ hi => absurd hi (Nat.not_lt_zero _)⟩
/-- what Get answers -/
def getS (t : T) (p : Nat → ByteArray) (np : Nat) : T × Int :=
  if wk t 0 ≠ 0 then (zeroT, wk t 0) else match walkP t p np with | none => (zeroT, 28) | some u => (u, 0)
/-- a list of strings -/
def RP (w : World) (p : Nat → ByteArray) (np : Nat) (v : Value) : Prop :=
  ∃ a ca, v = .slice a np ca ∧ (np = 0 ∨ ∃ b o, a = some ⟨b, o, none⟩ ∧ b < w.heap.size ∧ ∀ i, i < np → w.cell? ⟨b, o + i, none⟩ = some (.string (p i)))
theorem RP.keep {w w' : World} {p : Nat → ByteArray} {np : Nat} {v : Value} (h : RP w p np v) (hb : Below w.heap.size w w') : RP w' p np v := by
  obtain ⟨a, ca, rfl, h⟩ := h
  refine ⟨a, ca, rfl, ?_⟩
  rcases h with h | ⟨b, o, rfl, hlt, h⟩
  · exact .inl h
  · exact .inr ⟨b, o, rfl, Nat.lt_of_lt_of_le hlt hb.size, fun i hi => (World.cell?_of_block (w := w) (hb.block b hlt)).trans (h i hi)⟩
set_option maxHeartbeats 1000000 in
theorem place29 (dn : Nat) (ky : Nat → ByteArray) (dv : Nat → T) (y : Value) (key : ByteArray) (w : World) (hr : RD (fun _ => True) w dn ky dv y) (hdn : dn ≤ 140737488351232) :
    Calls Try.prog 29 #[y, .string key] w fun e w' => e = .returned (.int .i64 (match findK ky key dn with | some i => (i : Int) | none => -1)) ∧ w' = w := by
  obtain ⟨a, ca, rfl, hD⟩ := hr
  have HD : Hid (dn = 0 ∨ ∃ b o, a = some ⟨b, o, none⟩ ∧ True ∧ b < w.heap.size ∧ ∀ i, i < dn → ∃ x' y', RV (fun _ => True) w (dv i) x' y' ∧ w.cell? ⟨b, o + i * 6, none⟩ = some (.string (ky i)) ∧ five w b (o + i * 6 + 1) (dv i) x' y') := hD
  clear hD
  generalize hR : (match findK ky key dn with | some i => (i : Int) | none => -1) = R
  have HR : Hid ((match findK ky key dn with | some i => (i : Int) | none => -1) = R) := hR
  clear hR
  go_enter Try.func29, Try.ntmps29
  go_wp2
  go_loopw [5] (fun i wr => ∃ j : Nat, j ≤ dn ∧ i = .int .i64 j ∧ wr = w ∧ Hid (∀ q, q < j → ¬ (ky q).toList = key.toList)) (fun i _ => dn - (intOf i).toNat)
  case atStart => exact ⟨0, Nat.zero_le _, rfl, rfl, fun q hq => absurd hq (Nat.not_lt_zero _)⟩
  case round =>
    obtain ⟨j, hj, rfl, rfl, hz⟩ := hrel
    by_cases hlt : j < dn
    · rcases HD.out with h | ⟨b, o, rfl, _, hbl, hD⟩
      · omega
      obtain ⟨x1, y1, _, g0, _⟩ := hD j hlt
      clear hD hbl
      by_cases hk : (ky j).toList = key.toList
      · have hR : R = (j : Int) := by rw [← HR.out, findK_stop hlt hz.out hk]
        have hk' : ((ky j).toList == key.toList) = true := by simpa using hk
        clear HR hk
        subst hR
        go_wp2
        go_ret
        exact ⟨rfl, rfl⟩
      · have hk' : ((ky j).toList == key.toList) = false := by simpa using hk
        have HK : Hid (¬ (ky j).toList = key.toList) := hk
        clear hk
        go_wp2
        go_roundw
        case rel =>
          refine ⟨j + 1, by omega, by go_num, trivial, fun q hq => ?_⟩
          rcases Nat.lt_succ_iff_lt_or_eq.1 hq with h | rfl
          · exact hz.out q h
          · exact HK.out
        case measure => simp [intOf]; omega
    · obtain rfl : j = dn := by omega
      have hR : R = -1 := by rw [← HR.out, findK_none hz.out]
      clear HR
      subst hR
      go_wp2
      go_ret
      exact ⟨rfl, rfl⟩
/-- at a round's head of Get -/
def GInv (H : Nat) (w wr : World) (u : T) (x y : Value) : Prop :=
  Below H w wr ∧ obj wr H (.int .i64 u.k) (.int .i64 u.n) (.string u.s) x y ∧ obj wr (H + 1) (.int .i64 0) (.int .i64 0) (.string { data := #[] }) (.slice .none 0 0) (.slice .none 0 0) ∧ RV (fun b => b < H) wr u x y ∧ u.ok ∧ VT u
theorem GInv.step {H : Nat} {w wr wE : World} {u : T} {x y X Y : Value} {u' : T} (h : GInv H w wr u x y) (hE : wE = set5 wr H 0 (.int .i64 u'.k) (.int .i64 u'.n) (.string u'.s) X Y) (hr : RV (fun b => b < H) wr u' X Y) (hok : u'.ok) (hvt : VT u') : GInv H w wE u' X Y := by
  subst hE
  obtain ⟨h1, h2, h3, _⟩ := h
  have hb : ∀ b, b ≠ H → (set5 wr H 0 (.int .i64 u'.k) (.int .i64 u'.n) (.string u'.s) X Y).heap[b]? = wr.heap[b]? := fun b hb => set5_block _ _ _ _ _ _ _ _ _ hb
  refine ⟨set5_below h1 (Nat.le_refl _) _ _ _ _ _ _, ?_, h3.keep (hb _ (by omega)), RV.move (fun b hb _ => hb) (by rw [set5_size]; exact Nat.le_refl _) (fun b hbb _ => hb b (by omega)) _ _ _ hr, hok, hvt⟩
  exact ((((h2.set0 _).set1 _).set2 _).set3 _).set4 _
theorem ok_of {k n : Int} {s : ByteArray} {ln dn : Nat} {l dv : Nat → T} {ky : Nat → ByteArray} (h : (T.mk k n s ln l dn ky dv).ok) {i : Nat} (hi : i < dn) : (dv i).ok := (h.2.2.2.2 i hi).2
set_option maxHeartbeats 4000000 in
theorem get17 (t : T) (x y pv : Value) (p : Nat → ByteArray) (np : Nat) (w : World) (hok : t.ok) (hr : RV (fun _ => True) w t x y) (hp : RP w p np pv) (hnp : np ≤ 140737488351232) :
    Calls Try.prog 17 #[vv t x y, pv] w fun e w' => ∃ x' y', e = .returned (.tuple #[vv (getS t p np).1 x' y', .int .i64 (getS t p np).2]) ∧ RV (fun _ => True) w' (getS t p np).1 x' y' ∧ Below w.heap.size w w' ∧ (getS t p np).1.ok := by
  obtain ⟨⟨xa, xn, xc, rfl⟩, ⟨ya, yn, yc, rfl⟩⟩ := hr.slices
  obtain ⟨a, ca, rfl, hp⟩ := hp
  have HP : Hid (np = 0 ∨ ∃ b o, a = some ⟨b, o, none⟩ ∧ b < w.heap.size ∧ ∀ i, i < np → w.cell? ⟨b, o + i, none⟩ = some (.string (p i))) := hp
  have HR : Hid (RV (fun _ => True) w t (.slice xa xn xc) (.slice ya yn yc)) := hr
  have HO : Hid t.ok := hok
  have HB : Hid (Below w.heap.size w ((w.alloc (Obj.cells #[.int .i64 t.k, .int .i64 t.n, .string t.s, .slice xa xn xc, .slice ya yn yc] 25)).alloc (Obj.cells #[.int .i64 0, .int .i64 0, .string { data := #[] }, .slice .none 0 0, .slice .none 0 0] 25))) := ((Below.refl _ _).alloc (Nat.le_refl _) _).alloc (by simp) _
  clear hp hr hok
  have HG : Hid (getS t p np = if wk t 0 ≠ 0 then (zeroT, wk t 0) else match walkP t p np with | none => (zeroT, 28) | some u => (u, 0)) := rfl
  generalize getS t p np = G at *
  unfold vv
  go_enter Try.func17, Try.ntmps17
  go_wp2_with fail
  have o1 : obj ((w.alloc (Obj.cells #[.int .i64 t.k, .int .i64 t.n, .string t.s, .slice xa xn xc, .slice ya yn yc] 25)).alloc (Obj.cells #[.int .i64 0, .int .i64 0, .string { data := #[] }, .slice .none 0 0, .slice .none 0 0] 25)) w.heap.size (.int .i64 t.k) (.int .i64 t.n) (.string t.s) (.slice xa xn xc) (.slice ya yn yc) := (Below.heap_alloc _ _ _ (by simp)).trans (heap_new _ _)
  have o2 : obj ((w.alloc (Obj.cells #[.int .i64 t.k, .int .i64 t.n, .string t.s, .slice xa xn xc, .slice ya yn yc] 25)).alloc (Obj.cells #[.int .i64 0, .int .i64 0, .string { data := #[] }, .slice .none 0 0, .slice .none 0 0] 25)) (w.heap.size + 1) (.int .i64 0) (.int .i64 0) (.string { data := #[] }) (.slice .none 0 0) (.slice .none 0 0) := by
    have := heap_new (w.alloc (Obj.cells #[.int .i64 t.k, .int .i64 t.n, .string t.s, .slice xa xn xc, .slice ya yn yc] 25)) (Obj.cells #[.int .i64 0, .int .i64 0, .string { data := #[] }, .slice .none 0 0, .slice .none 0 0] 25)
    simpa [obj] using this
  refine (valid13 t _ _ _ HO.out (Below.rv HB.out (Nat.le_refl _) HR.out)).mono ?_
  rintro e w1 ⟨rfl, hb1⟩
  have B1 : Hid (Below w.heap.size w w1) := HB.out.trans (hb1.mono (by simp; omega))
  replace o1 := o1.keep (hb1.block _ o1.lt)
  replace o2 := o2.keep (hb1.block _ o2.lt)
  clear hb1 HB
  have HV : Hid (RV (fun b => b < w.heap.size) w1 t (.slice xa xn xc) (.slice ya yn yc)) := RV.lift B1.out.size (fun b hb => B1.out.block b hb) (fun _ h => h) _ _ _ HR.out
  generalize hvb : w.heap.size = H at *
  have HS : Hid (w.heap.size = H) := hvb
  clear hvb HR
  have hVT : Hid (wk t 0 = 0 → VT t) := fun h => vt_of_wk t 0 h
  generalize wk t 0 = q at *
  obtain ⟨c0, c1, c2, c3, c4⟩ := o2.cells
  have z0 := o2.frozen 0
  have z1 := o2.frozen 1
  have z2 := o2.frozen 2
  have z3 := o2.frozen 3
  have z4 := o2.frozen 4
  by_cases hq : q = 0
  case neg =>
    have hG : G = (zeroT, q) := HG.out.trans (if_pos hq)
    subst hG
    have O2 : Hid (obj w1 (H + 1) (.int .i64 0) (.int .i64 0) (.string { data := #[] }) (.slice .none 0 0) (.slice .none 0 0)) := o2
    have hq' : (q != 0) = true := by simpa using hq
    clear HG hVT o1 o2 hq
    go_wp2
    refine bodyPost_ret (v := .tuple #[.agg #[.int .i64 0, .int .i64 0, .string { data := #[] }, .slice .none 0 0, .slice .none 0 0], .int .i64 q]) (results_cell2 Try.results17 _ _ (H + 1) _ rfl (((((O2.out.set0 _).set1 _).set2 _).set3 _).set4 _) rfl) rfl ⟨_, _, rfl, ⟨⟨_, _, rfl, .inl rfl⟩, ⟨_, _, rfl, .inl rfl⟩⟩, ?_, ?_⟩
    · have hbs := besides5 w1 (H + 1) (.int .i64 0) (.int .i64 0) (.string { data := #[] }) (.slice .none 0 0) (.slice .none 0 0)
      have h0 := B1.out
      rw [HS.out]
      exact ⟨hbs.os.trans h0.os, hbs.tape.trans h0.tape, hbs.output.trans h0.output, Nat.le_trans h0.size hbs.size, fun r hr => (hbs.block r (by have := h0.size; have := HS.out; omega) (by omega)).trans (h0.block r hr)⟩
    · exact zeroT_ok
  case pos =>
    have HGI : Hid (GInv H w w1 t (.slice xa xn xc) (.slice ya yn yc)) := ⟨B1.out, o1, o2, HV.out, HO.out, hVT.out hq⟩
    have HG2 : Hid (G = match walkP t p np with | none => (zeroT, 28) | some u => (u, 0)) := HG.out.trans (if_neg (by simp [hq]))
    clear HG hVT o1 o2 HV HO c0 c1 c2 c3 c4 z0 z1 z2 z3 z4
    subst hq
    go_wp2
    go_loopw [7] (fun i wr => ∃ (j : Nat) (u : T) (xx yy : Value), j ≤ np ∧ i = .int .i64 j ∧ Hid (walkP t p j = some u) ∧ Hid (GInv H w wr u xx yy)) (fun i _ => np - (intOf i).toNat)
    case atStart => exact ⟨0, t, _, _, Nat.zero_le _, rfl, rfl, HGI⟩
    case round =>
      clear HGI B1
      obtain ⟨j, u, xx, yy, hj, rfl, hwk, hinv⟩ := hrel
      obtain ⟨⟨xa1, xn1, xc1, rfl⟩, ⟨ya1, yn1, yc1, rfl⟩⟩ := hinv.out.2.2.2.1.slices
      by_cases hlt : j < np
      · rcases HP.out with h | ⟨b, o, rfl, hbl, hP⟩
        · omega
        have hpk := Below.cellS hinv.out.1 (Nat.le_of_eq HS.out) (hP j hlt)
        have j0 : (0 : Int) ≤ (j : Int) := by omega
        have j1 : (j : Int) < (np : Int) := by omega
        obtain ⟨_, _, _, _, e4⟩ := hinv.out.2.1.cells
        cases u with
        | no => exact (hinv.out.2.2.2.1).elim
        | mk uk un us uln ul udn uky udv =>
        obtain ⟨hRL, hRD⟩ := hinv.out.2.2.2.1
        have hudn : udn ≤ 140737488351232 := hinv.out.2.2.2.2.1.2.2.1
        have HC : Hid (∀ w', w'.heap = wr.heap → Calls Try.prog 29 #[.slice ya1 yn1 yc1, .string (p j)] w' fun e w'' => e = .returned (.int .i64 (match findK uky (p j) udn with | some i => (i : Int) | none => -1)) ∧ w'' = w') := by
          intro w' hh
          exact place29 udn uky udv _ (p j) w' (RD.keep (fun _ _ => trivial) (by rw [hh]; exact Nat.le_refl _) (fun b _ _ => by rw [hh]) hRD) hudn
        have hpkd : wr.drew.cell? ⟨b, o + j, none⟩ = some (.string (p j)) := hpk
        have e4d : wr.drew.cell? ⟨H, 4, none⟩ = some (.slice ya1 yn1 yc1) := e4
        clear hP hbl
        cases hf : findK uky (p j) udn with
        | none =>
          have hn1 : walkP t p (j + 1) = none := by
            show (walkP t p j).bind _ = none
            rw [hwk.out]
            show (findK uky (p j) udn).map udv = none
            rw [hf]; rfl
          have hG : G = (zeroT, 28) := by rw [HG2.out, walkP_none hn1 (by omega)]
          subst hG
          clear HG2 hn1
          have HC2 : Hid (∀ w', w'.heap = wr.heap → Calls Try.prog 29 #[.slice ya1 yn1 yc1, .string (p j)] w' fun e w'' => e = .returned (.int .i64 (-1)) ∧ w'' = w') := fun w' hh => by
            have := HC.out w' hh
            rw [hf] at this
            exact this
          have O2 : Hid (obj wr (H + 1) (.int .i64 0) (.int .i64 0) (.string { data := #[] }) (.slice .none 0 0) (.slice .none 0 0)) := hinv.out.2.2.1
          have BB : Hid (Below H w wr) := hinv.out.1
          obtain ⟨c0, c1, c2, c3, c4⟩ := O2.out.cells
          have z0 := O2.out.frozen 0
          have z1 := O2.out.frozen 1
          have z2 := O2.out.frozen 2
          have z3 := O2.out.frozen 3
          have z4 := O2.out.frozen 4
          clear HC hf hinv hRL hRD
          go_wp2
          go_region_held3 (fun w' => w'.cell? ⟨H, 4, none⟩ = some (.slice ya1 yn1 yc1) ∧ w'.cell? ⟨b, o + j, none⟩ = some (.string (p j))) (first | (with_reducible exact ⟨e4, hpk⟩) | (with_reducible exact ⟨e4d, hpkd⟩)) (first | (go_at_call 29; refine (HC2.out wr.drew rfl).mono ?_; rintro e wq ⟨rfl, rfl⟩))
          go_wp2
          refine bodyPost_ret (v := .tuple #[.agg #[.int .i64 0, .int .i64 0, .string { data := #[] }, .slice .none 0 0, .slice .none 0 0], .int .i64 28]) (results_cell2 Try.results17 _ _ (H + 1) _ rfl (((((O2.out.set0 _).set1 _).set2 _).set3 _).set4 _) rfl) rfl ⟨_, _, rfl, ⟨⟨_, _, rfl, .inl rfl⟩, ⟨_, _, rfl, .inl rfl⟩⟩, ?_, ?_⟩
          · have hbs := besides5 wr (H + 1) (.int .i64 0) (.int .i64 0) (.string { data := #[] }) (.slice .none 0 0) (.slice .none 0 0)
            have h0 := BB.out
            rw [HS.out]
            exact ⟨hbs.os.trans h0.os, hbs.tape.trans h0.tape, hbs.output.trans h0.output, Nat.le_trans h0.size hbs.size, fun r hr => (hbs.block r (by have := h0.size; have := HS.out; omega) (by omega)).trans (h0.block r hr)⟩
          · exact zeroT_ok
        | some i1 =>
          obtain ⟨hi1, _⟩ := findK_some hf
          have hn1 : Hid (walkP t p (j + 1) = some (udv i1)) := by
            show (walkP t p j).bind _ = _
            rw [hwk.out]
            show (findK uky (p j) udn).map udv = _
            rw [hf]; rfl
          have HC2 : Hid (∀ w', w'.heap = wr.heap → Calls Try.prog 29 #[.slice ya1 yn1 yc1, .string (p j)] w' fun e w'' => e = .returned (.int .i64 (i1 : Int)) ∧ w'' = w') := fun w' hh => by
            have := HC.out w' hh
            rw [hf] at this
            exact this
          obtain ⟨a1, ca1, ha1, hD1⟩ := hRD
          cases ha1
          rcases hD1 with h | ⟨b1, o1, rfl, hS1, hbl1, hD1⟩
          · omega
          obtain ⟨X, Y, hv, g0, g1, g2, g3, g4, g5⟩ := hD1 i1 hi1
          obtain ⟨⟨xa2, xn2, xc2, rfl⟩, ⟨ya2, yn2, yc2, rfl⟩⟩ := hv.slices
          obtain ⟨c0, c1, c2, c3, c4⟩ := hinv.out.2.1.cells
          have z0 := hinv.out.2.1.frozen 0
          have z1 := hinv.out.2.1.frozen 1
          have z2 := hinv.out.2.1.frozen 2
          have z3 := hinv.out.2.1.frozen 3
          have z4 := hinv.out.2.1.frozen 4
          have HN : Hid (GInv H w (set5 wr.drew H 0 (.int .i64 (udv i1).k) (.int .i64 (udv i1).n) (.string (udv i1).s) (.slice xa2 xn2 xc2) (.slice ya2 yn2 yc2)) (udv i1) (.slice xa2 xn2 xc2) (.slice ya2 yn2 yc2)) := by
            have hI : GInv H w wr.drew (.mk uk un us uln ul yn1 uky udv) (.slice xa1 xn1 xc1) (.slice (some ⟨b1, o1, none⟩) yn1 yc1) := ⟨hinv.out.1.drew, hinv.out.2.1, hinv.out.2.2.1, RV.move (w := wr) (w' := wr.drew) (fun _ h _ => h) (Nat.le_refl _) (fun _ _ _ => rfl) _ _ _ hinv.out.2.2.2.1, hinv.out.2.2.2.2⟩
            exact hI.step rfl (RV.move (w := wr) (w' := wr.drew) (fun _ h _ => h) (Nat.le_refl _) (fun _ _ _ => rfl) _ _ _ hv) (ok_of hinv.out.2.2.2.2.1 hi1) (hinv.out.2.2.2.2.2.2.2 i1 hi1).2
          have hneg : ¬ ((i1 : Int) < 0) := by omega
          have i0 : (0 : Int) ≤ (i1 : Int) := by omega
          have i2 : (i1 : Int) < (yn1 : Int) := by omega
          clear HC hf hinv hRL hD1 hv hbl1
          go_wp2
          go_region_held3 (fun w' => w'.cell? ⟨H, 4, none⟩ = some (.slice (some ⟨b1, o1, none⟩) yn1 yc1) ∧ w'.cell? ⟨b, o + j, none⟩ = some (.string (p j))) (first | (with_reducible exact ⟨e4, hpk⟩) | (with_reducible exact ⟨e4d, hpkd⟩)) (first | (go_at_call 29; refine (HC2.out wr.drew rfl).mono ?_; rintro e wq ⟨rfl, rfl⟩))
          go_wp2
          go_roundw
          case rel => exact ⟨j + 1, udv i1, _, _, by omega, by go_num, hn1, HN⟩
          case measure => simp [intOf]; omega
      · obtain rfl : j = np := by omega
        have hG : G = (u, 0) := by rw [HG2.out, hwk.out]
        subst hG
        clear HG2
        obtain ⟨e0, e1, e2, e3, e4⟩ := hinv.out.2.1.cells
        obtain ⟨c0, c1, c2, c3, c4⟩ := hinv.out.2.2.1.cells
        have z0 := hinv.out.2.2.1.frozen 0
        have z1 := hinv.out.2.2.1.frozen 1
        have z2 := hinv.out.2.2.1.frozen 2
        have z3 := hinv.out.2.2.1.frozen 3
        have z4 := hinv.out.2.2.1.frozen 4
        go_wp2
        have hbs := besides5 wr (H + 1) (.int .i64 u.k) (.int .i64 u.n) (.string u.s) (.slice xa1 xn1 xc1) (.slice ya1 yn1 yc1)
        refine bodyPost_ret (v := .tuple #[.agg #[.int .i64 u.k, .int .i64 u.n, .string u.s, .slice xa1 xn1 xc1, .slice ya1 yn1 yc1], .int .i64 0]) (results_cell2 Try.results17 _ _ (H + 1) _ rfl (((((hinv.out.2.2.1.set0 _).set1 _).set2 _).set3 _).set4 _) rfl) rfl ⟨_, _, rfl, ?_, ?_, hinv.out.2.2.2.2.1⟩
        · exact RV.move (fun _ _ _ => trivial) hbs.size (fun r hr hl => hbs.block r hl (by omega)) _ _ _ hinv.out.2.2.2.1
        · have h0 := hinv.out.1
          rw [HS.out]
          exact ⟨hbs.os.trans h0.os, hbs.tape.trans h0.tape, hbs.output.trans h0.output, Nat.le_trans h0.size hbs.size, fun r hr => (hbs.block r (by have := h0.size; have := HS.out; omega) (by omega)).trans (h0.block r hr)⟩
end Go.Proofs.Ytddcnmbfgogdbaa
