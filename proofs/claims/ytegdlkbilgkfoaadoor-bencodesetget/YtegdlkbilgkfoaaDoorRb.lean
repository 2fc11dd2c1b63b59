import Derived.Test.YtegdlkbilgkfoaaDoorCo
namespace Go.Proofs.YtegdlkbilgkfoaaDoor
open Go.RowKit Go.Deep
/-! ### A text is read as the value that it was written of -/
theorem dec_all (m : Nat) : allDig (Lib.decDigits m) ∧ Lib.decDigits m ≠ [] ∧ dval 0 (Lib.decDigits m) = m ∧ unp (Lib.decDigits m) ∧ (1 ≤ m → byt (Lib.decDigits m) 0 ≠ 48) := by
  induction m using Nat.strongRecOn with
  | _ m ih =>
    have tn : ∀ k, k < 10 → (UInt8.ofNat (48 + k)).toNat = 48 + k := fun k hk => by rw [UInt8.toNat_ofNat', Nat.mod_eq_of_lt (by omega)]
    by_cases h : m < 10
    · rw [Lib.decDigits_one h]
      refine ⟨fun c hc => ?_, by simp, ?_, .inl rfl, fun h1 e => ?_⟩
      · rw [List.mem_singleton.1 hc, tn m h]; omega
      · rw [dval_cons, dval_nil, tn m h]; omega
      · have e' : (UInt8.ofNat (48 + m)).toNat = 48 := congrArg UInt8.toNat e
        rw [tn m h] at e'; omega
    · obtain ⟨h1, h2, h3, h4, h5⟩ := ih (m / 10) (by omega)
      rw [Lib.decDigits, dif_neg h]
      have hp := h5 (by omega)
      have hl := List.length_pos_iff.2 h2
      refine ⟨fun c hc => ?_, by simp, ?_, .inr ?_, fun _ => ?_⟩
      · rcases List.mem_append.1 hc with hc | hc
        · exact h1 c hc
        · rw [List.mem_singleton.1 hc, tn _ (by omega)]; omega
      · rw [dval_snoc, h3, tn _ (by omega)]; omega
      · rw [byt_app hl]; exact hp
      · rw [byt_app hl]; exact hp
theorem unp_padd {d : List UInt8} (h : unp d) : ¬ padd d = true := by
  unfold padd
  rcases h with h | h
  · simp [h]
  · simp [h]
theorem drop_cons {b : List UInt8} {i : Nat} {c : UInt8} {r : List UInt8} (h : b.drop i = c :: r) : byt b i = c ∧ i < b.length ∧ b.drop (i + 1) = r := by
  have hi : i < b.length := by
    rcases Nat.lt_or_ge i b.length with g | g
    · exact g
    · rw [List.drop_eq_nil_of_le g] at h; cases h
  rw [List.drop_eq_getElem_cons hi] at h
  injection h with h1 h2
  refine ⟨?_, hi, h2⟩
  unfold byt; simp [List.getD, List.getElem?_eq_getElem hi, h1]
theorem drop_app {b x y : List UInt8} {i : Nat} (h : b.drop i = x ++ y) : b.drop (i + x.length) = y := by
  rw [← List.drop_drop, h, List.drop_left]
theorem digs_rd {b d r : List UInt8} {en : UInt8} {i : Nat} (h : b.drop i = d ++ en :: r) (ha : allDig d) (hn : d ≠ []) (he : dig en = false) : digs b en i = .ok d (i + d.length + 1) := by
  have hr : run b i = d.length := by
    unfold run
    rw [h, List.takeWhile_append_of_pos (fun c hc => (dig_iff c).2 (ha c hc)), List.takeWhile_cons_of_neg (by simp [he]), List.append_nil]
  have h2 := drop_cons (drop_app h)
  have hc : cut b i (i + d.length) = d := by
    unfold cut; rw [h, Nat.add_sub_cancel_left, List.take_left]
  unfold digs
  rw [hr, if_neg (by omega), if_neg (by
    rintro (e | e)
    · exact hn (List.length_eq_zero_iff.1 e)
    · exact e h2.1), hc]
theorem head_dig {b d r : List UInt8} {i : Nat} (h : b.drop i = d ++ r) (ha : allDig d) (hn : d ≠ []) : dig (byt b i) = true ∧ i < b.length := by
  match d, hn with
  | c :: d', _ =>
    have := drop_cons h
    rw [this.1]
    exact ⟨(dig_iff c).2 (ha c (by simp)), this.2.1⟩
theorem strg_rd {b r : List UInt8} {s : ByteArray} {i : Nat} (hs : s.size ≤ 140737488351232) (h : b.drop i = wtx s ++ r) : strg b i = .ok s (i + (wtx s).length) ∧ dig (byt b i) = true ∧ i < b.length := by
  unfold wtx at h ⊢
  rw [Lib.itoa_nonneg] at h ⊢
  obtain ⟨h1, h2, h3, h4, _⟩ := dec_all s.size
  generalize Lib.decDigits s.size = d at *
  rw [List.append_assoc, List.cons_append] at h
  have hd := digs_rd (en := 58) h h1 h2 (by decide)
  have hh := head_dig h h1 h2
  have hr := (drop_cons (drop_app h)).2.2
  have hlt := (drop_cons (drop_app h)).2.1
  have hlen : s.data.toList.length = s.size := by rw [Array.length_toList]; rfl
  have hbl := congrArg List.length hr
  rw [List.length_drop, List.length_append, hlen] at hbl
  refine ⟨?_, hh⟩
  unfold strg
  rw [hd]
  dsimp only
  rw [if_neg (unp_padd h4), (atoi_pos h1 h2).1 (by omega), h3]
  dsimp only
  rw [if_neg (by omega)]
  have hc : cut b (i + d.length + 1) (i + d.length + 1 + ((s.size : Nat) : Int).toNat) = s.data.toList := by
    unfold cut
    rw [hr, Nat.add_sub_cancel_left, Int.toNat_natCast, ← hlen, List.take_left]
  rw [hc]
  congr 1
  rw [List.length_append, List.length_cons, hlen, Int.toNat_natCast]; omega
theorem numb_rd {b r : List UInt8} {n : Int} {i : Nat} (h0 : -9223372036854775808 ≤ n) (h1 : n ≤ 9223372036854775807) (h : b.drop i = 105 :: (Lib.itoa n ++ [101]) ++ r) :
    numb b i = .ok n (i + (Lib.itoa n).length + 2) ∧ byt b i = 105 ∧ i < b.length := by
  rw [List.cons_append] at h
  obtain ⟨e1, e2, e3⟩ := drop_cons h
  refine ⟨?_, e1, e2⟩
  rw [List.append_assoc] at e3
  by_cases hn : 0 ≤ n
  · obtain ⟨u, rfl⟩ : ∃ u : Nat, n = u := ⟨n.toNat, by omega⟩
    rw [Lib.itoa_nonneg] at e3 ⊢
    obtain ⟨g1, g2, g3, g4, _⟩ := dec_all u
    generalize Lib.decDigits u = d at *
    have hh := head_dig e3 g1 g2
    have h45 : ¬ byt b (i + 1) = 45 := fun e => by rw [e] at hh; exact absurd hh.1 (by decide)
    rw [numb_sg hh.2, if_neg h45]
    have hd := digs_rd (en := 101) e3 g1 g2 (by decide)
    rw [show i + 1 + ([] : List UInt8).length = i + 1 from rfl, hd]
    dsimp only
    rw [List.nil_append, (atoi_pos g1 g2).1 (by omega), g3]
    dsimp only
    rw [if_neg (by
      rintro (e | e)
      · exact unp_padd g4 e
      · have := g1 45 (by rw [e]; simp)
        exact absurd this.1 (by decide))]
    congr 1
    omega
  · obtain ⟨u, hu, rfl⟩ : ∃ u : Nat, 1 ≤ u ∧ n = -(u : Int) := ⟨(-n).toNat, by omega, by omega⟩
    rw [Lib.itoa_neg u hu] at e3 ⊢
    obtain ⟨g1, g2, g3, g4, g5⟩ := dec_all u
    generalize Lib.decDigits u = d at *
    rw [List.cons_append] at e3
    obtain ⟨f1, f2, f3⟩ := drop_cons e3
    rw [numb_sg f2, if_pos f1]
    have hd := digs_rd (en := 101) f3 g1 g2 (by decide)
    rw [show i + 1 + ([45] : List UInt8).length = i + 1 + 1 from rfl, hd]
    dsimp only
    rw [List.singleton_append, (atoi_neg g1 g2).1 (by omega), g3]
    dsimp only
    rw [if_neg (by
      rintro (e | e)
      · exact unp_padd g4 e
      · injection e with _ e
        rw [e] at g3
        have : dval 0 [48] = 0 := rfl
        omega)]
    rw [List.length_cons]
    congr 1
    omega
def lsN {α : Type} (f : Nat → α) : Nat → List α
  | 0 => []
  | n + 1 => lsN f n ++ [f n]
theorem lsN_len {α : Type} (f : Nat → α) : ∀ n, (lsN f n).length = n
  | 0 => rfl
  | n + 1 => by unfold lsN; rw [List.length_append, lsN_len f n]; rfl
theorem lsN_get {α : Type} (f : Nat → α) (a : α) : ∀ {n i : Nat}, i < n → (lsN f n).getD i a = f i
  | 0, _, h => absurd h (Nat.not_lt_zero _)
  | n + 1, i, h => by
    unfold lsN
    by_cases hi : i < n
    · rw [getD_lt (by rw [lsN_len]; exact hi)]; exact lsN_get f a hi
    · have : i = n := by omega
      subst this
      have := getD_at (l := lsN f i) (x := f i) (a := a)
      rwa [lsN_len] at this
/-- the value as it is read: what no place holds is not there -/
def nrm : T → T
  | .no => .no
  | .mk k n s ln l dn ky dv => if k = 1 then tNum n else if k = 2 then tStr s else if k = 3 then tList (lsN (fun i => nrm (l i)) ln) else tDict (lsN (fun i => (ky i, nrm (dv i))) dn)
/-- no place is empty -/
def T.full : T → Prop
  | .no => False
  | .mk _ _ _ ln l dn _ dv => (∀ i, i < ln → (l i).full) ∧ (∀ i, i < dn → (dv i).full)
theorem full_of_rv {S : Nat → Prop} {w : World} : ∀ (t : T) (x y : Value), RV S w t x y → t.full := by
  intro t
  induction t with
  | no => intro x y h; exact h
  | mk k n s ln l dn ky dv il id =>
    intro x y h
    obtain ⟨⟨a, ca, _, hL⟩, ⟨a', ca', _, hD⟩⟩ := h
    refine ⟨fun i hi => ?_, fun i hi => ?_⟩
    · rcases hL with h | ⟨b, o, _, _, _, h⟩
      · omega
      · obtain ⟨x', y', h1, _⟩ := h i hi; exact il i _ _ h1
    · rcases hD with h | ⟨b, o, _, _, _, h⟩
      · omega
      · obtain ⟨x', y', h1, _⟩ := h i hi; exact id i _ _ h1
theorem fstE_all {f : Nat → Int} : ∀ {n : Nat}, fstE f n = 0 → ∀ i, i < n → f i = 0
  | 0, _, i, hi => absurd hi (Nat.not_lt_zero _)
  | n + 1, h, i, hi => by
    unfold fstE at h
    split at h
    · rename_i h0
      by_cases e : i = n
      · subst e; exact h
      · exact fstE_all h0 i (by omega)
    · rename_i h0; exact absurd h h0
theorem wk_mk {k n : Int} {s : ByteArray} {ln : Nat} {l : Nat → T} {dn : Nat} {ky : Nat → ByteArray} {dv : Nat → T} {ar : Int} (h : wk (.mk k n s ln l dn ky dv) ar = 0) :
    (1 ≤ k ∧ k ≤ 4 ∧ Own k n s ln dn) ∧ (3 ≤ k → ar < 32 ∧ (∀ i, i < ln → wk (l i) (ar + 1) = 0) ∧ ∀ i, i < dn → keyBad ky i = false ∧ wk (dv i) (ar + 1) = 0) := by
  unfold wk at h
  split at h
  · cases h
  · rename_i ho
    have hO := (ownB_iff k n s ln dn).1 (by revert ho; cases ownB k n s ln dn <;> simp)
    refine ⟨hO, fun hk => ?_⟩
    rw [if_neg (by omega)] at h
    split at h
    · cases h
    · rename_i ha
      split at h
      · rename_i hf; exact absurd h hf
      · rename_i hf
        have hf0 := Classical.not_not.1 hf
        refine ⟨by omega, fstE_all hf0, fun i hi => ?_⟩
        have := fstE_all h i hi
        split at this
        · cases this
        · rename_i hb
          exact ⟨by revert hb; cases keyBad ky i <;> simp, this⟩
theorem step_opn {b : List UInt8} {st : List Fr} {i : Nat} (hi : i < b.length) (hw : AW st) (h101 : byt b i ≠ 101) : step b st i = opn b st i := by
  unfold step
  rw [if_neg (by omega)]
  match st, hw with
  | [], _ => rfl
  | f :: r, hw =>
    dsimp only
    rw [if_neg (fun h => by have := hw h.1; rw [this] at h; cases h.2), if_neg (fun h => h101 h.2)]
theorem catN_split {g : Nat → List UInt8} {j : Nat} : ∀ {n : Nat}, j < n → ∃ z, catN g n = catN g j ++ (g j ++ z)
  | 0, h => absurd h (Nat.not_lt_zero _)
  | n + 1, h => by
    by_cases e : j = n
    · subst e; exact ⟨[], by rw [catN, List.append_nil]⟩
    · obtain ⟨z, hz⟩ := catN_split (g := g) (j := j) (n := n) (by omega)
      exact ⟨z ++ g n, by rw [catN, hz]; simp⟩
def RDS (t : T) : Prop := ∀ (b r : List UInt8) (st : List Fr) (i : Nat), wk t st.length = 0 → t.full → t.rng → t.ok → AW st → b.drop i = txt t ++ r → Run b (.go st i) (deliver st (nrm t) (i + (txt t).length))
theorem reads (t : T) : RDS t := by
  induction t with
  | no => intro b r st i _ h; exact h.elim
  | mk k n s ln l dn ky dv il id =>
    intro b r st i hw hf hr hk haw hx
    obtain ⟨⟨k1, k4, _⟩, hc⟩ := wk_mk hw
    obtain ⟨r1, r2, _, _, r5, r6⟩ := hr
    obtain ⟨o1, _, _, o4, o5⟩ := hk
    by_cases e1 : k = 1
    · subst e1
      have ht : txt (.mk 1 n s ln l dn ky dv) = 105 :: (Lib.itoa n ++ [101]) := rfl
      have hn : nrm (.mk 1 n s ln l dn ky dv) = tNum n := rfl
      rw [ht] at hx
      obtain ⟨h1, h2, h3⟩ := numb_rd r1 r2 hx
      refine .one ?_
      rw [step_opn h3 haw (by rw [h2]; decide), ht, hn]
      unfold opn scal
      rw [if_neg (by rw [h2]; decide), if_neg (by rw [h2]; decide), if_pos h2, h1]
      dsimp only
      congr 1
      simp; omega
    · by_cases e2 : k = 2
      · subst e2
        have ht : txt (.mk 2 n s ln l dn ky dv) = wtx s := rfl
        have hn : nrm (.mk 2 n s ln l dn ky dv) = tStr s := rfl
        rw [ht] at hx
        obtain ⟨h1, h2, h3⟩ := strg_rd o1 hx
        have hne : ∀ c, dig c = false → byt b i ≠ c := fun c hc e => by rw [e, hc] at h2; cases h2
        refine .one ?_
        rw [step_opn h3 haw (hne _ (by decide)), ht, hn]
        unfold opn scal
        rw [if_neg (hne _ (by decide)), if_neg (hne _ (by decide)), if_neg (hne _ (by decide)), if_pos h2, h1]
      · obtain ⟨hd, cl, cd⟩ := hc (by omega)
        by_cases e3 : k = 3
        · subst e3
          have ht : txt (.mk 3 n s ln l dn ky dv) = 108 :: (catN (fun i => txt (l i)) ln ++ [101]) := rfl
          have hn : nrm (.mk 3 n s ln l dn ky dv) = tList (lsN (fun i => nrm (l i)) ln) := rfl
          rw [ht, List.cons_append] at hx
          obtain ⟨h1, h2, h3⟩ := drop_cons hx
          rw [List.append_assoc] at h3
          have ho : step b st i = .go ({ d := false } :: st) (i + 1) := by
            rw [step_opn h2 haw (by rw [h1]; decide)]
            unfold opn
            rw [if_pos h1, if_neg (by omega)]
          have hloop : ∀ j, j ≤ ln → Run b (.go ({ d := false } :: st) (i + 1)) (.go ({ d := false, ls := lsN (fun i => nrm (l i)) j } :: st) (i + 1 + (catN (fun i => txt (l i)) j).length)) := by
            intro j
            induction j with
            | zero => exact fun _ => .refl _
            | succ j ih =>
              intro hj
              refine (ih (by omega)).trans ?_
              obtain ⟨z, hz⟩ := catN_split (g := fun i => txt (l i)) (j := j) (n := ln) (by omega)
              rw [hz, List.append_assoc] at h3
              have h4 := drop_app h3
              rw [List.append_assoc] at h4
              have := il j b _ ({ d := false, ls := lsN (fun i => nrm (l i)) j } :: st) _ (cl j (by omega)) (hf.1 j (by omega)) (r5 j (by omega)) (o4 j (by omega)) (fun e => by cases e) h4
              rw [catN, List.length_append, ← Nat.add_assoc]
              exact this
          refine (Run.one ho).trans ((hloop ln (Nat.le_refl _)).trans (.one ?_))
          have h5 := drop_cons (drop_app h3)
          unfold step
          rw [if_neg (by omega)]
          dsimp only
          rw [if_neg (by simp), if_pos ⟨rfl, h5.1⟩, hn, ht]
          unfold Fr.close
          rw [if_neg (by simp)]
          dsimp only
          congr 1
          simp; omega
        · obtain rfl : k = 4 := by omega
          have ht : txt (.mk 4 n s ln l dn ky dv) = 100 :: (catN (fun i => wtx (ky i) ++ txt (dv i)) dn ++ [101]) := rfl
          have hn : nrm (.mk 4 n s ln l dn ky dv) = tDict (lsN (fun i => (ky i, nrm (dv i))) dn) := rfl
          rw [ht, List.cons_append] at hx
          obtain ⟨h1, h2, h3⟩ := drop_cons hx
          rw [List.append_assoc] at h3
          have ho : step b st i = .go ({ d := true } :: st) (i + 1) := by
            rw [step_opn h2 haw (by rw [h1]; decide)]
            unfold opn
            rw [if_neg (by rw [h1]; decide), if_pos h1, if_neg (by omega)]
          have hloop : ∀ j, j ≤ dn → Run b (.go ({ d := true } :: st) (i + 1)) (.go ({ d := true, ps := lsN (fun i => (ky i, nrm (dv i))) j } :: st) (i + 1 + (catN (fun i => wtx (ky i) ++ txt (dv i)) j).length)) := by
            intro j
            induction j with
            | zero => exact fun _ => .refl _
            | succ j ih =>
              intro hj
              refine (ih (by omega)).trans ?_
              obtain ⟨z, hz⟩ := catN_split (g := fun i => wtx (ky i) ++ txt (dv i)) (j := j) (n := dn) (by omega)
              rw [hz, List.append_assoc] at h3
              have h4 := drop_app h3
              rw [List.append_assoc, List.append_assoc] at h4
              obtain ⟨s1, s2, s3⟩ := strg_rd (o5 j (by omega)).1 h4
              have hne : ∀ c, dig c = false → byt b (i + 1 + (catN (fun i => wtx (ky i) ++ txt (dv i)) j).length) ≠ c := fun c hc e => by rw [e, hc] at s2; cases s2
              have hkey : step b ({ d := true, ps := lsN (fun i => (ky i, nrm (dv i))) j } :: st) (i + 1 + (catN (fun i => wtx (ky i) ++ txt (dv i)) j).length) = .go ({ d := true, ps := lsN (fun i => (ky i, nrm (dv i))) j, key := ky j, has := true } :: st) (i + 1 + (catN (fun i => wtx (ky i) ++ txt (dv i)) j).length + (wtx (ky j)).length) := by
                unfold step
                rw [if_neg (by omega)]
                dsimp only
                rw [if_pos ⟨rfl, rfl⟩, if_neg (hne _ (by decide))]
                unfold keyy
                rw [if_neg (by rw [s2]; decide), s1]
                dsimp only
                rw [if_neg]
                rintro ⟨g1, g2⟩
                match j, g1, g2 with
                | 0, g1, _ => exact g1 rfl
                | q + 1, _, g2 =>
                  rw [last_getD, lsN_len, Nat.add_sub_cancel, lsN_get _ _ (Nat.lt_succ_self q)] at g2
                  have := (cd (q + 1) (by omega)).1
                  rw [show keyBad ky (q + 1) = leB (ky (q + 1)) (ky q) from rfl, g2] at this
                  cases this
              refine (Run.one hkey).trans ?_
              have h5 := drop_app h4
              have := id j b _ ({ d := true, ps := lsN (fun i => (ky i, nrm (dv i))) j, key := ky j, has := true } :: st) _ (cd j (by omega)).2 (hf.2 j (by omega)) (r6 j (by omega)) (o5 j (by omega)).2 (fun _ => rfl) h5
              rw [catN, List.length_append, List.length_append, ← Nat.add_assoc, ← Nat.add_assoc]
              exact this
          refine (Run.one ho).trans ((hloop dn (Nat.le_refl _)).trans (.one ?_))
          have h5 := drop_cons (drop_app h3)
          unfold step
          rw [if_neg (by omega)]
          dsimp only
          rw [if_pos ⟨rfl, rfl⟩, if_pos h5.1, hn, ht]
          unfold Fr.close
          rw [if_pos rfl]
          dsimp only
          congr 1
          simp; omega
end Go.Proofs.YtegdlkbilgkfoaaDoor
