import Derived.Test.YtdlnnnlmlaploabDoorM06
import Derived.Test.YtdlnnnlmlaploabDoorM25
import Derived.Test.YtdlnnnlmlaploabDoorM24
import Derived.Lib.AppendZeros
namespace Go.Proofs.YtdlnnnlmlaploabDoor
open Go.RowKit Go.Deep
/-! ### A text is read as the value that it was written of -/
theorem dec_all (m : Nat) : allDig (Lib.decDigits m) ∧ Lib.decDigits m ≠ [] ∧ dval 0 (Lib.decDigits m) = m ∧ unp (Lib.decDigits m) ∧ (1 ≤ m → byt (Lib.decDigits m) 0 ≠ 48) := by
  induction m using Nat.strongRecOn with
  | _ m ih =>
    have tn : ∀ k, k < 10 → (UInt8.ofNat (48 + k)).toNat = 48 + k := fun k hk => by rw [UInt8.toNat_ofNat', Nat.mod_eq_of_lt (by omega)]
    by_cases h : m < 10
    · rw [Lib.decDigits_one h]
      refine ⟨fun c hc => ?_, by simp, ?_, .inl rfl, fun h1 e => ?_⟩
      · rw [List.mem_singleton.1 hc, tn m h]; omega
      · rw [dval_cons, dval_nil, tn m h]; omega
      · have e' : (UInt8.ofNat (48 + m)).toNat = 48 := congrArg UInt8.toNat e
        rw [tn m h] at e'; omega
    · obtain ⟨h1, h2, h3, h4, h5⟩ := ih (m / 10) (by omega)
      rw [Lib.decDigits, dif_neg h]
      have hp := h5 (by omega)
      have hl := List.length_pos_iff.2 h2
      refine ⟨fun c hc => ?_, by simp, ?_, .inr ?_, fun _ => ?_⟩
      · rcases List.mem_append.1 hc with hc | hc
        · exact h1 c hc
        · rw [List.mem_singleton.1 hc, tn _ (by omega)]; omega
      · rw [dval_snoc, h3, tn _ (by omega)]; omega
      · rw [byt_app hl]; exact hp
      · rw [byt_app hl]; exact hp
theorem unp_padd {d : List UInt8} (h : unp d) : ¬ padd d = true := by
  unfold padd
  rcases h with h | h
  · simp [h]
  · simp [h]
theorem drop_cons {b : List UInt8} {i : Nat} {c : UInt8} {r : List UInt8} (h : b.drop i = c :: r) : byt b i = c ∧ i < b.length ∧ b.drop (i + 1) = r := by
  have hi : i < b.length := by
    rcases Nat.lt_or_ge i b.length with g | g
    · exact g
    · rw [List.drop_eq_nil_of_le g] at h; cases h
  rw [List.drop_eq_getElem_cons hi] at h
  injection h with h1 h2
  refine ⟨?_, hi, h2⟩
  unfold byt; simp [List.getD, List.getElem?_eq_getElem hi, h1]
theorem drop_app {b x y : List UInt8} {i : Nat} (h : b.drop i = x ++ y) : b.drop (i + x.length) = y := by
  rw [← List.drop_drop, h, List.drop_left]
theorem digs_rd {b d r : List UInt8} {en : UInt8} {i : Nat} (h : b.drop i = d ++ en :: r) (ha : allDig d) (hn : d ≠ []) (he : dig en = false) : digs b en i = .ok d (i + d.length + 1) := by
  have hr : run b i = d.length := by
    unfold run
    rw [h, List.takeWhile_append_of_pos (fun c hc => (dig_iff c).2 (ha c hc)), List.takeWhile_cons_of_neg (by simp [he]), List.append_nil]
  have h2 := drop_cons (drop_app h)
  have hc : cut b i (i + d.length) = d := by
    unfold cut; rw [h, Nat.add_sub_cancel_left, List.take_left]
  unfold digs
  rw [hr, if_neg (by omega), if_neg (by
    rintro (e | e)
    · exact hn (List.length_eq_zero_iff.1 e)
    · exact e h2.1), hc]
theorem head_dig {b d r : List UInt8} {i : Nat} (h : b.drop i = d ++ r) (ha : allDig d) (hn : d ≠ []) : dig (byt b i) = true ∧ i < b.length := by
  match d, hn with
  | c :: d', _ =>
    have := drop_cons h
    rw [this.1]
    exact ⟨(dig_iff c).2 (ha c (by simp)), this.2.1⟩
theorem strg_rd {b r : List UInt8} {s : ByteArray} {i : Nat} (hs : s.size ≤ 140737488351232) (h : b.drop i = wtx s ++ r) : strg b i = .ok s (i + (wtx s).length) ∧ dig (byt b i) = true ∧ i < b.length := by
  unfold wtx at h ⊢
  rw [Lib.itoa_nonneg] at h ⊢
  obtain ⟨h1, h2, h3, h4, _⟩ := dec_all s.size
  generalize Lib.decDigits s.size = d at *
  rw [List.append_assoc, List.cons_append] at h
  have hd := digs_rd (en := 58) h h1 h2 (by decide)
  have hh := head_dig h h1 h2
  have hr := (drop_cons (drop_app h)).2.2
  have hlt := (drop_cons (drop_app h)).2.1
  have hlen : s.data.toList.length = s.size := by rw [Array.length_toList]; rfl
  have hbl := congrArg List.length hr
  rw [List.length_drop, List.length_append, hlen] at hbl
  refine ⟨?_, hh⟩
  unfold strg
  rw [hd]
  dsimp only
  rw [if_neg (unp_padd h4), (atoi_pos h1 h2).1 (by omega), h3]
  dsimp only
  rw [if_neg (by omega)]
  have hc : cut b (i + d.length + 1) (i + d.length + 1 + ((s.size : Nat) : Int).toNat) = s.data.toList := by
    unfold cut
    rw [hr, Nat.add_sub_cancel_left, Int.toNat_natCast, ← hlen, List.take_left]
  rw [hc]
  congr 1
  rw [List.length_append, List.length_cons, hlen, Int.toNat_natCast]; omega
theorem numb_rd {b r : List UInt8} {n : Int} {i : Nat} (h0 : -9223372036854775808 ≤ n) (h1 : n ≤ 9223372036854775807) (h : b.drop i = 105 :: (Lib.itoa n ++ [101]) ++ r) :
    numb b i = .ok n (i + (Lib.itoa n).length + 2) ∧ byt b i = 105 ∧ i < b.length := by
  rw [List.cons_append] at h
  obtain ⟨e1, e2, e3⟩ := drop_cons h
  refine ⟨?_, e1, e2⟩
  rw [List.append_assoc] at e3
  by_cases hn : 0 ≤ n
  · obtain ⟨u, rfl⟩ : ∃ u : Nat, n = u := ⟨n.toNat, by omega⟩
    rw [Lib.itoa_nonneg] at e3 ⊢
    obtain ⟨g1, g2, g3, g4, _⟩ := dec_all u
    generalize Lib.decDigits u = d at *
    have hh := head_dig e3 g1 g2
    have h45 : ¬ byt b (i + 1) = 45 := fun e => by rw [e] at hh; exact absurd hh.1 (by decide)
    rw [numb_sg hh.2, if_neg h45]
    have hd := digs_rd (en := 101) e3 g1 g2 (by decide)
    rw [show i + 1 + ([] : List UInt8).length = i + 1 from rfl, hd]
    dsimp only
    rw [List.nil_append, (atoi_pos g1 g2).1 (by omega), g3]
    dsimp only
    rw [if_neg (by
      rintro (e | e)
      · exact unp_padd g4 e
      · have := g1 45 (by rw [e]; simp)
        exact absurd this.1 (by decide))]
    congr 1
    omega
  · obtain ⟨u, hu, rfl⟩ : ∃ u : Nat, 1 ≤ u ∧ n = -(u : Int) := ⟨(-n).toNat, by omega, by omega⟩
    rw [Lib.itoa_neg u hu] at e3 ⊢
    obtain ⟨g1, g2, g3, g4, g5⟩ := dec_all u
    generalize Lib.decDigits u = d at *
    rw [List.cons_append] at e3
    obtain ⟨f1, f2, f3⟩ := drop_cons e3
    rw [numb_sg f2, if_pos f1]
    have hd := digs_rd (en := 101) f3 g1 g2 (by decide)
    rw [show i + 1 + ([45] : List UInt8).length = i + 1 + 1 from rfl, hd]
    dsimp only
    rw [List.singleton_append, (atoi_neg g1 g2).1 (by omega), g3]
    dsimp only
    rw [if_neg (by
      rintro (e | e)
      · exact unp_padd g4 e
      · injection e with _ e
        rw [e] at g3
        have : dval 0 [48] = 0 := rfl
        omega)]
    rw [List.length_cons]
    congr 1
    omega
def lsN {α : Type} (f : Nat → α) : Nat → List α
  | 0 => []
  | n + 1 => lsN f n ++ [f n]
theorem lsN_len {α : Type} (f : Nat → α) : ∀ n, (lsN f n).length = n
  | 0 => rfl
  | n + 1 => by unfold lsN; rw [List.length_append, lsN_len f n]; rfl
theorem lsN_get {α : Type} (f : Nat → α) (a : α) : ∀ {n i : Nat}, i < n → (lsN f n).getD i a = f i
  | 0, _, h => absurd h (Nat.not_lt_zero _)
  | n + 1, i, h => by
    unfold lsN
    by_cases hi : i < n
    · rw [getD_lt (by rw [lsN_len]; exact hi)]; exact lsN_get f a hi
    · have : i = n := by omega
      subst this
      have := getD_at (l := lsN f i) (x := f i) (a := a)
      rwa [lsN_len] at this
/-- the value as it is read: what no place holds is not there -/
def nrm : T → T
  | .no => .no
  | .mk k n s ln l dn ky dv => if k = 1 then tNum n else if k = 2 then tStr s else if k = 3 then tList (lsN (fun i => nrm (l i)) ln) else tDict (lsN (fun i => (ky i, nrm (dv i))) dn)
/-- no place is empty -/
def T.full : T → Prop
  | .no => False
  | .mk _ _ _ ln l dn _ dv => (∀ i, i < ln → (l i).full) ∧ (∀ i, i < dn → (dv i).full)
theorem full_of_rv {S : Nat → Prop} {w : World} : ∀ (t : T) (x y : Value), RV S w t x y → t.full := by
  intro t
  induction t with
  | no => intro x y h; exact h
  | mk k n s ln l dn ky dv il id =>
    intro x y h
    obtain ⟨⟨a, ca, _, hL⟩, ⟨a', ca', _, hD⟩⟩ := h
    refine ⟨fun i hi => ?_, fun i hi => ?_⟩
    · rcases hL with h | ⟨b, o, _, _, _, h⟩
      · omega
      · obtain ⟨x', y', h1, _⟩ := h i hi; exact il i _ _ h1
    · rcases hD with h | ⟨b, o, _, _, _, h⟩
      · omega
      · obtain ⟨x', y', h1, _⟩ := h i hi; exact id i _ _ h1
theorem fstE_all {f : Nat → Int} : ∀ {n : Nat}, fstE f n = 0 → ∀ i, i < n → f i = 0
  | 0, _, i, hi => absurd hi (Nat.not_lt_zero _)
  | n + 1, h, i, hi => by
    unfold fstE at h
    split at h
    · rename_i h0
      by_cases e : i = n
      · subst e; exact h
      · exact fstE_all h0 i (by omega)
    · rename_i h0; exact absurd h h0
theorem wk_mk {k n : Int} {s : ByteArray} {ln : Nat} {l : Nat → T} {dn : Nat} {ky : Nat → ByteArray} {dv : Nat → T} {ar : Int} (h : wk (.mk k n s ln l dn ky dv) ar = 0) :
    (1 ≤ k ∧ k ≤ 4 ∧ Own k n s ln dn) ∧ (3 ≤ k → ar < 32 ∧ (∀ i, i < ln → wk (l i) (ar + 1) = 0) ∧ ∀ i, i < dn → keyBad ky i = false ∧ wk (dv i) (ar + 1) = 0) := by
  unfold wk at h
  split at h
  · cases h
  · rename_i ho
    have hO := (ownB_iff k n s ln dn).1 (by revert ho; cases ownB k n s ln dn <;> simp)
    refine ⟨hO, fun hk => ?_⟩
    rw [if_neg (by omega)] at h
    split at h
    · cases h
    · rename_i ha
      split at h
      · rename_i hf; exact absurd h hf
      · rename_i hf
        have hf0 := Classical.not_not.1 hf
        refine ⟨by omega, fstE_all hf0, fun i hi => ?_⟩
        have := fstE_all h i hi
        split at this
        · cases this
        · rename_i hb
          exact ⟨by revert hb; cases keyBad ky i <;> simp, this⟩
theorem step_opn {b : List UInt8} {st : List Fr} {i : Nat} (hi : i < b.length) (hw : AW st) (h101 : byt b i ≠ 101) : step b st i = opn b st i := by
  unfold step
  rw [if_neg (by omega)]
  match st, hw with
  | [], _ => rfl
  | f :: r, hw =>
    dsimp only
    rw [if_neg (fun h => by have := hw h.1; rw [this] at h; cases h.2), if_neg (fun h => h101 h.2)]
theorem catN_split {g : Nat → List UInt8} {j : Nat} : ∀ {n : Nat}, j < n → ∃ z, catN g n = catN g j ++ (g j ++ z)
  | 0, h => absurd h (Nat.not_lt_zero _)
  | n + 1, h => by
    by_cases e : j = n
    · subst e; exact ⟨[], by rw [catN, List.append_nil]⟩
    · obtain ⟨z, hz⟩ := catN_split (g := g) (j := j) (n := n) (by omega)
      exact ⟨z ++ g n, by rw [catN, hz]; simp⟩
def RDS (t : T) : Prop := ∀ (b r : List UInt8) (st : List Fr) (i : Nat), wk t st.length = 0 → t.full → t.rng → t.ok → AW st → b.drop i = txt t ++ r → Run b (.go st i) (deliver st (nrm t) (i + (txt t).length))
theorem reads (t : T) : RDS t := by
  induction t with
  | no => intro b r st i _ h; exact h.elim
  | mk k n s ln l dn ky dv il id =>
    intro b r st i hw hf hr hk haw hx
    obtain ⟨⟨k1, k4, _⟩, hc⟩ := wk_mk hw
    obtain ⟨r1, r2, _, _, r5, r6⟩ := hr
    obtain ⟨o1, _, _, o4, o5⟩ := hk
    by_cases e1 : k = 1
    · subst e1
      have ht : txt (.mk 1 n s ln l dn ky dv) = 105 :: (Lib.itoa n ++ [101]) := rfl
      have hn : nrm (.mk 1 n s ln l dn ky dv) = tNum n := rfl
      rw [ht] at hx
      obtain ⟨h1, h2, h3⟩ := numb_rd r1 r2 hx
      refine .one ?_
      rw [step_opn h3 haw (by rw [h2]; decide), ht, hn]
      unfold opn scal
      rw [if_neg (by rw [h2]; decide), if_neg (by rw [h2]; decide), if_pos h2, h1]
      dsimp only
      congr 1
      simp; omega
    · by_cases e2 : k = 2
      · subst e2
        have ht : txt (.mk 2 n s ln l dn ky dv) = wtx s := rfl
        have hn : nrm (.mk 2 n s ln l dn ky dv) = tStr s := rfl
        rw [ht] at hx
        obtain ⟨h1, h2, h3⟩ := strg_rd o1 hx
        have hne : ∀ c, dig c = false → byt b i ≠ c := fun c hc e => by rw [e, hc] at h2; cases h2
        refine .one ?_
        rw [step_opn h3 haw (hne _ (by decide)), ht, hn]
        unfold opn scal
        rw [if_neg (hne _ (by decide)), if_neg (hne _ (by decide)), if_neg (hne _ (by decide)), if_pos h2, h1]
      · obtain ⟨hd, cl, cd⟩ := hc (by omega)
        by_cases e3 : k = 3
        · subst e3
          have ht : txt (.mk 3 n s ln l dn ky dv) = 108 :: (catN (fun i => txt (l i)) ln ++ [101]) := rfl
          have hn : nrm (.mk 3 n s ln l dn ky dv) = tList (lsN (fun i => nrm (l i)) ln) := rfl
          rw [ht, List.cons_append] at hx
          obtain ⟨h1, h2, h3⟩ := drop_cons hx
          rw [List.append_assoc] at h3
          have ho : step b st i = .go ({ d := false } :: st) (i + 1) := by
            rw [step_opn h2 haw (by rw [h1]; decide)]
            unfold opn
            rw [if_pos h1, if_neg (by omega)]
          have hloop : ∀ j, j ≤ ln → Run b (.go ({ d := false } :: st) (i + 1)) (.go ({ d := false, ls := lsN (fun i => nrm (l i)) j } :: st) (i + 1 + (catN (fun i => txt (l i)) j).length)) := by
            intro j
            induction j with
            | zero => exact fun _ => .refl _
            | succ j ih =>
              intro hj
              refine (ih (by omega)).trans ?_
              obtain ⟨z, hz⟩ := catN_split (g := fun i => txt (l i)) (j := j) (n := ln) (by omega)
              rw [hz, List.append_assoc] at h3
              have h4 := drop_app h3
              rw [List.append_assoc] at h4
              have := il j b _ ({ d := false, ls := lsN (fun i => nrm (l i)) j } :: st) _ (cl j (by omega)) (hf.1 j (by omega)) (r5 j (by omega)) (o4 j (by omega)) (fun e => by cases e) h4
              rw [catN, List.length_append, ← Nat.add_assoc]
              exact this
          refine (Run.one ho).trans ((hloop ln (Nat.le_refl _)).trans (.one ?_))
          have h5 := drop_cons (drop_app h3)
          unfold step
          rw [if_neg (by omega)]
          dsimp only
          rw [if_neg (by simp), if_pos ⟨rfl, h5.1⟩, hn, ht]
          unfold Fr.close
          rw [if_neg (by simp)]
          dsimp only
          congr 1
          simp; omega
        · obtain rfl : k = 4 := by omega
          have ht : txt (.mk 4 n s ln l dn ky dv) = 100 :: (catN (fun i => wtx (ky i) ++ txt (dv i)) dn ++ [101]) := rfl
          have hn : nrm (.mk 4 n s ln l dn ky dv) = tDict (lsN (fun i => (ky i, nrm (dv i))) dn) := rfl
          rw [ht, List.cons_append] at hx
          obtain ⟨h1, h2, h3⟩ := drop_cons hx
          rw [List.append_assoc] at h3
          have ho : step b st i = .go ({ d := true } :: st) (i + 1) := by
            rw [step_opn h2 haw (by rw [h1]; decide)]
            unfold opn
            rw [if_neg (by rw [h1]; decide), if_pos h1, if_neg (by omega)]
          have hloop : ∀ j, j ≤ dn → Run b (.go ({ d := true } :: st) (i + 1)) (.go ({ d := true, ps := lsN (fun i => (ky i, nrm (dv i))) j } :: st) (i + 1 + (catN (fun i => wtx (ky i) ++ txt (dv i)) j).length)) := by
            intro j
            induction j with
            | zero => exact fun _ => .refl _
            | succ j ih =>
              intro hj
              refine (ih (by omega)).trans ?_
              obtain ⟨z, hz⟩ := catN_split (g := fun i => wtx (ky i) ++ txt (dv i)) (j := j) (n := dn) (by omega)
              rw [hz, List.append_assoc] at h3
              have h4 := drop_app h3
              rw [List.append_assoc, List.append_assoc] at h4
              obtain ⟨s1, s2, s3⟩ := strg_rd (o5 j (by omega)).1 h4
              have hne : ∀ c, dig c = false → byt b (i + 1 + (catN (fun i => wtx (ky i) ++ txt (dv i)) j).length) ≠ c := fun c hc e => by rw [e, hc] at s2; cases s2
              have hkey : step b ({ d := true, ps := lsN (fun i => (ky i, nrm (dv i))) j } :: st) (i + 1 + (catN (fun i => wtx (ky i) ++ txt (dv i)) j).length) = .go ({ d := true, ps := lsN (fun i => (ky i, nrm (dv i))) j, key := ky j, has := true } :: st) (i + 1 + (catN (fun i => wtx (ky i) ++ txt (dv i)) j).length + (wtx (ky j)).length) := by
                unfold step
                rw [if_neg (by omega)]
                dsimp only
                rw [if_pos ⟨rfl, rfl⟩, if_neg (hne _ (by decide))]
                unfold keyy
                rw [if_neg (by rw [s2]; decide), s1]
                dsimp only
                rw [if_neg]
                rintro ⟨g1, g2⟩
                match j, g1, g2 with
                | 0, g1, _ => exact g1 rfl
                | q + 1, _, g2 =>
                  rw [last_getD, lsN_len, Nat.add_sub_cancel, lsN_get _ _ (Nat.lt_succ_self q)] at g2
                  have := (cd (q + 1) (by omega)).1
                  rw [show keyBad ky (q + 1) = leB (ky (q + 1)) (ky q) from rfl, g2] at this
                  cases this
              refine (Run.one hkey).trans ?_
              have h5 := drop_app h4
              have := id j b _ ({ d := true, ps := lsN (fun i => (ky i, nrm (dv i))) j, key := ky j, has := true } :: st) _ (cd j (by omega)).2 (hf.2 j (by omega)) (r6 j (by omega)) (o5 j (by omega)).2 (fun _ => rfl) h5
              rw [catN, List.length_append, List.length_append, ← Nat.add_assoc, ← Nat.add_assoc]
              exact this
          refine (Run.one ho).trans ((hloop dn (Nat.le_refl _)).trans (.one ?_))
          have h5 := drop_cons (drop_app h3)
          unfold step
          rw [if_neg (by omega)]
          dsimp only
          rw [if_pos ⟨rfl, rfl⟩, if_pos h5.1, hn, ht]
          unfold Fr.close
          rw [if_pos rfl]
          dsimp only
          congr 1
          simp; omega
end Go.Proofs.YtdlnnnlmlaploabDoor
namespace Go.Proofs.YtdlnnnlmlaploabDoor
open Go.RowKit Go.Deep
/-! ### A part of a text that is read is read by itself -/
theorem empty_of' {s : ByteArray} (h : s.toList = []) : ByteArray.empty = s := by
  apply ba_ext
  have e : s.data.toList = [] := by rw [← ByteArray.toList_eq]; exact h
  rw [e]
  rfl
theorem nrm_k {t : T} {ar : Int} (h : wk t ar = 0) : (nrm t).k = t.k ∧ (nrm t).n = t.n ∧ (nrm t).s = t.s := by
  cases t with
  | no => exact ⟨rfl, rfl, rfl⟩
  | mk k n s ln l dn ky dv =>
    obtain ⟨⟨k1, k4, q1, q2, q3, q4⟩, _⟩ := wk_mk h
    have hs : k ≠ 2 → ByteArray.empty = s := fun e => by
      rcases q2 with e2 | e2
      · exact absurd e2 e
      · exact empty_of' e2
    have hn : k ≠ 1 → 0 = n := fun e => by
      rcases q1 with e2 | e2
      · exact absurd e2 e
      · exact e2.symm
    have hk : k = 1 ∨ k = 2 ∨ k = 3 ∨ k = 4 := by omega
    rcases hk with rfl | rfl | rfl | rfl
    · exact ⟨rfl, rfl, hs (by decide)⟩
    · exact ⟨rfl, hn (by decide), rfl⟩
    · exact ⟨rfl, hn (by decide), hs (by decide)⟩
    · exact ⟨rfl, hn (by decide), hs (by decide)⟩
theorem run_written {t : T} (r : List UInt8) (hw : wk t 0 = 0) (hf : t.full) (hr : t.rng) (hok : t.ok) : Run (txt t ++ r) (.go [] 0) (.val (nrm t) (txt t).length) := by
  have := reads t (txt t ++ r) r [] 0 hw hf hr hok trivial rfl
  rw [Nat.zero_add] at this
  exact this
theorem dout_written {t : T} (hw : wk t 0 = 0) (hf : t.full) (hr : t.rng) (hok : t.ok) (hl : (txt t).length ≤ 1048576) : DOUT (txt t) (nrm t) 0 0 := by
  have := run_written [] hw hf hr hok
  rw [List.append_nil] at this
  exact .inl ⟨rfl, rfl, hl, _, this, Nat.le_refl _⟩
theorem wk_build {k n : Int} {s : ByteArray} {ln : Nat} {l : Nat → T} {dn : Nat} {ky : Nat → ByteArray} {dv : Nat → T} {ar : Int} (hO : ownB k n s ln dn = true) (h : 3 ≤ k → ar < 32 ∧ (∀ i, i < ln → wk (l i) (ar + 1) = 0) ∧ ∀ i, i < dn → keyBad ky i = false ∧ wk (dv i) (ar + 1) = 0) : wk (.mk k n s ln l dn ky dv) ar = 0 := by
  unfold wk
  rw [if_neg (by rw [hO]; decide)]
  by_cases hk : k < 3
  · rw [if_pos hk]
  · obtain ⟨h1, h2, h3⟩ := h (by omega)
    rw [if_neg hk, if_neg (by omega), if_neg (by rw [fstE_nil h2]; decide)]
    exact fstE_nil (fun i hi => by rw [if_neg (by rw [(h3 i hi).1]; decide)]; exact (h3 i hi).2)
theorem wk_down : ∀ (t : T) (ar : Int), wk t (ar + 1) = 0 → wk t ar = 0 := by
  intro t
  induction t with
  | no => intro ar h; exact h
  | mk k n s ln l dn ky dv il id =>
    intro ar h
    obtain ⟨hO, hk⟩ := wk_mk h
    refine wk_build ((ownB_iff k n s ln dn).2 hO) fun h3 => ?_
    obtain ⟨h1, h2, h4⟩ := hk h3
    exact ⟨by omega, fun i hi => il i _ (h2 i hi), fun i hi => ⟨(h4 i hi).1, id i _ (h4 i hi).2⟩⟩
theorem wk_zero (t : T) : ∀ (n : Nat), wk t (n : Int) = 0 → wk t 0 = 0
  | 0, h => h
  | n + 1, h => wk_zero t n (wk_down t n (by rw [show ((n : Nat) : Int) + 1 = ((n + 1 : Nat) : Int) by omega]; exact h))
/-- what is read has no empty place -/
def FrF (f : Fr) : Prop := (∀ t ∈ f.ls, t.full) ∧ ∀ p ∈ f.ps, p.2.full
def FUL : Out → Prop
  | .go st _ => ∀ f ∈ st, FrF f
  | .val t _ => t.full
  | .bad _ _ => True
theorem full_num (n : Int) : (tNum n).full := ⟨fun _ hi => absurd hi (Nat.not_lt_zero _), fun _ hi => absurd hi (Nat.not_lt_zero _)⟩
theorem full_str (s : ByteArray) : (tStr s).full := ⟨fun _ hi => absurd hi (Nat.not_lt_zero _), fun _ hi => absurd hi (Nat.not_lt_zero _)⟩
theorem getD_mem {α : Type} {l : List α} {a : α} {i : Nat} (h : i < l.length) : l.getD i a ∈ l := by
  rw [List.getD, List.getElem?_eq_getElem h]; exact List.getElem_mem h
theorem full_close {f : Fr} (h : FrF f) : f.close.full := by
  unfold Fr.close
  split
  · exact ⟨fun i hi => absurd hi (Nat.not_lt_zero _), fun i hi => h.2 _ (getD_mem hi)⟩
  · exact ⟨fun i hi => h.1 _ (getD_mem hi), fun i hi => absurd hi (Nat.not_lt_zero _)⟩
theorem ful_deliver {st : List Fr} {t : T} {j : Nat} (h : ∀ f ∈ st, FrF f) (ht : t.full) : FUL (deliver st t j) := by
  match st, h with
  | [], _ => exact ht
  | f :: r, h =>
    intro g hg
    rcases List.mem_cons.1 hg with rfl | hg
    · have hf := h f (by simp)
      unfold Fr.join
      split
      · refine ⟨fun x hx => (by cases hx), fun p hp => ?_⟩
        rcases List.mem_append.1 hp with hp | hp
        · exact hf.2 p hp
        · rw [List.mem_singleton.1 hp]; exact ht
      · refine ⟨fun x hx => ?_, fun p hp => (by cases hp)⟩
        rcases List.mem_append.1 hx with hx | hx
        · exact hf.1 x hx
        · rw [List.mem_singleton.1 hx]; exact ht
    · exact h g (by simp [hg])
theorem ful_opn {b : List UInt8} {st : List Fr} {i : Nat} (h : ∀ f ∈ st, FrF f) : FUL (opn b st i) := by
  have op : ∀ d, FUL (.go ({ d := d } :: st) (i + 1)) := fun d g hg => by
    rcases List.mem_cons.1 hg with rfl | hg
    · exact ⟨fun x hx => (by cases hx), fun x hx => (by cases hx)⟩
    · exact h g hg
  unfold opn
  split
  · split
    · trivial
    · exact op false
  · split
    · split
      · trivial
      · exact op true
    · unfold scal
      split
      · cases numb b i with
        | bad p e => trivial
        | ok n j => exact ful_deliver h (full_num n)
      · split
        · cases strg b i with
          | bad p e => trivial
          | ok n j => exact ful_deliver h (full_str n)
        · trivial
theorem ful_step {b : List UInt8} {st : List Fr} {i : Nat} (h : ∀ f ∈ st, FrF f) : FUL (step b st i) := by
  unfold step
  split
  · trivial
  · match st, h with
    | [], h => exact ful_opn h
    | f :: r, h =>
      dsimp only
      have hc : FUL (deliver r f.close (i + 1)) := ful_deliver (fun g hg => h g (by simp [hg])) (full_close (h f (by simp)))
      split
      · split
        · exact hc
        · unfold keyy
          split
          · trivial
          · cases strg b i with
            | bad p e => trivial
            | ok s j =>
              dsimp only
              split
              · trivial
              · intro g hg
                rcases List.mem_cons.1 hg with rfl | hg
                · exact h f (by simp)
                · exact h g (by simp [hg])
      · split
        · exact hc
        · exact ful_opn h
theorem run_full {b : List UInt8} {o q : Out} (H : Run b o q) : FUL o → FUL q := by
  induction H with
  | refl o => exact id
  | more _ ih => exact fun h => ih (ful_step h)
theorem dout_full {b : List UInt8} {t : T} {k : Nat} (hd : DOUT b t k 0) : t.full := by
  obtain ⟨n, hr⟩ := dout_run hd
  exact run_full hr (fun f hf => by cases hf)
theorem ok_of : ∀ (t : T), VT t → t.small → (txt t).length ≤ 1048576 → t.ok := by
  intro t
  induction t with
  | no => intro _ _ _; trivial
  | mk k n s ln l dn ky dv il id =>
    intro h hs hl
    have hg := txt_ge h
    obtain ⟨o1, o2, o3, o4, o5, o6⟩ : 1 ≤ k ∧ k ≤ 4 ∧ (k = 1 ∨ n = 0) ∧ (k = 2 ∨ s.toList = []) ∧ (k = 3 ∨ ln = 0) ∧ (k = 4 ∨ dn = 0) := of_decide_eq_true h.1
    have hsz : s.size ≤ 140737488351232 := by
      rcases o4 with rfl | e
      · have e : txt (.mk 2 n s ln l dn ky dv) = wtx s := rfl
        have := wtx_size s
        rw [e] at hl
        omega
      · rw [← empty_of' e]; decide
    refine ⟨hsz, by have := hs.1; omega, by have := hs.2.1; omega, fun i hi => il i (h.2.1 i hi) (hs.2.2.1 i hi) ?_, fun i hi => ⟨?_, id i (h.2.2 i hi).2 (hs.2.2.2 i hi) ?_⟩⟩
    · have := catN_lt (c := fun i => txt (l i)) hi
      omega
    · have := catN_lt (c := fun i => wtx (ky i) ++ txt (dv i)) hi
      rw [List.length_append] at this
      have := wtx_size (ky i)
      omega
    · have := catN_lt (c := fun i => wtx (ky i) ++ txt (dv i)) hi
      rw [List.length_append] at this
      omega
/-- a tree whose text stands there -/
structure Sub8 (b : List UInt8) (u : T) (fr : Nat) : Prop where
  at' : ∃ r, b.drop fr = txt u ++ r
  vt : VT u
  full : u.full
  rng : u.rng
  ok : u.ok
  wk : ∃ n : Nat, wk u (n : Int) = 0
theorem walk_sub {b : List UInt8} : ∀ (t : T) (here : Nat) (sp : Sp), Sub8 b t sp.fr → ∀ s ∈ walkT t here sp, ∃ u, u.k = s.kind ∧ s.to = s.fr + (txt u).length ∧ Sub8 b u s.fr := by
  intro t
  induction t with
  | no => intro _ _ _ s h; cases h
  | mk k n s ln l dn ky dv il id =>
    intro here sp h x hx
    obtain ⟨⟨rs, hat⟩, hvt, hfull, hrng, hok, ⟨na, hwk⟩⟩ := h
    obtain ⟨o1, o2, o3, o4, o5, o6⟩ : 1 ≤ k ∧ k ≤ 4 ∧ (k = 1 ∨ n = 0) ∧ (k = 2 ∨ s.toList = []) ∧ (k = 3 ∨ ln = 0) ∧ (k = 4 ∨ dn = 0) := of_decide_eq_true hvt.1
    obtain ⟨_, hw3⟩ := wk_mk hwk
    unfold walkT at hx
    rcases List.mem_cons.1 hx with rfl | hx
    · exact ⟨.mk k n s ln l dn ky dv, rfl, rfl, ⟨rs, hat⟩, hvt, hfull, hrng, hok, ⟨na, hwk⟩⟩
    · rcases List.mem_append.1 hx with hx | hx
      · refine kids_in (Q := fun x => ∃ u, u.k = x.kind ∧ x.to = x.fr + (txt u).length ∧ Sub8 b u x.fr) (fun i m hi y hy => ?_) x hx
        obtain rfl : k = 3 := by omega
        refine il i _ _ ⟨?_, hvt.2.1 i hi, hfull.1 i hi, hrng.2.2.2.2.1 i hi, hok.2.2.2.1 i hi, ⟨na + 1, by have := (hw3 (by decide)).2.1 i hi; rw [show ((na + 1 : Nat) : Int) = (na : Int) + 1 by omega]; exact this⟩⟩ y hy
        obtain ⟨z, hz⟩ := catN_split (g := fun i => txt (l i)) hi
        have e : txt (.mk 3 n s ln l dn ky dv) = 108 :: (catN (fun i => txt (l i)) ln ++ [101]) := rfl
        rw [e, hz] at hat
        have h1 : b.drop sp.fr = (108 :: catN (fun i => txt (l i)) i) ++ (txt (l i) ++ (z ++ [101] ++ rs)) := by rw [hat]; simp
        have h2 := drop_app h1
        rw [List.length_cons] at h2
        refine ⟨z ++ [101] ++ rs, ?_⟩
        rw [← h2]
        congr 1
        dsimp only
        omega
      · refine kids_in (Q := fun x => ∃ u, u.k = x.kind ∧ x.to = x.fr + (txt u).length ∧ Sub8 b u x.fr) (fun i m hi y hy => ?_) x hx
        obtain rfl : k = 4 := by omega
        obtain rfl : ln = 0 := by omega
        refine id i _ _ ⟨?_, (hvt.2.2 i hi).2, hfull.2 i hi, hrng.2.2.2.2.2 i hi, (hok.2.2.2.2 i hi).2, ⟨na + 1, by have := ((hw3 (by decide)).2.2 i hi).2; rw [show ((na + 1 : Nat) : Int) = (na : Int) + 1 by omega]; exact this⟩⟩ y hy
        obtain ⟨z, hz⟩ := catN_split (g := fun i => wtx (ky i) ++ txt (dv i)) hi
        have e : txt (.mk 4 n s 0 l dn ky dv) = 100 :: (catN (fun i => wtx (ky i) ++ txt (dv i)) dn ++ [101]) := rfl
        rw [e, hz] at hat
        have h1 : b.drop sp.fr = (100 :: (catN (fun i => wtx (ky i) ++ txt (dv i)) i ++ wtx (ky i))) ++ (txt (dv i) ++ (z ++ [101] ++ rs)) := by rw [hat]; simp
        have h2 := drop_app h1
        rw [List.length_cons, List.length_append] at h2
        refine ⟨z ++ [101] ++ rs, ?_⟩
        rw [← h2]
        congr 1
        show sp.fr + 1 + ([] : List UInt8).length + _ + _ = _
        rw [List.length_nil]
        omega
/-- the bytes of a span are read by themselves -/
theorem sub_dout {b : List UInt8} {t : T} {k : Nat} (hd : DOUT b t k 0) {r : Nat} {x : Vi} (hx : (SL t 0)[r]? = some x) : ∃ u, DOUT (cutB b x) u 0 0 ∧ u.k = x.kd := by
  obtain ⟨h1, h2, h3⟩ := dout_txt hd
  have e : SL t 0 = (walkT t 0 (dueS [])).map Sp.v := if_pos rfl
  rw [e, List.getElem?_map, Option.map_eq_some_iff] at hx
  obtain ⟨s, hs, rfl⟩ := hx
  have hvt := vt_of_wk t _ h2.1
  have hroot : Sub8 b t (dueS []).fr := ⟨⟨[], by rw [List.append_nil]; exact h1⟩, hvt, dout_full hd, h2.2.2, ok_of t hvt h2.2.1 (by rw [← h1]; exact h3), ⟨0, h2.1⟩⟩
  obtain ⟨u, hk, hto, hu⟩ := walk_sub t 0 (dueS []) hroot s (List.mem_of_getElem? hs)
  obtain ⟨rs, hat⟩ := hu.at'
  obtain ⟨n, hw⟩ := hu.wk
  have hw0 := wk_zero u n hw
  have hcut : cutB b s.v = txt u := by
    show (b.drop s.fr).take (s.to - s.fr) = txt u
    rw [hat, hto, show s.fr + (txt u).length - s.fr = (txt u).length by omega, List.take_left]
  have hlen : (txt u).length ≤ 1048576 := by
    have : (b.drop s.fr).length = (txt u).length + rs.length := by rw [hat, List.length_append]
    rw [List.length_drop] at this
    omega
  refine ⟨nrm u, by rw [hcut]; exact dout_written hw0 hu.full hu.rng hu.ok hlen, ?_⟩
  rw [(nrm_k hw0).1, hk]
  rfl
end Go.Proofs.YtdlnnnlmlaploabDoor
namespace Go.Proofs.YtdlnnnlmlaploabDoor
open Go.RowKit Go.Deep
/-! ### Places among the spans, and the parts of the tree: plain -/
theorem kids_mono {g : Nat → Nat → List Sp} : ∀ {n i : Nat}, i ≤ n → (kids g i).length ≤ (kids g n).length
  | 0, i, h => by obtain rfl : i = 0 := by omega
                  exact Nat.le_refl _
  | n + 1, i, h => by
    by_cases e : i = n + 1
    · subst e; exact Nat.le_refl _
    · refine Nat.le_trans (kids_mono (n := n) (i := i) (by omega)) ?_
      show _ ≤ (kids g n ++ g n _).length
      rw [List.length_append]
      omega
/-- where a child's spans stand -/
theorem kids_at {g : Nat → Nat → List Sp} : ∀ {n q : Nat} {y : Sp}, (kids g n)[q]? = some y → ∃ i q', i < n ∧ q = (kids g i).length + q' ∧ (g i (kids g i).length)[q']? = some y
  | 0, q, y, h => by simp [kids] at h
  | n + 1, q, y, h => by
    have h' : (kids g n ++ g n (kids g n).length)[q]? = some y := h
    by_cases hq : q < (kids g n).length
    · rw [List.getElem?_append_left hq] at h'
      obtain ⟨i, q', h1, h2, h3⟩ := kids_at h'
      exact ⟨i, q', by omega, h2, h3⟩
    · rw [List.getElem?_append_right (by omega)] at h'
      exact ⟨n, q - (kids g n).length, by omega, by omega, h'⟩
theorem kids_mem {g : Nat → Nat → List Sp} {n : Nat} {y : Sp} (h : y ∈ kids g n) : ∃ i, i < n ∧ y ∈ g i (kids g i).length ∧ (kids g i).length + (g i (kids g i).length).length ≤ (kids g n).length := by
  obtain ⟨q, hq⟩ := List.getElem?_of_mem h
  obtain ⟨i, q', h1, _, h3⟩ := kids_at hq
  refine ⟨i, h1, List.mem_of_getElem? h3, ?_⟩
  have := kids_mono (g := g) (n := n) (i := i + 1) (by omega)
  have e : (kids g (i + 1)).length = (kids g i).length + (g i (kids g i).length).length := by show (kids g i ++ g i _).length = _; rw [List.length_append]
  omega
/-- one child among its like -/
theorem kids_split {g : Nat → Nat → List Sp} {n i : Nat} (h : i < n) : ∃ R, kids g n = kids g i ++ g i (kids g i).length ++ R ∧ ∀ y ∈ R, ∃ j, i < j ∧ j < n ∧ y ∈ g j (kids g j).length ∧ (kids g (i + 1)).length ≤ (kids g j).length := by
  induction n with
  | zero => omega
  | succ n ih =>
    by_cases e : i = n
    · subst e
      exact ⟨[], by rw [List.append_nil]; rfl, fun y hy => by cases hy⟩
    · obtain ⟨R, h1, h2⟩ := ih (by omega)
      refine ⟨R ++ g n (kids g n).length, ?_, fun y hy => ?_⟩
      · show kids g n ++ g n _ = _
        rw [← List.append_assoc, ← h1]
      · rcases List.mem_append.1 hy with hy | hy
        · obtain ⟨j, a, b, c, d⟩ := h2 y hy
          exact ⟨j, a, by omega, c, d⟩
        · exact ⟨n, by omega, by omega, hy, kids_mono (by omega)⟩
/-- the spans of a list's elements, of a dictionary's values -/
abbrev gL (l : Nat → T) (here : Nat) (sp : Sp) (i m : Nat) : List Sp := walkT (l i) (here + 1 + m) { fr := sp.fr + 1 + (catN (fun i => txt (l i)) i).length, dep := sp.dep + 1, up := here, nth := i }
abbrev gD (l : Nat → T) (ln : Nat) (ky : Nat → ByteArray) (dv : Nat → T) (here : Nat) (sp : Sp) (i m : Nat) : List Sp := walkT (dv i) (here + 1 + (kids (gL l here sp) ln).length + m) { fr := sp.fr + 1 + (catN (fun i => txt (l i)) ln).length + (catN (fun i => wtx (ky i) ++ txt (dv i)) i).length + (wtx (ky i)).length, dep := sp.dep + 1, up := here, nth := i, key := ky i }
theorem walkT_mk (k n : Int) (s : ByteArray) (ln : Nat) (l : Nat → T) (dn : Nat) (ky : Nat → ByteArray) (dv : Nat → T) (here : Nat) (sp : Sp) :
    walkT (.mk k n s ln l dn ky dv) here sp = { sp with kind := k, to := sp.fr + (txt (.mk k n s ln l dn ky dv)).length } :: (kids (gL l here sp) ln ++ kids (gD l ln ky dv here sp) dn) := rfl
/-- what stands in a tree's spans behind its own lies below it or below one of these -/
theorem walk_up : ∀ (t : T) (here : Nat) (sp : Sp) (q : Nat) (y : Sp), (walkT t here sp)[q]? = some y → q = 0 ∨ ((here : Int) ≤ y.up ∧ y.up < ((here + (walkT t here sp).length : Nat) : Int) ∧ (y.up = (here : Int) ∨ ((here : Int) < y.up))) := by
  intro t
  induction t with
  | no => intro here sp q y h; simp [walkT] at h
  | mk k n s ln l dn ky dv il id =>
    intro here sp q y h
    rw [walkT_mk] at h ⊢
    cases q with
    | zero => exact .inl rfl
    | succ q =>
      refine .inr ?_
      rw [List.getElem?_cons_succ] at h
      rw [List.length_cons, List.length_append]
      by_cases hq : q < (kids (gL l here sp) ln).length
      · rw [List.getElem?_append_left hq] at h
        obtain ⟨i, q', h1, h2, h3⟩ := kids_at h
        have hm := kids_mono (g := gL l here sp) (n := ln) (i := i + 1) (by omega)
        have e : (kids (gL l here sp) (i + 1)).length = (kids (gL l here sp) i).length + (gL l here sp i (kids (gL l here sp) i).length).length := by show (kids (gL l here sp) i ++ gL l here sp i _).length = _; rw [List.length_append]
        rcases il i _ _ q' y h3 with rfl | ⟨a1, a2, _⟩
        · have hy : y.up = (here : Int) := by
            cases hli : l i with
            | no => unfold gL at h3; rw [hli] at h3; simp [walkT] at h3
            | mk k2 n2 s2 ln2 l2 dn2 ky2 dv2 =>
              unfold gL at h3
              rw [hli, walkT_mk] at h3
              simp only [List.getElem?_cons_zero, Option.some.injEq] at h3
              rw [← h3]
          rw [hy]
          exact ⟨Int.le_refl _, by omega, .inl rfl⟩
        · refine ⟨by omega, ?_, .inr (by omega)⟩
          have a3 : y.up < ((here + 1 + (kids (gL l here sp) i).length + (gL l here sp i (kids (gL l here sp) i).length).length : Nat) : Int) := a2
          omega
      · rw [List.getElem?_append_right (by omega)] at h
        obtain ⟨i, q', h1, h2, h3⟩ := kids_at h
        have hm := kids_mono (g := gD l ln ky dv here sp) (n := dn) (i := i + 1) (by omega)
        have e : (kids (gD l ln ky dv here sp) (i + 1)).length = (kids (gD l ln ky dv here sp) i).length + (gD l ln ky dv here sp i (kids (gD l ln ky dv here sp) i).length).length := by show (kids (gD l ln ky dv here sp) i ++ gD l ln ky dv here sp i _).length = _; rw [List.length_append]
        rcases id i _ _ q' y h3 with rfl | ⟨a1, a2, _⟩
        · have hy : y.up = (here : Int) := by
            cases hli : dv i with
            | no => unfold gD at h3; rw [hli] at h3; simp [walkT] at h3
            | mk k2 n2 s2 ln2 l2 dn2 ky2 dv2 =>
              unfold gD at h3
              rw [hli, walkT_mk] at h3
              simp only [List.getElem?_cons_zero, Option.some.injEq] at h3
              rw [← h3]
          rw [hy]
          exact ⟨Int.le_refl _, by omega, .inl rfl⟩
        · refine ⟨by omega, ?_, .inr (by omega)⟩
          have a3 : y.up < ((here + 1 + (kids (gL l here sp) ln).length + (kids (gD l ln ky dv here sp) i).length + (gD l ln ky dv here sp i (kids (gD l ln ky dv here sp) i).length).length : Nat) : Int) := a2
          omega
end Go.Proofs.YtdlnnnlmlaploabDoor
namespace Go.Proofs.YtdlnnnlmlaploabDoor
open Go.RowKit Go.Deep
/-- the spans of the tree u stand in L from the place r on; nothing behind them lies below one of these -/
def Seg (L : List Sp) (r : Nat) (u : T) (sp : Sp) : Prop :=
  ∃ X Y, L = X ++ walkT u r sp ++ Y ∧ X.length = r ∧ ∀ y ∈ Y, y.up < (r : Int) ∨ ((r + (walkT u r sp).length : Nat) : Int) ≤ y.up
theorem seg_root (t : T) (sp : Sp) : Seg (walkT t 0 sp) 0 t sp := ⟨[], [], by simp, rfl, fun y hy => by cases hy⟩
theorem seg_at {L : List Sp} {r : Nat} {k n : Int} {s : ByteArray} {ln : Nat} {l : Nat → T} {dn : Nat} {ky : Nat → ByteArray} {dv : Nat → T} {sp : Sp} (h : Seg L r (.mk k n s ln l dn ky dv) sp) : L[r]? = some { sp with kind := k, to := sp.fr + (txt (.mk k n s ln l dn ky dv)).length } := by
  obtain ⟨X, Y, h1, h2, _⟩ := h
  rw [h1, walkT_mk, List.append_assoc, List.getElem?_append_right (by omega), h2, Nat.sub_self]
  rfl
/-- a list's element -/
theorem seg_list {L : List Sp} {r : Nat} {k n : Int} {s : ByteArray} {ln : Nat} {l : Nat → T} {dn : Nat} {ky : Nat → ByteArray} {dv : Nat → T} {sp : Sp} (h : Seg L r (.mk k n s ln l dn ky dv) sp) {i : Nat} (hi : i < ln) :
    Seg L (r + 1 + (kids (gL l r sp) i).length) (l i) { fr := sp.fr + 1 + (catN (fun i => txt (l i)) i).length, dep := sp.dep + 1, up := r, nth := i } := by
  obtain ⟨X, Y, h1, h2, h3⟩ := h
  obtain ⟨R, hR, hR2⟩ := kids_split (g := gL l r sp) hi
  refine ⟨X ++ ({ sp with kind := k, to := sp.fr + (txt (.mk k n s ln l dn ky dv)).length } :: kids (gL l r sp) i), R ++ kids (gD l ln ky dv r sp) dn ++ Y, ?_, ?_, ?_⟩
  · rw [h1, walkT_mk, hR]
    simp [List.append_assoc]
  · rw [List.length_append, List.length_cons, h2]; omega
  · intro y hy
    have e1 : (kids (gL l r sp) (i + 1)).length = (kids (gL l r sp) i).length + (gL l r sp i (kids (gL l r sp) i).length).length := by show (kids (gL l r sp) i ++ gL l r sp i _).length = _; rw [List.length_append]
    have eW : (walkT (.mk k n s ln l dn ky dv) r sp).length = 1 + (kids (gL l r sp) ln).length + (kids (gD l ln ky dv r sp) dn).length := by rw [walkT_mk, List.length_cons, List.length_append]; omega
    have hm1 := kids_mono (g := gL l r sp) (n := ln) (i := i + 1) (by omega)
    show _ ∨ ((r + 1 + (kids (gL l r sp) i).length + (gL l r sp i (kids (gL l r sp) i).length).length : Nat) : Int) ≤ y.up
    rcases List.mem_append.1 hy with hy | hy
    · rcases List.mem_append.1 hy with hy | hy
      · obtain ⟨j, j1, j2, j3, j4⟩ := hR2 y hy
        obtain ⟨q, hq⟩ := List.getElem?_of_mem j3
        rcases walk_up (l j) _ _ q y hq with rfl | ⟨a1, _, _⟩
        · left
          cases hli : l j with
          | no => unfold gL at hq; rw [hli] at hq; simp [walkT] at hq
          | mk k2 n2 s2 ln2 l2 dn2 ky2 dv2 =>
            unfold gL at hq
            rw [hli, walkT_mk] at hq
            simp only [List.getElem?_cons_zero, Option.some.injEq] at hq
            rw [← hq]
            show (r : Int) < _
            omega
        · right; omega
      · obtain ⟨j, j1, j3, j4⟩ := kids_mem hy
        obtain ⟨q, hq⟩ := List.getElem?_of_mem j3
        rcases walk_up (dv j) _ _ q y hq with rfl | ⟨a1, _, _⟩
        · left
          cases hli : dv j with
          | no => unfold gD at hq; rw [hli] at hq; simp [walkT] at hq
          | mk k2 n2 s2 ln2 l2 dn2 ky2 dv2 =>
            unfold gD at hq
            rw [hli, walkT_mk] at hq
            simp only [List.getElem?_cons_zero, Option.some.injEq] at hq
            rw [← hq]
            show (r : Int) < _
            omega
        · right; omega
    · rcases h3 y hy with h | h
      · left; omega
      · right; rw [eW] at h; omega
/-- a dictionary's value -/
theorem seg_dict {L : List Sp} {r : Nat} {k n : Int} {s : ByteArray} {ln : Nat} {l : Nat → T} {dn : Nat} {ky : Nat → ByteArray} {dv : Nat → T} {sp : Sp} (h : Seg L r (.mk k n s ln l dn ky dv) sp) {i : Nat} (hi : i < dn) :
    Seg L (r + 1 + (kids (gL l r sp) ln).length + (kids (gD l ln ky dv r sp) i).length) (dv i) { fr := sp.fr + 1 + (catN (fun i => txt (l i)) ln).length + (catN (fun i => wtx (ky i) ++ txt (dv i)) i).length + (wtx (ky i)).length, dep := sp.dep + 1, up := r, nth := i, key := ky i } := by
  obtain ⟨X, Y, h1, h2, h3⟩ := h
  obtain ⟨R, hR, hR2⟩ := kids_split (g := gD l ln ky dv r sp) hi
  refine ⟨X ++ ({ sp with kind := k, to := sp.fr + (txt (.mk k n s ln l dn ky dv)).length } :: (kids (gL l r sp) ln ++ kids (gD l ln ky dv r sp) i)), R ++ Y, ?_, ?_, ?_⟩
  · rw [h1, walkT_mk, hR]
    simp [List.append_assoc]
  · rw [List.length_append, List.length_cons, List.length_append, h2]; omega
  · intro y hy
    have e1 : (kids (gD l ln ky dv r sp) (i + 1)).length = (kids (gD l ln ky dv r sp) i).length + (gD l ln ky dv r sp i (kids (gD l ln ky dv r sp) i).length).length := by show (kids (gD l ln ky dv r sp) i ++ gD l ln ky dv r sp i _).length = _; rw [List.length_append]
    have eW : (walkT (.mk k n s ln l dn ky dv) r sp).length = 1 + (kids (gL l r sp) ln).length + (kids (gD l ln ky dv r sp) dn).length := by rw [walkT_mk, List.length_cons, List.length_append]; omega
    have hm1 := kids_mono (g := gD l ln ky dv r sp) (n := dn) (i := i + 1) (by omega)
    show _ ∨ ((r + 1 + (kids (gL l r sp) ln).length + (kids (gD l ln ky dv r sp) i).length + (gD l ln ky dv r sp i (kids (gD l ln ky dv r sp) i).length).length : Nat) : Int) ≤ y.up
    rcases List.mem_append.1 hy with hy | hy
    · obtain ⟨j, j1, j2, j3, j4⟩ := hR2 y hy
      obtain ⟨q, hq⟩ := List.getElem?_of_mem j3
      rcases walk_up (dv j) _ _ q y hq with rfl | ⟨a1, _, _⟩
      · left
        cases hli : dv j with
        | no => unfold gD at hq; rw [hli] at hq; simp [walkT] at hq
        | mk k2 n2 s2 ln2 l2 dn2 ky2 dv2 =>
          unfold gD at hq
          rw [hli, walkT_mk] at hq
          simp only [List.getElem?_cons_zero, Option.some.injEq] at hq
          rw [← hq]
          show (r : Int) < _
          omega
      · right; omega
    · rcases h3 y hy with h | h
      · left; omega
      · right; rw [eW] at h; omega
/-- what lies right below a value is one of its parts -/
theorem seg_kid {L : List Sp} {r : Nat} {k n : Int} {s : ByteArray} {ln : Nat} {l : Nat → T} {dn : Nat} {ky : Nat → ByteArray} {dv : Nat → T} {sp : Sp} (h : Seg L r (.mk k n s ln l dn ky dv) sp) {j : Nat} {y : Sp} (hj : r < j) (hy : L[j]? = some y) (hu : y.up = (r : Int)) :
    (∃ i, i < ln ∧ j = r + 1 + (kids (gL l r sp) i).length ∧ y.nth = i ∧ y.key = ByteArray.empty) ∨ (∃ i, i < dn ∧ j = r + 1 + (kids (gL l r sp) ln).length + (kids (gD l ln ky dv r sp) i).length ∧ y.nth = i ∧ y.key = ky i) := by
  obtain ⟨X, Y, h1, h2, h3⟩ := h
  rw [h1, walkT_mk, List.append_assoc, List.getElem?_append_right (by omega), h2] at hy
  obtain ⟨q, hq⟩ : ∃ q, j - r = q + 1 := ⟨j - r - 1, by omega⟩
  rw [hq, List.cons_append, List.getElem?_cons_succ, List.append_assoc] at hy
  by_cases c1 : q < (kids (gL l r sp) ln).length
  · rw [List.getElem?_append_left c1] at hy
    obtain ⟨i, q', g1, g2, g3⟩ := kids_at hy
    rcases walk_up (l i) _ _ q' y g3 with rfl | ⟨a1, _, _⟩
    · refine .inl ⟨i, g1, by omega, ?_⟩
      cases hli : l i with
      | no => unfold gL at g3; rw [hli] at g3; simp [walkT] at g3
      | mk k2 n2 s2 ln2 l2 dn2 ky2 dv2 =>
        unfold gL at g3
        rw [hli, walkT_mk] at g3
        simp only [List.getElem?_cons_zero, Option.some.injEq] at g3
        rw [← g3]
        exact ⟨rfl, rfl⟩
    · omega
  · rw [List.getElem?_append_right (by omega)] at hy
    by_cases c2 : q - (kids (gL l r sp) ln).length < (kids (gD l ln ky dv r sp) dn).length
    · rw [List.getElem?_append_left c2] at hy
      obtain ⟨i, q', g1, g2, g3⟩ := kids_at hy
      rcases walk_up (dv i) _ _ q' y g3 with rfl | ⟨a1, _, _⟩
      · refine .inr ⟨i, g1, by omega, ?_⟩
        cases hli : dv i with
        | no => unfold gD at g3; rw [hli] at g3; simp [walkT] at g3
        | mk k2 n2 s2 ln2 l2 dn2 ky2 dv2 =>
          unfold gD at g3
          rw [hli, walkT_mk] at g3
          simp only [List.getElem?_cons_zero, Option.some.injEq] at g3
          rw [← g3]
          exact ⟨rfl, rfl⟩
      · omega
    · rw [List.getElem?_append_right (by omega)] at hy
      have := h3 y (List.mem_of_getElem? hy)
      rw [walkT_mk, List.length_cons, List.length_append] at this
      omega
end Go.Proofs.YtdlnnnlmlaploabDoor
namespace Go.Proofs.YtdlnnnlmlaploabDoor
open Go.RowKit Go.Deep
/-- the path leads down from t, whose text begins at fr and whose element or pair begins at fi, to u, with its own fr' and fi' -/
inductive Desc : T → Nat → Nat → List (Int × ByteArray) → T → Nat → Nat → Prop where
  | here {t : T} {fr fi : Nat} : Desc t fr fi [] t fr fi
  | list {n : Int} {s : ByteArray} {ln : Nat} {l : Nat → T} {dn : Nat} {ky : Nat → ByteArray} {dv : Nat → T} {fr fi i : Nat} {nm : Int} {key : ByteArray} {p : List (Int × ByteArray)} {u : T} {fr' fi' : Nat} : i < ln → nm = (i : Int) → Desc (l i) (fr + 1 + (catN (fun i => txt (l i)) i).length) (fr + 1 + (catN (fun i => txt (l i)) i).length) p u fr' fi' → Desc (.mk 3 n s ln l dn ky dv) fr fi ((nm, key) :: p) u fr' fi'
  | dict {n : Int} {s : ByteArray} {ln : Nat} {l : Nat → T} {dn : Nat} {ky : Nat → ByteArray} {dv : Nat → T} {fr fi i : Nat} {nm : Int} {key : ByteArray} {p : List (Int × ByteArray)} {u : T} {fr' fi' : Nat} : i < dn → key = ky i → Desc (dv i) (fr + 1 + (catN (fun i => wtx (ky i) ++ txt (dv i)) i).length + (wtx (ky i)).length) (fr + 1 + (catN (fun i => wtx (ky i) ++ txt (dv i)) i).length) p u fr' fi' → Desc (.mk 4 n s ln l dn ky dv) fr fi ((nm, key) :: p) u fr' fi'
theorem Desc.trans {t : T} {fr fi : Nat} {p : List (Int × ByteArray)} {u : T} {fr' fi' : Nat} (h : Desc t fr fi p u fr' fi') : ∀ {q : List (Int × ByteArray)} {v : T} {fr2 fi2 : Nat}, Desc u fr' fi' q v fr2 fi2 → Desc t fr fi (p ++ q) v fr2 fi2 := by
  induction h with
  | here => exact fun h => h
  | list h1 h2 _ ih => exact fun h => .list h1 h2 (ih h)
  | dict h1 h2 _ ih => exact fun h => .dict h1 h2 (ih h)
theorem vt_kinds {k n : Int} {s : ByteArray} {ln : Nat} {l : Nat → T} {dn : Nat} {ky : Nat → ByteArray} {dv : Nat → T} (h : VT (.mk k n s ln l dn ky dv)) : (k = 3 ∨ ln = 0) ∧ (k = 4 ∨ dn = 0) := by
  obtain ⟨_, _, _, _, o5, o6⟩ : 1 ≤ k ∧ k ≤ 4 ∧ (k = 1 ∨ n = 0) ∧ (k = 2 ∨ s.toList = []) ∧ (k = 3 ∨ ln = 0) ∧ (k = 4 ∨ dn = 0) := of_decide_eq_true h.1
  exact ⟨o5, o6⟩
/-- where the places of the spans lead, the tree's own parts lie -/
theorem Led.desc {t : T} {sp0 : Sp} (h0 : sp0.fr = 0) (hvt : VT t) (hfl : t.full) {p : List (Int × ByteArray)} {d r : Nat} (h : Led p ((walkT t 0 sp0).map Sp.v) d r) : ∃ u sp fi, Seg (walkT t 0 sp0) r u sp ∧ Desc t 0 0 (p.take d) u sp.fr fi ∧ VT u ∧ u.full := by
  induction h with
  | root => exact ⟨t, sp0, 0, seg_root t sp0, by rw [h0, List.take_zero]; exact .here, hvt, hfl⟩
  | @next d r r' n k y x _ h1 h2 h3 h4 h5 h6 _ ih =>
    obtain ⟨u, sp, fi, hs, hd, hv, hfu⟩ := ih
    rw [List.getElem?_map, Option.map_eq_some_iff] at h2 h5
    obtain ⟨y', hy', rfl⟩ := h2
    obtain ⟨x', hx', rfl⟩ := h5
    have htk : p.take (d + 1) = p.take d ++ [(n, k)] := by rw [List.take_add_one, h1]; rfl
    cases u with
    | no => exact hfu.elim
    | mk k2 n2 s2 ln l dn ky dv =>
      have hyk : y'.kind = k2 := by
        have := seg_at hs
        rw [hy'] at this
        rw [Option.some.inj this]
      obtain ⟨v1, v2⟩ := vt_kinds hv
      have hu : x'.up = (r : Int) := h6.1
      have hk34 : k2 = 3 ∨ k2 = 4 := by rw [← hyk]; exact h3
      have hm : (k2 = 3 ∧ ((x'.nth : Nat) : Int) = n) ∨ (k2 = 4 ∧ x'.key = k) := by
        rcases h6.2 with ⟨e, e2⟩ | ⟨e, e2⟩
        · exact .inl ⟨hyk.symm.trans e, e2⟩
        · exact .inr ⟨hyk.symm.trans e, e2⟩
      rcases seg_kid hs h4 hx' hu with ⟨i, i1, i2, i3, _⟩ | ⟨i, i1, i2, _, i4⟩
      · obtain rfl : k2 = 3 := by omega
        refine ⟨l i, _, sp.fr + 1 + (catN (fun i => txt (l i)) i).length, by rw [i2]; exact seg_list hs i1, ?_, hv.2.1 i i1, hfu.1 i i1⟩
        rw [htk]
        refine hd.trans (.list i1 ?_ .here)
        rcases hm with ⟨_, e⟩ | ⟨e, _⟩
        · rw [← e, i3]
        · cases e
      · obtain rfl : k2 = 4 := by omega
        obtain rfl : ln = 0 := by omega
        refine ⟨dv i, _, sp.fr + 1 + (catN (fun i => wtx (ky i) ++ txt (dv i)) i).length, by rw [i2]; exact seg_dict hs i1, ?_, (hv.2.2 i i1).2, hfu.2 i i1⟩
        rw [htk]
        refine hd.trans (.dict i1 ?_ ?_)
        · rcases hm with ⟨e, _⟩ | ⟨_, e⟩
          · cases e
          · rw [← e, i4]
        · show Desc (dv i) _ _ [] (dv i) (sp.fr + 1 + (catN (fun i => txt (l i)) 0).length + (catN (fun i => wtx (ky i) ++ txt (dv i)) i).length + (wtx (ky i)).length) _
          have e : sp.fr + 1 + (catN (fun i => txt (l i)) 0).length + (catN (fun i => wtx (ky i) ++ txt (dv i)) i).length + (wtx (ky i)).length = sp.fr + 1 + (catN (fun i => wtx (ky i) ++ txt (dv i)) i).length + (wtx (ky i)).length := by
            show sp.fr + 1 + 0 + _ + _ = _
            omega
          rw [e]
          exact .here
/-- the text of a part stands in the whole's -/
theorem Desc.text {t : T} {fr fi : Nat} {p : List (Int × ByteArray)} {u : T} {fr' fi' : Nat} (h : Desc t fr fi p u fr' fi') : fi ≤ fr → VT t → ∃ A B, txt t = A ++ txt u ++ B ∧ fr' = fr + A.length ∧ fi' ≤ fr' ∧ VT u := by
  induction h with
  | here => exact fun h1 h2 => ⟨[], [], by simp, rfl, h1, h2⟩
  | @list n s ln l dn ky dv fr fi i nm key p u fr' fi' h1 _ _ ih =>
    intro _ hv
    obtain ⟨A, B, e1, e2, e3, e4⟩ := ih (Nat.le_refl _) (hv.2.1 i h1)
    obtain ⟨z, hz⟩ := catN_split (g := fun i => txt (l i)) h1
    have e : txt (.mk 3 n s ln l dn ky dv) = 108 :: (catN (fun i => txt (l i)) ln ++ [101]) := rfl
    refine ⟨108 :: (catN (fun i => txt (l i)) i ++ A), B ++ z ++ [101], ?_, ?_, e3, e4⟩
    · rw [e, hz, e1]; simp
    · rw [e2, List.length_cons, List.length_append]; omega
  | @dict n s ln l dn ky dv fr fi i nm key p u fr' fi' h1 _ _ ih =>
    intro _ hv
    obtain ⟨A, B, e1, e2, e3, e4⟩ := ih (by omega) (hv.2.2 i h1).2
    obtain ⟨z, hz⟩ := catN_split (g := fun i => wtx (ky i) ++ txt (dv i)) h1
    have e : txt (.mk 4 n s ln l dn ky dv) = 100 :: (catN (fun i => wtx (ky i) ++ txt (dv i)) dn ++ [101]) := rfl
    refine ⟨100 :: (catN (fun i => wtx (ky i) ++ txt (dv i)) i ++ wtx (ky i) ++ A), B ++ z ++ [101], ?_, ?_, e3, e4⟩
    · rw [e, hz, e1]; simp
    · rw [e2, List.length_cons, List.length_append, List.length_append]; omega
end Go.Proofs.YtdlnnnlmlaploabDoor
namespace Go.Proofs.YtdlnnnlmlaploabDoor
open Go.RowKit Go.Deep
/-! ### Where an element or a pair begins -/
/-- what is told of the beginning of the element or pair -/
def FIo (K : List Vi) (v : Vi) : Prop := (v.up = -1 ∧ v.fi = 0) ∨ (0 ≤ v.up ∧ 0 ≤ v.fi ∧ ∃ y, K[v.up.toNat]? = some y ∧ ((y.kd = 3 ∧ v.fi = v.fr) ∨ (y.kd = 4 ∧ v.fi + ((wtx v.ky).length : Int) = v.fr)))
theorem FIo.mono {K L : List Vi} (hs : Sub K L) {v : Vi} (h : FIo K v) : FIo L v := by
  rcases h with h | ⟨h0, h00, y, h1, h2⟩
  · exact .inl h
  · obtain ⟨z, hz, e⟩ := hs _ y h1
    refine .inr ⟨h0, h00, z, hz, ?_⟩
    rw [e.kd]
    exact h2
/-- a key is a string -/
theorem leaf_str {b : List UInt8} {i j : Nat} {t : T} (hi : i ≤ b.length) (hlim : b.length ≤ 1048576) (hn : ¬ (byt b i = 105 ∨ byt b i = 108 ∨ byt b i = 100)) (h : leafO b i = .val t j) : (wtx t.s).length = j := by
  have h1 : byt b i ≠ 108 := fun e => hn (.inr (.inl e))
  have h2 : byt b i ≠ 100 := fun e => hn (.inr (.inr e))
  obtain ⟨_, q2, q3⟩ := leaf_val hi hlim h1 h2 h
  rcases q3 with e | e
  · exfalso
    by_cases hl : i < b.length
    · rw [leaf_eq hl h1 h2] at h
      unfold scal at h
      rw [bytDrop, Nat.add_zero, if_neg (fun e => hn (.inl e))] at h
      split at h
      · cases hs : strg (b.drop i) 0 with
        | bad p e => rw [hs] at h; cases h
        | ok s j' =>
          rw [hs] at h
          injection h with h3 _
          rw [e] at h3
          cases h3
      · cases h
    · rw [leaf_end (by omega)] at h; cases h
  · rw [e] at q2
    exact q2
def PVal : RS → Prop
  | .val (l :: _) i _ => 0 ≤ l.be ∧ ((l.kd = 3 ∧ l.be = (i : Int)) ∨ (l.kd = 4 ∧ l.be + ((wtx l.kk).length : Int) = (i : Int)))
  | _ => True
theorem Rch.firsts {b : List UInt8} (hlim : b.length ≤ 1048576) {go : List Vi → Bool} {h : List Vi} {s : RS} (H : Rch b go h s) : (∀ l ∈ s.ls, FIo (sk h) l.bg) ∧ PVal s := by
  induction H with
  | start => exact ⟨fun l hl => (by cases hl), trivial⟩
  | @value h ls i n v ls' i' hr hv _ ih =>
    obtain ⟨ih1, ih2⟩ := ih
    obtain ⟨f1, f2, f3, f4⟩ := vg_facts hlim hr hv
    obtain ⟨pn, pl⟩ := hr.places
    have pn' : (sk h).length = n := pn
    rw [sk_new (by rw [pn']; exact f1)]
    refine ⟨?_, by cases ls' <;> trivial⟩
    show ∀ l ∈ ls', FIo (sk h ++ [v]) l.bg
    have hk : LK (sk h) ls := hr.lk hlim
    have hvF : FIo (sk h) v := by
      have e : v.fi = (dueV ls i n).fi ∧ v.fr = (dueV ls i n).fr ∧ v.ky = (dueV ls i n).ky ∧ v.up = (dueV ls i n).up := by
        rcases hv with ⟨t, j, _, _, _, rfl, _, _⟩ | ⟨_, _, c3, _, _⟩
        · exact ⟨rfl, rfl, rfl, rfl⟩
        · rcases c3 with ⟨_, rfl⟩ | ⟨_, rfl⟩ <;> exact ⟨rfl, rfl, rfl, rfl⟩
      obtain ⟨e1, e2, e3, e4⟩ := e
      unfold FIo
      rw [e1, e2, e3, e4]
      cases ls with
      | nil => exact .inl ⟨rfl, rfl⟩
      | cons l r =>
        obtain ⟨⟨_, _, k3, y, k4, k5⟩, k6⟩ := hk
        refine .inr ⟨by show 0 ≤ l.pl; have := k6.up; omega, ih2.1, y, k4, ?_⟩
        have hyk : y.kd = l.kd := k5.kd
        rw [hyk]
        exact ih2.2
    rcases f4 with ⟨_, rfl⟩ | ⟨_, rfl, _, hbg⟩
    · exact fun l hl => (ih1 l hl).mono (sub_app _ _)
    · intro l hl
      rcases List.mem_cons.1 hl with rfl | hl
      · rw [hbg]; exact hvF.mono (sub_app _ _)
      · exact (ih1 l hl).mono (sub_app _ _)
  | @part h l r i n l' i' hr _ hp ih =>
    obtain ⟨ih1, _⟩ := ih
    have hi : i ≤ b.length := (hr.ok hlim).1
    have e := part_same hp
    refine ⟨fun x hx => ?_, ?_⟩
    · rcases List.mem_cons.1 hx with rfl | hx
      · rw [e]; exact ih1 l (by simp [RS.ls])
      · exact ih1 x (by simp [RS.ls, hx])
    · rcases hp with ⟨c1, rfl, rfl⟩ | ⟨c1, c2, t, j, c3, _, rfl, rfl⟩
      · exact ⟨Int.natCast_nonneg _, .inl ⟨c1, rfl⟩⟩
      · refine ⟨Int.natCast_nonneg _, .inr ⟨c1, ?_⟩⟩
        have := leaf_str hi hlim c2 c3
        show (i : Int) + ((wtx t.s).length : Int) = ((i + j : Nat) : Int)
        omega
  | @close h l r i n hr _ _ _ ih =>
    obtain ⟨ih1, _⟩ := ih
    obtain ⟨pn, pl⟩ := hr.places
    have pn' : (sk h).length = n := pn
    have hl := pl l (by simp [RS.ls])
    have hl2 : l.pl < (n : Int) := hl.2
    rw [sk_old (v := endV l i) (k := l.pl.toNat) (by show l.pl = _; omega) (by omega)]
    refine ⟨fun x hx => (ih1 x (by simp [RS.ls]; exact .inr hx)).mono (sub_modify _ _ _), trivial⟩
/-- what is shown next has its beginning told -/
theorem vg_first {b : List UInt8} (hlim : b.length ≤ 1048576) {go : List Vi → Bool} {h : List Vi} {ls : List Lv} {i n : Nat} {v : Vi} {ls' : List Lv} {i' : Nat} (hr : Rch b go h (.val ls i n)) (hv : VG b ls i n v ls' i') : FIo (sk h) v := by
  have hk : LK (sk h) ls := hr.lk hlim
  have ih2 := (hr.firsts hlim).2
  have e : v.fi = (dueV ls i n).fi ∧ v.fr = (dueV ls i n).fr ∧ v.ky = (dueV ls i n).ky ∧ v.up = (dueV ls i n).up := by
    rcases hv with ⟨t, j, _, _, _, rfl, _, _⟩ | ⟨_, _, c3, _, _⟩
    · exact ⟨rfl, rfl, rfl, rfl⟩
    · rcases c3 with ⟨_, rfl⟩ | ⟨_, rfl⟩ <;> exact ⟨rfl, rfl, rfl, rfl⟩
  obtain ⟨e1, e2, e3, e4⟩ := e
  unfold FIo
  rw [e1, e2, e3, e4]
  cases ls with
  | nil => exact .inl ⟨rfl, rfl⟩
  | cons l r =>
    obtain ⟨⟨_, _, k3, y, k4, k5⟩, k6⟩ := hk
    refine .inr ⟨by show 0 ≤ l.pl; have := k6.up; omega, ih2.1, y, k4, ?_⟩
    have hyk : y.kd = l.kd := k5.kd
    rw [hyk]
    exact ih2.2
/-- where follow ends, the beginning of the element or pair is told -/
theorem Fin.first {b : List UInt8} (hlim : b.length ≤ 1048576) {p : List (Int × ByteArray)} {h : List Vi} {pp e0 : Int} (H : Fin b (goF p) h pp e0) {t : T} {k : Nat} (hd : DOUT b t k 0) : FIo ((walkT t 0 (dueS [])).map Sp.v) (fwF p h).1 := by
  have bad : ∀ {h : List Vi} {pp er : Int}, Fin b gT h pp er → er = 0 := fun hF => by
    obtain ⟨t', k', _, hd', _⟩ := hF.out hlim
    exact (DOUT.unique hd hd').2.2.symm
  cases H with
  | @vstop h ls i n v ls' i' hr hv hg =>
    have hg' : (fw p (fwF p h).1 v).2 = false := by rw [← fwF_snoc]; exact hg
    have hx := (Rch.value hr.free hv rfl).ext hlim hd
    have hsub : Sub (sk (h ++ [v])) ((walkT t 0 (dueS [])).map Sp.v) := fun j y hy => by obtain ⟨z, g1, g2, _⟩ := hx.old j y hy; exact ⟨z, g1, g2⟩
    obtain ⟨f1, f2, f3, f4⟩ := vg_facts hlim hr hv
    obtain ⟨pn, pl⟩ := hr.places
    have pn' : (sk h).length = n := pn
    have hk : LK (sk h) ls := hr.lk hlim
    have ih' : (sk h = [] ∧ ls = [] ∧ (fwF p h).1 = fw0) ∨ FI p (sk h) (fwF p h).1 ls := by
      rcases hr.fi hlim with ⟨rfl, e⟩ | ih
      · injection e with e1
        exact .inl ⟨rfl, e1, rfl⟩
      · exact .inr ih
    rcases fw_value (p := p) ih' hk (fun l hl => by rw [pn']; exact (pl l hl).2) (by rw [pn']; exact f1) f2 f3 with ⟨e, _⟩ | ⟨e, _⟩
    · rw [fwF_snoc, e]
      have h1 := (vg_first hlim hr hv).mono (sub_app (sk h) [v])
      rw [← sk_new (h := h) (v := v) (by rw [pn']; exact f1)] at h1
      exact h1.mono hsub
    · rw [e] at hg'; cases hg'
  | @estop h l r i n hr hi hb hg =>
    rcases hr.fi hlim with ⟨_, e⟩ | ih
    · cases e
    · have hk : LK (sk h) (l :: r) := hr.lk hlim
      obtain ⟨pn, pl⟩ := hr.places
      have pn' : (sk h).length = n := pn
      have hl := pl l (by simp [RS.ls])
      have hl2 : l.pl < (n : Int) := hl.2
      have hg' : (fw p (fwF p h).1 (endV l i)).2 = false := by rw [← fwF_snoc]; exact hg
      have hsk : sk (h ++ [endV l i]) = (sk h).modify l.pl.toNat fun x => { x with to := (endV l i).to } := sk_old (by show l.pl = _; omega) (by omega)
      have hx := (Rch.close hr.free hi hb rfl).ext hlim hd
      have hsub : Sub (sk (h ++ [endV l i])) ((walkT t 0 (dueS [])).map Sp.v) := fun j y hy => by obtain ⟨z, g1, g2, _⟩ := hx.old j y hy; exact ⟨z, g1, g2⟩
      rcases fw_close (i := i) (show FI p (sk h) (fwF p h).1 (l :: r) from ih) hk with ⟨e, _⟩ | ⟨e, _⟩
      · rw [fwF_snoc, e]
        have h1 : FIo (sk h) (endV l i) := (hr.firsts hlim).1 l (by simp [RS.ls])
        have h2 := h1.mono (sub_modify (sk h) l.pl.toNat (endV l i).to)
        rw [← hsk] at h2
        exact h2.mono hsub
      · rw [e] at hg'; cases hg'
  | vbad hr hz hv => exact absurd (bad (.vbad hr.free hz hv)) hz
  | pbad hr hb hp =>
    have e := bad (.pbad hr.free hb hp)
    subst e
    rcases hp.2 with ⟨_, e, _⟩ | ⟨_, ⟨_, _, e, _⟩ | ⟨_, _, _, _, _, e, _⟩⟩
    · cases e
    · exact absurd rfl e
    · cases e
  | trail hr hi => exact absurd (bad (.trail hr.free hi)) (by decide)
  | done hr hi =>
    rcases hr.fi hlim with ⟨_, e⟩ | ⟨u, l, r, e, _⟩
    · cases e
    · have := congrArg List.length e
      simp [RS.ls] at this
end Go.Proofs.YtdlnnnlmlaploabDoor
namespace Go.Proofs.YtdlnnnlmlaploabDoor
open Go.RowKit Go.Deep
/-! ### slices.Grow and slices.Concat of texts -/
theorem grow_own (n : Nat) (w : World) (hn : n ≤ 4194304) (cs : Array Value) (hc : cs.size = grownCap w n 0 5) : OW w.heap.size (w.drew.alloc (.cells cs 5)) (.slice (some ⟨w.heap.size, 0, none⟩) 0 (grownCap w n 0 5)) [] := by
  refine ⟨rfl, .inr ⟨w.heap.size, grownCap w n 0 5, cs, rfl, Nat.le_refl _, heap_new w.drew _, Nat.zero_le _, grownCap_le_maxLen w n 0 5 (by unfold maxLen; omega), by rw [hc, Nat.mul_one], by simp [Lib.byteCells]⟩⟩
set_option maxRecDepth 10000 in
set_option maxHeartbeats 1000000 in
theorem grow54 (n : Nat) (w : World) (hn : n ≤ 4194304) :
    Calls Tryd.prog 54 #[.slice none 0 0, .int .i64 n] w fun e w' => ∃ v, e = .returned v ∧ OW w.heap.size w' v [] ∧ Below w.heap.size w w' := by
  by_cases h0 : n = 0
  · subst h0
    go_enter Tryd.func54, Tryd.ntmps54
    go_wp2
    go_ret
    exact ⟨_, rfl, ow_nil _ _, Below.refl _ _⟩
  · have h1 : (0 : Int) < (n : Int) := by omega
    have h2 : ¬ (n : Int) < 0 := by omega
    have hrun : ∃ cs : Array Value, cs.size = grownCap w n 0 5 ∧ (Builtin.append_ #[22, 3] 22 #[.slice none 0 0, .int .i64 n]).run Tryd.prog w = .ok (.slice (some ⟨w.heap.size, 0, none⟩) n (grownCap w n 0 5)) (w.drew.alloc (.cells cs 5)) := by
      obtain ⟨i0, hi, hz0, hz1, hz2⟩ := info_parts info5
      have hg := grownCap_ge w n 0 5
      exact ⟨_, by rw [Array.size_append, size_zeroCells, size_zeroCells]; show n * 1 + (grownCap w n 0 5 - n) * 1 = _; omega, Lib.run_append_nil_zeros w 22 3 22 5 i0 _ .i64 .i64 Tryd.underlying22 Tryd.underlying3 hi hz0 n (by omega) (by rw [hz1]; omega) (by omega) (by rw [hz2]; omega)⟩
    obtain ⟨cs, hcs, hrun⟩ := hrun
    have hg := grownCap_ge w n 0 5
    have HO := Lib.hid (grow_own n w hn cs hcs)
    have HB : Hid (Below w.heap.size w (w.drew.alloc (.cells cs 5))) := ((⟨rfl, rfl, rfl, Nat.le_refl _, fun _ _ => rfl⟩ : Below w.heap.size w w.drew).alloc (Nat.le_refl _) _)
    generalize grownCap w n 0 5 = cp at *
    go_enter Tryd.func54, Tryd.ntmps54
    go_wp2_with (at_builtin; refine Lib.wpList_append_run _ rfl _ _ _ _ rfl _ _ rfl rfl _ _ hrun ?_)
    go_wp2
    go_ret
    exact ⟨_, rfl, HO.out, HB.out⟩
end Go.Proofs.YtdlnnnlmlaploabDoor
namespace Go.Proofs.YtdlnnnlmlaploabDoor
open Go.RowKit Go.Deep
/-- texts in a row -/
def RowB (w : World) (vb : Nat) (xs : List (Value × List UInt8)) : Prop := vb < w.heap.size ∧ ∀ (i : Nat) (x : Value × List UInt8), xs[i]? = some x → w.cell? ⟨vb, i, none⟩ = some x.1 ∧ RB w x.1 x.2 ∧ (x.1 = .slice none 0 0 ∨ ∃ ad n c, x.1 = .slice (some ad) n c)
theorem RowB.keep {w w' : World} {vb : Nat} {xs : List (Value × List UInt8)} (h : RowB w vb xs) (hb : Below w.heap.size w w') : RowB w' vb xs :=
  ⟨Nat.lt_of_lt_of_le h.1 hb.size, fun i x hx => by
    obtain ⟨h1, h2, h3⟩ := h.2 i x hx
    exact ⟨(World.cell?_of_block (w := w) (hb.block vb h.1)).trans h1, h2.keep hb, h3⟩⟩
/-- one behind the other -/
def cats (xs : List (Value × List UInt8)) : List UInt8 := (xs.map (·.2)).flatten
theorem cats_snoc {xs : List (Value × List UInt8)} {k : Nat} {x : Value × List UInt8} (h : xs[k]? = some x) : cats (xs.take (k + 1)) = cats (xs.take k) ++ x.2 := by
  unfold cats
  rw [List.take_add_one, h]
  simp
theorem cats_le (xs : List (Value × List UInt8)) (k : Nat) : (cats (xs.take k)).length ≤ (cats xs).length := by
  have e : cats xs = cats (xs.take k) ++ cats (xs.drop k) := by
    unfold cats
    rw [← List.flatten_append, ← List.map_append, List.take_append_drop]
  rw [e, List.length_append]
  omega
set_option maxRecDepth 10000 in
set_option maxHeartbeats 2000000 in
theorem concat35 (vb c : Nat) (xs : List (Value × List UInt8)) (w : World) (h : RowB w vb xs) (hl : (cats xs).length ≤ 4194304) (hx : xs.length ≤ 16) :
    Calls Tryd.prog 35 #[.slice (some ⟨vb, 0, none⟩) xs.length c] w fun e w' => ∃ v, e = .returned v ∧ OW w.heap.size w' v (cats xs) ∧ Below w.heap.size w w' := by
  have HR := Lib.hid h
  clear h
  go_enter Tryd.func35, Tryd.ntmps35
  go_wp2
  go_loopw [3, 11] (fun sz i wr => ∃ k nq : Nat, k ≤ xs.length ∧ sz = .int .i64 ((cats (xs.take k)).length : Nat) ∧ i = .int .i64 k ∧ wr = w.drewN nq) (fun _ i _ => xs.length - (intOf i).toNat)
  case atStart => exact ⟨0, 0, Nat.zero_le _, rfl, rfl, rfl⟩
  case round =>
    obtain ⟨k, nq, hk, rfl, rfl, rfl⟩ := hrel
    have hle := cats_le xs k
    by_cases hlt : k < xs.length
    · obtain ⟨⟨v, l⟩, hxk⟩ : ∃ x, xs[k]? = some x := ⟨_, List.getElem?_eq_getElem hlt⟩
      obtain ⟨h1, h2, _⟩ := HR.out.2 k _ hxk
      dsimp only at h1 h2
      obtain ⟨a, c', rfl, _⟩ := h2
      have hcs := cats_snoc hxk
      have hle2 := cats_le xs (k + 1)
      rw [hcs, List.length_append] at hle2
      have k0 : (0 : Int) ≤ (k : Int) := by omega
      have k1 : (k : Int) < (xs.length : Int) := by omega
      dsimp only at hcs hle2
      have HCS := Lib.hid hcs
      generalize hS : (cats (xs.take k)).length = S at *
      have s1 : ¬ ((S : Int) + (l.length : Int)) < 0 := by omega
      clear hxk hcs
      go_wp2
      exact ⟨⟨k + 1, nq, by omega, by rw [HCS.out, List.length_append, hS]; go_num, by go_num, rfl⟩, by simp [intOf]; omega⟩
    · have hk' : ¬ (k : Int) < (xs.length : Int) := by omega
      obtain rfl : k = xs.length := by omega
      rw [List.take_length]
      have HR2 : Hid (RowB (w.drewN nq) vb xs ∧ Below w.heap.size w (w.drewN nq)) := ⟨HR.out.keep ⟨rfl, rfl, rfl, Nat.le_refl _, fun _ _ => rfl⟩, ⟨rfl, rfl, rfl, Nat.le_refl _, fun _ _ => rfl⟩⟩
      go_wp2_with fail
      refine (grow54 (cats xs).length _ hl).mono ?_
      rintro e w1 ⟨v1, rfl, ho1, hb1⟩
      have H1 : Hid (RowB w1 vb xs ∧ Below w.heap.size w w1 ∧ OW w.heap.size w1 v1 []) := by
        obtain ⟨q1, q2⟩ := HR2.out
        exact ⟨q1.keep hb1, q2.trans (hb1.mono q2.size), ow_low (Nat.le_refl _) ho1⟩
      obtain ⟨a1, c1, rfl⟩ := ho1.form'
      clear ho1 hb1 HR2 hle hlt hk
      go_wp2
      go_loopw [6, 27] (fun nv i wr => ∃ (k : Nat) (aa : Option Addr) (cp : Nat), k ≤ xs.length ∧ nv = .slice aa (cats (xs.take k)).length cp ∧ i = .int .i64 k ∧ Hid (RowB wr vb xs ∧ Below w.heap.size w wr ∧ OW w.heap.size wr nv (cats (xs.take k)))) (fun _ i _ => xs.length - (intOf i).toNat)
      case atStart => exact ⟨0, a1, c1, Nat.zero_le _, rfl, rfl, H1⟩
      case round =>
        obtain ⟨k, aa, cp, hk, rfl, rfl, HJ⟩ := hrel
        by_cases hlt : k < xs.length
        · obtain ⟨⟨v, l⟩, hxk⟩ : ∃ x, xs[k]? = some x := ⟨_, List.getElem?_eq_getElem hlt⟩
          obtain ⟨h1, h2, h3⟩ := HJ.out.1.2 k _ hxk
          dsimp only at h1 h2 h3
          have HV := Lib.hid (And.intro h2 h3)
          obtain ⟨a, c', rfl, _⟩ := h2
          have hcs := cats_snoc hxk
          have hle2 := cats_le xs (k + 1)
          rw [hcs, List.length_append] at hle2
          dsimp only at hcs hle2
          have HCS := Lib.hid hcs
          have k0 : (0 : Int) ≤ (k : Int) := by omega
          have k1 : (k : Int) < (xs.length : Int) := by omega
          clear hxk hcs h3
          go_wp2_with (at_builtin; (refine append_bl (l := cats (xs.take k)) (m := l) (B := w.heap.size) (sv := .slice aa (cats (xs.take k)).length cp) (v := .slice a l.length c') rfl _ _ rfl rfl HJ.out.2.2 rfl HV.out.1 HV.out.2 HJ.out.2.1.size (by omega) ?_); intro v8 w8 ho8 hb8; have O8 : Hid (RowB w8 vb xs ∧ Below w.heap.size w w8 ∧ OW w.heap.size w8 v8 (cats (xs.take k) ++ l)) := ⟨HR.out.keep (HJ.out.2.1.trans hb8), HJ.out.2.1.trans hb8, ho8⟩; obtain ⟨a8, c8, rfl⟩ := ho8.form'; clear ho8 hb8)
          go_wp2
          refine ⟨⟨k + 1, a8, c8, by omega, by rw [HCS.out, List.length_append], by go_num, ?_⟩, by simp [intOf]; omega⟩
          rw [HCS.out]
          have := O8.out
          rw [List.length_append] at this
          exact Lib.hid this
        · have hk' : ¬ (k : Int) < (xs.length : Int) := by omega
          obtain rfl : k = xs.length := by omega
          go_wp2
          go_ret
          exact ⟨_, rfl, by have := HJ.out.2.2; rw [List.take_length] at this; exact this, HJ.out.2.1⟩
end Go.Proofs.YtdlnnnlmlaploabDoor
namespace Go.Proofs.YtdlnnnlmlaploabDoor
open Go.RowKit Go.Deep
/-! ### The program's Cut -/
def CUTP (b : List UInt8) (p : List (Int × ByteArray)) (B : Nat) (w : World) (v : Value) (er : Int) : Prop :=
  ∃ x e0, FND b p x e0 ∧ ((e0 ≠ 0 ∧ er = e0 ∧ v = .slice none 0 0) ∨ (e0 = 0 ∧ p = [] ∧ er = 35 ∧ v = .slice none 0 0) ∨
    (e0 = 0 ∧ p ≠ [] ∧ er = 0 ∧ ∃ (q : Vi) (f U : Nat) (t : T) (k : Nat), DOUT b t k 0 ∧ FIo ((walkT t 0 (dueS [])).map Sp.v) q ∧ Eq6 q x ∧ q.fi = (f : Int) ∧ x.to = (U : Int) ∧ f ≤ U ∧ OW B w v (b.take f ++ b.drop U)))
theorem FIo.nat {K : List Vi} {v : Vi} {F : Nat} (h : FIo K v) (hF : v.fr = (F : Int)) : ∃ f : Nat, v.fi = (f : Int) ∧ f ≤ F := by
  rcases h with ⟨_, h⟩ | ⟨_, h0, y, _, ⟨_, h⟩ | ⟨_, h⟩⟩
  · exact ⟨0, h, Nat.zero_le _⟩
  · exact ⟨F, by rw [h, hF], Nat.le_refl _⟩
  · exact ⟨v.fi.toNat, by omega, by omega⟩
theorem rb_take {w : World} {b : List UInt8} {g o c f : Nat} (hcc : b.length ≤ c) (h2 : f ≤ b.length) (hg : g < w.heap.size) (hc : ∀ i, i < b.length → w.cell? ⟨g, o + i, none⟩ = some (.int .u8 ((byt b i).toNat : Int))) : RB w (.slice (some ⟨g, o, none⟩) f c) (b.take f) := by
  have hl : (b.take f).length = f := by rw [List.length_take]; omega
  refine ⟨_, c, by rw [hl], by omega, .inr ⟨g, o, rfl, hg, fun i hi => ?_⟩⟩
  rw [hl] at hi
  rw [hc i (by omega)]
  have e : byt (b.take f) i = byt b i := by
    unfold byt
    simp [List.getD, hi]
  rw [e]
theorem rb_drop {w : World} {b : List UInt8} {g o c U : Nat} (hcc : b.length ≤ c) (h2 : U ≤ b.length) (hg : g < w.heap.size) (hc : ∀ i, i < b.length → w.cell? ⟨g, o + i, none⟩ = some (.int .u8 ((byt b i).toNat : Int))) : RB w (.slice (some ⟨g, o + U, none⟩) (b.length - U) (c - U)) (b.drop U) := by
  have hl : (b.drop U).length = b.length - U := by rw [List.length_drop]
  refine ⟨_, c - U, by rw [hl], by omega, .inr ⟨g, o + U, rfl, hg, fun i hi => ?_⟩⟩
  rw [hl] at hi
  rw [Nat.add_assoc, hc (U + i) (by omega)]
  have e : byt (b.drop U) i = byt b (U + i) := by
    unfold byt
    simp [List.getD, List.getElem?_drop]
  rw [e]
/-- behind a part of a list or dictionary something stands -/
theorem Desc.behind {t : T} {fr fi : Nat} {p : List (Int × ByteArray)} {u : T} {fr' fi' : Nat} (h : Desc t fr fi p u fr' fi') (hp : p ≠ []) (hv : VT t) : ∃ A B, txt t = A ++ txt u ++ B ∧ fr' = fr + A.length ∧ B ≠ [] := by
  cases h with
  | here => exact absurd rfl hp
  | @list n s ln l dn ky dv fr fi i nm key p u fr' fi' h1 _ h2 =>
    obtain ⟨A, B, e1, e2, _, _⟩ := h2.text (Nat.le_refl _) (hv.2.1 i h1)
    obtain ⟨z, hz⟩ := catN_split (g := fun i => txt (l i)) h1
    have e : txt (.mk 3 n s ln l dn ky dv) = 108 :: (catN (fun i => txt (l i)) ln ++ [101]) := rfl
    refine ⟨108 :: (catN (fun i => txt (l i)) i ++ A), B ++ z ++ [101], ?_, ?_, by simp⟩
    · rw [e, hz, e1]; simp
    · rw [e2, List.length_cons, List.length_append]; omega
  | @dict n s ln l dn ky dv fr fi i nm key p u fr' fi' h1 _ h2 =>
    obtain ⟨A, B, e1, e2, _, _⟩ := h2.text (by omega) (hv.2.2 i h1).2
    obtain ⟨z, hz⟩ := catN_split (g := fun i => wtx (ky i) ++ txt (dv i)) h1
    have e : txt (.mk 4 n s ln l dn ky dv) = 100 :: (catN (fun i => wtx (ky i) ++ txt (dv i)) dn ++ [101]) := rfl
    refine ⟨100 :: (catN (fun i => wtx (ky i) ++ txt (dv i)) i ++ wtx (ky i) ++ A), B ++ z ++ [101], ?_, ?_, by simp⟩
    · rw [e, hz, e1]; simp
    · rw [e2, List.length_cons, List.length_append, List.length_append]; omega
theorem FND.before {b : List UInt8} {p : List (Int × ByteArray)} {x : Vi} (h : FND b p x 0) (hp : p ≠ []) : x.to < (b.length : Int) := by
  obtain ⟨t, k, e0, hd, h⟩ := h
  rcases h with ⟨he, _, e⟩ | ⟨rfl, ⟨_, r, hl, hx⟩ | ⟨hne, _⟩⟩
  · exact absurd e.symm he
  · obtain ⟨h1, h2, h3⟩ := dout_txt hd
    have hvt := vt_of_wk t _ h2.1
    have e : SL t 0 = (walkT t 0 (dueS [])).map Sp.v := if_pos rfl
    rw [e] at hl hx
    obtain ⟨u, sp, fi, hs, hD, hv, hfu⟩ := hl.desc rfl hvt (dout_full hd)
    rw [List.take_length] at hD
    obtain ⟨A, B, e1, e2, e3⟩ := hD.behind hp hvt
    cases u with
    | no => exact hfu.elim
    | mk k2 n2 s2 ln l dn ky dv =>
      have := seg_at hs
      rw [List.getElem?_map, this] at hx
      simp only [Option.map_some, Option.some.injEq] at hx
      rw [← hx]
      show ((sp.fr + (txt (.mk k2 n2 s2 ln l dn ky dv)).length : Nat) : Int) < _
      have hB := List.length_pos_iff.2 e3
      rw [h1, e1, List.length_append, List.length_append]
      omega
  · exact absurd rfl hne
set_option maxRecDepth 10000 in
set_option maxHeartbeats 2000000 in
theorem cut20 (a : Option Addr) (c : Nat) (b : List UInt8) (w : World) (pa : Option Addr) (pc : Nat) (p : List (Int × ByteArray)) (hr : RB w (.slice a b.length c) b) (hev : EVw w) (hP : PSA w.heap.size w (.slice pa p.length pc) p) (hp : p.length ≤ 140737488351232) :
    Calls Tryd.prog 20 #[.slice a b.length c, .slice pa p.length pc] w fun e w' => ∃ v er, e = .returned (.tuple #[v, .int .i64 er]) ∧ CUTP b p w.heap.size w' v er ∧ Below w.heap.size w w' := by
  have HC := Lib.hid (find19 a c b w pa p.length pc p hr hev hP hp)
  have HR := Lib.hid hr
  clear hr hev hP
  go_enter Tryd.func20, Tryd.ntmps20
  go_wp2_with fail
  refine HC.out.mono ?_
  rintro e w1 ⟨t, k, er, hd, hb1, hcase⟩
  have HB := Lib.hid hb1
  clear HC
  rcases hcase with ⟨he, rfl⟩ | ⟨rfl, h, pp, e0, hF, rfl⟩
  · have he' : (er != 0) = true := by simpa using he
    have HF : Hid (FND b p vz er) := ⟨t, k, er, hd, .inl ⟨he, rfl, rfl⟩⟩
    clear hd hb1 HR
    go_wp2
    go_ret2
    exact ⟨_, er, rfl, ⟨vz, er, HF.out, .inl ⟨he, rfl, rfl⟩⟩, HB.out.alloc HB.out.size _⟩
  · have hpl := follow_plain hF hd
    have hfst := hF.first (dout_txt hd).2.2 hd
    obtain ⟨⟨qkd, qfr, qto, qdp, qup, qnt, qky, qpl, qfi⟩, hq⟩ : ∃ q, (fwF p h).1 = q := ⟨_, rfl⟩
    rw [hq] at hpl hfst ⊢
    rcases hpl with ⟨hdp, x, hf, heq, hto⟩ | ⟨hdp, hf⟩
    · rw [if_pos hdp]
      by_cases hp0 : p = []
      · subst hp0
        have HF : Hid (FND b [] x 0) := hf
        clear hd hb1 HR hf hF hq hdp heq hto hfst
        go_wp2
        go_ret2
        exact ⟨_, 35, rfl, ⟨x, 0, HF.out, .inr (.inl ⟨rfl, rfl, rfl, rfl⟩)⟩, HB.out.alloc HB.out.size _⟩
      · obtain ⟨⟨F, U, hF', hU, hFU, hUb⟩, hlim⟩ := hf.inn
        have q1 : qfr = (F : Int) := heq.fr.symm.trans hF'
        have q2 : qto = (U : Int) := hto.symm.trans hU
        subst q1 q2
        obtain ⟨f, hfi, hfF⟩ := hfst.nat (F := F) rfl
        obtain rfl : qfi = (f : Int) := hfi
        have hpl0 : (p.length : Int) ≠ 0 := by
          have := List.length_pos_iff.2 hp0
          omega
        have hpl' : ((p.length : Int) == 0) = false := beq_eq_false_iff_ne.2 hpl0
        have hpn : p.length ≠ 0 := by omega
        have b1 : Below w.heap.size w (w1.alloc (Obj.cells #[.int .i64 qkd, .int .i64 F, .int .i64 U, .int .i64 qdp, .int .i64 qup, .int .i64 qnt, .string qky, .int .i64 qpl, .int .i64 f] 60)) := hb1.alloc hb1.size _
        have hUl : U < b.length := by have := hf.before hp0; omega
        have HX : Hid (FND b p x 0 ∧ p ≠ [] ∧ DOUT b t k 0 ∧ FIo ((walkT t 0 (dueS [])).map Sp.v) ⟨qkd, F, U, qdp, qup, qnt, qky, qpl, f⟩ ∧ Eq6 ⟨qkd, F, U, qdp, qup, qnt, qky, qpl, f⟩ x ∧ x.to = (U : Int) ∧ f ≤ U ∧ U ≤ b.length ∧ b.length ≤ 1048576 ∧ Below w.heap.size w (w1.alloc (Obj.cells #[.int .i64 qkd, .int .i64 F, .int .i64 U, .int .i64 qdp, .int .i64 qup, .int .i64 qnt, .string qky, .int .i64 qpl, .int .i64 f] 60))) := ⟨hf, hp0, hd, hfst, heq, hU, by omega, hUb, hlim, b1⟩
        obtain ⟨a', c', e', hcc, hcell⟩ := HR.out.keep b1
        cases e'
        rcases hcell with h0 | ⟨g, o, rfl, hg, hc⟩
        · rw [h0] at hUb; simp at hUb; omega
        have HRC := Lib.hid (And.intro hcc (And.intro hg hc))
        have f0 : (0 : Int) ≤ (f : Int) := by omega
        have f1 : (f : Int) ≤ (c : Int) := by omega
        have f2 : f ≤ c := by omega
        have u0 : (0 : Int) ≤ (U : Int) := by omega
        have u1 : (U : Int) ≤ (b.length : Int) := by omega
        have u2 : U ≤ b.length := hUb
        have v0 : (w1.alloc (Obj.cells #[.int .i64 qkd, .int .i64 F, .int .i64 U, .int .i64 qdp, .int .i64 qup, .int .i64 qnt, .string qky, .int .i64 qpl, .int .i64 f] 60)).cell? ⟨w1.heap.size, 8, none⟩ = some (.int .i64 f) := by go_simp
        have v2 : (w1.alloc (Obj.cells #[.int .i64 qkd, .int .i64 F, .int .i64 U, .int .i64 qdp, .int .i64 qup, .int .i64 qnt, .string qky, .int .i64 qpl, .int .i64 f] 60)).cell? ⟨w1.heap.size, 2, none⟩ = some (.int .i64 U) := by go_simp
        clear hd hb1 hf hF hq hfst heq hto b1 hcc hg hc hF' hU hFU hlim hfF hpl' hpl0
        subst hdp
        have f3 : U < c := by have := HRC.out.1; omega
        have f4 : U ≠ c := by omega
        have f5 : ¬ c - U = 0 := by omega
        go_wp2_with fail
        have HVb : Hid (w1.heap.size < (w1.alloc (Obj.cells #[.int .i64 qkd, .int .i64 F, .int .i64 U, .int .i64 p.length, .int .i64 qup, .int .i64 qnt, .string qky, .int .i64 qpl, .int .i64 f] 60)).heap.size) := by show _ < _; simp
        generalize w1.heap.size = Vb at *
        generalize (w1.alloc (Obj.cells #[.int .i64 qkd, .int .i64 F, .int .i64 U, .int .i64 p.length, .int .i64 qup, .int .i64 qnt, .string qky, .int .i64 qpl, .int .i64 f] 60)) = W1 at *
        refine wp_region_held_drew (S := fun w' => w'.cell? ⟨Vb, 8, none⟩ = some (.int .i64 f) ∧ w'.cell? ⟨Vb, 2, none⟩ = some (.int .i64 U)) (by kernel_rfl) (⟨v0, v2⟩) (fun hHeld => ?_)
        refine wpAnyH_take (i := 0) (v := .slice (some ⟨g, o, none⟩) b.length c) rfl (by kernel_rfl) (by kernel_rfl) (by kernel_rfl) (fun _ _ _ h => h) (Or.inl ⟨by rfl, fun w hw => by go_simp⟩) hHeld ?_
        simp only [Act.put, List.getElem_toArray, List.getElem_cons_zero, List.setIfInBounds_toArray, List.set_cons_zero, List.set_cons_succ]
        refine wpAnyH_take (i := 1) (v := .pointer (some ⟨Vb, 8, none⟩)) rfl (by kernel_rfl) (by kernel_rfl) (by kernel_rfl) (fun _ _ _ h => h) (Or.inl ⟨by rfl, fun w hw => by go_simp⟩) hHeld ?_
        simp only [Act.put, List.getElem_toArray, List.getElem_cons_zero, List.getElem_cons_succ, List.setIfInBounds_toArray, List.set_cons_zero, List.set_cons_succ]
        refine wpAnyH_take (i := 2) (v := .int .i64 f) rfl (by kernel_rfl) (by kernel_rfl) (by kernel_rfl) (fun _ _ _ h => h) (Or.inl ⟨by rfl, fun w hw => by have := hw.1; go_simp⟩) hHeld ?_
        simp only [Act.put, List.getElem_toArray, List.getElem_cons_zero, List.getElem_cons_succ, List.setIfInBounds_toArray, List.set_cons_zero, List.set_cons_succ]
        refine wpAnyH_take (i := 3) (v := .slice (some ⟨g, o, none⟩) f c) rfl (by kernel_rfl) (by kernel_rfl) (by kernel_rfl) (fun _ _ _ h => h) (Or.inl ⟨by rfl, fun w hw => by go_simp⟩) hHeld ?_
        simp only [Act.put, List.getElem_toArray, List.getElem_cons_zero, List.getElem_cons_succ, List.setIfInBounds_toArray, List.set_cons_zero, List.set_cons_succ]
        refine wpAnyH_take (i := 4) (v := .slice (some ⟨g, o, none⟩) b.length c) rfl (by kernel_rfl) (by kernel_rfl) (by kernel_rfl) (fun _ _ _ h => h) (Or.inl ⟨by rfl, fun w hw => by go_simp⟩) hHeld ?_
        simp only [Act.put, List.getElem_toArray, List.getElem_cons_zero, List.getElem_cons_succ, List.setIfInBounds_toArray, List.set_cons_zero, List.set_cons_succ]
        refine wpAnyH_take (i := 5) (v := .pointer (some ⟨Vb, 0, none⟩)) rfl (by kernel_rfl) (by kernel_rfl) (by kernel_rfl) (fun _ _ _ h => h) (Or.inl ⟨by rfl, fun w hw => by go_simp⟩) hHeld ?_
        simp only [Act.put, List.getElem_toArray, List.getElem_cons_zero, List.getElem_cons_succ, List.setIfInBounds_toArray, List.set_cons_zero, List.set_cons_succ]
        refine wpAnyH_take (i := 6) (v := .pointer (some ⟨Vb, 2, none⟩)) rfl (by kernel_rfl) (by kernel_rfl) (by kernel_rfl) (fun _ _ _ h => h) (Or.inl ⟨by rfl, fun w hw => by go_simp⟩) hHeld ?_
        simp only [Act.put, List.getElem_toArray, List.getElem_cons_zero, List.getElem_cons_succ, List.setIfInBounds_toArray, List.set_cons_zero, List.set_cons_succ]
        refine wpAnyH_take (i := 7) (v := .int .i64 U) rfl (by kernel_rfl) (by kernel_rfl) (by kernel_rfl) (fun _ _ _ h => h) (Or.inl ⟨by rfl, fun w hw => by have := hw.2; go_simp⟩) hHeld ?_
        simp only [Act.put, List.getElem_toArray, List.getElem_cons_zero, List.getElem_cons_succ, List.setIfInBounds_toArray, List.set_cons_zero, List.set_cons_succ]
        refine wpAnyH_take (i := 8) (v := .slice (some ⟨g, o + U, none⟩) (b.length - U) (c - U)) rfl (by kernel_rfl) (by kernel_rfl) (by kernel_rfl) (fun _ _ _ h => h) (Or.inl ⟨by rfl, fun w hw => by go_simp; intro e; omega⟩) hHeld ?_
        simp only [Act.put, List.getElem_toArray, List.getElem_cons_zero, List.getElem_cons_succ, List.setIfInBounds_toArray, List.set_cons_zero, List.set_cons_succ]
        refine wpAnyH_ready (rs := [9]) (by kernel_rfl) (by simp) ?_
        refine AllReadyH.cons (o := _) rfl (fun K hK => ?_) AllReadyH.nil
        go_simp
        have b2 : Below W1.heap.size W1 (W1.drew.alloc (Obj.cells #[.slice (some ⟨g, o, none⟩) f c, .slice (some ⟨g, o + U, none⟩) (b.length - U) (c - U)] 22)) := ((⟨rfl, rfl, rfl, Nat.le_refl _, fun _ _ => rfl⟩ : Below W1.heap.size W1 W1.drew).alloc (Nat.le_refl _) _)
        have hrow : RowB (W1.drew.alloc (Obj.cells #[.slice (some ⟨g, o, none⟩) f c, .slice (some ⟨g, o + U, none⟩) (b.length - U) (c - U)] 22)) W1.heap.size [(.slice (some ⟨g, o, none⟩) f c, b.take f), (.slice (some ⟨g, o + U, none⟩) (b.length - U) (c - U), b.drop U)] := by
          have hn : blk (W1.drew.alloc (Obj.cells #[.slice (some ⟨g, o, none⟩) f c, .slice (some ⟨g, o + U, none⟩) (b.length - U) (c - U)] 22)) W1.heap.size 22 #[.slice (some ⟨g, o, none⟩) f c, .slice (some ⟨g, o + U, none⟩) (b.length - U) (c - U)] := heap_new W1.drew _
          obtain ⟨r1, r2, r3⟩ := HRC.out
          have hfb : f ≤ b.length := by have := HX.out.2.2.2.2.2.2.1; omega
          refine ⟨hn.lt, fun i x hx => ?_⟩
          match i, hx with
          | 0, hx => simp only [List.getElem?_cons_zero, Option.some.injEq] at hx; subst hx; exact ⟨hn.cell 0, (rb_take r1 hfb r2 r3).keep b2, .inr ⟨_, _, _, rfl⟩⟩
          | 1, hx => simp only [List.getElem?_cons_succ, List.getElem?_cons_zero, Option.some.injEq] at hx; subst hx; exact ⟨hn.cell 1, (rb_drop r1 u2 r2 r3).keep b2, .inr ⟨_, _, _, rfl⟩⟩
        have hcat : cats [(.slice (some ⟨g, o, none⟩) f c, b.take f), (.slice (some ⟨g, o + U, none⟩) (b.length - U) (c - U), b.drop U)] = b.take f ++ b.drop U := by unfold cats; simp
        have HCC := Lib.hid (concat35 W1.heap.size 2 _ _ hrow (by rw [hcat, List.length_append, List.length_take, List.length_drop]; have := HX.out.2.2.2.2.2.2.2.2.1; omega) (by simp))
        have HB2 : Hid (Below W1.heap.size W1 (W1.drew.alloc (Obj.cells #[.slice (some ⟨g, o, none⟩) f c, .slice (some ⟨g, o + U, none⟩) (b.length - U) (c - U)] 22)) ∧ cats [(.slice (some ⟨g, o, none⟩) f c, b.take f), (.slice (some ⟨g, o + U, none⟩) (b.length - U) (c - U), b.drop U)] = b.take f ++ b.drop U ∧ W1.cell? ⟨Vb, 8, none⟩ = some (.int .i64 f) ∧ W1.cell? ⟨Vb, 2, none⟩ = some (.int .i64 U)) := ⟨b2, hcat, v0, v2⟩
        refine hK.out _ _ (⟨(World.cell?_of_block (w := W1) (HB2.out.1.block Vb HVb.out)).trans v0, (World.cell?_of_block (w := W1) (HB2.out.1.block Vb HVb.out)).trans v2⟩) (fun hHeld => ?_)
        clear hK K b2 hrow hcat
        refine wpAnyH_ready (rs := [10]) (by kernel_rfl) (by simp) ?_
        refine AllReadyH.cons (o := _) rfl (fun K hK => ?_) AllReadyH.nil
        go_simp
        refine HCC.out.mono ?_
        rintro e w3 ⟨v3, rfl, ho3, hb3⟩
        have HY : Hid (CUTP b p w.heap.size w3 v3 0 ∧ Below w.heap.size w w3 ∧ Below W1.heap.size W1 w3) := by
          obtain ⟨b2, hcat, _, _⟩ := HB2.out
          obtain ⟨x1, x2, x3, x4, x5, x6, x7, x8, x9, x10⟩ := HX.out
          have b3 := b2.trans (hb3.mono b2.size)
          rw [hcat] at ho3
          exact ⟨⟨x, 0, x1, .inr (.inr ⟨rfl, x2, rfl, _, f, U, t, k, x3, x4, x5, rfl, x6, x7, ow_low (Nat.le_trans x10.size b2.size) ho3⟩)⟩, x10.trans (b3.mono x10.size), b3⟩
        obtain ⟨a3, c3, rfl⟩ := ho3.form'
        clear ho3 hb3 HCC
        go_wp2_with fail
        refine hK.out _ _ (⟨(World.cell?_of_block (w := W1) (HY.out.2.2.block Vb HVb.out)).trans HB2.out.2.2.1, (World.cell?_of_block (w := W1) (HY.out.2.2.block Vb HVb.out)).trans HB2.out.2.2.2⟩) (fun hHeld => ?_)
        clear hK K
        refine wpAnyH_take (i := 11) (v := .slice a3 (cats [(.slice (some ⟨g, o, none⟩) f c, b.take f), (.slice (some ⟨g, o + U, none⟩) (b.length - U) (c - U), b.drop U)]).length c3) rfl (by kernel_rfl) (by kernel_rfl) (by kernel_rfl) (fun _ _ _ h => h) (Or.inl ⟨by rfl, fun w hw => by go_simp⟩) hHeld ?_
        simp only [Act.put, List.getElem_toArray, List.getElem_cons_zero, List.getElem_cons_succ, List.setIfInBounds_toArray, List.set_cons_zero, List.set_cons_succ]
        refine wpAnyH_take (i := 12) (v := .int .i64 0) rfl (by kernel_rfl) (by kernel_rfl) (by kernel_rfl) (fun _ _ _ h => h) (Or.inl ⟨by rfl, fun w hw => by go_simp⟩) hHeld ?_
        simp only [Act.put, List.getElem_toArray, List.getElem_cons_zero, List.getElem_cons_succ, List.setIfInBounds_toArray, List.set_cons_zero, List.set_cons_succ]
        refine wpAnyH_done (by kernel_rfl) ?_ _
        go_wp2
        go_ret2
        exact ⟨_, 0, rfl, HY.out.1, HY.out.2.1⟩
    · rw [if_neg hdp]
      obtain ⟨E, hE⟩ : ∃ E, (if nestB (⟨qkd, qfr, qto, qdp, qup, qnt, qky, qpl, qfi⟩ : Vi) = true then (30 : Int) else 31) = E := ⟨_, rfl⟩
      have hE0 : E ≠ 0 := by rw [← hE]; split <;> decide
      rw [hE] at hf ⊢
      have hE' : (E != 0) = true := by simpa using hE0
      have HF := Lib.hid hf
      clear hd hb1 HR hf hE hF hq hdp hfst
      go_wp2
      go_ret2
      exact ⟨_, E, rfl, ⟨vz, E, HF.out, .inl ⟨hE0, rfl, rfl⟩⟩, HB.out.alloc HB.out.size _⟩
end Go.Proofs.YtdlnnnlmlaploabDoor
namespace Go.Proofs.YtdlnnnlmlaploabDoor
open Go.RowKit Go.Deep
/-! ### A tree without one of its parts -/
theorem less_trans : ∀ x y z : List UInt8, Op.bytesLess x y = true → Op.bytesLess y z = true → Op.bytesLess x z = true
  | _, [], _ => by intro h; simp [Op.bytesLess] at h
  | _, _ :: _, [] => by intro _ h; simp [Op.bytesLess] at h
  | [], _ :: _, _ :: _ => by intro _ _; rfl
  | a :: x, b :: y, c :: z => by
    intro h1 h2
    have ih := less_trans x y z
    simp only [Op.bytesLess, Bool.or_eq_true, decide_eq_true_eq, Bool.and_eq_true, beq_iff_eq] at h1 h2 ⊢
    rcases h1 with h1 | ⟨rfl, h1⟩
    · rcases h2 with h2 | ⟨rfl, h2⟩
      · exact .inl (by have := UInt8.lt_iff_toNat_lt.1 h1; have := UInt8.lt_iff_toNat_lt.1 h2; exact UInt8.lt_iff_toNat_lt.2 (by omega))
      · exact .inl h1
    · rcases h2 with h2 | ⟨rfl, h2⟩
      · exact .inl h2
      · exact .inr ⟨rfl, ih h1 h2⟩
theorem less_irrefl : ∀ x : List UInt8, Op.bytesLess x x = false
  | [] => rfl
  | a :: x => by
    have ih := less_irrefl x
    simp only [Op.bytesLess, ih, Bool.and_false, Bool.or_false, decide_eq_false_iff_not]
    exact fun hc => by have := UInt8.lt_iff_toNat_lt.1 hc; omega
theorem rise_of {ky : Nat → ByteArray} {dn : Nat} (h : ∀ i, i < dn → keyBad ky i = false) : ∀ q p, p < q → q < dn → Op.bytesLess (ky p).toList (ky q).toList = true := by
  have one : ∀ p, p + 1 < dn → Op.bytesLess (ky p).toList (ky (p + 1)).toList = true := fun p hp => by
    have h1 := h (p + 1) hp
    have h2 := bytes_tri (ky (p + 1)).toList (ky p).toList
    rw [show (Op.bytesLess (ky (p + 1)).toList (ky p).toList || (ky (p + 1)).toList == (ky p).toList) = false from h1] at h2
    simpa using h2
  intro q
  induction q with
  | zero => intro p hp; omega
  | succ q ih =>
    intro p hp hq
    by_cases e : p = q
    · subst e; exact one p hq
    · exact less_trans _ _ _ (ih p (by omega) (by omega)) (one q hq)
theorem rise_ne {ky : Nat → ByteArray} {dn : Nat} (h : ∀ i, i < dn → keyBad ky i = false) {i j : Nat} (hi : i < dn) (hj : j < dn) (e : ky j = ky i) : j = i := by
  rcases Nat.lt_trichotomy j i with h1 | h1 | h1
  · have := rise_of h i j h1 hi
    rw [e, less_irrefl] at this; cases this
  · exact h1
  · have := rise_of h j i h1 hj
    rw [e, less_irrefl] at this; cases this
def outL (nm : Int) (o : Nat → Option T) (l : Nat → T) : Nat → List T
  | 0 => []
  | j + 1 => outL nm o l j ++ (if (j : Int) = nm then (o j).toList else [l j])
def outD (key : ByteArray) (o : Nat → Option T) (ky : Nat → ByteArray) (dv : Nat → T) : Nat → List (ByteArray × T)
  | 0 => []
  | j + 1 => outD key o ky dv j ++ (if ky j = key then (o j).toList.map (fun t => (ky j, t)) else [(ky j, dv j)])
/-- the tree without the part that the path leads to -/
def woT : List (Int × ByteArray) → T → T
  | [], t => t
  | _ :: _, .no => .no
  | q :: p, .mk k _ _ ln l dn ky dv =>
    if k = 3 then tList (outL q.1 (fun j => if p.isEmpty = true then none else some (woT p (l j))) l ln)
    else tDict (outD q.2 (fun j => if p.isEmpty = true then none else some (woT p (dv j))) ky dv dn)
theorem catN_take {α : Type} (L : List α) (d : α) (f : α → List UInt8) : ∀ n, n ≤ L.length → catN (fun i => f (L.getD i d)) n = (L.take n).flatMap f
  | 0, _ => by simp [catN]
  | n + 1, h => by
    have h1 : n < L.length := by omega
    show catN _ n ++ f (L.getD n d) = _
    rw [catN_take L d f n (by omega), List.take_add_one, List.flatMap_append]
    simp [List.getD, h1]
theorem catN_flat {α : Type} (L : List α) (d : α) (f : α → List UInt8) : catN (fun i => f (L.getD i d)) L.length = L.flatMap f := by
  rw [catN_take L d f _ (Nat.le_refl _), List.take_length]
def pt (q : ByteArray × T) : List UInt8 := wtx q.1 ++ txt q.2
theorem txt_listF (L : List T) : txt (tList L) = 108 :: (L.flatMap txt ++ [101]) := by rw [txt_list, catN_flat L .no txt]
theorem txt_dictF (L : List (ByteArray × T)) : txt (tDict L) = 100 :: (L.flatMap pt ++ [101]) := by rw [txt_dict]; exact congrArg (fun x => 100 :: (x ++ [101])) (catN_flat L (ByteArray.empty, .no) pt)
theorem outL_before {i : Nat} {o : Nat → Option T} {l : Nat → T} : ∀ n, n ≤ i → (outL (i : Int) o l n).flatMap txt = catN (fun j => txt (l j)) n
  | 0, _ => rfl
  | n + 1, h => by
    show (outL (i : Int) o l n ++ _).flatMap txt = catN _ n ++ _
    rw [List.flatMap_append, outL_before n (by omega), if_neg (by omega)]
    simp
theorem outL_after {i : Nat} {o : Nat → Option T} {l : Nat → T} : ∀ n, i < n → ∃ z, catN (fun j => txt (l j)) n = catN (fun j => txt (l j)) i ++ (txt (l i) ++ z) ∧ (outL (i : Int) o l n).flatMap txt = catN (fun j => txt (l j)) i ++ ((o i).toList.flatMap txt ++ z)
  | 0, h => by omega
  | n + 1, h => by
    have e1 : catN (fun j => txt (l j)) (n + 1) = catN (fun j => txt (l j)) n ++ txt (l n) := rfl
    have e2 : outL (i : Int) o l (n + 1) = outL (i : Int) o l n ++ (if (n : Int) = (i : Int) then (o n).toList else [l n]) := rfl
    by_cases e : i = n
    · subst e
      exact ⟨[], by rw [e1]; simp, by rw [e2, if_pos rfl, List.flatMap_append, outL_before i (Nat.le_refl _)]; simp⟩
    · obtain ⟨z, h1, h2⟩ := outL_after (o := o) (l := l) n (show i < n by omega)
      exact ⟨z ++ txt (l n), by rw [e1, h1]; simp, by rw [e2, if_neg (by omega), List.flatMap_append, h2]; simp⟩
theorem outD_before {key : ByteArray} {o : Nat → Option T} {ky : Nat → ByteArray} {dv : Nat → T} : ∀ n, (∀ j, j < n → ky j ≠ key) → (outD key o ky dv n).flatMap pt = catN (fun j => wtx (ky j) ++ txt (dv j)) n
  | 0, _ => rfl
  | n + 1, h => by
    show (outD key o ky dv n ++ _).flatMap pt = catN _ n ++ _
    rw [List.flatMap_append, outD_before n (fun j hj => h j (by omega)), if_neg (h n (by omega))]
    simp [pt]
theorem outD_after {key : ByteArray} {i : Nat} {o : Nat → Option T} {ky : Nat → ByteArray} {dv : Nat → T} (hk : ky i = key) : ∀ n, (∀ j, j < n → ky j = key → j = i) → i < n → ∃ z, catN (fun j => wtx (ky j) ++ txt (dv j)) n = catN (fun j => wtx (ky j) ++ txt (dv j)) i ++ ((wtx (ky i) ++ txt (dv i)) ++ z) ∧ (outD key o ky dv n).flatMap pt = catN (fun j => wtx (ky j) ++ txt (dv j)) i ++ (((o i).toList.map (fun t => (ky i, t))).flatMap pt ++ z)
  | 0, _, h => by omega
  | n + 1, hu, h => by
    have e1 : catN (fun j => wtx (ky j) ++ txt (dv j)) (n + 1) = catN (fun j => wtx (ky j) ++ txt (dv j)) n ++ (wtx (ky n) ++ txt (dv n)) := rfl
    have e2 : outD key o ky dv (n + 1) = outD key o ky dv n ++ (if ky n = key then (o n).toList.map (fun t => (ky n, t)) else [(ky n, dv n)]) := rfl
    by_cases e : i = n
    · subst e
      refine ⟨[], by rw [e1]; simp, ?_⟩
      rw [e2, if_pos hk, List.flatMap_append, outD_before i (fun j hj e => by have := hu j (by omega) e; omega)]
      simp
    · obtain ⟨z, h1, h2⟩ := outD_after (o := o) (dv := dv) hk n (fun j hj => hu j (by omega)) (show i < n by omega)
      refine ⟨z ++ (wtx (ky n) ++ txt (dv n)), by rw [e1, h1]; simp, ?_⟩
      rw [e2, if_neg (fun e' => by have := hu n (by omega) e'; omega), List.flatMap_append, h2]
      simp [pt]
theorem Desc.nil {t : T} {fr fi : Nat} {p : List (Int × ByteArray)} {u : T} {fr' fi' : Nat} (h : Desc t fr fi p u fr' fi') (hp : p = []) : u = t ∧ fr' = fr ∧ fi' = fi := by
  cases h with
  | here => exact ⟨rfl, rfl, rfl⟩
  | list => cases hp
  | dict => cases hp
/-- the text without the part -/
theorem Desc.cut {t : T} {fr fi : Nat} {p : List (Int × ByteArray)} {u : T} {fr' fi' : Nat} (h : Desc t fr fi p u fr' fi') : p ≠ [] → VT t → ∃ A M B, txt t = A ++ (M ++ B) ∧ txt (woT p t) = A ++ B ∧ fi' = fr + A.length ∧ fr' + (txt u).length = fr + A.length + M.length := by
  induction h with
  | here => exact fun h => absurd rfl h
  | @list n s ln l dn ky dv fr fi i nm key p u fr' fi' h1 hnm hD ih =>
    intro _ hv
    subst hnm
    have e : txt (.mk 3 n s ln l dn ky dv) = 108 :: (catN (fun i => txt (l i)) ln ++ [101]) := rfl
    have ew : woT (((i : Int), key) :: p) (.mk 3 n s ln l dn ky dv) = tList (outL (i : Int) (fun j => if p.isEmpty = true then none else some (woT p (l j))) l ln) := if_pos rfl
    rw [e, ew, txt_listF]
    obtain ⟨z, z1, z2⟩ := outL_after (o := fun j => if p.isEmpty = true then none else some (woT p (l j))) (l := l) ln h1
    rw [z1, z2]
    by_cases hp : p = []
    · subst hp
      obtain ⟨rfl, rfl, rfl⟩ := hD.nil rfl
      exact ⟨108 :: catN (fun i => txt (l i)) i, txt (l i), z ++ [101], by simp, by simp, by simp; omega, by simp; omega⟩
    · obtain ⟨A, M, B, a1, a2, a3, a4⟩ := ih hp (hv.2.1 i h1)
      have he : p.isEmpty = false := by cases p with | nil => exact absurd rfl hp | cons _ _ => rfl
      refine ⟨108 :: (catN (fun i => txt (l i)) i ++ A), M, B ++ (z ++ [101]), by rw [a1]; simp, ?_, by rw [a3]; simp; omega, by rw [a4]; simp; omega⟩
      rw [if_neg (by rw [he]; decide)]
      simp [a2]
  | @dict n s ln l dn ky dv fr fi i nm key p u fr' fi' h1 hkey hD ih =>
    intro _ hv
    have e : txt (.mk 4 n s ln l dn ky dv) = 100 :: (catN (fun i => wtx (ky i) ++ txt (dv i)) dn ++ [101]) := rfl
    have ew : woT ((nm, key) :: p) (.mk 4 n s ln l dn ky dv) = tDict (outD key (fun j => if p.isEmpty = true then none else some (woT p (dv j))) ky dv dn) := if_neg (by decide)
    rw [e, ew, txt_dictF]
    obtain ⟨z, z1, z2⟩ := outD_after (o := fun j => if p.isEmpty = true then none else some (woT p (dv j))) (dv := dv) hkey.symm dn (fun j hj ej => rise_ne (fun i hi => (hv.2.2 i hi).1) h1 hj (ej.trans hkey)) h1
    rw [z1, z2]
    by_cases hp : p = []
    · subst hp
      obtain ⟨rfl, rfl, rfl⟩ := hD.nil rfl
      exact ⟨100 :: catN (fun i => wtx (ky i) ++ txt (dv i)) i, wtx (ky i) ++ txt (dv i), z ++ [101], by simp, by simp, by simp; omega, by simp; omega⟩
    · obtain ⟨A, M, B, a1, a2, a3, a4⟩ := ih hp (hv.2.2 i h1).2
      have he : p.isEmpty = false := by cases p with | nil => exact absurd rfl hp | cons _ _ => rfl
      refine ⟨100 :: (catN (fun i => wtx (ky i) ++ txt (dv i)) i ++ (wtx (ky i) ++ A)), M, B ++ (z ++ [101]), by rw [a1]; simp, ?_, by rw [a3]; simp; omega, by rw [a4]; simp; omega⟩
      rw [if_neg (by rw [he]; decide)]
      simp [a2, pt]
theorem outL_mem {nm : Int} {o : Nat → Option T} {l : Nat → T} : ∀ {n : Nat} {x : T}, x ∈ outL nm o l n → (∃ j, j < n ∧ x = l j) ∨ ∃ j, j < n ∧ (j : Int) = nm ∧ o j = some x
  | 0, x, h => by cases h
  | n + 1, x, h => by
    rcases List.mem_append.1 (show x ∈ outL nm o l n ++ _ from h) with h | h
    · rcases outL_mem h with ⟨j, h1, h2⟩ | ⟨j, h1, h2⟩
      · exact .inl ⟨j, by omega, h2⟩
      · exact .inr ⟨j, by omega, h2⟩
    · by_cases e : (n : Int) = nm
      · rw [if_pos e] at h
        exact .inr ⟨n, by omega, e, by simpa using h⟩
      · rw [if_neg e] at h
        exact .inl ⟨n, by omega, by simpa using h⟩
theorem outD_mem {key : ByteArray} {o : Nat → Option T} {ky : Nat → ByteArray} {dv : Nat → T} : ∀ {n : Nat} {x : ByteArray × T}, x ∈ outD key o ky dv n → ∃ j, j < n ∧ x.1 = ky j ∧ (x.2 = dv j ∨ (ky j = key ∧ o j = some x.2))
  | 0, x, h => by cases h
  | n + 1, x, h => by
    rcases List.mem_append.1 (show x ∈ outD key o ky dv n ++ _ from h) with h | h
    · obtain ⟨j, h1, h2⟩ := outD_mem h
      exact ⟨j, by omega, h2⟩
    · by_cases e : ky n = key
      · rw [if_pos e] at h
        obtain ⟨t, t1, rfl⟩ := List.mem_map.1 h
        exact ⟨n, by omega, rfl, .inr ⟨e, by simpa using t1⟩⟩
      · rw [if_neg e] at h
        obtain rfl : x = (ky n, dv n) := by simpa using h
        exact ⟨n, by omega, rfl, .inl rfl⟩
theorem opt_len {α : Type} (o : Option α) : o.toList.length ≤ 1 := by cases o <;> simp
theorem outL_len {nm : Int} {o : Nat → Option T} {l : Nat → T} : ∀ n, (outL nm o l n).length ≤ n
  | 0 => Nat.le_refl _
  | n + 1 => by
    have h := outL_len (nm := nm) (o := o) (l := l) n
    show (outL nm o l n ++ _).length ≤ _
    rw [List.length_append]
    split
    · have := opt_len (o n); omega
    · simp; omega
theorem outD_len {key : ByteArray} {o : Nat → Option T} {ky : Nat → ByteArray} {dv : Nat → T} : ∀ n, (outD key o ky dv n).length ≤ n
  | 0 => Nat.le_refl _
  | n + 1 => by
    have h := outD_len (key := key) (o := o) (ky := ky) (dv := dv) n
    show (outD key o ky dv n ++ _).length ≤ _
    rw [List.length_append]
    split
    · rw [List.length_map]
      have := opt_len (o n); omega
    · simp; omega
theorem outD_rise {key : ByteArray} {o : Nat → Option T} {ky : Nat → ByteArray} {dv : Nat → T} {dn : Nat} (hr : ∀ q p, p < q → q < dn → Op.bytesLess (ky p).toList (ky q).toList = true) : ∀ n, n ≤ dn → (outD key o ky dv n).Pairwise (fun a b => Op.bytesLess a.1.toList b.1.toList = true)
  | 0, _ => List.Pairwise.nil
  | n + 1, h => by
    show (outD key o ky dv n ++ _).Pairwise _
    rw [List.pairwise_append]
    refine ⟨outD_rise hr n (by omega), ?_, fun a ha b hb => ?_⟩
    · split
      · cases o n <;> simp
      · simp
    · obtain ⟨j, j1, j2, _⟩ := outD_mem ha
      have hb1 : b.1 = ky n := by
        split at hb
        · obtain ⟨t, _, rfl⟩ := List.mem_map.1 hb; rfl
        · obtain rfl : b = (ky n, dv n) := by simpa using hb
          rfl
      rw [j2, hb1]
      exact hr n j j1 (by omega)
theorem gd_mk {k n : Int} {s : ByteArray} {ln : Nat} {l : Nat → T} {dn : Nat} {ky : Nat → ByteArray} {dv : Nat → T} {ar : Nat} (h : Gd (.mk k n s ln l dn ky dv) ar) (hk : 3 ≤ k) : ar < 32 ∧ ln ≤ 2147483647 ∧ dn ≤ 2147483647 ∧ (∀ i, i < ln → Gd (l i) (ar + 1)) ∧ ∀ i, i < dn → keyBad ky i = false ∧ Gd (dv i) (ar + 1) := by
  obtain ⟨h1, h2, h3⟩ := h
  obtain ⟨_, h4⟩ := wk_mk h1
  obtain ⟨a1, a2, a3⟩ := h4 hk
  have e : ((ar + 1 : Nat) : Int) = (ar : Int) + 1 := by omega
  exact ⟨by omega, h2.1, h2.2.1, fun i hi => ⟨e ▸ a2 i hi, h2.2.2.1 i hi, h3.2.2.2.2.1 i hi⟩, fun i hi => ⟨(a3 i hi).1, e ▸ (a3 i hi).2, h2.2.2.2 i hi, h3.2.2.2.2.2 i hi⟩⟩
/-- what is left is good -/
theorem Desc.gd {t : T} {fr fi : Nat} {p : List (Int × ByteArray)} {u : T} {fr' fi' : Nat} (h : Desc t fr fi p u fr' fi') : p ≠ [] → ∀ ar : Nat, Gd t ar → Gd (woT p t) ar := by
  induction h with
  | here => exact fun h => absurd rfl h
  | @list n s ln l dn ky dv fr fi i nm key p u fr' fi' h1 hnm hD ih =>
    intro _ ar hg
    obtain ⟨g1, g2, g3, g4, g5⟩ := gd_mk hg (by decide)
    have ew : woT ((nm, key) :: p) (.mk 3 n s ln l dn ky dv) = tList (outL nm (fun j => if p.isEmpty = true then none else some (woT p (l j))) l ln) := if_pos rfl
    rw [ew]
    refine gd_list g1 (Nat.le_trans (outL_len ln) g2) fun q hq => ?_
    have hm : (outL nm (fun j => if p.isEmpty = true then none else some (woT p (l j))) l ln).getD q .no ∈ outL nm (fun j => if p.isEmpty = true then none else some (woT p (l j))) l ln := by
      rw [List.getD, List.getElem?_eq_getElem hq]; exact List.getElem_mem hq
    rcases outL_mem hm with ⟨j, j1, j2⟩ | ⟨j, j1, j2, j3⟩
    · rw [j2]; exact g4 j j1
    · obtain rfl : j = i := by omega
      by_cases hp : p.isEmpty = true
      · rw [if_pos hp] at j3; cases j3
      · rw [if_neg hp] at j3
        rw [← Option.some.inj j3]
        exact ih (fun e => hp (by rw [e]; rfl)) _ (g4 j j1)
  | @dict n s ln l dn ky dv fr fi i nm key p u fr' fi' h1 hkey hD ih =>
    intro _ ar hg
    obtain ⟨g1, g2, g3, g4, g5⟩ := gd_mk hg (by decide)
    have hr := rise_of (fun i hi => (g5 i hi).1)
    have ew : woT ((nm, key) :: p) (.mk 4 n s ln l dn ky dv) = tDict (outD key (fun j => if p.isEmpty = true then none else some (woT p (dv j))) ky dv dn) := if_neg (by decide)
    rw [ew]
    refine gd_dict g1 (Nat.le_trans (outD_len dn) g3) (fun q hq => ?_) (fun q hq => ?_)
    · have hm : (outD key (fun j => if p.isEmpty = true then none else some (woT p (dv j))) ky dv dn).getD q (ByteArray.empty, .no) ∈ outD key (fun j => if p.isEmpty = true then none else some (woT p (dv j))) ky dv dn := by
        rw [List.getD, List.getElem?_eq_getElem hq]; exact List.getElem_mem hq
      obtain ⟨j, j1, _, j2 | ⟨j2, j3⟩⟩ := outD_mem hm
      · rw [j2]; exact (g5 j j1).2
      · obtain rfl : j = i := rise_ne (fun i hi => (g5 i hi).1) h1 j1 (j2.trans hkey)
        by_cases hp : p.isEmpty = true
        · rw [if_pos hp] at j3; cases j3
        · rw [if_neg hp] at j3
          rw [← Option.some.inj j3]
          exact ih (fun e => hp (by rw [e]; rfl)) _ (g5 j j1).2
    · have hpw := outD_rise (key := key) (o := fun j => if p.isEmpty = true then none else some (woT p (dv j))) (dv := dv) hr dn (Nat.le_refl _)
      have := (List.pairwise_iff_getElem.1 hpw) q (q + 1) (by omega) hq (by omega)
      rw [List.getD, List.getD, List.getElem?_eq_getElem hq, List.getElem?_eq_getElem (show q < _ by omega)]
      have h2 := bytes_tri ((outD key (fun j => if p.isEmpty = true then none else some (woT p (dv j))) ky dv dn)[q + 1]).1.toList ((outD key (fun j => if p.isEmpty = true then none else some (woT p (dv j))) ky dv dn)[q]).1.toList
      rw [this] at h2
      exact h2.symm
end Go.Proofs.YtdlnnnlmlaploabDoor
namespace Go.Proofs.YtdlnnnlmlaploabDoor
open Go.RowKit Go.Deep
/-! ### The reference's without -/
def Sv (A H : Nat) (lv : Value) (b : Nat) : Prop := b < A ∨ (H + 3 ≤ b ∧ lv.ownBlock ≠ some b)
theorem vrow_step {A H : Nat} {wr W w5 : World} {lv : Value} {L : List T} {us : List Value} {t : T} {x y : Value} {g cap : Nat} (hA : A ≤ H)
    (hel : ∀ k, k < L.length → ∃ x y, RV (Sv A H lv) wr (L.getD k .no) x y ∧ ∀ r, r < 5 → us[k * 5 + r]? = (cv (L.getD k .no) x y)[r]?) (hl : us.length = L.length * 5)
    (hwW : Below wr.heap.size wr W) (hrv : RV (fun b => b < A ∨ wr.heap.size ≤ b) W t x y) (hlo : ∀ q, lv.ownBlock = some q → H + 3 ≤ q ∧ q < wr.heap.size) (hH : H + 3 ≤ wr.heap.size)
    (hg : W.grownBy w5 lv.ownBlock) (hat : lv.ownBlock = some g ∨ g = W.heap.size) (h3 : w5.ownsRow (H + 3) 31 5 (.slice (some ⟨g, 0, none⟩) (L.length + 1) cap) (L.length + 1) (us ++ cv t x y)) (f : Nat) (u : Value) :
    VRow (H + 3) (Sv A H (.slice (some ⟨g, 0, none⟩) (L.length + 1) cap)) (w5.setCell ⟨H + 1 + 1, f, none⟩ u) (.slice (some ⟨g, 0, none⟩) (L.length + 1) cap) (L ++ [t]) := by
  have h2 : ∀ k, k < L.length → ∃ x y, RV (fun b => Sv A H lv b ∧ b < W.heap.size) W (L.getD k .no) x y ∧ ∀ r, r < 5 → us[k * 5 + r]? = (cv (L.getD k .no) x y)[r]? := fun k hk => by
    obtain ⟨x', y', q1, q2⟩ := hel k hk
    exact ⟨x', y', RV.move (fun b hb hl => ⟨hb, Nat.lt_of_lt_of_le hl hwW.size⟩) hwW.size (fun b _ hl => hwW.block b hl) _ _ _ q1, q2⟩
  have hrv' : RV (fun b => Sv A H lv b ∧ b < W.heap.size) W t x y := RV.move (fun b hb hl => ⟨by
    rcases hb with h | h
    · exact .inl h
    · exact .inr ⟨by omega, fun e => by have := (hlo b e).2; omega⟩, hl⟩) (Nat.le_refl _) (fun _ _ _ => rfl) _ _ _ hrv
  have hV := VRow.snoc (S := fun b => Sv A H lv b ∧ b < W.heap.size) (v := lv) h2 hl hg (fun b hb _ e => by
    rcases hb.1 with h | h
    · have := (hlo b e).1; omega
    · exact h.2 e) h3 hrv'
  have hg3 : H + 3 ≤ g := by
    rcases hat with h | h
    · exact (hlo g h).1
    · have := hwW.size; omega
  refine hV.keep (by simp [World.setCell]) (fun q hq _ => Below.heap_setCell _ _ _ _ ?_) (fun b hb _ => ⟨?_, Below.heap_setCell _ _ _ _ ?_⟩)
  · have e : g = q := Option.some.inj hq
    show q ≠ H + 1 + 1
    omega
  · rcases hb.1 with h | ⟨h, h'⟩
    · exact .inl h
    · refine .inr ⟨h, fun e => ?_⟩
      have e : g = b := Option.some.inj e
      subst e
      rcases hat with h1 | h1
      · exact h' h1
      · have := hb.2; omega
  · show b ≠ H + 1 + 1
    rcases hb.1 with h | ⟨h, _⟩ <;> omega
theorem prow_step {A H : Nat} {wr W w5 : World} {lv : Value} {L : List (ByteArray × T)} {us : List Value} {key : ByteArray} {t : T} {x y : Value} {g cap : Nat} (hA : A ≤ H)
    (hel : ∀ k, k < L.length → ∃ x y, RV (Sv A H lv) wr (L.getD k (ByteArray.empty, .no)).2 x y ∧ ∀ r, r < 6 → us[k * 6 + r]? = (.string (L.getD k (ByteArray.empty, .no)).1 :: cv (L.getD k (ByteArray.empty, .no)).2 x y)[r]?) (hl : us.length = L.length * 6)
    (hwW : Below wr.heap.size wr W) (hrv : RV (fun b => b < A ∨ wr.heap.size ≤ b) W t x y) (hlo : ∀ q, lv.ownBlock = some q → H + 3 ≤ q ∧ q < wr.heap.size) (hH : H + 3 ≤ wr.heap.size)
    (hg : W.grownBy w5 lv.ownBlock) (hat : lv.ownBlock = some g ∨ g = W.heap.size) (h3 : w5.ownsRow (H + 3) 74 6 (.slice (some ⟨g, 0, none⟩) (L.length + 1) cap) (L.length + 1) (us ++ .string key :: cv t x y)) (f : Nat) (u : Value) :
    PRow (H + 3) (Sv A H (.slice (some ⟨g, 0, none⟩) (L.length + 1) cap)) (w5.setCell ⟨H + 1 + 1, f, none⟩ u) (.slice (some ⟨g, 0, none⟩) (L.length + 1) cap) (L ++ [(key, t)]) := by
  have h2 : ∀ k, k < L.length → ∃ x y, RV (fun b => Sv A H lv b ∧ b < W.heap.size) W (L.getD k (ByteArray.empty, .no)).2 x y ∧ ∀ r, r < 6 → us[k * 6 + r]? = (.string (L.getD k (ByteArray.empty, .no)).1 :: cv (L.getD k (ByteArray.empty, .no)).2 x y)[r]? := fun k hk => by
    obtain ⟨x', y', q1, q2⟩ := hel k hk
    exact ⟨x', y', RV.move (fun b hb hl => ⟨hb, Nat.lt_of_lt_of_le hl hwW.size⟩) hwW.size (fun b _ hl => hwW.block b hl) _ _ _ q1, q2⟩
  have hrv' : RV (fun b => Sv A H lv b ∧ b < W.heap.size) W t x y := RV.move (fun b hb hl => ⟨by
    rcases hb with h | h
    · exact .inl h
    · exact .inr ⟨by omega, fun e => by have := (hlo b e).2; omega⟩, hl⟩) (Nat.le_refl _) (fun _ _ _ => rfl) _ _ _ hrv
  have hV := PRow.snoc (S := fun b => Sv A H lv b ∧ b < W.heap.size) (v := lv) h2 hl hg (fun b hb _ e => by
    rcases hb.1 with h | h
    · have := (hlo b e).1; omega
    · exact h.2 e) h3 hrv'
  have hg3 : H + 3 ≤ g := by
    rcases hat with h | h
    · exact (hlo g h).1
    · have := hwW.size; omega
  refine hV.keep (by simp [World.setCell]) (fun q hq _ => Below.heap_setCell _ _ _ _ ?_) (fun b hb _ => ⟨?_, Below.heap_setCell _ _ _ _ ?_⟩)
  · have e : g = q := Option.some.inj hq
    show q ≠ H + 1 + 1
    omega
  · rcases hb.1 with h | ⟨h, h'⟩
    · exact .inl h
    · refine .inr ⟨h, fun e => ?_⟩
      have e : g = b := Option.some.inj e
      subst e
      rcases hat with h1 | h1
      · exact h' h1
      · have := hb.2; omega
  · show b ≠ H + 1 + 1
    rcases hb.1 with h | ⟨h, _⟩ <;> omega
/-- what stands at a round's head -/
def WIv (H : Nat) (w wr : World) (k n : Int) (s : ByteArray) (x y lv dv : Value) : Prop :=
  Below H w wr ∧ obj wr H (.int .i64 k) (.int .i64 n) (.string s) x y ∧ obj wr (H + 1) (.int .i64 0) (.int .i64 0) (.string { data := #[] }) (.slice .none 0 0) (.slice .none 0 0) ∧ obj wr (H + 1 + 1) (.int .i64 k) (.int .i64 0) (.string { data := #[] }) lv dv
theorem WIv.keep {H : Nat} {w wr w' : World} {k n : Int} {s : ByteArray} {x y lv dv : Value} (h : WIv H w wr k n s x y lv dv) (hH : w.heap.size = H) (hb : Below wr.heap.size wr w') : WIv H w w' k n s x y lv dv := by
  obtain ⟨h1, h2, h3, h4⟩ := h
  exact ⟨h1.trans (hb.mono (hH ▸ h1.size)), h2.keep (hb.block _ h2.lt), h3.keep (hb.block _ h3.lt), h4.keep (hb.block _ h4.lt)⟩
theorem WIv.grow {H : Nat} {w W w5 : World} {k n : Int} {s : ByteArray} {x y lv dv : Value} {row : Option Nat} (h : WIv H w W k n s x y lv dv) (hH : w.heap.size = H) (hg : W.grownBy w5 row) (hr : ∀ q, row = some q → H + 3 ≤ q) : WIv H w w5 k n s x y lv dv := by
  obtain ⟨h1, h2, h3, h4⟩ := h
  have bk : ∀ q, q < H + 3 → q < W.heap.size → w5.heap[q]? = W.heap[q]? := fun q hq hl => hg.block q hl (fun e => by have := hr q e.symm; omega)
  refine ⟨h1.grown hg (by have := h1.size; omega) (fun q hq => by have := hr q hq; omega), h2.keep (bk _ (by omega) h2.lt), h3.keep (bk _ (by omega) h3.lt), h4.keep (bk _ (by omega) h4.lt)⟩
theorem WIv.set3 {H : Nat} {w W : World} {k n : Int} {s : ByteArray} {x y lv dv : Value} (h : WIv H w W k n s x y lv dv) (u : Value) : WIv H w (W.setCell ⟨H + 1 + 1, 3, none⟩ u) k n s x y u dv := by
  obtain ⟨h1, h2, h3, h4⟩ := h
  exact ⟨h1.setCell (by show H ≤ H + 1 + 1; omega) _, h2.keep (Below.heap_setCell _ _ _ _ (by show H ≠ H + 1 + 1; omega)), h3.keep (Below.heap_setCell _ _ _ _ (by show H + 1 ≠ H + 1 + 1; omega)), h4.set3 _⟩
theorem WIv.set4 {H : Nat} {w W : World} {k n : Int} {s : ByteArray} {x y lv dv : Value} (h : WIv H w W k n s x y lv dv) (u : Value) : WIv H w (W.setCell ⟨H + 1 + 1, 4, none⟩ u) k n s x y lv u := by
  obtain ⟨h1, h2, h3, h4⟩ := h
  exact ⟨h1.setCell (by show H ≤ H + 1 + 1; omega) _, h2.keep (Below.heap_setCell _ _ _ _ (by show H ≠ H + 1 + 1; omega)), h3.keep (Below.heap_setCell _ _ _ _ (by show H + 1 ≠ H + 1 + 1; omega)), h4.set4 _⟩
/-- what without answers -/
def WOC (p : List (Int × ByteArray)) (t : T) : Prop := ∀ (A : Nat) (x y : Value) (w : World) (pa : Option Addr) (pc : Nat), A ≤ w.heap.size → PSA A w (.slice pa p.length pc) p → p.length ≤ pc → p.length ≤ 140737488351232 → RV (fun b => b < A) w t x y → t.small →
  Calls Tryd.prog 38 #[vv t x y, .slice pa p.length pc] w fun e w' => ∃ x' y', e = .returned (vv (woT p t) x' y') ∧ RV (fun b => b < A ∨ w.heap.size ≤ b) w' (woT p t) x' y' ∧ Below w.heap.size w w'
end Go.Proofs.YtdlnnnlmlaploabDoor
