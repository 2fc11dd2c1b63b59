import Derived.Test.YtdlnnnlmlaploaaDoorCn
namespace Go.Proofs.YtdlnnnlmlaploaaDoor
open Go.RowKit Go.Deep
/-! ### The machine keeps: what is read so far is the text of what stands on the stack -/
def Gd (t : T) (ar : Nat) : Prop := wk t ar = 0 ∧ t.small ∧ t.rng
def Fr.tx (f : Fr) : List UInt8 :=
  if f.d = true then 100 :: (catN (fun i => wtx (f.ps.getD i (ByteArray.empty, .no)).1 ++ txt (f.ps.getD i (ByteArray.empty, .no)).2) f.ps.length ++ (if f.has = true then wtx f.key else []))
  else 108 :: catN (fun i => txt (f.ls.getD i .no)) f.ls.length
def stx : List Fr → List UInt8
  | [] => []
  | f :: r => stx r ++ f.tx
/-- a frame waits for a value -/
def AW : List Fr → Prop
  | [] => True
  | f :: _ => f.d = true → f.has = true
structure FO (i : Nat) (f : Fr) (ar : Nat) : Prop where
  dep : ar < 32
  ll : f.ls.length ≤ i
  pl : f.ps.length ≤ i
  lg : ∀ p, p < f.ls.length → Gd (f.ls.getD p .no) (ar + 1)
  pg : ∀ p, p < f.ps.length → Gd (f.ps.getD p (ByteArray.empty, .no)).2 (ar + 1)
  ri : ∀ p, p + 1 < f.ps.length → leB (f.ps.getD (p + 1) (ByteArray.empty, .no)).1 (f.ps.getD p (ByteArray.empty, .no)).1 = false
  la : f.has = true → f.ps ≠ [] → leB f.key (f.ps.getLastD (ByteArray.empty, .no)).1 = false
def SO (i : Nat) : List Fr → Prop
  | [] => True
  | f :: r => FO i f r.length ∧ AW r ∧ SO i r
def OI (b : List UInt8) : Out → Prop
  | .go st i => i ≤ b.length ∧ b.take i = stx st ∧ SO i st
  | .val t i => i ≤ b.length ∧ b.take i = txt t ∧ Gd t 0
  | .bad _ _ => True
theorem FO.up {i j : Nat} (h : i ≤ j) {f : Fr} {ar : Nat} (g : FO i f ar) : FO j f ar := ⟨g.dep, Nat.le_trans g.ll h, Nat.le_trans g.pl h, g.lg, g.pg, g.ri, g.la⟩
theorem SO.up {i j : Nat} (h : i ≤ j) : ∀ {st : List Fr}, SO i st → SO j st
  | [], _ => trivial
  | _ :: _, g => ⟨g.1.up h, g.2.1, SO.up h g.2.2⟩
theorem getD_lt {α : Type} {l : List α} {x a : α} {i : Nat} (h : i < l.length) : (l ++ [x]).getD i a = l.getD i a := by
  simp [List.getD, List.getElem?_append_left h]
theorem getD_at {α : Type} {l : List α} {x a : α} : (l ++ [x]).getD l.length a = x := by
  simp [List.getD]
theorem last_getD {α : Type} {l : List α} {a : α} : l.getLastD a = l.getD (l.length - 1) a := by
  rw [List.getLastD_eq_getLast?, List.getLast?_eq_getElem?]; rfl
theorem catN_congr {f g : Nat → List UInt8} : ∀ {n : Nat}, (∀ i, i < n → f i = g i) → catN f n = catN g n
  | 0, _ => rfl
  | n + 1, h => by unfold catN; rw [catN_congr (fun i hi => h i (by omega)), h n (by omega)]
theorem empty_nil : ByteArray.empty.toList = [] := by decide +kernel
theorem txt_dict (l : List (ByteArray × T)) : txt (tDict l) = 100 :: (catN (fun i => wtx (l.getD i (ByteArray.empty, .no)).1 ++ txt (l.getD i (ByteArray.empty, .no)).2) l.length ++ [101]) := rfl
theorem txt_list (l : List T) : txt (tList l) = 108 :: (catN (fun i => txt (l.getD i .no)) l.length ++ [101]) := rfl
theorem fstE_nil {f : Nat → Int} : ∀ {n : Nat}, (∀ i, i < n → f i = 0) → fstE f n = 0
  | 0, _ => rfl
  | n + 1, h => by unfold fstE; rw [fstE_nil (fun i hi => h i (by omega)), if_pos rfl, h n (by omega)]
theorem join_tx {f : Fr} {t : T} (h : f.d = true → f.has = true) : (f.join t).tx = f.tx ++ txt t := by
  unfold Fr.join Fr.tx
  by_cases hd : f.d = true
  · rw [if_pos hd, if_pos hd, if_pos (h hd)]
    dsimp only
    rw [if_pos rfl, List.length_append, List.length_singleton, catN]
    rw [catN_congr (g := fun i => wtx (f.ps.getD i (ByteArray.empty, .no)).1 ++ txt (f.ps.getD i (ByteArray.empty, .no)).2) (fun i hi => by rw [getD_lt hi]), getD_at]
    simp
  · rw [if_neg hd, if_neg hd]
    dsimp only
    rw [if_neg (by decide), List.length_append, List.length_singleton, catN]
    rw [catN_congr (g := fun i => txt (f.ls.getD i .no)) (fun i hi => by rw [getD_lt hi]), getD_at]
    simp
theorem close_tx {f : Fr} (h : f.d = true → f.has = false) : txt f.close = f.tx ++ [101] := by
  unfold Fr.close Fr.tx
  by_cases hd : f.d = true
  · rw [if_pos hd, if_pos hd, if_neg (by rw [h hd]; decide)]
    rw [txt_dict, List.append_nil]
    rfl
  · rw [if_neg hd, if_neg hd]
    rw [txt_list]
    rfl
theorem gd_list {l : List T} {ar : Nat} (hd : ar < 32) (hl : l.length ≤ 2147483647) (h : ∀ p, p < l.length → Gd (l.getD p .no) (ar + 1)) : Gd (tList l) ar := by
  refine ⟨?_, ⟨hl, Nat.zero_le _, fun i hi => (h i hi).2.1, fun i hi => absurd hi (Nat.not_lt_zero _)⟩, ⟨by decide, by decide, hl, Nat.zero_le _, fun i hi => (h i hi).2.2, fun i hi => absurd hi (Nat.not_lt_zero _)⟩⟩
  unfold tList wk
  have h1 : fstE (fun i => wk (l.getD i .no) ((ar : Int) + 1)) l.length = 0 := fstE_nil fun i hi => (h i hi).1
  have h2 : ownB 3 0 ByteArray.empty l.length 0 = true := by
    rw [ownB_iff]
    exact ⟨by decide, by decide, .inr rfl, .inr empty_nil, .inl rfl, .inr rfl⟩
  rw [if_neg (by rw [h2]; decide), if_neg (by decide), if_neg (by omega), if_neg (by rw [h1]; decide)]
  rfl
theorem gd_dict {l : List (ByteArray × T)} {ar : Nat} (hd : ar < 32) (hl : l.length ≤ 2147483647) (h : ∀ p, p < l.length → Gd (l.getD p (ByteArray.empty, .no)).2 (ar + 1))
    (hr : ∀ p, p + 1 < l.length → leB (l.getD (p + 1) (ByteArray.empty, .no)).1 (l.getD p (ByteArray.empty, .no)).1 = false) : Gd (tDict l) ar := by
  refine ⟨?_, ⟨Nat.zero_le _, hl, fun i hi => absurd hi (Nat.not_lt_zero _), fun i hi => (h i hi).2.1⟩, ⟨by decide, by decide, Nat.zero_le _, hl, fun i hi => absurd hi (Nat.not_lt_zero _), fun i hi => (h i hi).2.2⟩⟩
  unfold tDict wk
  have h2 : ownB 4 0 ByteArray.empty 0 l.length = true := by
    rw [ownB_iff]
    exact ⟨by decide, by decide, .inr rfl, .inr empty_nil, .inr rfl, .inl rfl⟩
  rw [if_neg (by rw [h2]; decide), if_neg (by decide), if_neg (by omega), if_neg (by simp [fstE])]
  refine fstE_nil fun i hi => ?_
  have hk : keyBad (fun i => (l.getD i (ByteArray.empty, .no)).1) i = false := by
    match i, hi with
    | 0, _ => rfl
    | p + 1, hi => exact hr p hi
  rw [if_neg (by rw [hk]; decide)]
  exact (h i hi).1
theorem gd_num {n : Int} {ar : Nat} (h0 : -9223372036854775808 ≤ n) (h1 : n ≤ 9223372036854775807) : Gd (tNum n) ar := by
  refine ⟨?_, ⟨Nat.zero_le _, Nat.zero_le _, fun i hi => absurd hi (Nat.not_lt_zero _), fun i hi => absurd hi (Nat.not_lt_zero _)⟩, ⟨h0, h1, Nat.zero_le _, Nat.zero_le _, fun i hi => absurd hi (Nat.not_lt_zero _), fun i hi => absurd hi (Nat.not_lt_zero _)⟩⟩
  unfold tNum wk
  have h2 : ownB 1 n ByteArray.empty 0 0 = true := by
    rw [ownB_iff]
    exact ⟨by decide, by decide, .inl rfl, .inr empty_nil, .inr rfl, .inr rfl⟩
  rw [if_neg (by rw [h2]; decide), if_pos (by decide)]
theorem gd_str {s : ByteArray} {ar : Nat} : Gd (tStr s) ar := by
  refine ⟨?_, ⟨Nat.zero_le _, Nat.zero_le _, fun i hi => absurd hi (Nat.not_lt_zero _), fun i hi => absurd hi (Nat.not_lt_zero _)⟩, ⟨by decide, by decide, Nat.zero_le _, Nat.zero_le _, fun i hi => absurd hi (Nat.not_lt_zero _), fun i hi => absurd hi (Nat.not_lt_zero _)⟩⟩
  unfold tStr wk
  have h2 : ownB 2 0 s 0 0 = true := by
    rw [ownB_iff]
    exact ⟨by decide, by decide, .inr rfl, .inl rfl, .inr rfl, .inr rfl⟩
  rw [if_neg (by rw [h2]; decide), if_pos (by decide)]
theorem gd_close {i : Nat} {f : Fr} {ar : Nat} (h : FO i f ar) (hi : i ≤ 2147483647) : Gd f.close ar := by
  unfold Fr.close
  split
  · exact gd_dict h.dep (Nat.le_trans h.pl hi) h.pg h.ri
  · exact gd_list h.dep (Nat.le_trans h.ll hi) h.lg
theorem fo_join {i j : Nat} (hij : i < j) {f : Fr} {t : T} {ar : Nat} (h : FO i f ar) (hw : f.d = true → f.has = true) (hg : Gd t (ar + 1)) : FO j (f.join t) ar := by
  unfold Fr.join
  split
  · rename_i hd
    refine ⟨h.dep, Nat.zero_le _, ?_, fun p hp => absurd hp (Nat.not_lt_zero _), ?_, ?_, fun e => by cases e⟩
    · have := h.pl
      dsimp only; rw [List.length_append, List.length_singleton]; omega
    · dsimp only
      intro p hp
      rw [List.length_append, List.length_singleton] at hp
      by_cases hpl : p < f.ps.length
      · rw [getD_lt hpl]; exact h.pg p hpl
      · rw [show p = f.ps.length by omega, getD_at]; exact hg
    · dsimp only
      intro p hp
      rw [List.length_append, List.length_singleton] at hp
      by_cases hpl : p + 1 < f.ps.length
      · rw [getD_lt hpl, getD_lt (by omega)]; exact h.ri p hpl
      · have hpe : p + 1 = f.ps.length := by omega
        have hne : f.ps ≠ [] := by intro e; rw [e] at hpe; simp at hpe
        have := h.la (hw hd) hne
        rw [last_getD, ← hpe, Nat.add_sub_cancel] at this
        rw [hpe, getD_at, getD_lt (by omega)]
        exact this
  · refine ⟨h.dep, ?_, Nat.zero_le _, ?_, fun p hp => absurd hp (Nat.not_lt_zero _), fun p hp => absurd hp (Nat.not_lt_zero _), fun e => by cases e⟩
    · have := h.ll
      dsimp only; rw [List.length_append, List.length_singleton]; omega
    · dsimp only
      intro p hp
      rw [List.length_append, List.length_singleton] at hp
      by_cases hpl : p < f.ls.length
      · rw [getD_lt hpl]; exact h.lg p hpl
      · rw [show p = f.ls.length by omega, getD_at]; exact hg
theorem oi_deliver {b : List UInt8} {i j : Nat} (hij : i < j) (hj : j ≤ b.length) {st : List Fr} {t : T} (h : SO i st) (hw : AW st) (ht : b.take j = stx st ++ txt t) (hg : Gd t st.length) : OI b (deliver st t j) := by
  match st, h, hw, ht, hg with
  | [], _, _, ht, hg => exact ⟨hj, ht, hg⟩
  | f :: r, h, hw, ht, hg =>
    refine ⟨hj, ?_, fo_join hij h.1 hw hg, h.2.1, SO.up (by omega) h.2.2⟩
    rw [ht]
    show stx r ++ f.tx ++ txt t = stx r ++ (f.join t).tx
    rw [join_tx hw, List.append_assoc]
theorem oi_open {b : List UInt8} {i : Nat} (hi : i < b.length) {st : List Fr} (h : SO i st) (hw : AW st) (ht : b.take i = stx st) {d : Bool} {c : UInt8} (hd : st.length < 32) (hc : byt b i = c) (hx : ({ d := d } : Fr).tx = [c]) : OI b (.go ({ d := d } :: st) (i + 1)) := by
  refine ⟨hi, ?_, ⟨hd, Nat.zero_le _, Nat.zero_le _, fun p hp => absurd hp (Nat.not_lt_zero _), fun p hp => absurd hp (Nat.not_lt_zero _), fun p hp => absurd hp (Nat.not_lt_zero _), fun e => by cases e⟩, hw, SO.up (by omega) h⟩
  rw [take_one hi, ht, hc]
  show _ = stx st ++ ({ d := d } : Fr).tx
  rw [hx]
theorem oi_opn {b : List UInt8} {i : Nat} (hi : i < b.length) {st : List Fr} (h : SO i st) (hw : AW st) (ht : b.take i = stx st) : OI b (opn b st i) := by
  unfold opn
  split
  · rename_i hc
    split
    · trivial
    · rename_i hd
      exact oi_open hi h hw ht (by omega) hc rfl
  · split
    · rename_i hc
      split
      · trivial
      · rename_i hd
        exact oi_open hi h hw ht (by omega) hc rfl
    · unfold scal
      split
      · rename_i hc
        cases hn : numb b i with
        | bad p e => trivial
        | ok n j =>
          obtain ⟨h1, h2, h3, h4, h5⟩ := numb_txt hi hc hn
          exact oi_deliver h2 h3 h hw (by rw [h1, ht]) (gd_num h4 h5)
      · split
        · cases hn : strg b i with
          | bad p e => trivial
          | ok s j =>
            obtain ⟨h1, h2, h3, _⟩ := strg_txt hn
            exact oi_deliver h2 h3 h hw (by rw [h1, ht]; rfl) gd_str
        · trivial
theorem oi_close {b : List UInt8} {i : Nat} (hi : i < b.length) (hlim : b.length ≤ 2147483647) {f : Fr} {r : List Fr} (h : SO i (f :: r)) (ht : b.take i = stx (f :: r)) (hc : byt b i = 101) (hh : f.d = true → f.has = false) : OI b (deliver r f.close (i + 1)) := by
  refine oi_deliver (Nat.lt_succ_self i) hi h.2.2 h.2.1 ?_ (gd_close h.1 (by omega))
  rw [take_one hi, ht, hc, close_tx hh]
  show stx r ++ f.tx ++ [101] = _
  rw [List.append_assoc]
theorem oi_step {b : List UInt8} (hlim : b.length ≤ 2147483647) {st : List Fr} {i : Nat} (h : OI b (.go st i)) : OI b (step b st i) := by
  obtain ⟨_, ht, hs⟩ := h
  unfold step
  split
  · trivial
  · have hi : i < b.length := by omega
    match st, ht, hs with
    | [], ht, hs => exact oi_opn hi hs trivial ht
    | f :: r, ht, hs =>
      dsimp only
      split
      · rename_i hf
        split
        · rename_i hc
          exact oi_close hi hlim hs ht hc fun _ => hf.2
        · unfold keyy
          split
          · trivial
          · cases hn : strg b i with
            | bad p e => trivial
            | ok s j =>
              obtain ⟨h1, h2, h3, _⟩ := strg_txt hn
              dsimp only
              split
              · trivial
              · rename_i hk
                refine ⟨h3, ?_, ⟨hs.1.dep, Nat.le_trans hs.1.ll (by omega), Nat.le_trans hs.1.pl (by omega), hs.1.lg, hs.1.pg, hs.1.ri, fun _ hne => ?_⟩, hs.2.1, SO.up (by omega) hs.2.2⟩
                · rw [h1, ht]
                  show stx r ++ f.tx ++ wtx s = stx r ++ _
                  rw [List.append_assoc]
                  congr 1
                  unfold Fr.tx
                  dsimp only
                  rw [if_pos hf.1, if_pos hf.1, if_neg (by rw [hf.2]; decide), if_pos rfl]
                  simp
                · cases hb : leB s (f.ps.getLastD (ByteArray.empty, .no)).1 with
                  | false => rfl
                  | true => exact absurd ⟨hne, hb⟩ hk
      · rename_i hf
        split
        · rename_i hc
          exact oi_close hi hlim hs ht hc.2 fun e => by rw [hc.1] at e; cases e
        · refine oi_opn hi hs (fun e => ?_) ht
          cases hh : f.has with
          | true => rfl
          | false => exact absurd ⟨e, hh⟩ hf
theorem oi_run {b : List UInt8} (hlim : b.length ≤ 2147483647) {o q : Out} (h : Run b o q) : OI b o → OI b q := by
  induction h with
  | refl o => exact fun h => h
  | more _ ih => exact fun h => ih (oi_step hlim h)
theorem run_txt {b : List UInt8} (hlim : b.length ≤ 2147483647) {t : T} {n : Nat} (h : Run b (.go [] 0) (.val t n)) : n ≤ b.length ∧ b.take n = txt t ∧ Gd t 0 :=
  oi_run hlim h ⟨Nat.zero_le _, rfl, trivial⟩
theorem dout_txt {b : List UInt8} {t : T} {k : Nat} (h : DOUT b t k 0) : b = txt t ∧ Gd t 0 ∧ b.length ≤ 1048576 := by
  rcases h with ⟨_, _, hl, n, hr, hn⟩ | ⟨_, ⟨e, _⟩ | ⟨hr, _⟩ | ⟨_, _, e⟩⟩
  · obtain ⟨h1, h2, h3⟩ := run_txt (by omega) hr
    refine ⟨?_, h3, hl⟩
    rw [← h2, List.take_of_length_le hn]
  · cases e
  · have := run_er hr; omega
  · cases e
end Go.Proofs.YtdlnnnlmlaploaaDoor
