import Derived.Test.YtegdlkbilgkfoaaDoorM15
namespace Go.Proofs.YtegdlkbilgkfoaaDoor
open Go.RowKit Go.Deep
def mth (ty : TypeId) : Nat := if ty = 76 then 115 else if ty = 64 then 111 else if ty = 78 then 116 else 110
theorem NB.keep {B : Nat} {w w' : World} (h : BW B w w') {b : Nat} (hn : NB w b) (hl : b < w.heap.size) : w'.heap[b]? = w.heap[b]? := by
  have e : w.heap[b]? = some w.heap[b] := Array.getElem?_eq_getElem hl
  rw [e]
  exact h.2 b _ e (by simp) (fun c fz hc => hn c fz (by rw [e, hc]))
def TC (t : T) : Prop := ∀ (B : Nat) (ty : TypeId) (u sv : Value) (l : List UInt8) (w : World), RN (NB w) w t (.iface ty u) → t.rng → OW B w sv l → B ≤ w.heap.size → TB B w → l.length + (txt t).length ≤ 100000000000000 →
  Calls Tryd.prog (mth ty) #[u, sv] w fun e w' => ∃ v', e = .returned v' ∧ OW B w' v' (l ++ txt t) ∧ BW B w w'
theorem RN.keepB {B : Nat} {w w' : World} {t : T} {v : Value} (h : RN (NB w) w t v) (hb : BW B w w') : RN (NB w') w' t v :=
  RN.move (fun b hn hl c fz => by rw [NB.keep hb hn hl]; exact hn c fz) hb.1.size (fun b hn hl => NB.keep hb hn hl) _ _ h
theorem RN.ty {S : Nat → Prop} {w : World} {t : T} {ty : TypeId} {u : Value} (h : RN S w t (.iface ty u)) : ty = 76 ∨ ty = 64 ∨ ty = 78 ∨ ty = 59 := by
  cases t with
  | no => exact h.elim
  | mk k n s ln l dn ky dv =>
    rcases h with ⟨_, h⟩ | ⟨_, h⟩ | ⟨_, b, c, h, _⟩ | ⟨_, b, c, h, _⟩ <;> cases h
    · exact .inl rfl
    · exact .inr (.inl rfl)
    · exact .inr (.inr (.inl rfl))
    · exact .inr (.inr (.inr rfl))
theorem meth55 (u : Value) (w : World) : Sem.run Tryd.prog (method 266 76 u "torrent/bencode.text") w = .ok (115, u) w := by kernel_rfl
theorem meth56 (u : Value) (w : World) : Sem.run Tryd.prog (method 266 64 u "torrent/bencode.text") w = .ok (111, u) w := by kernel_rfl
theorem meth58 (u : Value) (w : World) : Sem.run Tryd.prog (method 266 78 u "torrent/bencode.text") w = .ok (116, u) w := by kernel_rfl
theorem meth61 (u : Value) (w : World) : Sem.run Tryd.prog (method 266 59 u "torrent/bencode.text") w = .ok (110, u) w := by kernel_rfl
theorem catN_le {f : Nat → List UInt8} : ∀ {n j : Nat}, j < n → (catN f j).length + (f j).length ≤ (catN f n).length
  | 0, _, h => absurd h (Nat.not_lt_zero _)
  | n + 1, j, h => by
    show _ ≤ (catN f n ++ f n).length
    rw [List.length_append]
    rcases Nat.lt_succ_iff_lt_or_eq.1 h with h | rfl
    · have := catN_le (f := f) h; omega
    · exact Nat.le_refl _
set_option maxRecDepth 10000 in
set_option maxHeartbeats 1000000 in
theorem list101 (ln : Nat) (ch : Nat → T) (ih : ∀ i, TC (ch i)) (B b c : Nat) (sv : Value) (l : List UInt8) (w : World) (hb : NB w b) (hbl : b < w.heap.size) (hel : ∀ i, i < ln → ∃ u, w.cell? ⟨b, i, none⟩ = some u ∧ RN (NB w) w (ch i) u) (hrng : ∀ i, i < ln → (ch i).rng) (hln : ln ≤ 2147483647)
    (hown : OW B w sv l) (hB : B ≤ w.heap.size) (hT : TB B w) (hlim : l.length + (catN (fun i => txt (ch i)) ln).length + 2 ≤ 100000000000000) :
    Calls Tryd.prog 116 #[.slice (some ⟨b, 0, none⟩) ln c, sv] w fun e w' => ∃ v', e = .returned v' ∧ OW B w' v' (l ++ 108 :: (catN (fun i => txt (ch i)) ln ++ [101])) ∧ BW B w w' := by
  have HC : Hid ((∀ i, TC (ch i)) ∧ ∀ i, i < ln → ∃ u, w.cell? ⟨b, i, none⟩ = some u ∧ RN (NB w) w (ch i) u) := ⟨ih, hel⟩
  clear ih hel
  go_enter Tryd.func116, Tryd.ntmps116
  go_wp2_with (at_builtin; refine append_byte rfl _ _ rfl rfl (hown.alloc _) w.heap.size 108 rfl (by go_simp) (by simp; omega) (by omega) ?_)
  intro v1 w1 ho1 hb1
  have hb1' : BW B w w1 := ((BW.refl B w).alloc hB _).trans hb1
  have hB1 : B ≤ w1.heap.size := Nat.le_trans hB hb1'.1.size
  clear hb1
  go_wp2
  go_loopw [1, 12] (fun o i wr => ∃ (j : Nat), j ≤ ln ∧ i = .int .i64 j ∧ Hid (OW B wr o (l ++ 108 :: catN (fun i => txt (ch i)) j) ∧ BW B w wr)) (fun _ i _ => ln - (intOf i).toNat)
  case atStart => exact ⟨0, Nat.zero_le _, rfl, ho1, hb1'⟩
  case round =>
    clear ho1 hb1' hB1
    obtain ⟨j, hj, rfl, HO⟩ := hrel
    by_cases hlt : j < ln
    · obtain ⟨u0, g0, g1⟩ := HC.out.2 j hlt
      obtain ⟨ty, u, rfl⟩ := g1.iface
      have g0' := (World.cell?_of_block (w := w) (NB.keep HO.out.2 hb hbl)).trans g0
      clear g0
      have j0 : (0 : Int) ≤ (j : Int) := by omega
      have j1 : (j : Int) < (ln : Int) := by omega
      have hty := g1.ty
      have hle := catN_le (f := fun i => txt (ch i)) hlt
      have HX := Lib.hid (HC.out.1 j B ty u _ _ _ (RN.keepB g1 HO.out.2) (hrng j hlt) HO.out.1 (Nat.le_trans hB HO.out.2.1.size) (hT.on HO.out.2.1) (by simp only [List.length_append, List.length_cons]; omega))
      have hrestX : ∀ w2 v2, OW B w2 v2 ((l ++ 108 :: catN (fun i => txt (ch i)) j) ++ txt (ch j)) → BW B _ w2 → Hid (OW B w2 v2 (l ++ 108 :: catN (fun i => txt (ch i)) (j + 1)) ∧ BW B w w2) := fun w2 v2 q1 q2 => ⟨by simpa [catN] using q1, HO.out.2.trans q2⟩
      have HRX := Lib.hid hrestX
      clear HO g1 hrestX hle
      have m1 := meth55
      have m2 := meth56
      have m3 := meth58
      have m4 := meth61
      rcases hty with rfl | rfl | rfl | rfl
      all_goals
        go_wp2_with fail
        refine HX.out.mono ?_
        rintro e w2 ⟨v2, rfl, q1, q2⟩
        have HN := HRX.out w2 v2 q1 q2
        clear q1 q2 HX HRX m1 m2 m3 m4
        go_wp2
        go_roundw
        case rel => exact ⟨j + 1, by omega, by go_num, HN⟩
        case measure => simp [intOf]; omega
    · obtain rfl : j = ln := by omega
      obtain ⟨ho, hbw⟩ := HO.out
      have hB2 := Nat.le_trans hB hbw.1.size
      have HBW := Lib.hid hbw
      clear hbw
      go_wp2_with (at_builtin; refine append_byte rfl _ _ rfl rfl (ho.alloc _) _ 101 rfl (by go_simp) (by simp; omega) (by simp; omega) ?_)
      intro v3 w3 ho3 hb3
      go_wp2
      go_ret
      exact ⟨v3, rfl, by simpa using ho3, (HBW.out.alloc hB2 _).trans hb3⟩
end Go.Proofs.YtegdlkbilgkfoaaDoor
namespace Go.Proofs.YtegdlkbilgkfoaaDoor
open Go.RowKit Go.Deep
/-! ### What is read is written as the same text -/
def unp (d : List UInt8) : Prop := d.length = 1 ∨ byt d 0 ≠ 48
theorem ofNat_dig {c : UInt8} (h : 48 ≤ c.toNat ∧ c.toNat ≤ 57) : UInt8.ofNat (48 + (c.toNat - 48)) = c := by
  rw [show 48 + (c.toNat - 48) = c.toNat by omega]; exact UInt8.ofNat_toNat
theorem dval_pos : ∀ {d : List UInt8}, allDig d → d ≠ [] → byt d 0 ≠ 48 → 1 ≤ dval 0 d
  | [], _, h, _ => absurd rfl h
  | c :: r, ha, _, h0 => by
    have hc := ha c (List.mem_cons_self ..)
    have hne : c.toNat ≠ 48 := fun e => h0 (UInt8.toNat_inj.1 e)
    rw [dval_cons]
    exact Nat.le_trans (by omega) (dval_le r _)
theorem dec_dval : ∀ (n : Nat) (d : List UInt8), d.length = n → d ≠ [] → allDig d → unp d → Lib.decDigits (dval 0 d) = d
  | 0, d, hn, h, _, _ => absurd (List.length_eq_zero_iff.1 hn) h
  | n + 1, d, hn, _, ha, hu => by
    obtain ⟨x, c, rfl⟩ : ∃ x c, d = x ++ [c] := ⟨d.dropLast, d.getLast (by intro e; subst e; cases hn), (List.dropLast_concat_getLast _).symm⟩
    have hc := ha c (by simp)
    rw [dval_snoc]
    by_cases hx : x = []
    · subst hx
      rw [dval_nil, Nat.zero_mul, Nat.zero_add, Lib.decDigits, dif_pos (by omega), ofNat_dig hc]; rfl
    · have hax : allDig x := fun y hy => ha y (by simp [hy])
      have hlx : 0 < x.length := List.length_pos_iff.2 hx
      have h0 : byt x 0 ≠ 48 := by
        rcases hu with h | h
        · simp at h; exact absurd h hx
        · have : byt (x ++ [c]) 0 = byt x 0 := byt_app hlx
          rwa [this] at h
      have hp := dval_pos hax hx h0
      rw [Lib.decDigits, dif_neg (by omega), show (dval 0 x * 10 + (c.toNat - 48)) / 10 = dval 0 x by omega, show (dval 0 x * 10 + (c.toNat - 48)) % 10 = c.toNat - 48 by omega, ofNat_dig hc,
        dec_dval n x (by simp at hn; omega) hx hax (.inr h0)]
theorem padd_unp {d : List UInt8} (hn : d ≠ []) (h : ¬ padd d = true) : unp d := by
  have hl := List.length_pos_iff.2 hn
  by_cases h1 : d.length = 1
  · exact .inl h1
  · refine .inr fun e => h ?_
    unfold padd; simp [e]; omega
theorem atoi_back {d : List UInt8} {n : Int} (ha : allDig d) (hn : d ≠ []) (hp : ¬ padd d = true) (h : Lib.atoiAll d = .ok n) : Lib.itoa n = d ∧ 0 ≤ n ∧ n ≤ 9223372036854775807 := by
  by_cases hl : dval 0 d < 9223372036854775808
  · rw [(atoi_pos ha hn).1 hl] at h
    injection h with h
    subst h
    exact ⟨by rw [Lib.itoa_nonneg]; exact dec_dval _ d rfl hn ha (padd_unp hn hp), by omega, by omega⟩
  · exact absurd h ((atoi_pos ha hn).2 (by omega) n)
theorem atoi_back_neg {d : List UInt8} {n : Int} (ha : allDig d) (hn : d ≠ []) (hp : ¬ padd d = true) (hz : 45 :: d ≠ [45, 48]) (h : Lib.atoiAll (45 :: d) = .ok n) : Lib.itoa n = 45 :: d ∧ -9223372036854775808 ≤ n ∧ n ≤ 0 := by
  by_cases hl : dval 0 d ≤ 9223372036854775808
  · rw [(atoi_neg ha hn).1 hl] at h
    injection h with h
    subst h
    have hu := padd_unp hn hp
    have h1 : 1 ≤ dval 0 d := by
      rcases hu with h | h
      · match d, h with
        | [c], _ =>
          have hc := ha c (by simp)
          rw [dval_cons, dval_nil]
          have : c ≠ 48 := fun e => hz (by rw [e])
          have : c.toNat ≠ 48 := fun e => this (UInt8.toNat_inj.1 e)
          omega
      · exact dval_pos ha hn h
    exact ⟨by rw [Lib.itoa_neg _ h1, dec_dval _ d rfl hn ha hu], by omega, by omega⟩
  · exact absurd h ((atoi_neg ha hn).2 (by omega) n)
theorem take_cut {b : List UInt8} {i j : Nat} (h : i ≤ j) : b.take j = b.take i ++ cut b i j := by
  unfold cut
  rw [← List.take_append_drop i (b.take j), List.take_take, Nat.min_eq_left h, List.drop_take]
theorem cut_one {b : List UInt8} {i : Nat} (h : i < b.length) : cut b i (i + 1) = [byt b i] := by
  unfold cut byt
  rw [Nat.add_sub_cancel_left, List.drop_eq_getElem_cons h, List.take_succ_cons, List.take_zero]
  simp [List.getD, List.getElem?_eq_getElem h]
theorem take_one {b : List UInt8} {i : Nat} (h : i < b.length) : b.take (i + 1) = b.take i ++ [byt b i] := by
  rw [take_cut (Nat.le_succ i), cut_one h]
theorem digs_txt {b : List UInt8} {en : UInt8} {i j : Nat} {d : List UInt8} (h : digs b en i = .ok d j) : b.take j = b.take i ++ (d ++ [en]) ∧ allDig d ∧ d ≠ [] ∧ i < j ∧ j ≤ b.length := by
  unfold digs at h
  split at h
  · cases h
  · rename_i h1
    split at h
    · cases h
    · rename_i h2
      injection h with hd hj
      subst hd hj
      have hr : run b i ≠ 0 := fun e => h2 (.inl e)
      have hb : byt b (i + run b i) = en := Classical.byContradiction fun e => h2 (.inr e)
      have hl : i + run b i < b.length := by omega
      have hcl := cut_length (b := b) (i := i) (j := i + run b i) (by omega)
      refine ⟨by rw [take_one hl, take_cut (Nat.le_add_right i (run b i)), hb, List.append_assoc], fun c hc => ?_, fun e => by rw [e] at hcl; simp at hcl; omega, by omega, by omega⟩
      obtain ⟨k, hk, rfl⟩ := List.getElem_of_mem hc
      have hk' : k < run b i := by rw [hcl] at hk; omega
      have h3 := (run_lt hk').2
      have h4 : byt (cut b i (i + run b i)) k = byt b (i + k) := byt_cut (by omega)
      have h5 : byt (cut b i (i + run b i)) k = (cut b i (i + run b i))[k] := by unfold byt; simp [List.getD, List.getElem?_eq_getElem hk]
      rw [← h5, h4]
      exact (dig_iff _).1 h3
theorem strg_txt {b : List UInt8} {i j : Nat} {s : ByteArray} (h : strg b i = .ok s j) : b.take j = b.take i ++ wtx s ∧ i < j ∧ j ≤ b.length ∧ s.size ≤ b.length := by
  unfold strg at h
  cases hd : digs b 58 i with
  | bad p e => rw [hd] at h; cases h
  | ok d j0 =>
    obtain ⟨h1, h2, h3, h4, h5⟩ := digs_txt hd
    rw [hd] at h
    dsimp only at h
    split at h
    · cases h
    · rename_i hp
      cases ha : Lib.atoiAll d with
      | «syntax» => rw [ha] at h; cases h
      | range => rw [ha] at h; cases h
      | ok n =>
        rw [ha] at h
        dsimp only at h
        split at h
        · cases h
        · rename_i hn
          injection h with hs hj
          obtain ⟨hb, hn0, hn1⟩ := atoi_back h2 h3 hp ha
          have hlen : (cut b j0 (j0 + n.toNat)).length = n.toNat := by rw [cut_length (by omega)]; omega
          have hsz : s.size = n.toNat := by rw [← hs]; show (cut b j0 (j0 + n.toNat)).toArray.size = _; simpa using hlen
          have hsd : s.data.toList = cut b j0 (j0 + n.toNat) := by rw [← hs]
          subst hj
          refine ⟨?_, by omega, by omega, by omega⟩
          rw [take_cut (Nat.le_add_right j0 n.toNat), h1]
          unfold wtx
          rw [hsz, hsd, show ((n.toNat : Nat) : Int) = n by omega, hb]
          simp
theorem numb_txt {b : List UInt8} {i j : Nat} {n : Int} (hi : i < b.length) (hb : byt b i = 105) (h : numb b i = .ok n j) : b.take j = b.take i ++ txt (tNum n) ∧ i < j ∧ j ≤ b.length ∧ -9223372036854775808 ≤ n ∧ n ≤ 9223372036854775807 := by
  have ht : txt (tNum n) = 105 :: (Lib.itoa n ++ [101]) := rfl
  by_cases hl : i + 1 < b.length
  · rw [numb_sg hl] at h
    by_cases h45 : byt b (i + 1) = 45
    · rw [if_pos h45] at h
      cases hd : digs b 101 (i + 1 + ([45] : List UInt8).length) with
      | bad p e => rw [hd] at h; cases h
      | ok d j0 =>
        obtain ⟨h1, h2, h3, h4, h5⟩ := digs_txt hd
        rw [hd] at h
        dsimp only at h
        cases ha : Lib.atoiAll ([45] ++ d) with
        | «syntax» => rw [ha] at h; cases h
        | range => rw [ha] at h; cases h
        | ok v =>
          rw [ha] at h
          dsimp only at h
          split at h
          · cases h
          · rename_i hp
            injection h with hv hj
            subst hv hj
            obtain ⟨e1, e2, e3⟩ := atoi_back_neg h2 h3 (fun e => hp (.inl e)) (fun e => hp (.inr e)) ha
            refine ⟨?_, by simp at h4; omega, h5, e2, by omega⟩
            rw [h1, ht, e1]
            have : b.take (i + 1 + [(45 : UInt8)].length) = b.take i ++ [105] ++ [45] := by
              show b.take (i + 1 + 1) = _
              rw [take_one hl, take_one hi, hb, h45]
            rw [this]; simp
    · rw [if_neg h45] at h
      cases hd : digs b 101 (i + 1 + ([] : List UInt8).length) with
      | bad p e => rw [hd] at h; cases h
      | ok d j0 =>
        obtain ⟨h1, h2, h3, h4, h5⟩ := digs_txt hd
        rw [hd] at h
        dsimp only at h
        rw [List.nil_append] at h
        cases ha : Lib.atoiAll d with
        | «syntax» => rw [ha] at h; cases h
        | range => rw [ha] at h; cases h
        | ok v =>
          rw [ha] at h
          dsimp only at h
          split at h
          · cases h
          · rename_i hp
            injection h with hv hj
            subst hv hj
            obtain ⟨e1, e2, e3⟩ := atoi_back h2 h3 (fun e => hp (.inl e)) ha
            refine ⟨?_, by simp at h4; omega, h5, by omega, by omega⟩
            rw [h1, ht, e1]
            have : b.take (i + 1 + ([] : List UInt8).length) = b.take i ++ [105] := by
              show b.take (i + 1) = _
              rw [take_one hi, hb]
            rw [this]; simp
  · rw [numb, if_pos (by omega)] at h; cases h
end Go.Proofs.YtegdlkbilgkfoaaDoor
namespace Go.Proofs.YtegdlkbilgkfoaaDoor
open Go.RowKit Go.Deep
/-! ### The machine keeps: what is read so far is the text of what stands on the stack -/
def Gd (t : T) (ar : Nat) : Prop := wk t ar = 0 ∧ t.small ∧ t.rng
def Fr.tx (f : Fr) : List UInt8 :=
  if f.d = true then 100 :: (catN (fun i => wtx (f.ps.getD i (ByteArray.empty, .no)).1 ++ txt (f.ps.getD i (ByteArray.empty, .no)).2) f.ps.length ++ (if f.has = true then wtx f.key else []))
  else 108 :: catN (fun i => txt (f.ls.getD i .no)) f.ls.length
def stx : List Fr → List UInt8
  | [] => []
  | f :: r => stx r ++ f.tx
/-- a frame waits for a value -/
def AW : List Fr → Prop
  | [] => True
  | f :: _ => f.d = true → f.has = true
structure FO (i : Nat) (f : Fr) (ar : Nat) : Prop where
  dep : ar < 32
  ll : f.ls.length ≤ i
  pl : f.ps.length ≤ i
  lg : ∀ p, p < f.ls.length → Gd (f.ls.getD p .no) (ar + 1)
  pg : ∀ p, p < f.ps.length → Gd (f.ps.getD p (ByteArray.empty, .no)).2 (ar + 1)
  ri : ∀ p, p + 1 < f.ps.length → leB (f.ps.getD (p + 1) (ByteArray.empty, .no)).1 (f.ps.getD p (ByteArray.empty, .no)).1 = false
  la : f.has = true → f.ps ≠ [] → leB f.key (f.ps.getLastD (ByteArray.empty, .no)).1 = false
def SO (i : Nat) : List Fr → Prop
  | [] => True
  | f :: r => FO i f r.length ∧ AW r ∧ SO i r
def OI (b : List UInt8) : Out → Prop
  | .go st i => i ≤ b.length ∧ b.take i = stx st ∧ SO i st
  | .val t i => i ≤ b.length ∧ b.take i = txt t ∧ Gd t 0
  | .bad _ _ => True
theorem FO.up {i j : Nat} (h : i ≤ j) {f : Fr} {ar : Nat} (g : FO i f ar) : FO j f ar := ⟨g.dep, Nat.le_trans g.ll h, Nat.le_trans g.pl h, g.lg, g.pg, g.ri, g.la⟩
theorem SO.up {i j : Nat} (h : i ≤ j) : ∀ {st : List Fr}, SO i st → SO j st
  | [], _ => trivial
  | _ :: _, g => ⟨g.1.up h, g.2.1, SO.up h g.2.2⟩
theorem getD_lt {α : Type} {l : List α} {x a : α} {i : Nat} (h : i < l.length) : (l ++ [x]).getD i a = l.getD i a := by
  simp [List.getD, List.getElem?_append_left h]
theorem getD_at {α : Type} {l : List α} {x a : α} : (l ++ [x]).getD l.length a = x := by
  simp [List.getD]
theorem last_getD {α : Type} {l : List α} {a : α} : l.getLastD a = l.getD (l.length - 1) a := by
  rw [List.getLastD_eq_getLast?, List.getLast?_eq_getElem?]; rfl
theorem catN_congr {f g : Nat → List UInt8} : ∀ {n : Nat}, (∀ i, i < n → f i = g i) → catN f n = catN g n
  | 0, _ => rfl
  | n + 1, h => by unfold catN; rw [catN_congr (fun i hi => h i (by omega)), h n (by omega)]
theorem empty_nil : ByteArray.empty.toList = [] := by decide +kernel
theorem txt_dict (l : List (ByteArray × T)) : txt (tDict l) = 100 :: (catN (fun i => wtx (l.getD i (ByteArray.empty, .no)).1 ++ txt (l.getD i (ByteArray.empty, .no)).2) l.length ++ [101]) := rfl
theorem txt_list (l : List T) : txt (tList l) = 108 :: (catN (fun i => txt (l.getD i .no)) l.length ++ [101]) := rfl
theorem fstE_nil {f : Nat → Int} : ∀ {n : Nat}, (∀ i, i < n → f i = 0) → fstE f n = 0
  | 0, _ => rfl
  | n + 1, h => by unfold fstE; rw [fstE_nil (fun i hi => h i (by omega)), if_pos rfl, h n (by omega)]
theorem join_tx {f : Fr} {t : T} (h : f.d = true → f.has = true) : (f.join t).tx = f.tx ++ txt t := by
  unfold Fr.join Fr.tx
  by_cases hd : f.d = true
  · rw [if_pos hd, if_pos hd, if_pos (h hd)]
    dsimp only
    rw [if_pos rfl, List.length_append, List.length_singleton, catN]
    rw [catN_congr (g := fun i => wtx (f.ps.getD i (ByteArray.empty, .no)).1 ++ txt (f.ps.getD i (ByteArray.empty, .no)).2) (fun i hi => by rw [getD_lt hi]), getD_at]
    simp
  · rw [if_neg hd, if_neg hd]
    dsimp only
    rw [if_neg (by decide), List.length_append, List.length_singleton, catN]
    rw [catN_congr (g := fun i => txt (f.ls.getD i .no)) (fun i hi => by rw [getD_lt hi]), getD_at]
    simp
theorem close_tx {f : Fr} (h : f.d = true → f.has = false) : txt f.close = f.tx ++ [101] := by
  unfold Fr.close Fr.tx
  by_cases hd : f.d = true
  · rw [if_pos hd, if_pos hd, if_neg (by rw [h hd]; decide)]
    rw [txt_dict, List.append_nil]
    rfl
  · rw [if_neg hd, if_neg hd]
    rw [txt_list]
    rfl
theorem gd_list {l : List T} {ar : Nat} (hd : ar < 32) (hl : l.length ≤ 2147483647) (h : ∀ p, p < l.length → Gd (l.getD p .no) (ar + 1)) : Gd (tList l) ar := by
  refine ⟨?_, ⟨hl, Nat.zero_le _, fun i hi => (h i hi).2.1, fun i hi => absurd hi (Nat.not_lt_zero _)⟩, ⟨by decide, by decide, hl, Nat.zero_le _, fun i hi => (h i hi).2.2, fun i hi => absurd hi (Nat.not_lt_zero _)⟩⟩
  unfold tList wk
  have h1 : fstE (fun i => wk (l.getD i .no) ((ar : Int) + 1)) l.length = 0 := fstE_nil fun i hi => (h i hi).1
  have h2 : ownB 3 0 ByteArray.empty l.length 0 = true := by
    rw [ownB_iff]
    exact ⟨by decide, by decide, .inr rfl, .inr empty_nil, .inl rfl, .inr rfl⟩
  rw [if_neg (by rw [h2]; decide), if_neg (by decide), if_neg (by omega), if_neg (by rw [h1]; decide)]
  rfl
theorem gd_dict {l : List (ByteArray × T)} {ar : Nat} (hd : ar < 32) (hl : l.length ≤ 2147483647) (h : ∀ p, p < l.length → Gd (l.getD p (ByteArray.empty, .no)).2 (ar + 1))
    (hr : ∀ p, p + 1 < l.length → leB (l.getD (p + 1) (ByteArray.empty, .no)).1 (l.getD p (ByteArray.empty, .no)).1 = false) : Gd (tDict l) ar := by
  refine ⟨?_, ⟨Nat.zero_le _, hl, fun i hi => absurd hi (Nat.not_lt_zero _), fun i hi => (h i hi).2.1⟩, ⟨by decide, by decide, Nat.zero_le _, hl, fun i hi => absurd hi (Nat.not_lt_zero _), fun i hi => (h i hi).2.2⟩⟩
  unfold tDict wk
  have h2 : ownB 4 0 ByteArray.empty 0 l.length = true := by
    rw [ownB_iff]
    exact ⟨by decide, by decide, .inr rfl, .inr empty_nil, .inr rfl, .inl rfl⟩
  rw [if_neg (by rw [h2]; decide), if_neg (by decide), if_neg (by omega), if_neg (by simp [fstE])]
  refine fstE_nil fun i hi => ?_
  have hk : keyBad (fun i => (l.getD i (ByteArray.empty, .no)).1) i = false := by
    match i, hi with
    | 0, _ => rfl
    | p + 1, hi => exact hr p hi
  rw [if_neg (by rw [hk]; decide)]
  exact (h i hi).1
theorem gd_num {n : Int} {ar : Nat} (h0 : -9223372036854775808 ≤ n) (h1 : n ≤ 9223372036854775807) : Gd (tNum n) ar := by
  refine ⟨?_, ⟨Nat.zero_le _, Nat.zero_le _, fun i hi => absurd hi (Nat.not_lt_zero _), fun i hi => absurd hi (Nat.not_lt_zero _)⟩, ⟨h0, h1, Nat.zero_le _, Nat.zero_le _, fun i hi => absurd hi (Nat.not_lt_zero _), fun i hi => absurd hi (Nat.not_lt_zero _)⟩⟩
  unfold tNum wk
  have h2 : ownB 1 n ByteArray.empty 0 0 = true := by
    rw [ownB_iff]
    exact ⟨by decide, by decide, .inl rfl, .inr empty_nil, .inr rfl, .inr rfl⟩
  rw [if_neg (by rw [h2]; decide), if_pos (by decide)]
theorem gd_str {s : ByteArray} {ar : Nat} : Gd (tStr s) ar := by
  refine ⟨?_, ⟨Nat.zero_le _, Nat.zero_le _, fun i hi => absurd hi (Nat.not_lt_zero _), fun i hi => absurd hi (Nat.not_lt_zero _)⟩, ⟨by decide, by decide, Nat.zero_le _, Nat.zero_le _, fun i hi => absurd hi (Nat.not_lt_zero _), fun i hi => absurd hi (Nat.not_lt_zero _)⟩⟩
  unfold tStr wk
  have h2 : ownB 2 0 s 0 0 = true := by
    rw [ownB_iff]
    exact ⟨by decide, by decide, .inr rfl, .inl rfl, .inr rfl, .inr rfl⟩
  rw [if_neg (by rw [h2]; decide), if_pos (by decide)]
theorem gd_close {i : Nat} {f : Fr} {ar : Nat} (h : FO i f ar) (hi : i ≤ 2147483647) : Gd f.close ar := by
  unfold Fr.close
  split
  · exact gd_dict h.dep (Nat.le_trans h.pl hi) h.pg h.ri
  · exact gd_list h.dep (Nat.le_trans h.ll hi) h.lg
theorem fo_join {i j : Nat} (hij : i < j) {f : Fr} {t : T} {ar : Nat} (h : FO i f ar) (hw : f.d = true → f.has = true) (hg : Gd t (ar + 1)) : FO j (f.join t) ar := by
  unfold Fr.join
  split
  · rename_i hd
    refine ⟨h.dep, Nat.zero_le _, ?_, fun p hp => absurd hp (Nat.not_lt_zero _), ?_, ?_, fun e => by cases e⟩
    · have := h.pl
      dsimp only; rw [List.length_append, List.length_singleton]; omega
    · dsimp only
      intro p hp
      rw [List.length_append, List.length_singleton] at hp
      by_cases hpl : p < f.ps.length
      · rw [getD_lt hpl]; exact h.pg p hpl
      · rw [show p = f.ps.length by omega, getD_at]; exact hg
    · dsimp only
      intro p hp
      rw [List.length_append, List.length_singleton] at hp
      by_cases hpl : p + 1 < f.ps.length
      · rw [getD_lt hpl, getD_lt (by omega)]; exact h.ri p hpl
      · have hpe : p + 1 = f.ps.length := by omega
        have hne : f.ps ≠ [] := by intro e; rw [e] at hpe; simp at hpe
        have := h.la (hw hd) hne
        rw [last_getD, ← hpe, Nat.add_sub_cancel] at this
        rw [hpe, getD_at, getD_lt (by omega)]
        exact this
  · refine ⟨h.dep, ?_, Nat.zero_le _, ?_, fun p hp => absurd hp (Nat.not_lt_zero _), fun p hp => absurd hp (Nat.not_lt_zero _), fun e => by cases e⟩
    · have := h.ll
      dsimp only; rw [List.length_append, List.length_singleton]; omega
    · dsimp only
      intro p hp
      rw [List.length_append, List.length_singleton] at hp
      by_cases hpl : p < f.ls.length
      · rw [getD_lt hpl]; exact h.lg p hpl
      · rw [show p = f.ls.length by omega, getD_at]; exact hg
theorem oi_deliver {b : List UInt8} {i j : Nat} (hij : i < j) (hj : j ≤ b.length) {st : List Fr} {t : T} (h : SO i st) (hw : AW st) (ht : b.take j = stx st ++ txt t) (hg : Gd t st.length) : OI b (deliver st t j) := by
  match st, h, hw, ht, hg with
  | [], _, _, ht, hg => exact ⟨hj, ht, hg⟩
  | f :: r, h, hw, ht, hg =>
    refine ⟨hj, ?_, fo_join hij h.1 hw hg, h.2.1, SO.up (by omega) h.2.2⟩
    rw [ht]
    show stx r ++ f.tx ++ txt t = stx r ++ (f.join t).tx
    rw [join_tx hw, List.append_assoc]
theorem oi_open {b : List UInt8} {i : Nat} (hi : i < b.length) {st : List Fr} (h : SO i st) (hw : AW st) (ht : b.take i = stx st) {d : Bool} {c : UInt8} (hd : st.length < 32) (hc : byt b i = c) (hx : ({ d := d } : Fr).tx = [c]) : OI b (.go ({ d := d } :: st) (i + 1)) := by
  refine ⟨hi, ?_, ⟨hd, Nat.zero_le _, Nat.zero_le _, fun p hp => absurd hp (Nat.not_lt_zero _), fun p hp => absurd hp (Nat.not_lt_zero _), fun p hp => absurd hp (Nat.not_lt_zero _), fun e => by cases e⟩, hw, SO.up (by omega) h⟩
  rw [take_one hi, ht, hc]
  show _ = stx st ++ ({ d := d } : Fr).tx
  rw [hx]
theorem oi_opn {b : List UInt8} {i : Nat} (hi : i < b.length) {st : List Fr} (h : SO i st) (hw : AW st) (ht : b.take i = stx st) : OI b (opn b st i) := by
  unfold opn
  split
  · rename_i hc
    split
    · trivial
    · rename_i hd
      exact oi_open hi h hw ht (by omega) hc rfl
  · split
    · rename_i hc
      split
      · trivial
      · rename_i hd
        exact oi_open hi h hw ht (by omega) hc rfl
    · unfold scal
      split
      · rename_i hc
        cases hn : numb b i with
        | bad p e => trivial
        | ok n j =>
          obtain ⟨h1, h2, h3, h4, h5⟩ := numb_txt hi hc hn
          exact oi_deliver h2 h3 h hw (by rw [h1, ht]) (gd_num h4 h5)
      · split
        · cases hn : strg b i with
          | bad p e => trivial
          | ok s j =>
            obtain ⟨h1, h2, h3, _⟩ := strg_txt hn
            exact oi_deliver h2 h3 h hw (by rw [h1, ht]; rfl) gd_str
        · trivial
theorem oi_close {b : List UInt8} {i : Nat} (hi : i < b.length) (hlim : b.length ≤ 2147483647) {f : Fr} {r : List Fr} (h : SO i (f :: r)) (ht : b.take i = stx (f :: r)) (hc : byt b i = 101) (hh : f.d = true → f.has = false) : OI b (deliver r f.close (i + 1)) := by
  refine oi_deliver (Nat.lt_succ_self i) hi h.2.2 h.2.1 ?_ (gd_close h.1 (by omega))
  rw [take_one hi, ht, hc, close_tx hh]
  show stx r ++ f.tx ++ [101] = _
  rw [List.append_assoc]
theorem oi_step {b : List UInt8} (hlim : b.length ≤ 2147483647) {st : List Fr} {i : Nat} (h : OI b (.go st i)) : OI b (step b st i) := by
  obtain ⟨_, ht, hs⟩ := h
  unfold step
  split
  · trivial
  · have hi : i < b.length := by omega
    match st, ht, hs with
    | [], ht, hs => exact oi_opn hi hs trivial ht
    | f :: r, ht, hs =>
      dsimp only
      split
      · rename_i hf
        split
        · rename_i hc
          exact oi_close hi hlim hs ht hc fun _ => hf.2
        · unfold keyy
          split
          · trivial
          · cases hn : strg b i with
            | bad p e => trivial
            | ok s j =>
              obtain ⟨h1, h2, h3, _⟩ := strg_txt hn
              dsimp only
              split
              · trivial
              · rename_i hk
                refine ⟨h3, ?_, ⟨hs.1.dep, Nat.le_trans hs.1.ll (by omega), Nat.le_trans hs.1.pl (by omega), hs.1.lg, hs.1.pg, hs.1.ri, fun _ hne => ?_⟩, hs.2.1, SO.up (by omega) hs.2.2⟩
                · rw [h1, ht]
                  show stx r ++ f.tx ++ wtx s = stx r ++ _
                  rw [List.append_assoc]
                  congr 1
                  unfold Fr.tx
                  dsimp only
                  rw [if_pos hf.1, if_pos hf.1, if_neg (by rw [hf.2]; decide), if_pos rfl]
                  simp
                · cases hb : leB s (f.ps.getLastD (ByteArray.empty, .no)).1 with
                  | false => rfl
                  | true => exact absurd ⟨hne, hb⟩ hk
      · rename_i hf
        split
        · rename_i hc
          exact oi_close hi hlim hs ht hc.2 fun e => by rw [hc.1] at e; cases e
        · refine oi_opn hi hs (fun e => ?_) ht
          cases hh : f.has with
          | true => rfl
          | false => exact absurd ⟨e, hh⟩ hf
theorem oi_run {b : List UInt8} (hlim : b.length ≤ 2147483647) {o q : Out} (h : Run b o q) : OI b o → OI b q := by
  induction h with
  | refl o => exact fun h => h
  | more _ ih => exact fun h => ih (oi_step hlim h)
theorem run_txt {b : List UInt8} (hlim : b.length ≤ 2147483647) {t : T} {n : Nat} (h : Run b (.go [] 0) (.val t n)) : n ≤ b.length ∧ b.take n = txt t ∧ Gd t 0 :=
  oi_run hlim h ⟨Nat.zero_le _, rfl, trivial⟩
theorem dout_txt {b : List UInt8} {t : T} {k : Nat} (h : DOUT b t k 0) : b = txt t ∧ Gd t 0 ∧ b.length ≤ 1048576 := by
  rcases h with ⟨_, _, hl, n, hr, hn⟩ | ⟨_, ⟨e, _⟩ | ⟨hr, _⟩ | ⟨_, _, e⟩⟩
  · obtain ⟨h1, h2, h3⟩ := run_txt (by omega) hr
    refine ⟨?_, h3, hl⟩
    rw [← h2, List.take_of_length_le hn]
  · cases e
  · have := run_er hr; omega
  · cases e
end Go.Proofs.YtegdlkbilgkfoaaDoor
namespace Go.Proofs.YtegdlkbilgkfoaaDoor
open Go.RowKit Go.Deep
/-! ### A text is read as the value that it was written of -/
theorem dec_all (m : Nat) : allDig (Lib.decDigits m) ∧ Lib.decDigits m ≠ [] ∧ dval 0 (Lib.decDigits m) = m ∧ unp (Lib.decDigits m) ∧ (1 ≤ m → byt (Lib.decDigits m) 0 ≠ 48) := by
  induction m using Nat.strongRecOn with
  | _ m ih =>
    have tn : ∀ k, k < 10 → (UInt8.ofNat (48 + k)).toNat = 48 + k := fun k hk => by rw [UInt8.toNat_ofNat', Nat.mod_eq_of_lt (by omega)]
    by_cases h : m < 10
    · rw [Lib.decDigits_one h]
      refine ⟨fun c hc => ?_, by simp, ?_, .inl rfl, fun h1 e => ?_⟩
      · rw [List.mem_singleton.1 hc, tn m h]; omega
      · rw [dval_cons, dval_nil, tn m h]; omega
      · have e' : (UInt8.ofNat (48 + m)).toNat = 48 := congrArg UInt8.toNat e
        rw [tn m h] at e'; omega
    · obtain ⟨h1, h2, h3, h4, h5⟩ := ih (m / 10) (by omega)
      rw [Lib.decDigits, dif_neg h]
      have hp := h5 (by omega)
      have hl := List.length_pos_iff.2 h2
      refine ⟨fun c hc => ?_, by simp, ?_, .inr ?_, fun _ => ?_⟩
      · rcases List.mem_append.1 hc with hc | hc
        · exact h1 c hc
        · rw [List.mem_singleton.1 hc, tn _ (by omega)]; omega
      · rw [dval_snoc, h3, tn _ (by omega)]; omega
      · rw [byt_app hl]; exact hp
      · rw [byt_app hl]; exact hp
theorem unp_padd {d : List UInt8} (h : unp d) : ¬ padd d = true := by
  unfold padd
  rcases h with h | h
  · simp [h]
  · simp [h]
theorem drop_cons {b : List UInt8} {i : Nat} {c : UInt8} {r : List UInt8} (h : b.drop i = c :: r) : byt b i = c ∧ i < b.length ∧ b.drop (i + 1) = r := by
  have hi : i < b.length := by
    rcases Nat.lt_or_ge i b.length with g | g
    · exact g
    · rw [List.drop_eq_nil_of_le g] at h; cases h
  rw [List.drop_eq_getElem_cons hi] at h
  injection h with h1 h2
  refine ⟨?_, hi, h2⟩
  unfold byt; simp [List.getD, List.getElem?_eq_getElem hi, h1]
theorem drop_app {b x y : List UInt8} {i : Nat} (h : b.drop i = x ++ y) : b.drop (i + x.length) = y := by
  rw [← List.drop_drop, h, List.drop_left]
theorem digs_rd {b d r : List UInt8} {en : UInt8} {i : Nat} (h : b.drop i = d ++ en :: r) (ha : allDig d) (hn : d ≠ []) (he : dig en = false) : digs b en i = .ok d (i + d.length + 1) := by
  have hr : run b i = d.length := by
    unfold run
    rw [h, List.takeWhile_append_of_pos (fun c hc => (dig_iff c).2 (ha c hc)), List.takeWhile_cons_of_neg (by simp [he]), List.append_nil]
  have h2 := drop_cons (drop_app h)
  have hc : cut b i (i + d.length) = d := by
    unfold cut; rw [h, Nat.add_sub_cancel_left, List.take_left]
  unfold digs
  rw [hr, if_neg (by omega), if_neg (by
    rintro (e | e)
    · exact hn (List.length_eq_zero_iff.1 e)
    · exact e h2.1), hc]
theorem head_dig {b d r : List UInt8} {i : Nat} (h : b.drop i = d ++ r) (ha : allDig d) (hn : d ≠ []) : dig (byt b i) = true ∧ i < b.length := by
  match d, hn with
  | c :: d', _ =>
    have := drop_cons h
    rw [this.1]
    exact ⟨(dig_iff c).2 (ha c (by simp)), this.2.1⟩
theorem strg_rd {b r : List UInt8} {s : ByteArray} {i : Nat} (hs : s.size ≤ 140737488351232) (h : b.drop i = wtx s ++ r) : strg b i = .ok s (i + (wtx s).length) ∧ dig (byt b i) = true ∧ i < b.length := by
  unfold wtx at h ⊢
  rw [Lib.itoa_nonneg] at h ⊢
  obtain ⟨h1, h2, h3, h4, _⟩ := dec_all s.size
  generalize Lib.decDigits s.size = d at *
  rw [List.append_assoc, List.cons_append] at h
  have hd := digs_rd (en := 58) h h1 h2 (by decide)
  have hh := head_dig h h1 h2
  have hr := (drop_cons (drop_app h)).2.2
  have hlt := (drop_cons (drop_app h)).2.1
  have hlen : s.data.toList.length = s.size := by rw [Array.length_toList]; rfl
  have hbl := congrArg List.length hr
  rw [List.length_drop, List.length_append, hlen] at hbl
  refine ⟨?_, hh⟩
  unfold strg
  rw [hd]
  dsimp only
  rw [if_neg (unp_padd h4), (atoi_pos h1 h2).1 (by omega), h3]
  dsimp only
  rw [if_neg (by omega)]
  have hc : cut b (i + d.length + 1) (i + d.length + 1 + ((s.size : Nat) : Int).toNat) = s.data.toList := by
    unfold cut
    rw [hr, Nat.add_sub_cancel_left, Int.toNat_natCast, ← hlen, List.take_left]
  rw [hc]
  congr 1
  rw [List.length_append, List.length_cons, hlen, Int.toNat_natCast]; omega
theorem numb_rd {b r : List UInt8} {n : Int} {i : Nat} (h0 : -9223372036854775808 ≤ n) (h1 : n ≤ 9223372036854775807) (h : b.drop i = 105 :: (Lib.itoa n ++ [101]) ++ r) :
    numb b i = .ok n (i + (Lib.itoa n).length + 2) ∧ byt b i = 105 ∧ i < b.length := by
  rw [List.cons_append] at h
  obtain ⟨e1, e2, e3⟩ := drop_cons h
  refine ⟨?_, e1, e2⟩
  rw [List.append_assoc] at e3
  by_cases hn : 0 ≤ n
  · obtain ⟨u, rfl⟩ : ∃ u : Nat, n = u := ⟨n.toNat, by omega⟩
    rw [Lib.itoa_nonneg] at e3 ⊢
    obtain ⟨g1, g2, g3, g4, _⟩ := dec_all u
    generalize Lib.decDigits u = d at *
    have hh := head_dig e3 g1 g2
    have h45 : ¬ byt b (i + 1) = 45 := fun e => by rw [e] at hh; exact absurd hh.1 (by decide)
    rw [numb_sg hh.2, if_neg h45]
    have hd := digs_rd (en := 101) e3 g1 g2 (by decide)
    rw [show i + 1 + ([] : List UInt8).length = i + 1 from rfl, hd]
    dsimp only
    rw [List.nil_append, (atoi_pos g1 g2).1 (by omega), g3]
    dsimp only
    rw [if_neg (by
      rintro (e | e)
      · exact unp_padd g4 e
      · have := g1 45 (by rw [e]; simp)
        exact absurd this.1 (by decide))]
    congr 1
    omega
  · obtain ⟨u, hu, rfl⟩ : ∃ u : Nat, 1 ≤ u ∧ n = -(u : Int) := ⟨(-n).toNat, by omega, by omega⟩
    rw [Lib.itoa_neg u hu] at e3 ⊢
    obtain ⟨g1, g2, g3, g4, g5⟩ := dec_all u
    generalize Lib.decDigits u = d at *
    rw [List.cons_append] at e3
    obtain ⟨f1, f2, f3⟩ := drop_cons e3
    rw [numb_sg f2, if_pos f1]
    have hd := digs_rd (en := 101) f3 g1 g2 (by decide)
    rw [show i + 1 + ([45] : List UInt8).length = i + 1 + 1 from rfl, hd]
    dsimp only
    rw [List.singleton_append, (atoi_neg g1 g2).1 (by omega), g3]
    dsimp only
    rw [if_neg (by
      rintro (e | e)
      · exact unp_padd g4 e
      · injection e with _ e
        rw [e] at g3
        have : dval 0 [48] = 0 := rfl
        omega)]
    rw [List.length_cons]
    congr 1
    omega
def lsN {α : Type} (f : Nat → α) : Nat → List α
  | 0 => []
  | n + 1 => lsN f n ++ [f n]
theorem lsN_len {α : Type} (f : Nat → α) : ∀ n, (lsN f n).length = n
  | 0 => rfl
  | n + 1 => by unfold lsN; rw [List.length_append, lsN_len f n]; rfl
theorem lsN_get {α : Type} (f : Nat → α) (a : α) : ∀ {n i : Nat}, i < n → (lsN f n).getD i a = f i
  | 0, _, h => absurd h (Nat.not_lt_zero _)
  | n + 1, i, h => by
    unfold lsN
    by_cases hi : i < n
    · rw [getD_lt (by rw [lsN_len]; exact hi)]; exact lsN_get f a hi
    · have : i = n := by omega
      subst this
      have := getD_at (l := lsN f i) (x := f i) (a := a)
      rwa [lsN_len] at this
/-- the value as it is read: what no place holds is not there -/
def nrm : T → T
  | .no => .no
  | .mk k n s ln l dn ky dv => if k = 1 then tNum n else if k = 2 then tStr s else if k = 3 then tList (lsN (fun i => nrm (l i)) ln) else tDict (lsN (fun i => (ky i, nrm (dv i))) dn)
/-- no place is empty -/
def T.full : T → Prop
  | .no => False
  | .mk _ _ _ ln l dn _ dv => (∀ i, i < ln → (l i).full) ∧ (∀ i, i < dn → (dv i).full)
theorem full_of_rv {S : Nat → Prop} {w : World} : ∀ (t : T) (x y : Value), RV S w t x y → t.full := by
  intro t
  induction t with
  | no => intro x y h; exact h
  | mk k n s ln l dn ky dv il id =>
    intro x y h
    obtain ⟨⟨a, ca, _, hL⟩, ⟨a', ca', _, hD⟩⟩ := h
    refine ⟨fun i hi => ?_, fun i hi => ?_⟩
    · rcases hL with h | ⟨b, o, _, _, _, h⟩
      · omega
      · obtain ⟨x', y', h1, _⟩ := h i hi; exact il i _ _ h1
    · rcases hD with h | ⟨b, o, _, _, _, h⟩
      · omega
      · obtain ⟨x', y', h1, _⟩ := h i hi; exact id i _ _ h1
theorem fstE_all {f : Nat → Int} : ∀ {n : Nat}, fstE f n = 0 → ∀ i, i < n → f i = 0
  | 0, _, i, hi => absurd hi (Nat.not_lt_zero _)
  | n + 1, h, i, hi => by
    unfold fstE at h
    split at h
    · rename_i h0
      by_cases e : i = n
      · subst e; exact h
      · exact fstE_all h0 i (by omega)
    · rename_i h0; exact absurd h h0
theorem wk_mk {k n : Int} {s : ByteArray} {ln : Nat} {l : Nat → T} {dn : Nat} {ky : Nat → ByteArray} {dv : Nat → T} {ar : Int} (h : wk (.mk k n s ln l dn ky dv) ar = 0) :
    (1 ≤ k ∧ k ≤ 4 ∧ Own k n s ln dn) ∧ (3 ≤ k → ar < 32 ∧ (∀ i, i < ln → wk (l i) (ar + 1) = 0) ∧ ∀ i, i < dn → keyBad ky i = false ∧ wk (dv i) (ar + 1) = 0) := by
  unfold wk at h
  split at h
  · cases h
  · rename_i ho
    have hO := (ownB_iff k n s ln dn).1 (by revert ho; cases ownB k n s ln dn <;> simp)
    refine ⟨hO, fun hk => ?_⟩
    rw [if_neg (by omega)] at h
    split at h
    · cases h
    · rename_i ha
      split at h
      · rename_i hf; exact absurd h hf
      · rename_i hf
        have hf0 := Classical.not_not.1 hf
        refine ⟨by omega, fstE_all hf0, fun i hi => ?_⟩
        have := fstE_all h i hi
        split at this
        · cases this
        · rename_i hb
          exact ⟨by revert hb; cases keyBad ky i <;> simp, this⟩
theorem step_opn {b : List UInt8} {st : List Fr} {i : Nat} (hi : i < b.length) (hw : AW st) (h101 : byt b i ≠ 101) : step b st i = opn b st i := by
  unfold step
  rw [if_neg (by omega)]
  match st, hw with
  | [], _ => rfl
  | f :: r, hw =>
    dsimp only
    rw [if_neg (fun h => by have := hw h.1; rw [this] at h; cases h.2), if_neg (fun h => h101 h.2)]
theorem catN_split {g : Nat → List UInt8} {j : Nat} : ∀ {n : Nat}, j < n → ∃ z, catN g n = catN g j ++ (g j ++ z)
  | 0, h => absurd h (Nat.not_lt_zero _)
  | n + 1, h => by
    by_cases e : j = n
    · subst e; exact ⟨[], by rw [catN, List.append_nil]⟩
    · obtain ⟨z, hz⟩ := catN_split (g := g) (j := j) (n := n) (by omega)
      exact ⟨z ++ g n, by rw [catN, hz]; simp⟩
def RDS (t : T) : Prop := ∀ (b r : List UInt8) (st : List Fr) (i : Nat), wk t st.length = 0 → t.full → t.rng → t.ok → AW st → b.drop i = txt t ++ r → Run b (.go st i) (deliver st (nrm t) (i + (txt t).length))
theorem reads (t : T) : RDS t := by
  induction t with
  | no => intro b r st i _ h; exact h.elim
  | mk k n s ln l dn ky dv il id =>
    intro b r st i hw hf hr hk haw hx
    obtain ⟨⟨k1, k4, _⟩, hc⟩ := wk_mk hw
    obtain ⟨r1, r2, _, _, r5, r6⟩ := hr
    obtain ⟨o1, _, _, o4, o5⟩ := hk
    by_cases e1 : k = 1
    · subst e1
      have ht : txt (.mk 1 n s ln l dn ky dv) = 105 :: (Lib.itoa n ++ [101]) := rfl
      have hn : nrm (.mk 1 n s ln l dn ky dv) = tNum n := rfl
      rw [ht] at hx
      obtain ⟨h1, h2, h3⟩ := numb_rd r1 r2 hx
      refine .one ?_
      rw [step_opn h3 haw (by rw [h2]; decide), ht, hn]
      unfold opn scal
      rw [if_neg (by rw [h2]; decide), if_neg (by rw [h2]; decide), if_pos h2, h1]
      dsimp only
      congr 1
      simp; omega
    · by_cases e2 : k = 2
      · subst e2
        have ht : txt (.mk 2 n s ln l dn ky dv) = wtx s := rfl
        have hn : nrm (.mk 2 n s ln l dn ky dv) = tStr s := rfl
        rw [ht] at hx
        obtain ⟨h1, h2, h3⟩ := strg_rd o1 hx
        have hne : ∀ c, dig c = false → byt b i ≠ c := fun c hc e => by rw [e, hc] at h2; cases h2
        refine .one ?_
        rw [step_opn h3 haw (hne _ (by decide)), ht, hn]
        unfold opn scal
        rw [if_neg (hne _ (by decide)), if_neg (hne _ (by decide)), if_neg (hne _ (by decide)), if_pos h2, h1]
      · obtain ⟨hd, cl, cd⟩ := hc (by omega)
        by_cases e3 : k = 3
        · subst e3
          have ht : txt (.mk 3 n s ln l dn ky dv) = 108 :: (catN (fun i => txt (l i)) ln ++ [101]) := rfl
          have hn : nrm (.mk 3 n s ln l dn ky dv) = tList (lsN (fun i => nrm (l i)) ln) := rfl
          rw [ht, List.cons_append] at hx
          obtain ⟨h1, h2, h3⟩ := drop_cons hx
          rw [List.append_assoc] at h3
          have ho : step b st i = .go ({ d := false } :: st) (i + 1) := by
            rw [step_opn h2 haw (by rw [h1]; decide)]
            unfold opn
            rw [if_pos h1, if_neg (by omega)]
          have hloop : ∀ j, j ≤ ln → Run b (.go ({ d := false } :: st) (i + 1)) (.go ({ d := false, ls := lsN (fun i => nrm (l i)) j } :: st) (i + 1 + (catN (fun i => txt (l i)) j).length)) := by
            intro j
            induction j with
            | zero => exact fun _ => .refl _
            | succ j ih =>
              intro hj
              refine (ih (by omega)).trans ?_
              obtain ⟨z, hz⟩ := catN_split (g := fun i => txt (l i)) (j := j) (n := ln) (by omega)
              rw [hz, List.append_assoc] at h3
              have h4 := drop_app h3
              rw [List.append_assoc] at h4
              have := il j b _ ({ d := false, ls := lsN (fun i => nrm (l i)) j } :: st) _ (cl j (by omega)) (hf.1 j (by omega)) (r5 j (by omega)) (o4 j (by omega)) (fun e => by cases e) h4
              rw [catN, List.length_append, ← Nat.add_assoc]
              exact this
          refine (Run.one ho).trans ((hloop ln (Nat.le_refl _)).trans (.one ?_))
          have h5 := drop_cons (drop_app h3)
          unfold step
          rw [if_neg (by omega)]
          dsimp only
          rw [if_neg (by simp), if_pos ⟨rfl, h5.1⟩, hn, ht]
          unfold Fr.close
          rw [if_neg (by simp)]
          dsimp only
          congr 1
          simp; omega
        · obtain rfl : k = 4 := by omega
          have ht : txt (.mk 4 n s ln l dn ky dv) = 100 :: (catN (fun i => wtx (ky i) ++ txt (dv i)) dn ++ [101]) := rfl
          have hn : nrm (.mk 4 n s ln l dn ky dv) = tDict (lsN (fun i => (ky i, nrm (dv i))) dn) := rfl
          rw [ht, List.cons_append] at hx
          obtain ⟨h1, h2, h3⟩ := drop_cons hx
          rw [List.append_assoc] at h3
          have ho : step b st i = .go ({ d := true } :: st) (i + 1) := by
            rw [step_opn h2 haw (by rw [h1]; decide)]
            unfold opn
            rw [if_neg (by rw [h1]; decide), if_pos h1, if_neg (by omega)]
          have hloop : ∀ j, j ≤ dn → Run b (.go ({ d := true } :: st) (i + 1)) (.go ({ d := true, ps := lsN (fun i => (ky i, nrm (dv i))) j } :: st) (i + 1 + (catN (fun i => wtx (ky i) ++ txt (dv i)) j).length)) := by
            intro j
            induction j with
            | zero => exact fun _ => .refl _
            | succ j ih =>
              intro hj
              refine (ih (by omega)).trans ?_
              obtain ⟨z, hz⟩ := catN_split (g := fun i => wtx (ky i) ++ txt (dv i)) (j := j) (n := dn) (by omega)
              rw [hz, List.append_assoc] at h3
              have h4 := drop_app h3
              rw [List.append_assoc, List.append_assoc] at h4
              obtain ⟨s1, s2, s3⟩ := strg_rd (o5 j (by omega)).1 h4
              have hne : ∀ c, dig c = false → byt b (i + 1 + (catN (fun i => wtx (ky i) ++ txt (dv i)) j).length) ≠ c := fun c hc e => by rw [e, hc] at s2; cases s2
              have hkey : step b ({ d := true, ps := lsN (fun i => (ky i, nrm (dv i))) j } :: st) (i + 1 + (catN (fun i => wtx (ky i) ++ txt (dv i)) j).length) = .go ({ d := true, ps := lsN (fun i => (ky i, nrm (dv i))) j, key := ky j, has := true } :: st) (i + 1 + (catN (fun i => wtx (ky i) ++ txt (dv i)) j).length + (wtx (ky j)).length) := by
                unfold step
                rw [if_neg (by omega)]
                dsimp only
                rw [if_pos ⟨rfl, rfl⟩, if_neg (hne _ (by decide))]
                unfold keyy
                rw [if_neg (by rw [s2]; decide), s1]
                dsimp only
                rw [if_neg]
                rintro ⟨g1, g2⟩
                match j, g1, g2 with
                | 0, g1, _ => exact g1 rfl
                | q + 1, _, g2 =>
                  rw [last_getD, lsN_len, Nat.add_sub_cancel, lsN_get _ _ (Nat.lt_succ_self q)] at g2
                  have := (cd (q + 1) (by omega)).1
                  rw [show keyBad ky (q + 1) = leB (ky (q + 1)) (ky q) from rfl, g2] at this
                  cases this
              refine (Run.one hkey).trans ?_
              have h5 := drop_app h4
              have := id j b _ ({ d := true, ps := lsN (fun i => (ky i, nrm (dv i))) j, key := ky j, has := true } :: st) _ (cd j (by omega)).2 (hf.2 j (by omega)) (r6 j (by omega)) (o5 j (by omega)).2 (fun _ => rfl) h5
              rw [catN, List.length_append, List.length_append, ← Nat.add_assoc, ← Nat.add_assoc]
              exact this
          refine (Run.one ho).trans ((hloop dn (Nat.le_refl _)).trans (.one ?_))
          have h5 := drop_cons (drop_app h3)
          unfold step
          rw [if_neg (by omega)]
          dsimp only
          rw [if_pos ⟨rfl, rfl⟩, if_pos h5.1, hn, ht]
          unfold Fr.close
          rw [if_pos rfl]
          dsimp only
          congr 1
          simp; omega
end Go.Proofs.YtegdlkbilgkfoaaDoor
namespace Go.Proofs.YtegdlkbilgkfoaaDoor
open Go.RowKit Go.Deep
theorem index_s (s : ByteArray) (p : Nat) (h : p < s.size) (i : Int) (hi : i = (p : Int)) (w : World) : (Instr.index 9 (.string s) (.int .i64 i)).run Tryd.prog w = .ok (.int .u8 (s[p].toNat : Int)) w := by
  subst hi
  have h2 : (p : Int) < (s.size : Int) := by omega
  simp [go_sem, Tryd.underlying9, h2]
theorem OW.keep {B : Nat} {w w' : World} {v : Value} {l : List UInt8} (h : OW B w v l) (hb : Below w.heap.size w w') : OW B w' v l := by
  refine ⟨h.1, ?_⟩
  rcases h.2 with h | ⟨g, cap, cur, h1, h2, h3, h4⟩
  · exact .inl h
  · exact .inr ⟨g, cap, cur, h1, h2, by rw [hb.block g (Array.getElem?_eq_some_iff.1 h3).1]; exact h3, h4⟩
theorem tb_up {B B' : Nat} {w : World} (h : TB B w) (hB : B ≤ B') : TB B' w := fun w' hb => h w' (hb.mono hB)

set_option maxRecDepth 10000 in
set_option maxHeartbeats 1000000 in
theorem wordSize26 (s : ByteArray) (w : World) (hT : TB w.heap.size w) (hlim : s.size ≤ 140737488351232) :
    Calls Tryd.prog 38 #[.string s] w fun e w' => e = .returned (.int .i64 (wtx s).length) ∧ Below w.heap.size w w' := by
  have hlen := Lib.itoa_length_le s.size (by omega) (by omega)
  go_enter Tryd.func38, Tryd.ntmps38
  go_wp2_with fail
  refine (itoa25 s.size (by omega) (by omega) w hT).mono ?_
  rintro e w1 ⟨rfl, hb⟩
  have hz : (({ data := (Lib.itoa (s.size : Int)).toArray } : ByteArray)).size = (Lib.itoa (s.size : Int)).length := List.size_toArray
  have hz2 : (wtx s).length = (Lib.itoa (s.size : Int)).length + (s.size + 1) := by
    show (Lib.itoa (s.size : Int) ++ 58 :: s.data.toList).length = _
    rw [List.length_append, List.length_cons, Array.length_toList]; rfl
  have HZ := Lib.hid hz2
  clear hz2
  go_wp2
  go_ret
  exact ⟨by have := HZ.out; show Ending.returned (Value.int .i64 (((Lib.itoa (s.size : Int)).length : Int) + 1 + (s.size : Int))) = _; congr 2; omega, hb⟩

end Go.Proofs.YtegdlkbilgkfoaaDoor
