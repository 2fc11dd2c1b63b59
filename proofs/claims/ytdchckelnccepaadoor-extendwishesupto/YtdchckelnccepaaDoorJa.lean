import Derived.Test.YtdchckelnccepaaDoorZ8
import Derived.Test.YtdchckelnccepaaDoorFw
import Derived.Test.YtdchckelnccepaaDoorInts
namespace Go.Proofs.YtdchckelnccepaaDoor
open Go.RowKit Go.Deep
open Fw
def i64 (n : Int) : Prop := -9223372036854775808 ≤ n ∧ n ≤ 9223372036854775807
theorem tG_congr {a b : List PE} (h : a.map kt = b.map kt) : tG a = tG b := by
  have hl := kt_len h
  have e : ∀ i, kyG a i = kyG b i ∧ dvG a i = dvG b i := fun i => by
    by_cases hi : i < a.length
    · exact kt_at h i hi
    · have h1 : a.getD i PE.no = PE.no := by simp [List.getD, List.getElem?_eq_none (Nat.le_of_not_lt hi)]
      have h2 : b.getD i PE.no = PE.no := by simp [List.getD, List.getElem?_eq_none (hl ▸ Nat.le_of_not_lt hi)]
      unfold kyG dvG
      rw [h1, h2]
      exact ⟨rfl, rfl⟩
  unfold tG
  rw [hl, show kyG a = kyG b from funext fun i => (e i).1, show dvG a = dvG b from funext fun i => (e i).2]
theorem at_unique {ky : Nat → ByteArray} {n a b : Nat} {key : ByteArray} (h1 : At ky n key a) (h2 : At ky n key b) : a = b := by
  rcases Nat.lt_trichotomy a b with h | h | h
  · have g1 := h2.2.1 a h
    have g2 := h1.2.2 a (Nat.le_refl _) (Nat.lt_of_lt_of_le h h2.1)
    rw [g1] at g2
    cases g2
  · exact h
  · have g1 := h1.2.1 b h
    have g2 := h2.2.2 b (Nat.le_refl _) (Nat.lt_of_lt_of_le h h1.1)
    rw [g1] at g2
    cases g2
/-- among others that rise, a dictionary is one list -/
theorem LD.eq {es os es' : List PE} (h : LD es os es') (hp : es.Pairwise KL) (h1 : ∀ o ∈ os, ∀ e ∈ es, e.key.toList ≠ o.key.toList) (h2 : os.Pairwise (fun a b => a.key.toList ≠ b.key.toList)) : es' = wtAll es os := by
  induction h with
  | nil => rfl
  | skip hld hk ih =>
    rw [wtAll_snoc, if_pos hk]
    exact ih (fun o ho => h1 o (List.mem_append_left _ ho)) (List.pairwise_append.1 h2).1
  | @put os' es0 o' at0 hld hk hle hat ih =>
    have g1 : ∀ o ∈ os', ∀ e ∈ es, e.key.toList ≠ o.key.toList := fun o ho => h1 o (List.mem_append_left _ ho)
    have g2 := (List.pairwise_append.1 h2).1
    have hr := hld.rise hp g1 g2
    rw [wtAll_snoc, if_neg hk, ← ih g1 g2]
    obtain ⟨at', ha, he⟩ := wtP_at _ _ hr
    rw [he, at_unique (hat ((rise_iff _).2 hr)) ha]
theorem wtP_kt {a b : List PE} {p q : PE} (h : a.map kt = b.map kt) (hp : kt p = kt q) : (wtP a p).map kt = (wtP b q).map kt := by
  have e1 : ∀ l : List PE, ∀ p : PE, (l.filter (lsK p.key)).map kt = (l.map kt).filter (fun x => Op.bytesLess x.1.toList (kt p).1.toList) := fun l p => by rw [List.filter_map]; rfl
  have e2 : ∀ l : List PE, ∀ p : PE, (l.filter (fun e => !lsK p.key e)).map kt = (l.map kt).filter (fun x => !Op.bytesLess x.1.toList (kt p).1.toList) := fun l p => by rw [List.filter_map]; rfl
  unfold wtP
  rw [List.map_append, List.map_append, List.map_cons, List.map_cons, e1, e1, e2, e2, h, hp]
theorem wtAll_kt : ∀ (os os' : List PE) {a b : List PE}, a.map kt = b.map kt → os.map kt = os'.map kt → (wtAll a os).map kt = (wtAll b os').map kt
  | [], [], _, _, h, _ => h
  | [], _ :: _, _, _, _, h => by cases h
  | _ :: _, [], _, _, _, h => by cases h
  | o :: os, o' :: os', a, b, h, h2 => by
    simp only [List.map_cons, List.cons.injEq] at h2
    have hk : o.t.k = o'.t.k := by have := congrArg (fun x => x.2.k) h2.1; exact this
    show (wtAll (if o.t.k = 0 then a else wtP a o) os).map kt = (wtAll (if o'.t.k = 0 then b else wtP b o') os').map kt
    rw [hk]
    split
    · exact wtAll_kt os os' h h2.2
    · exact wtAll_kt os os' (wtP_kt h h2.1) h2.2
/-- the dictionary of a wish, as a tree -/
def TW (ns : List (ByteArray × Int)) (sz qu : Int) (ag : ByteArray) (es : List PE) : T := tG (wtAll es (ownP ns sz qu ag (.slice none 0 0)))
theorem TW_of {ns : List (ByteArray × Int)} {sz qu : Int} {ag : ByteArray} {es : List PE} (yv : Value) : tG (wtAll es (ownP ns sz qu ag yv)) = TW ns sz qu ag es := tG_congr (wtAll_kt _ _ rfl rfl)
theorem TW_congr {ns : List (ByteArray × Int)} {sz qu : Int} {ag : ByteArray} {es fs : List PE} (h : fs.map kt = es.map kt) : TW ns sz qu ag fs = TW ns sz qu ag es := tG_congr (wtAll_kt _ _ h rfl)
theorem ws_own {ns : List (ByteArray × Int)} {sz qu : Int} {es : List PE} (h : wsB ns sz qu es = true) : ∀ e ∈ es, owB e.key = false := fun e he => by
  unfold wsB at h
  simp only [Bool.and_eq_true, Bool.not_eq_true', List.any_eq_false] at h
  simpa using h.2.2.2.2 e he
theorem own_far {ns : List (ByteArray × Int)} {sz qu : Int} {ag : ByteArray} {yv : Value} {es : List PE} (hno : ∀ e ∈ es, owB e.key = false) : ∀ o ∈ ownP ns sz qu ag yv, ∀ e ∈ es, e.key.toList ≠ o.key.toList := fun o ho e he => by
  have h9 := owB_no (hno e he)
  simp only [ownP, ownQ, List.mem_cons, List.not_mem_nil, or_false] at ho
  rcases ho with rfl | rfl | rfl | rfl
  · exact h9.1
  · exact h9.2.1
  · exact h9.2.2.1
  · exact h9.2.2.2
theorem LD.tw {ns : List (ByteArray × Int)} {sz qu : Int} {ag : ByteArray} {yv : Value} {es es' : List PE} (h : LD es (ownP ns sz qu ag yv) es') (hp : es.Pairwise KL) (hw : wsB ns sz qu es = true) : tG es' = TW ns sz qu ag es := by
  rw [h.eq hp (own_far (ws_own hw)) (own_apart _ _ _ _ _ _)]
  exact TW_of yv
theorem TW_wk {ns : List (ByteArray × Int)} {sz qu : Int} {ag : ByteArray} {es : List PE} (h : GW ns sz qu es) : wk (TW ns sz qu ag es) 0 = 0 := by
  have h1 : GoodP ns sz qu ag es (wk (tG (wtAll es (ownP ns sz qu ag (.slice none 0 0)))) 0 == 0) := .inr ⟨h.1, .slice none 0 0, _, own_LD h.2.1 (ws_own h.1), rfl⟩
  have h2 := h1.iff.2 h
  exact beq_iff_eq.1 h2
theorem wt_mem {es : List PE} {ns : List (ByteArray × Int)} {sz qu : Int} {ag : ByteArray} (hp : es.Pairwise KL) (hno : ∀ e ∈ es, owB e.key = false) : ∀ e ∈ wtAll es (ownP ns sz qu ag (.slice none 0 0)), e ∈ es ∨ e ∈ ownP ns sz qu ag (.slice none 0 0) := (own_LD hp hno).mem
theorem wt_len {es : List PE} {ns : List (ByteArray × Int)} {sz qu : Int} {ag : ByteArray} (hp : es.Pairwise KL) (hno : ∀ e ∈ es, owB e.key = false) : (wtAll es (ownP ns sz qu ag (.slice none 0 0))).length ≤ es.length + 4 := (own_LD hp hno).len
theorem tG_small {es : List PE} (hl : es.length ≤ 2147483647) (h : ∀ e ∈ es, e.t.small) : (tG es).small := ⟨Nat.zero_le _, hl, fun i hi => absurd hi (Nat.not_lt_zero _), fun i hi => by rw [dvG_at hi]; exact h _ (List.getElem_mem hi)⟩
theorem tG_rng {es : List PE} (hl : es.length ≤ 2147483647) (h : ∀ e ∈ es, e.t.rng) : (tG es).rng := ⟨by decide, by decide, Nat.zero_le _, hl, fun i hi => absurd hi (Nat.not_lt_zero _), fun i hi => by rw [dvG_at hi]; exact h _ (List.getElem_mem hi)⟩
theorem tn_small (n : Int) : (tn n).small := ⟨by omega, by omega, fun i hi => absurd hi (Nat.not_lt_zero _), fun i hi => absurd hi (Nat.not_lt_zero _)⟩
theorem tn_rng {n : Int} (h : i64 n) : (tn n).rng := ⟨h.1, h.2, by omega, by omega, fun i hi => absurd hi (Nat.not_lt_zero _), fun i hi => absurd hi (Nat.not_lt_zero _)⟩
theorem nI_small (b : Bool) (n : Int) : (nI b n).small := by unfold nI; split <;> exact ⟨by omega, by omega, fun i hi => absurd hi (Nat.not_lt_zero _), fun i hi => absurd hi (Nat.not_lt_zero _)⟩
theorem sI_small (b : Bool) (n : ByteArray) : (sI b n).small := by unfold sI; split <;> exact ⟨by omega, by omega, fun i hi => absurd hi (Nat.not_lt_zero _), fun i hi => absurd hi (Nat.not_lt_zero _)⟩
theorem nI_rng {b : Bool} {n : Int} (h : i64 n) : (nI b n).rng := by
  unfold nI
  split
  · exact tn_rng h
  · exact ⟨by omega, by omega, by omega, by omega, fun i hi => absurd hi (Nat.not_lt_zero _), fun i hi => absurd hi (Nat.not_lt_zero _)⟩
theorem sI_rng (b : Bool) (s : ByteArray) : (sI b s).rng := by unfold sI; split <;> exact ⟨by omega, by omega, by omega, by omega, fun i hi => absurd hi (Nat.not_lt_zero _), fun i hi => absurd hi (Nat.not_lt_zero _)⟩
/-- what a list of pairs weighs -/
def gW (e : PE) : Nat := 1 + e.key.size + wt e.t
def sW : List PE → Nat
  | [] => 0
  | e :: l => gW e + sW l
theorem sW_app (a b : List PE) : sW (a ++ b) = sW a + sW b := by
  induction a with
  | nil => simp [sW]
  | cons e l ih => simp [sW, ih]; omega
theorem sW_split (q : PE → Bool) (l : List PE) : sW (l.filter q) + sW (l.filter (fun e => !q e)) = sW l := by
  induction l with
  | nil => rfl
  | cons e l ih =>
    simp only [List.filter_cons]
    cases h : q e <;> simp [sW] <;> omega
theorem sW_wtP (l : List PE) (p : PE) : sW (wtP l p) = sW l + gW p := by
  have := sW_split (lsK p.key) l
  unfold wtP
  rw [sW_app]
  simp only [sW]
  omega
theorem sW_wtAll : ∀ (os es : List PE), sW (wtAll es os) ≤ sW es + sW os
  | [], _ => Nat.le_refl _
  | o :: os, es => by
    have h := sW_wtAll os (if o.t.k = 0 then es else wtP es o)
    have h2 : sW (if o.t.k = 0 then es else wtP es o) ≤ sW es + gW o := by
      split
      · omega
      · rw [sW_wtP]; exact Nat.le_refl _
    show sW (wtAll (if o.t.k = 0 then es else wtP es o) os) ≤ sW es + (gW o + sW os)
    omega
theorem sumN_cong {f g : Nat → Nat} : ∀ {n : Nat}, (∀ i, i < n → f i = g i) → sumN f n = sumN g n
  | 0, _ => rfl
  | n + 1, h => by
    show sumN f n + f n = sumN g n + g n
    rw [sumN_cong (fun i hi => h i (by omega)), h n (by omega)]
theorem sumN_cons (f : Nat → Nat) : ∀ n, sumN f (n + 1) = f 0 + sumN (fun i => f (i + 1)) n
  | 0 => by show 0 + f 0 = f 0 + 0; omega
  | n + 1 => by
    show sumN f (n + 1) + f (n + 1) = f 0 + (sumN (fun i => f (i + 1)) n + f (n + 1))
    rw [sumN_cons f n]
    omega
theorem sumN_sW : ∀ l : List PE, sumN (fun i => 1 + (kyG l i).size + wt (dvG l i)) l.length = sW l
  | [] => rfl
  | e :: l => by
    rw [List.length_cons, sumN_cons]
    show 1 + e.key.size + wt e.t + sumN (fun i => 1 + (kyG (e :: l) (i + 1)).size + wt (dvG (e :: l) (i + 1))) l.length = gW e + sW l
    rw [← sumN_sW l]
    rfl
theorem wt_tG (l : List PE) : wt (tG l) = 1 + sW l := by
  show 1 + (⟨#[]⟩ : ByteArray).size + 0 + sumN (fun i => 1 + (kyG l i).size + wt (dvG l i)) l.length = _
  rw [sumN_sW]
  rfl
theorem sW_le {l : List PE} {m : Nat} (h : ∀ e ∈ l, gW e ≤ m) : sW l ≤ l.length * m := by
  induction l with
  | nil => simp [sW]
  | cons e l ih =>
    have h1 := h e (by simp)
    have h2 := ih (fun e he => h e (List.mem_cons_of_mem _ he))
    simp only [sW, List.length_cons, Nat.add_mul]
    omega
/-- what an opened wish tells -/
structure Wok (ns : List (ByteArray × Int)) (sz qu : Int) (ag : ByteArray) (es : List PE) : Prop where
  nl : ns.length ≤ 1048576
  nn : ∀ x ∈ ns, x.1.size ≤ 1048576 ∧ i64 x.2
  fz : i64 sz
  fq : i64 qu
  fa : ag.size ≤ 1048576
  fl : es.length ≤ 1048576
  fo : ∀ e ∈ es, e.key.size ≤ 140737488351232 ∧ e.t.ok
  fi : ∀ e ∈ es, e.t.ints
  fs : ∀ e ∈ es, e.t.small
  fw : sW es ≤ 2147483647
theorem wt_tn (n : Int) : wt (tn n) = 1 := rfl
theorem sW_own {ns : List (ByteArray × Int)} {sz qu : Int} {ag : ByteArray} {yv : Value} (hl : ns.length ≤ 1048576) (hn : ∀ x ∈ ns, x.1.size ≤ 1048576) (ha : ag.size ≤ 1048576) : sW (ownP ns sz qu ag yv) ≤ 1200000000000 := by
  have h1 : sW (nE ns) ≤ (nE ns).length * 1048578 := sW_le (fun e he => by
    obtain ⟨x, hx, rfl⟩ := List.mem_map.1 he
    have := hn x hx
    show 1 + x.1.size + 1 ≤ _
    omega)
  rw [nE_len] at h1
  have h2 : ns.length * 1048578 ≤ 1048576 * 1048578 := Nat.mul_le_mul_right _ hl
  have e1 : gW (leaf kZ (nI (sz != 0) sz)) ≤ 100 := by
    have : wt (nI (sz != 0) sz) = 1 := by unfold nI; split <;> rfl
    show 1 + kZ.size + wt (nI (sz != 0) sz) ≤ 100
    rw [this]
    decide
  have e2 : gW (leaf kQ (nI (qu != 0) qu)) ≤ 100 := by
    have : wt (nI (qu != 0) qu) = 1 := by unfold nI; split <;> rfl
    show 1 + kQ.size + wt (nI (qu != 0) qu) ≤ 100
    rw [this]
    decide
  have e3 : gW (leaf kV (sI (!ag.toList == []) ag)) ≤ 1048676 := by
    have : wt (sI (!ag.toList == []) ag) ≤ 1 + ag.size := by
      unfold sI
      split
      · show 1 + ag.size + 0 + 0 ≤ _; omega
      · show 1 + 0 + 0 + 0 ≤ _; omega
    show 1 + kV.size + wt (sI (!ag.toList == []) ag) ≤ _
    have h9 : kV.size = 1 := rfl
    omega
  show gW ⟨kM, tG (nE ns), .slice none 0 0, yv⟩ + (gW (leaf kZ (nI (sz != 0) sz)) + (gW (leaf kQ (nI (qu != 0) qu)) + (gW (leaf kV (sI (!ag.toList == []) ag)) + 0))) ≤ _
  have e4 : gW ⟨kM, tG (nE ns), .slice none 0 0, yv⟩ = 2 + (1 + sW (nE ns)) := by
    show 1 + kM.size + wt (tG (nE ns)) = _
    rw [wt_tG]
    rfl
  omega
section
variable {ns : List (ByteArray × Int)} {sz qu : Int} {ag : ByteArray} {es : List PE} (hk : Wok ns sz qu ag es) (hp : es.Pairwise KL) (hno : ∀ e ∈ es, owB e.key = false)
include hk hp hno
theorem TW_ok : (TW ns sz qu ag es).ok := by
  refine tG_ok (by have := wt_len (ns := ns) (sz := sz) (qu := qu) (ag := ag) hp hno; have := hk.fl; omega) (fun e he => ?_)
  rcases wt_mem hp hno e he with h | h
  · exact hk.fo e h
  · exact own_ok (by have := hk.nl; omega) (fun x hx => by have := (hk.nn x hx).1; omega) (by have := hk.fa; omega) e h
theorem TW_small : (TW ns sz qu ag es).small := by
  refine tG_small (by have := wt_len (ns := ns) (sz := sz) (qu := qu) (ag := ag) hp hno; have := hk.fl; omega) (fun e he => ?_)
  rcases wt_mem hp hno e he with h | h
  · exact hk.fs e h
  · simp only [ownP, ownQ, List.mem_cons, List.not_mem_nil, or_false] at h
    rcases h with rfl | rfl | rfl | rfl
    · refine tG_small (by rw [nE_len]; have := hk.nl; omega) (fun e he => ?_)
      obtain ⟨x, hx, rfl⟩ := List.mem_map.1 he
      exact tn_small _
    · exact nI_small _ _
    · exact nI_small _ _
    · exact sI_small _ _
theorem TW_rng : (TW ns sz qu ag es).rng := by
  refine tG_rng (by have := wt_len (ns := ns) (sz := sz) (qu := qu) (ag := ag) hp hno; have := hk.fl; omega) (fun e he => ?_)
  rcases wt_mem hp hno e he with h | h
  · exact rng_of _ (hk.fi e h) (hk.fs e h)
  · simp only [ownP, ownQ, List.mem_cons, List.not_mem_nil, or_false] at h
    rcases h with rfl | rfl | rfl | rfl
    · refine tG_rng (by rw [nE_len]; have := hk.nl; omega) (fun e he => ?_)
      obtain ⟨x, hx, rfl⟩ := List.mem_map.1 he
      exact tn_rng (hk.nn x hx).2
    · exact nI_rng hk.fz
    · exact nI_rng hk.fq
    · exact sI_rng _ _
theorem TW_txt : (txt (TW ns sz qu ag es)).length ≤ 80000000000000 := by
  have h1 := txt_len _ (TW_ok hk hp hno) (TW_rng hk hp hno)
  have h2 : wt (TW ns sz qu ag es) = 1 + sW (wtAll es (ownP ns sz qu ag (.slice none 0 0))) := wt_tG _
  have h3 := sW_wtAll (ownP ns sz qu ag (.slice none 0 0)) es
  have h4 := sW_own (sz := sz) (qu := qu) (ag := ag) (yv := .slice none 0 0) hk.nl (fun x hx => (hk.nn x hx).1) hk.fa
  have h5 := hk.fw
  omega
end
end Go.Proofs.YtdchckelnccepaaDoor
