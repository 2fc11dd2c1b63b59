import Derived.Test.YtldkecjfjcnkfaaLc
import Derived.Test.YtldkecjfjcnkfaaHm
namespace Go.Proofs.Ytldkecjfjcnkfaa
open Go.RowKit Go.Deep
section
variable {α : Type} (ky : α → List UInt8)
def ltG (a x : α) : Bool := Op.bytesLess (ky a) (ky x)
def eqG (a x : α) : Bool := ky a == ky x
def RiG (l : List α) : Prop := l.Pairwise (fun a b => Op.bytesLess (ky a) (ky b) = true)
def look (l : List α) (k : List UInt8) : Option α := l.find? (fun x => ky x == k)
def mgG (a b : List α) : List α := mg (ltG ky) (eqG ky) a b
theorem look_nil (k : List UInt8) : look ky [] k = none := rfl
theorem look_yes {x : α} (l : List α) {k : List UInt8} (h : ky x = k) : look ky (x :: l) k = some x := by
  unfold look
  rw [List.find?_cons_of_pos (by simp [h])]
theorem look_no {x : α} (l : List α) {k : List UInt8} (h : ky x ≠ k) : look ky (x :: l) k = look ky l k := by
  unfold look
  rw [List.find?_cons_of_neg (by simp [h])]
theorem look_none {l : List α} {k : List UInt8} (h : ∀ x ∈ l, ky x ≠ k) : look ky l k = none := by
  unfold look
  rw [List.find?_eq_none]
  intro x hx
  simp [h x hx]
theorem less_ne {a b : List UInt8} (h : Op.bytesLess a b = true) : a ≠ b := fun e => by rw [e, less_irr] at h; cases h
theorem gt_of {a b : List UInt8} (h1 : Op.bytesLess a b = false) (h2 : (a == b) = false) : Op.bytesLess b a = true := by
  have h := bytes_tri a b
  rw [h1, h2] at h
  simpa using h
theorem look_mg : ∀ (a b : List α) (k : List UInt8), RiG ky a → RiG ky b → look ky (mgG ky a b) k = (look ky b k).or (look ky a k)
  | old, [], k, _, _ => by unfold mgG; rw [mg_nil, look_nil]; rfl
  | [], x :: xs, k, _, _ => by unfold mgG; rw [mg_none, look_nil, Option.or_none]
  | a :: rest, x :: xs, k, ho, hl => by
    have ho' := List.pairwise_cons.1 ho
    have hl' := List.pairwise_cons.1 hl
    have ih1 := look_mg rest (x :: xs) k ho'.2 hl
    have ih2 := look_mg rest xs k ho'.2 hl'.2
    have ih3 := look_mg (a :: rest) xs k ho hl'.2
    unfold mgG at ih1 ih2 ih3 ⊢
    cases h : ltG ky a x with
    | true =>
      rw [mg_lt _ _ h]
      by_cases e : ky a = k
      · rw [look_yes ky _ e, look_yes ky _ e, look_none ky (l := x :: xs) (fun y hy => ?_)]
        · rfl
        · rw [← e]
          rcases List.mem_cons.1 hy with rfl | hy
          · exact (less_ne h).symm
          · exact (less_ne (less_trans _ _ _ h (hl'.1 y hy))).symm
      · rw [look_no ky _ e, look_no ky _ e, ih1]
    | false =>
      cases h2 : eqG ky a x with
      | true =>
        rw [mg_eq _ _ h h2]
        have e2 : ky a = ky x := by simpa [eqG] using h2
        by_cases e : ky x = k
        · rw [look_yes ky _ e, look_yes ky _ e]; rfl
        · rw [look_no ky _ e, look_no ky _ e, look_no ky _ (by rw [e2]; exact e), ih2]
      | false =>
        rw [mg_gt _ _ h h2]
        by_cases e : ky x = k
        · rw [look_yes ky _ e, look_yes ky _ e]; rfl
        · rw [look_no ky _ e, look_no ky _ e, ih3]
termination_by a b => a.length + b.length
theorem RiG_mg : ∀ (a b : List α), RiG ky a → RiG ky b → RiG ky (mgG ky a b)
  | old, [], h, _ => by unfold mgG; rw [mg_nil]; exact h
  | [], x :: xs, _, h => by unfold mgG; rw [mg_none]; exact h
  | a :: rest, x :: xs, ho, hl => by
    have ho' := List.pairwise_cons.1 ho
    have hl' := List.pairwise_cons.1 hl
    have ih1 := RiG_mg rest (x :: xs) ho'.2 hl
    have ih2 := RiG_mg rest xs ho'.2 hl'.2
    have ih3 := RiG_mg (a :: rest) xs ho hl'.2
    unfold mgG at ih1 ih2 ih3 ⊢
    cases h : ltG ky a x with
    | true =>
      rw [mg_lt _ _ h]
      refine List.pairwise_cons.2 ⟨fun y hy => ?_, ih1⟩
      rcases mg_mem _ _ _ _ y hy with h9 | h9
      · exact ho'.1 y h9
      · rcases List.mem_cons.1 h9 with rfl | h9
        · exact h
        · exact less_trans _ _ _ h (hl'.1 y h9)
    | false =>
      cases h2 : eqG ky a x with
      | true =>
        rw [mg_eq _ _ h h2]
        have e2 : ky a = ky x := by simpa [eqG] using h2
        refine List.pairwise_cons.2 ⟨fun y hy => ?_, ih2⟩
        rcases mg_mem _ _ _ _ y hy with h9 | h9
        · rw [← e2]; exact ho'.1 y h9
        · exact hl'.1 y h9
      | false =>
        rw [mg_gt _ _ h h2]
        have hg := gt_of h h2
        refine List.pairwise_cons.2 ⟨fun y hy => ?_, ih3⟩
        rcases mg_mem _ _ _ _ y hy with h9 | h9
        · rcases List.mem_cons.1 h9 with rfl | h9
          · exact hg
          · exact less_trans _ _ _ hg (ho'.1 y h9)
        · exact hl'.1 y h9
termination_by a b => a.length + b.length
theorem look_ext : ∀ (a b : List α), RiG ky a → RiG ky b → (∀ k, look ky a k = look ky b k) → a = b
  | [], [], _, _, _ => rfl
  | [], y :: b, _, _, h => by have := h (ky y); rw [look_yes ky _ rfl, look_nil] at this; cases this
  | x :: a, [], _, _, h => by have := h (ky x); rw [look_yes ky _ rfl, look_nil] at this; cases this
  | x :: a, y :: b, ha, hb, h => by
    have ha' := List.pairwise_cons.1 ha
    have hb' := List.pairwise_cons.1 hb
    have e : ky x = ky y := by
      cases h1 : Op.bytesLess (ky x) (ky y) with
      | true =>
        have := h (ky x)
        rw [look_yes ky _ rfl, look_none ky (l := y :: b) (fun z hz => ?_)] at this
        · cases this
        · rcases List.mem_cons.1 hz with rfl | hz
          · exact (less_ne h1).symm
          · exact (less_ne (less_trans _ _ _ h1 (hb'.1 z hz))).symm
      | false =>
        cases h2 : (ky x == ky y) with
        | true => simpa using h2
        | false =>
          have h3 := gt_of h1 h2
          have := h (ky y)
          rw [look_yes ky (x := y) _ rfl, look_none ky (l := x :: a) (fun z hz => ?_)] at this
          · cases this
          · rcases List.mem_cons.1 hz with rfl | hz
            · exact (less_ne h3).symm
            · exact (less_ne (less_trans _ _ _ h3 (ha'.1 z hz))).symm
    have exy : x = y := by
      have := h (ky x)
      rw [look_yes ky _ rfl, look_yes ky (x := y) _ e.symm] at this
      exact Option.some.inj this
    subst exy
    congr 1
    refine look_ext a b ha'.2 hb'.2 (fun k => ?_)
    by_cases ek : ky x = k
    · rw [look_none ky (fun z hz => ?_), look_none ky (fun z hz => ?_)]
      · rw [← ek]; exact (less_ne (hb'.1 z hz)).symm
      · rw [← ek]; exact (less_ne (ha'.1 z hz)).symm
    · have := h k
      rw [look_no ky _ ek, look_no ky _ ek] at this
      exact this
theorem mg_assoc (a b c : List α) (ha : RiG ky a) (hb : RiG ky b) (hc : RiG ky c) : mgG ky (mgG ky a b) c = mgG ky a (mgG ky b c) := by
  have hab := RiG_mg ky a b ha hb
  have hbc := RiG_mg ky b c hb hc
  refine look_ext ky _ _ (RiG_mg ky _ _ hab hc) (RiG_mg ky _ _ ha hbc) (fun k => ?_)
  rw [look_mg ky _ _ k hab hc, look_mg ky _ _ k ha hb, look_mg ky _ _ k ha hbc, look_mg ky _ _ k hb hc, Option.or_assoc]
end
def kN (x : ByteArray × Int) : List UInt8 := x.1.toList
def kK (x : ByteArray × T) : List UInt8 := x.1.toList
theorem mgN_G (a b : List (ByteArray × Int)) : mgN a b = mgG kN a b := rfl
def mgKs (a b : List (ByteArray × T)) : List (ByteArray × T) := mg ltK eqK a b
theorem mgKs_G (a b : List (ByteArray × T)) : mgKs a b = mgG kK a b := rfl
theorem nuF_look (ns : List (ByteArray × Int)) (s : ByteArray) : nuF ns s = look kN ns s.toList := rfl
/-- a wish, without its places in memory -/
structure WD where
  ns : List (ByteArray × Int)
  sz : Int
  qu : Int
  ag : ByteArray
  ks : List (ByteArray × T)
/-- a good wish -/
structure WD.good (d : WD) : Prop where
  id : ∀ x ∈ d.ns, 0 ≤ x.2 ∧ x.2 ≤ 255
  s0 : 0 ≤ d.sz
  s1 : d.sz ≤ 1048576
  q0 : 0 ≤ d.qu
  no : ∀ p ∈ d.ks, owB p.1 = false
  rn : RiG kN d.ns
  rk : RiG kK d.ks
  wk : ∀ p ∈ d.ks, wk p.2 1 = 0
def mgD (a b : WD) : WD := ⟨mgN a.ns b.ns, orI b.sz a.sz, orI b.qu a.qu, orS b.ag a.ag, mgKs a.ks b.ks⟩
def noD : WD := ⟨[], 0, 0, ⟨#[]⟩, []⟩
theorem orI_in {a b : Int} {p : Int → Prop} (ha : p a) (hb : p b) : p (orI a b) := by unfold orI; split <;> assumption
theorem WD.good.mg {a b : WD} (ha : a.good) (hb : b.good) : (mgD a b).good where
  id x hx := (mg_mem _ _ _ _ x hx).elim (ha.id x) (hb.id x)
  s0 := orI_in (p := fun n => 0 ≤ n) hb.s0 ha.s0
  s1 := orI_in (p := fun n => n ≤ 1048576) hb.s1 ha.s1
  q0 := orI_in (p := fun n => 0 ≤ n) hb.q0 ha.q0
  no p hp := (mg_mem _ _ _ _ p hp).elim (ha.no p) (hb.no p)
  rn := RiG_mg kN _ _ ha.rn hb.rn
  rk := RiG_mg kK _ _ ha.rk hb.rk
  wk p hp := (mg_mem _ _ _ _ p hp).elim (ha.wk p) (hb.wk p)
theorem noD_good : noD.good := ⟨fun x hx => (by cases hx), by decide, by decide, by decide, fun x hx => (by cases hx), List.Pairwise.nil, List.Pairwise.nil, fun x hx => (by cases hx)⟩
theorem toList_e : (⟨#[]⟩ : ByteArray).toList = [] := by rw [ByteArray.toList_eq]
theorem orS_none (a : ByteArray) : orS ⟨#[]⟩ a = a := if_pos toList_e
theorem orS_left (a : ByteArray) : orS a ⟨#[]⟩ = a := by
  unfold orS
  split
  · rename_i h; exact (str_ext (h.trans toList_e.symm)).symm
  · rfl
theorem orS_assoc (a b c : ByteArray) : orS c (orS b a) = orS (orS c b) a := by
  unfold orS
  by_cases h : c.toList = []
  · rw [if_pos h, if_pos h]
  · rw [if_neg h, if_neg h, if_neg h]
theorem orI_none (a : Int) : orI 0 a = a := rfl
theorem orI_left (a : Int) : orI a 0 = a := by unfold orI; split <;> simp_all
theorem orI_assoc (a b c : Int) : orI c (orI b a) = orI (orI c b) a := by
  unfold orI
  by_cases h : c = 0
  · rw [if_pos h, if_pos h]
  · rw [if_neg h, if_neg h, if_neg h]
theorem mgD_none (d : WD) : mgD d noD = d := by
  unfold mgD noD mgN mgKs
  rw [mg_nil, mg_nil]
  simp only [orI_none, orS_none]
theorem mgD_left (d : WD) : mgD noD d = d := by
  unfold mgD noD mgN mgKs
  rw [mg_none, mg_none]
  simp only [orI_left, orS_left]
theorem mgD_assoc {a b c : WD} (ha : a.good) (hb : b.good) (hc : c.good) : mgD (mgD a b) c = mgD a (mgD b c) := by
  have e1 : mgN (mgN a.ns b.ns) c.ns = mgN a.ns (mgN b.ns c.ns) := mg_assoc kN _ _ _ ha.rn hb.rn hc.rn
  have e2 : mgKs (mgKs a.ks b.ks) c.ks = mgKs a.ks (mgKs b.ks c.ks) := mg_assoc kK _ _ _ ha.rk hb.rk hc.rk
  unfold mgD
  simp only [e1, e2, orI_assoc, orS_assoc]
/-- the number of a name in the merged wish -/
theorem nu_mg {a b : WD} (ha : a.good) (hb : b.good) (s : ByteArray) : nuF (mgD a b).ns s = (nuF b.ns s).or (nuF a.ns s) := look_mg kN a.ns b.ns s.toList ha.rn hb.rn
theorem wiI_in (v n : Int) (h : 0 < n) : 0 ≤ wiI v n ∧ wiI v n < n := by
  have h1 := Int.tmod_lt_of_pos v h
  have h2 := Int.lt_tmod_of_pos v h
  unfold wiI
  split <;> omega
theorem ptN_rise {ns : List (ByteArray × Int)} (k : ByteArray) (id : Int) (h : RiG kN ns) : RiG kN (ptN ns k id) := by
  unfold ptN
  refine List.pairwise_append.2 ⟨List.pairwise_append.2 ⟨h.filter _, List.pairwise_singleton _ _, fun x hx y hy => ?_⟩, h.filter _, fun x hx y hy => ?_⟩
  · simp only [List.mem_singleton] at hy
    subst hy
    exact (List.mem_filter.1 hx).2
  · have hy2 := (List.mem_filter.1 hy).2
    rcases List.mem_append.1 hx with hx | hx
    · exact less_trans _ _ _ (List.mem_filter.1 hx).2 hy2
    · simp only [List.mem_singleton] at hx
      subst hx
      exact hy2
theorem ptN_mem {ns : List (ByteArray × Int)} {k : ByteArray} {id : Int} {x : ByteArray × Int} (h : x ∈ ptN ns k id) : x ∈ ns ∨ x = (k, id) := by
  unfold ptN at h
  simp only [List.mem_append, List.mem_filter, List.mem_singleton] at h
  rcases h with (h | h) | h
  · exact .inl h.1
  · exact .inr h
  · exact .inl h.1
theorem mdN_all : ∀ (l a : List (ByteArray × Int)), RiG kN a → RiG kN (l.foldl (fun l x => ptN l x.1 (wiI x.2 256)) a)
  | [], _, h => h
  | _ :: l, _, h => mdN_all l _ (ptN_rise _ _ h)
theorem mdN_mem : ∀ (l a : List (ByteArray × Int)) (x : ByteArray × Int), x ∈ l.foldl (fun l x => ptN l x.1 (wiI x.2 256)) a → x ∈ a ∨ ∃ y ∈ l, x.1 = y.1 ∧ 0 ≤ x.2 ∧ x.2 ≤ 255
  | [], _, _, h => .inl h
  | y :: l, a, x, h => by
    rcases mdN_mem l _ x h with h | ⟨z, hz, h⟩
    · rcases ptN_mem h with h | h
      · exact .inl h
      · subst h
        have := wiI_in y.2 256 (by decide)
        exact .inr ⟨y, by simp, rfl, this.1, by show wiI y.2 256 ≤ 255; omega⟩
    · exact .inr ⟨z, List.mem_cons_of_mem _ hz, h⟩
/-- what stE keeps -/
def keptE (l : List PE) : Prop := RiG kK (l.map kt) ∧ ∀ e ∈ l, owB e.key = false ∧ wk e.t 1 = 0
theorem stE_kept {acc : List PE} {e : PE} (h : keptE acc) : keptE (stE acc e) := by
  unfold stE
  split
  · rename_i hc
    obtain ⟨h1, h2, h3⟩ := hc
    refine ⟨?_, fun x hx => ?_⟩
    · rw [List.map_append]
      refine List.pairwise_append.2 ⟨h.1, List.pairwise_singleton _ _, fun p hp q hq => ?_⟩
      simp only [List.map_cons, List.map_nil, List.mem_singleton] at hq
      subst hq
      obtain ⟨x, hx, rfl⟩ := List.mem_map.1 hp
      show Op.bytesLess x.key.toList e.key.toList = true
      unfold rsB at h2
      cases hg : acc.getLast? with
      | none => rw [List.getLast?_eq_none_iff.1 hg] at hx; cases hx
      | some z =>
        rw [hg] at h2
        simp only at h2
        obtain ⟨ys, hys⟩ := List.getLast?_eq_some_iff.1 hg
        rw [hys] at hx
        rcases List.mem_append.1 hx with hx | hx
        · have h4 := h.1
          rw [hys, List.map_append] at h4
          have h5 := (List.pairwise_append.1 h4).2.2 (kt x) (List.mem_map_of_mem hx) (kt z) (by simp)
          exact less_trans _ _ _ h5 h2
        · simp only [List.mem_singleton] at hx
          subst hx
          exact h2
    · rcases List.mem_append.1 hx with hx | hx
      · exact h.2 x hx
      · simp only [List.mem_singleton] at hx
        subst hx
        exact ⟨h1, h3⟩
  · exact h
theorem mdE_kept : ∀ (l a : List PE), keptE a → keptE (l.foldl stE a)
  | [], _, h => h
  | _ :: l, _, h => mdE_kept l _ (stE_kept h)
theorem quI_in (q : Int) : 0 ≤ quI q := by unfold quI; split <;> omega
/-- the wish that is made -/
def mdD (ns : List (ByteArray × Int)) (sz qu : Int) (ag : ByteArray) (es : List PE) : WD := ⟨mdN ns, wiI sz 1048577, quI qu, ag, (mdE es).map kt⟩
theorem mdD_good (ns : List (ByteArray × Int)) (sz qu : Int) (ag : ByteArray) (es : List PE) : (mdD ns sz qu ag es).good := by
  have hk := mdE_kept es [] ⟨List.Pairwise.nil, fun e he => by cases he⟩
  have hw := wiI_in sz 1048577 (by decide)
  refine ⟨fun x hx => ?_, hw.1, by show wiI sz 1048577 ≤ _; omega, quI_in qu, fun p hp => ?_, mdN_all ns [] List.Pairwise.nil, hk.1, fun p hp => ?_⟩
  · rcases mdN_mem ns [] x hx with h | ⟨_, _, _, h⟩
    · cases h
    · exact h
  · obtain ⟨e, he, rfl⟩ := List.mem_map.1 hp
    exact (hk.2 e he).1
  · obtain ⟨e, he, rfl⟩ := List.mem_map.1 hp
    exact (hk.2 e he).2
/-- a good wish in memory is one that the calls take -/
theorem WD.good.gw {d : WD} (h : d.good) {es : List PE} (he : es.map kt = d.ks) : GW d.ns d.sz d.qu es := by
  have hm : ∀ e ∈ es, kt e ∈ d.ks := fun e h9 => he ▸ List.mem_map_of_mem h9
  refine ⟨?_, ?_, ?_, fun e h9 => h.wk _ (hm e h9)⟩
  · unfold wsB
    simp only [Bool.and_eq_true, decide_eq_true_eq, Bool.not_eq_true', List.any_eq_false]
    refine ⟨h.s0, h.s1, h.q0, fun x hx => ?_, fun e h9 => ?_⟩
    · have := h.id x hx
      simp [idB, this.1, this.2]
    · have := h.no _ (hm e h9)
      show ¬ owB (kt e).1 = true
      rw [this]; decide
  · have h1 := h.rk
    rw [← he] at h1
    have e2 : es.Pairwise KL ↔ (es.map kt).Pairwise (fun p q => Op.bytesLess (kK p) (kK q) = true) := by rw [List.pairwise_map]; rfl
    exact e2.2 h1
  · unfold nE
    exact List.pairwise_map.2 h.rn
end Go.Proofs.Ytldkecjfjcnkfaa
