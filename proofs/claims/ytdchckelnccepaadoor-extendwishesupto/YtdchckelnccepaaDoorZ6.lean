import Derived.Test.YtdchckelnccepaaDoorGh
import Derived.Test.YtdchckelnccepaaDoorZ5
namespace Go.Proofs.YtdchckelnccepaaDoor
open Go.RowKit Go.Deep
/-- whether a wish is good, as the program tells it -/
def GoodP (ns : List (ByteArray × Int)) (sz qu : Int) (ag : ByteArray) (es : List PE) (r : Bool) : Prop :=
  (wsB ns sz qu es = false ∧ r = false) ∨ (wsB ns sz qu es = true ∧ ∃ yv es', LD es (ownP ns sz qu ag yv) es' ∧ r = (wk (tG es') 0 == 0))
theorem wishDict46 (na ma : Option Addr) (nc mc : Nat) (ns : List (ByteArray × Int)) (sz qu : Int) (ag : ByteArray) (es : List PE) (w : World) (hn : RNs w (.slice na ns.length nc) ns) (hm : RG w.heap.size w (.slice ma es.length mc) es) (hl : ns.length + es.length ≤ 2147483000)
    (hkn : ∀ x ∈ ns, x.1.size ≤ 140737488351232) (hka : ag.size ≤ 140737488351232) (hke : ∀ e ∈ es, e.key.size ≤ 140737488351232 ∧ e.t.ok) :
    Calls Tryd.prog 12 #[.agg #[.slice na ns.length nc, .int .i64 sz, .int .i64 qu, .string ag, .slice ma es.length mc]] w fun e w' => ∃ (k : Int) (va : Option Addr) (vn vc : Nat) (r : Bool), e = .returned (.tuple #[.agg #[.int .i64 k, .int .i64 0, .string ⟨#[]⟩, .slice none 0 0, .slice va vn vc], .bool r]) ∧ GoodP ns sz qu ag es r ∧ Below w.heap.size w w' := by
  cases hb : wsB ns sz qu es with
  | false =>
    refine (wishDict_no na ma nc mc ns sz qu ag es w hn hm hl hb).mono ?_
    rintro e w' ⟨rfl, b⟩
    exact ⟨0, _, _, _, false, rfl, .inl ⟨hb, rfl⟩, b⟩
  | true =>
    refine (wishDict_yes na ma nc mc ns sz qu ag es w hn hm hl hb hkn hka hke).mono ?_
    rintro e w' ⟨yv, v', es', rfl, hld, hrv, b⟩
    obtain ⟨_, a, c, rfl, _⟩ := hrv
    exact ⟨4, _, _, _, _, rfl, .inr ⟨hb, yv, es', hld, rfl⟩, b⟩
end Go.Proofs.YtdchckelnccepaaDoor
namespace Go.Proofs.YtdchckelnccepaaDoor
open Go.RowKit Go.Deep
theorem fstE_of {f : Nat → Int} : ∀ {n : Nat}, (∀ i, i < n → f i = 0) → fstE f n = 0
  | 0, _ => rfl
  | n + 1, h => by
    unfold fstE
    rw [if_pos (fstE_of (fun i hi => h i (by omega)))]
    exact h n (by omega)
/-- the key of the one is less than that of the other -/
def KL (a b : PE) : Prop := Op.bytesLess a.key.toList b.key.toList = true
theorem kyG_at {es : List PE} {i : Nat} (h : i < es.length) : kyG es i = es[i].key := by
  unfold kyG
  rw [getD_of (List.getElem?_eq_getElem h)]
theorem dvG_at {es : List PE} {i : Nat} (h : i < es.length) : dvG es i = es[i].t := by
  unfold dvG
  rw [getD_of (List.getElem?_eq_getElem h)]
theorem rise_iff (es : List PE) : Rise (kyG es) es.length ↔ es.Pairwise KL := by
  rw [List.pairwise_iff_getElem]
  constructor
  · intro h i j hi hj hij
    have := h i j hij hj
    rw [kyG_at hi, kyG_at hj] at this
    exact this
  · intro h p q hpq hq
    rw [kyG_at (by omega), kyG_at hq]
    exact h p q (by omega) hq hpq
theorem keyBad_of_rise {ky : Nat → ByteArray} {n : Nat} (h : Rise ky n) : ∀ i, i < n → keyBad ky i = false
  | 0, _ => rfl
  | p + 1, hp => by
    have h1 := h p (p + 1) (Nat.lt_succ_self _) hp
    have h2 := bytes_tri (ky (p + 1)).toList (ky p).toList
    show (Op.bytesLess (ky (p + 1)).toList (ky p).toList || (ky (p + 1)).toList == (ky p).toList) = false
    rw [← h2, h1]
    rfl
/-- when a dictionary has no fault -/
theorem wk_tG (es : List PE) (ar : Int) (ha : ar < 32) : wk (tG es) ar = 0 ↔ es.Pairwise KL ∧ ∀ e ∈ es, wk e.t (ar + 1) = 0 := by
  have hown : ownB 4 0 ⟨#[]⟩ 0 es.length = true := (ownB_iff _ _ _ _ _).2 ⟨by decide, by decide, .inr rfl, .inr (by rw [ByteArray.toList_eq]), .inr rfl, .inl rfl⟩
  have e : wk (tG es) ar = fstE (fun i => if keyBad (kyG es) i = true then 25 else wk (dvG es i) (ar + 1)) es.length := by
    show (if ownB 4 0 ⟨#[]⟩ 0 es.length = false then 27 else if (4 : Int) < 3 then 0 else if 32 ≤ ar then 24 else if fstE (fun i => wk T.no (ar + 1)) 0 ≠ 0 then fstE (fun i => wk T.no (ar + 1)) 0 else fstE (fun i => if keyBad (kyG es) i = true then 25 else wk (dvG es i) (ar + 1)) es.length) = _
    rw [if_neg (by rw [hown]; decide), if_neg (by decide), if_neg (by omega), if_neg (fun h => h rfl)]
  rw [e]
  constructor
  · intro h
    have h1 := fstE_zero h
    have hk : ∀ i, i < es.length → keyBad (kyG es) i = false := fun i hi => by
      have := h1 i hi
      cases hb : keyBad (kyG es) i with
      | false => rfl
      | true => simp [hb] at this
    refine ⟨(rise_iff es).1 (rise_of_good hk), fun e he => ?_⟩
    obtain ⟨i, hi, rfl⟩ := List.getElem_of_mem he
    have := h1 i hi
    simp only [hk i hi, dvG_at hi] at this
    simpa using this
  · rintro ⟨hp, hv⟩
    apply fstE_of
    intro i hi
    simp only [keyBad_of_rise ((rise_iff es).2 hp) i hi, dvG_at hi]
    simpa using hv _ (List.getElem_mem hi)
theorem sub_put {es0 es : List PE} {o : PE} {at' : Nat} (h : es0.Sublist es) : es0.Sublist (es.take at' ++ o :: es.drop at') := by
  refine h.trans ?_
  have e : es = es.take at' ++ es.drop at' := (List.take_append_drop _ _).symm
  exact (e ▸ List.Sublist.refl es : es.Sublist (es.take at' ++ es.drop at')).trans (List.Sublist.append_left (List.sublist_cons_self _ _) _)
theorem LD.sub {es0 os es : List PE} (h : LD es0 os es) : es0.Sublist es := by
  induction h with
  | nil => exact List.Sublist.refl _
  | skip _ _ ih => exact ih
  | put _ _ _ _ ih => exact sub_put ih
theorem LD.has {es0 os es : List PE} (h : LD es0 os es) : ∀ o ∈ os, o.t.k ≠ 0 → o ∈ es := by
  induction h with
  | nil => intro o ho; simp at ho
  | skip _ hk ih =>
    intro o ho h0
    rcases List.mem_append.1 ho with h1 | h1
    · exact ih o h1 h0
    · simp at h1; subst h1; exact absurd hk h0
  | @put os' es' o' at' _ _ _ _ ih =>
    intro o ho h0
    rcases List.mem_append.1 ho with h1 | h1
    · have h2 := ih o h1 h0
      rw [← List.take_append_drop at' es'] at h2
      rcases List.mem_append.1 h2 with h3 | h3
      · exact List.mem_append_left _ h3
      · exact List.mem_append_right _ (List.mem_cons_of_mem _ h3)
    · simp at h1; subst h1; simp
/-- a good dictionary of a wish: the others rise, and the names -/
theorem good_rise {ns : List (ByteArray × Int)} {sz qu : Int} {ag : ByteArray} {yv : Value} {es es' : List PE} (h : LD es (ownP ns sz qu ag yv) es') (hg : wk (tG es') 0 = 0) : es.Pairwise KL ∧ (nE ns).Pairwise KL := by
  obtain ⟨h1, h2⟩ := (wk_tG es' 0 (by decide)).1 hg
  refine ⟨h1.sublist h.sub, ?_⟩
  have h3 := h.has ⟨kM, tG (nE ns), .slice none 0 0, yv⟩ (by simp [ownP, ownQ]) (by show (4 : Int) ≠ 0; decide)
  exact ((wk_tG (nE ns) (0 + 1) (by decide)).1 (h2 _ h3)).1
end Go.Proofs.YtdchckelnccepaaDoor
namespace Go.Proofs.YtdchckelnccepaaDoor
open Go.RowKit Go.Deep
theorem put_rise {es : List PE} {o : PE} {at' : Nat} (hp : es.Pairwise KL) (hat : At (kyG es) es.length o.key at') (hnew : ∀ e ∈ es, e.key.toList ≠ o.key.toList) : (es.take at' ++ o :: es.drop at').Pairwise KL := by
  have e : es = es.take at' ++ es.drop at' := (List.take_append_drop _ _).symm
  have hlo : ∀ a ∈ es.take at', KL a o := fun a ha => by
    obtain ⟨i, hi, rfl⟩ := List.getElem_of_mem ha
    have h1 : i < at' ∧ i < es.length := by have := hi; simp at this; omega
    have := hat.2.1 i h1.1
    rw [kyG_at h1.2] at this
    rw [List.getElem_take]
    exact this
  have hhi : ∀ a ∈ es.drop at', KL o a := fun a ha => by
    have hm : a ∈ es := List.mem_of_mem_drop ha
    have hne := hnew a hm
    obtain ⟨i, hi, rfl⟩ := List.getElem_of_mem ha
    have h1 : at' + i < es.length := by have := hi; simp at this; omega
    have h2 := hat.2.2 (at' + i) (by omega) h1
    rw [kyG_at h1] at h2
    rw [List.getElem_drop] at hne ⊢
    have h3 := bytes_tri o.key.toList es[at' + i].key.toList
    rw [h2] at h3
    simp at h3
    rcases h3 with h3 | h3
    · exact h3
    · exact absurd h3.symm hne
  rw [List.pairwise_append, List.pairwise_cons]
  have hp2 := hp
  rw [e, List.pairwise_append] at hp2
  refine ⟨hp2.1, ⟨hhi, hp2.2.1⟩, fun a ha b hb => ?_⟩
  rcases List.mem_cons.1 hb with rfl | hb
  · exact hlo a ha
  · exact hp2.2.2 a ha b hb
/-- laid among rising others, with keys of their own, they rise -/
theorem LD.rise {es0 os es : List PE} (h : LD es0 os es) : es0.Pairwise KL → (∀ o ∈ os, ∀ e ∈ es0, e.key.toList ≠ o.key.toList) → os.Pairwise (fun a b => a.key.toList ≠ b.key.toList) → es.Pairwise KL := by
  induction h with
  | nil => exact fun h _ _ => h
  | skip h hk ih => exact fun h1 h2 h3 => ih h1 (fun o ho => h2 o (List.mem_append_left _ ho)) (List.pairwise_append.1 h3).1
  | put h hk hle hat ih =>
    intro h1 h2 h3
    have h4 := List.pairwise_append.1 h3
    have hr := ih h1 (fun o ho => h2 o (List.mem_append_left _ ho)) h4.1
    refine put_rise hr (hat ((rise_iff _).2 hr)) (fun e he => ?_)
    rcases h.mem e he with h5 | h5
    · exact h2 _ (by simp) e h5
    · exact h4.2.2 e h5 _ (by simp)
theorem owB_no {s : ByteArray} (h : owB s = false) : s.toList ≠ kM.toList ∧ s.toList ≠ kZ.toList ∧ s.toList ≠ kQ.toList ∧ s.toList ≠ kV.toList := by
  unfold owB at h
  simp only [Bool.or_eq_false_iff, beq_eq_false_iff_ne] at h
  have eM : kM.toList = [109] := by rw [ByteArray.toList_eq]; rfl
  have eZ : kZ.toList = [109, 101, 116, 97, 100, 97, 116, 97, 95, 115, 105, 122, 101] := by rw [ByteArray.toList_eq]; rfl
  have eQ : kQ.toList = [114, 101, 113, 113] := by rw [ByteArray.toList_eq]; rfl
  have eV : kV.toList = [118] := by rw [ByteArray.toList_eq]; rfl
  rw [eM, eZ, eQ, eV]
  exact ⟨h.1, h.2.1, h.2.2.1, h.2.2.2⟩
theorem own_apart (ns : List (ByteArray × Int)) (sz qu : Int) (ag : ByteArray) (ab : Bool) (yv : Value) : (ownQ ns sz qu ag ab yv).Pairwise (fun a b => a.key.toList ≠ b.key.toList) := by
  have eM : kM.toList = [109] := by rw [ByteArray.toList_eq]; rfl
  have eZ : kZ.toList = [109, 101, 116, 97, 100, 97, 116, 97, 95, 115, 105, 122, 101] := by rw [ByteArray.toList_eq]; rfl
  have eQ : kQ.toList = [114, 101, 113, 113] := by rw [ByteArray.toList_eq]; rfl
  have eV : kV.toList = [118] := by rw [ByteArray.toList_eq]; rfl
  simp only [ownQ, leaf, List.pairwise_cons, List.mem_cons, List.not_mem_nil, or_false, forall_eq_or_imp, forall_eq, eM, eZ, eQ, eV]
  simp
theorem wk_tn (n : Int) (ar : Int) : wk (tn n) ar = 0 := by
  have hown : ownB 1 n ⟨#[]⟩ 0 0 = true := (ownB_iff _ _ _ _ _).2 ⟨by decide, by decide, .inl rfl, .inr (by rw [ByteArray.toList_eq]), .inr rfl, .inr rfl⟩
  show (if ownB 1 n ⟨#[]⟩ 0 0 = false then 27 else if (1 : Int) < 3 then 0 else if 32 ≤ ar then 24 else if fstE (fun i => wk T.no (ar + 1)) 0 ≠ 0 then fstE (fun i => wk T.no (ar + 1)) 0 else fstE (fun i => if keyBad (fun _ => ⟨#[]⟩) i = true then 25 else wk T.no (ar + 1)) 0) = 0
  rw [if_neg (by rw [hown]; decide), if_pos (by decide)]
theorem wk_ts (s : ByteArray) (ar : Int) : wk (ts s) ar = 0 := by
  have hown : ownB 2 0 s 0 0 = true := (ownB_iff _ _ _ _ _).2 ⟨by decide, by decide, .inr rfl, .inl rfl, .inr rfl, .inr rfl⟩
  show (if ownB 2 0 s 0 0 = false then 27 else if (2 : Int) < 3 then 0 else if 32 ≤ ar then 24 else if fstE (fun i => wk T.no (ar + 1)) 0 ≠ 0 then fstE (fun i => wk T.no (ar + 1)) 0 else fstE (fun i => if keyBad (fun _ => ⟨#[]⟩) i = true then 25 else wk T.no (ar + 1)) 0) = 0
  rw [if_neg (by rw [hown]; decide), if_pos (by decide)]
/-- every pair of a dictionary with own pairs is one of the others or a told own one -/
theorem LD.told {es0 os es : List PE} (h : LD es0 os es) : ∀ e ∈ es, e ∈ es0 ∨ (e ∈ os ∧ e.t.k ≠ 0) := by
  induction h with
  | nil => exact fun e he => .inl he
  | skip _ _ ih => exact fun e he => (ih e he).imp_right (fun h => ⟨List.mem_append_left _ h.1, h.2⟩)
  | put _ hk _ _ ih =>
    intro e he
    rcases List.mem_append.1 he with h | h
    · exact (ih e (List.mem_of_mem_take h)).imp_right (fun h => ⟨List.mem_append_left _ h.1, h.2⟩)
    · rcases List.mem_cons.1 h with rfl | h
      · exact .inr ⟨by simp, hk⟩
      · exact (ih e (List.mem_of_mem_drop h)).imp_right (fun h => ⟨List.mem_append_left _ h.1, h.2⟩)
/-- a good wish -/
def GW (ns : List (ByteArray × Int)) (sz qu : Int) (es : List PE) : Prop := wsB ns sz qu es = true ∧ es.Pairwise KL ∧ (nE ns).Pairwise KL ∧ ∀ e ∈ es, wk e.t 1 = 0
theorem GoodP.iff {ns : List (ByteArray × Int)} {sz qu : Int} {ag : ByteArray} {es : List PE} {r : Bool} (h : GoodP ns sz qu ag es r) : r = true ↔ GW ns sz qu es := by
  rcases h with ⟨h1, h2⟩ | ⟨h1, yv, es', hld, hr⟩
  · subst h2
    constructor
    · intro h; cases h
    · intro h; rw [h.1] at h1; cases h1
  · subst hr
    rw [beq_iff_eq]
    constructor
    · intro hg
      obtain ⟨p1, p2⟩ := good_rise hld hg
      exact ⟨h1, p1, p2, fun e he => ((wk_tG es' 0 (by decide)).1 hg).2 e (hld.sub.subset he)⟩
    · rintro ⟨_, g2, g3, g4⟩
      have hno : ∀ e ∈ es, owB e.key = false := fun e he => by
        unfold wsB at h1
        simp only [Bool.and_eq_true, Bool.not_eq_true', List.any_eq_false] at h1
        simpa using h1.2.2.2.2 e he
      refine (wk_tG es' 0 (by decide)).2 ⟨hld.rise g2 (fun o ho e he => ?_) (own_apart _ _ _ _ _ _), fun e he => ?_⟩
      · have h9 := owB_no (hno e he)
        simp only [ownP, ownQ, List.mem_cons, List.not_mem_nil, or_false] at ho
        rcases ho with rfl | rfl | rfl | rfl
        · exact h9.1
        · exact h9.2.1
        · exact h9.2.2.1
        · exact h9.2.2.2
      · rcases hld.told e he with h9 | ⟨h9, hk⟩
        · exact g4 e h9
        · simp only [ownP, ownQ, List.mem_cons, List.not_mem_nil, or_false] at h9
          rcases h9 with rfl | rfl | rfl | rfl
          · refine (wk_tG (nE ns) (0 + 1) (by decide)).2 ⟨g3, fun e he => ?_⟩
            obtain ⟨x, hx, rfl⟩ := List.mem_map.1 he
            exact wk_tn _ _
          · show wk (nI (sz != 0) sz) _ = 0
            have hk' : (nI (sz != 0) sz).k ≠ 0 := hk
            unfold nI at hk' ⊢
            split at hk'
            · rw [if_pos (by assumption)]; exact wk_tn _ _
            · exact absurd rfl hk'
          · show wk (nI (qu != 0) qu) _ = 0
            have hk' : (nI (qu != 0) qu).k ≠ 0 := hk
            unfold nI at hk' ⊢
            split at hk'
            · rw [if_pos (by assumption)]; exact wk_tn _ _
            · exact absurd rfl hk'
          · show wk (sI (!ag.toList == []) ag) _ = 0
            have hk' : (sI (!ag.toList == []) ag).k ≠ 0 := hk
            unfold sI at hk' ⊢
            split at hk'
            · rw [if_pos (by assumption)]; exact wk_ts _ _
            · exact absurd rfl hk'
end Go.Proofs.YtdchckelnccepaaDoor
namespace Go.Proofs.YtdchckelnccepaaDoor
open Go.RowKit Go.Deep
set_option maxHeartbeats 1000000 in
theorem own49 (s : ByteArray) (w : World) : Calls Tryd.prog 31 #[.string s] w fun e w' => e = .returned (.bool (owB s)) ∧ w' = w := by
  have HO : owB s = (s.toList == [109] || (s.toList == [109, 101, 116, 97, 100, 97, 116, 97, 95, 115, 105, 122, 101] || (s.toList == [114, 101, 113, 113] || s.toList == [118]))) := rfl
  have HO2 := Lib.hid HO
  clear HO
  by_cases h1 : s.toList = [109]
  · have HE : Hid (owB s = true) := by
      show _ = true
      rw [HO2.out]
      simp [h1]
    clear HO2
    go_enter Tryd.func31, Tryd.ntmps31
    go_wp2
    go_ret
    exact ⟨by rw [HE.out]; rfl, rfl⟩
  by_cases h2 : s.toList = [109, 101, 116, 97, 100, 97, 116, 97, 95, 115, 105, 122, 101]
  · have HE : Hid (owB s = true) := by
      show _ = true
      rw [HO2.out]
      simp [h2]
    clear HO2
    go_enter Tryd.func31, Tryd.ntmps31
    go_wp2
    go_ret
    exact ⟨by rw [HE.out]; rfl, rfl⟩
  by_cases h3 : s.toList = [114, 101, 113, 113]
  · have HE : Hid (owB s = true) := by
      show _ = true
      rw [HO2.out]
      simp [h3]
    clear HO2
    go_enter Tryd.func31, Tryd.ntmps31
    go_wp2
    go_ret
    exact ⟨by rw [HE.out]; rfl, rfl⟩
  by_cases h4 : s.toList = [118]
  · have HE : Hid (owB s = true) := by
      show _ = true
      rw [HO2.out]
      simp [h4]
    clear HO2
    go_enter Tryd.func31, Tryd.ntmps31
    go_wp2
    go_ret
    exact ⟨by rw [HE.out]; rfl, rfl⟩
  have HE : Hid (owB s = false) := by
    show _ = false
    rw [HO2.out]
    simp [h1, h2, h3, h4]
  clear HO2
  go_enter Tryd.func31, Tryd.ntmps31
  go_wp2
  go_ret
  exact ⟨by rw [HE.out]; simp [Array.getD, h1, h2, h3, h4], rfl⟩
set_option maxHeartbeats 1000000 in
theorem number67 (n : Int) (w : World) : Calls Tryd.prog 33 #[.int .i64 n] w fun e w' => e = .returned (.agg #[.int .i64 1, .int .i64 n, .string ⟨#[]⟩, .slice none 0 0, .slice none 0 0]) ∧ Below w.heap.size w w' := by
  have HW : Hid (∀ o, Below w.heap.size w (w.alloc o)) := fun _ => (Below.refl _ _).alloc (Nat.le_refl _) _
  go_enter Tryd.func33, Tryd.ntmps33
  go_wp2
  exact bodyPost_ret (v := .agg #[.int .i64 1, .int .i64 n, .string ⟨#[]⟩, .slice none 0 0, .slice none 0 0]) (results_cell_row Tryd.results33 _ _ w.heap.size 41 _ (0, 0) _ rfl (heap_new _ _) Tryd.underlying41 rfl info35s56) rfl ⟨rfl, HW.out _⟩
end Go.Proofs.YtdchckelnccepaaDoor
