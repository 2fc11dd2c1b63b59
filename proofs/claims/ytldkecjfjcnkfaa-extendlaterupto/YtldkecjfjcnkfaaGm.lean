import Derived.Test.YtldkecjfjcnkfaaGl
import Derived.Test.YtldkecjfjcnkfaaGi
namespace Go.Proofs.Ytldkecjfjcnkfaa
open Go.RowKit Go.Deep
theorem put_rise {es : List PE} {o : PE} {at' : Nat} (hp : es.Pairwise KL) (hat : At (kyG es) es.length o.key at') (hnew : ∀ e ∈ es, e.key.toList ≠ o.key.toList) : (es.take at' ++ o :: es.drop at').Pairwise KL := by
  have e : es = es.take at' ++ es.drop at' := (List.take_append_drop _ _).symm
  have hlo : ∀ a ∈ es.take at', KL a o := fun a ha => by
    obtain ⟨i, hi, rfl⟩ := List.getElem_of_mem ha
    have h1 : i < at' ∧ i < es.length := by have := hi; simp at this; omega
    have := hat.2.1 i h1.1
    rw [kyG_at h1.2] at this
    rw [List.getElem_take]
    exact this
  have hhi : ∀ a ∈ es.drop at', KL o a := fun a ha => by
    have hm : a ∈ es := List.mem_of_mem_drop ha
    have hne := hnew a hm
    obtain ⟨i, hi, rfl⟩ := List.getElem_of_mem ha
    have h1 : at' + i < es.length := by have := hi; simp at this; omega
    have h2 := hat.2.2 (at' + i) (by omega) h1
    rw [kyG_at h1] at h2
    rw [List.getElem_drop] at hne ⊢
    have h3 := bytes_tri o.key.toList es[at' + i].key.toList
    rw [h2] at h3
    simp at h3
    rcases h3 with h3 | h3
    · exact h3
    · exact absurd h3.symm hne
  rw [List.pairwise_append, List.pairwise_cons]
  have hp2 := hp
  rw [e, List.pairwise_append] at hp2
  refine ⟨hp2.1, ⟨hhi, hp2.2.1⟩, fun a ha b hb => ?_⟩
  rcases List.mem_cons.1 hb with rfl | hb
  · exact hlo a ha
  · exact hp2.2.2 a ha b hb
/-- laid among rising others, with keys of their own, they rise -/
theorem LD.rise {es0 os es : List PE} (h : LD es0 os es) : es0.Pairwise KL → (∀ o ∈ os, ∀ e ∈ es0, e.key.toList ≠ o.key.toList) → os.Pairwise (fun a b => a.key.toList ≠ b.key.toList) → es.Pairwise KL := by
  induction h with
  | nil => exact fun h _ _ => h
  | skip h hk ih => exact fun h1 h2 h3 => ih h1 (fun o ho => h2 o (List.mem_append_left _ ho)) (List.pairwise_append.1 h3).1
  | put h hk hle hat ih =>
    intro h1 h2 h3
    have h4 := List.pairwise_append.1 h3
    have hr := ih h1 (fun o ho => h2 o (List.mem_append_left _ ho)) h4.1
    refine put_rise hr (hat ((rise_iff _).2 hr)) (fun e he => ?_)
    rcases h.mem e he with h5 | h5
    · exact h2 _ (by simp) e h5
    · exact h4.2.2 e h5 _ (by simp)
theorem owB_no {s : ByteArray} (h : owB s = false) : s.toList ≠ kM.toList ∧ s.toList ≠ kZ.toList ∧ s.toList ≠ kQ.toList ∧ s.toList ≠ kV.toList := by
  unfold owB at h
  simp only [Bool.or_eq_false_iff, beq_eq_false_iff_ne] at h
  have eM : kM.toList = [109] := by rw [ByteArray.toList_eq]; rfl
  have eZ : kZ.toList = [109, 101, 116, 97, 100, 97, 116, 97, 95, 115, 105, 122, 101] := by rw [ByteArray.toList_eq]; rfl
  have eQ : kQ.toList = [114, 101, 113, 113] := by rw [ByteArray.toList_eq]; rfl
  have eV : kV.toList = [118] := by rw [ByteArray.toList_eq]; rfl
  rw [eM, eZ, eQ, eV]
  exact ⟨h.1, h.2.1, h.2.2.1, h.2.2.2⟩
theorem own_apart (ns : List (ByteArray × Int)) (sz qu : Int) (ag : ByteArray) (ab : Bool) (yv : Value) : (ownQ ns sz qu ag ab yv).Pairwise (fun a b => a.key.toList ≠ b.key.toList) := by
  have eM : kM.toList = [109] := by rw [ByteArray.toList_eq]; rfl
  have eZ : kZ.toList = [109, 101, 116, 97, 100, 97, 116, 97, 95, 115, 105, 122, 101] := by rw [ByteArray.toList_eq]; rfl
  have eQ : kQ.toList = [114, 101, 113, 113] := by rw [ByteArray.toList_eq]; rfl
  have eV : kV.toList = [118] := by rw [ByteArray.toList_eq]; rfl
  simp only [ownQ, leaf, List.pairwise_cons, List.mem_cons, List.not_mem_nil, or_false, forall_eq_or_imp, forall_eq, eM, eZ, eQ, eV]
  simp
theorem wk_tn (n : Int) (ar : Int) : wk (tn n) ar = 0 := by
  have hown : ownB 1 n ⟨#[]⟩ 0 0 = true := (ownB_iff _ _ _ _ _).2 ⟨by decide, by decide, .inl rfl, .inr (by rw [ByteArray.toList_eq]), .inr rfl, .inr rfl⟩
  show (if ownB 1 n ⟨#[]⟩ 0 0 = false then 27 else if (1 : Int) < 3 then 0 else if 32 ≤ ar then 24 else if fstE (fun i => wk T.no (ar + 1)) 0 ≠ 0 then fstE (fun i => wk T.no (ar + 1)) 0 else fstE (fun i => if keyBad (fun _ => ⟨#[]⟩) i = true then 25 else wk T.no (ar + 1)) 0) = 0
  rw [if_neg (by rw [hown]; decide), if_pos (by decide)]
theorem wk_ts (s : ByteArray) (ar : Int) : wk (ts s) ar = 0 := by
  have hown : ownB 2 0 s 0 0 = true := (ownB_iff _ _ _ _ _).2 ⟨by decide, by decide, .inr rfl, .inl rfl, .inr rfl, .inr rfl⟩
  show (if ownB 2 0 s 0 0 = false then 27 else if (2 : Int) < 3 then 0 else if 32 ≤ ar then 24 else if fstE (fun i => wk T.no (ar + 1)) 0 ≠ 0 then fstE (fun i => wk T.no (ar + 1)) 0 else fstE (fun i => if keyBad (fun _ => ⟨#[]⟩) i = true then 25 else wk T.no (ar + 1)) 0) = 0
  rw [if_neg (by rw [hown]; decide), if_pos (by decide)]
/-- every pair of a dictionary with own pairs is one of the others or a told own one -/
theorem LD.told {es0 os es : List PE} (h : LD es0 os es) : ∀ e ∈ es, e ∈ es0 ∨ (e ∈ os ∧ e.t.k ≠ 0) := by
  induction h with
  | nil => exact fun e he => .inl he
  | skip _ _ ih => exact fun e he => (ih e he).imp_right (fun h => ⟨List.mem_append_left _ h.1, h.2⟩)
  | put _ hk _ _ ih =>
    intro e he
    rcases List.mem_append.1 he with h | h
    · exact (ih e (List.mem_of_mem_take h)).imp_right (fun h => ⟨List.mem_append_left _ h.1, h.2⟩)
    · rcases List.mem_cons.1 h with rfl | h
      · exact .inr ⟨by simp, hk⟩
      · exact (ih e (List.mem_of_mem_drop h)).imp_right (fun h => ⟨List.mem_append_left _ h.1, h.2⟩)
/-- a good wish -/
def GW (ns : List (ByteArray × Int)) (sz qu : Int) (es : List PE) : Prop := wsB ns sz qu es = true ∧ es.Pairwise KL ∧ (nE ns).Pairwise KL ∧ ∀ e ∈ es, wk e.t 1 = 0
theorem GoodP.iff {ns : List (ByteArray × Int)} {sz qu : Int} {ag : ByteArray} {es : List PE} {r : Bool} (h : GoodP ns sz qu ag es r) : r = true ↔ GW ns sz qu es := by
  rcases h with ⟨h1, h2⟩ | ⟨h1, yv, es', hld, hr⟩
  · subst h2
    constructor
    · intro h; cases h
    · intro h; rw [h.1] at h1; cases h1
  · subst hr
    rw [beq_iff_eq]
    constructor
    · intro hg
      obtain ⟨p1, p2⟩ := good_rise hld hg
      exact ⟨h1, p1, p2, fun e he => ((wk_tG es' 0 (by decide)).1 hg).2 e (hld.sub.subset he)⟩
    · rintro ⟨_, g2, g3, g4⟩
      have hno : ∀ e ∈ es, owB e.key = false := fun e he => by
        unfold wsB at h1
        simp only [Bool.and_eq_true, Bool.not_eq_true', List.any_eq_false] at h1
        simpa using h1.2.2.2.2 e he
      refine (wk_tG es' 0 (by decide)).2 ⟨hld.rise g2 (fun o ho e he => ?_) (own_apart _ _ _ _ _ _), fun e he => ?_⟩
      · have h9 := owB_no (hno e he)
        simp only [ownP, ownQ, List.mem_cons, List.not_mem_nil, or_false] at ho
        rcases ho with rfl | rfl | rfl | rfl
        · exact h9.1
        · exact h9.2.1
        · exact h9.2.2.1
        · exact h9.2.2.2
      · rcases hld.told e he with h9 | ⟨h9, hk⟩
        · exact g4 e h9
        · simp only [ownP, ownQ, List.mem_cons, List.not_mem_nil, or_false] at h9
          rcases h9 with rfl | rfl | rfl | rfl
          · refine (wk_tG (nE ns) (0 + 1) (by decide)).2 ⟨g3, fun e he => ?_⟩
            obtain ⟨x, hx, rfl⟩ := List.mem_map.1 he
            exact wk_tn _ _
          · show wk (nI (sz != 0) sz) _ = 0
            have hk' : (nI (sz != 0) sz).k ≠ 0 := hk
            unfold nI at hk' ⊢
            split at hk'
            · rw [if_pos (by assumption)]; exact wk_tn _ _
            · exact absurd rfl hk'
          · show wk (nI (qu != 0) qu) _ = 0
            have hk' : (nI (qu != 0) qu).k ≠ 0 := hk
            unfold nI at hk' ⊢
            split at hk'
            · rw [if_pos (by assumption)]; exact wk_tn _ _
            · exact absurd rfl hk'
          · show wk (sI (!ag.toList == []) ag) _ = 0
            have hk' : (sI (!ag.toList == []) ag).k ≠ 0 := hk
            unfold sI at hk' ⊢
            split at hk'
            · rw [if_pos (by assumption)]; exact wk_ts _ _
            · exact absurd rfl hk'
end Go.Proofs.Ytldkecjfjcnkfaa
