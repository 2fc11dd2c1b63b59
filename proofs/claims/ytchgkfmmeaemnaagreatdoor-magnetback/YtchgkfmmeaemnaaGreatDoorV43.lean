import Derived.Test.YtchgkfmmeaemnaaGreatDoorV42
namespace Go.Proofs.YtchgkfmmeaemnaaGreatDoor
open Go.Shelf Go.RowKit Go.Deep
theorem mo_map (mo : List (ByteArray × ByteArray)) : ((List.range mo.length).map fun i => ((mo.getD i (⟨#[]⟩, ⟨#[]⟩)).1, (mo.getD i (⟨#[]⟩, ⟨#[]⟩)).2)) = mo := by
  apply List.ext_getElem
  · simp
  · intro i h1 h2
    simp [List.getD_eq_getElem?_getD, h2]
/-- the parameters of what was read -/
theorem prm_of (p : Ps) : prm (lkOf p) = (bs [120, 116], bs inB ++ Hx2.strI (hxL p.h)) :: ((if p.nm.toList == [] then [] else [(bs [100, 110], p.nm)]) ++ ((if p.rs.length = 0 then [] else [(bs [115, 111], bs (rsT p.rs))]) ++
    (p.ts.map (fun t => (bs [116, 114], t)) ++ (p.ps.map (fun t => (bs [120, 46, 112, 101], t)) ++ p.mo)))) := by
  have e : ((List.range (lkOf p).dn).map fun i => ((lkOf p).ky i, ((lkOf p).dv i).s)) = p.mo := mo_map p.mo
  unfold prm
  rw [e]
  rfl
theorem key_bs {key : ByteArray} {l : List UInt8} (h : (key.toList == l) = true) : key = bs l := by
  have h1 := beq_iff_eq.1 h
  rw [Lib.toList_data] at h1
  rw [← h1]
  apply ByteArray.ext
  simp [bs]
theorem kd_key (key : ByteArray) : (kdR key = 0 → key = bs [120, 116]) ∧ (kdR key = 1 → key = bs [100, 110]) ∧ (kdR key = 2 → key = bs [115, 111]) ∧ (kdR key = 3 → key = bs [116, 114]) ∧ (kdR key = 4 → key = bs [120, 46, 112, 101]) := by
  unfold kdR
  split
  · rename_i h; exact ⟨fun _ => key_bs h, fun h => absurd h (by decide), fun h => absurd h (by decide), fun h => absurd h (by decide), fun h => absurd h (by decide)⟩
  split
  · rename_i h; exact ⟨fun h => absurd h (by decide), fun _ => key_bs h, fun h => absurd h (by decide), fun h => absurd h (by decide), fun h => absurd h (by decide)⟩
  split
  · rename_i h; exact ⟨fun h => absurd h (by decide), fun h => absurd h (by decide), fun _ => key_bs h, fun h => absurd h (by decide), fun h => absurd h (by decide)⟩
  split
  · rename_i h; exact ⟨fun h => absurd h (by decide), fun h => absurd h (by decide), fun h => absurd h (by decide), fun _ => key_bs h, fun h => absurd h (by decide)⟩
  split
  · rename_i h; exact ⟨fun h => absurd h (by decide), fun h => absurd h (by decide), fun h => absurd h (by decide), fun h => absurd h (by decide), fun _ => key_bs h⟩
  · exact ⟨fun h => absurd h (by decide), fun h => absurd h (by decide), fun h => absurd h (by decide), fun h => absurd h (by decide), fun h => absurd h (by decide)⟩
theorem st_facts {p : Ps} {ah k : Nat} {key value : ByteArray} (h : stR p ah k key value = 0) : (ah = 0 → k = 1) ∧ (k = 1 → ah = 0) ∧ ah ≤ k ∧ agR p ah k key value = false ∧ (k = 6 → Op.bytesLess key.toList (lkey p.mo).toList = false) := by
  unfold stR at h
  split at h
  · cases h
  rename_i h1
  split at h
  · cases h
  split at h
  · cases h
  rename_i h3
  split at h
  · cases h
  rename_i h4
  split at h
  · cases h
  rename_i h5
  split at h
  · cases h
  rename_i h6
  refine ⟨fun e => ?_, fun e => ?_, by omega, by simpa using h5, fun e => ?_⟩
  · by_cases e2 : k = 1
    · exact e2
    · exact absurd ⟨e, e2⟩ h1
  · by_cases e2 : ah = 0
    · exact e2
    · exact absurd ⟨e, e2⟩ h3
  · cases h7 : Op.bytesLess key.toList (lkey p.mo).toList with
    | false => rfl
    | true => exact absurd ⟨e, h7⟩ h6
/-- what was read so far, and the parts that it was read from -/
structure Inv (p : Ps) (ah : Nat) (kvs : List KV) : Prop where
  e2 : ah < 2 → (p.nm.toList == []) = true
  e3 : ah < 3 → p.rs = []
  e4 : ah < 4 → p.ts = []
  e5 : ah < 5 → p.ps = []
  e6 : ah < 6 → p.mo = []
  pr : ah ≠ 0 → prm (lkOf p) = kvs
  z : ah = 0 → kvs = []
theorem Inv.zero : Inv zP 0 [] := ⟨fun _ => by decide +kernel, fun _ => rfl, fun _ => rfl, fun _ => rfl, fun _ => rfl, fun h => absurd rfl h, fun _ => rfl⟩
theorem Inv.step {p : Ps} {ah : Nat} {kvs : List KV} (I : Inv p ah kvs) {key value : ByteArray} (hv : value.size ≤ 4096) (hs : stR p ah (kdR key + 1) key value = 0) (hl : (lyR p (kdR key + 1) key value).2 = 0) : Inv (lyR p (kdR key + 1) key value).1 (kdR key + 1) (kvs ++ [(key, value)]) := by
  have hk := kd_key key
  obtain ⟨f1, f2, f3, f4, f5⟩ := st_facts hs
  generalize hkd : kdR key = kd at *
  have hkd5 : kd ≤ 5 := by rw [← hkd]; exact kdR_le key
  clear hs
  obtain rfl | rfl | rfl | rfl | rfl | rfl : kd = 0 ∨ kd = 1 ∨ kd = 2 ∨ kd = 3 ∨ kd = 4 ∨ kd = 5 := by omega
  · -- xt
    have ha : ah = 0 := f2 rfl
    have e : lyR p (0 + 1) key value = liR p value := rfl
    rw [e] at hl ⊢
    cases hf : fstR value.data.toList with
    | none => rw [liR_no hf] at hl; exact absurd hl (by simp)
    | some h =>
      rw [liR_yes hf]
      refine ⟨fun _ => I.e2 (by omega), fun _ => I.e3 (by omega), fun _ => I.e4 (by omega), fun _ => I.e5 (by omega), fun _ => I.e6 (by omega), fun _ => ?_, fun h => absurd h (by decide)⟩
      have hval : bs inB ++ Hx2.strI (hxL h) = value := by
        apply ByteArray.ext
        apply Array.toList_inj.1
        rw [inf_val hf]
        simp [bs]
      rw [prm_of, I.z ha, hk.1 rfl]
      simp only
      rw [I.e2 (by omega), I.e3 (by omega), I.e4 (by omega), I.e5 (by omega), I.e6 (by omega), hval]
      rfl
  · -- dn
    have hah : ah = 1 := by
      have h1 : decide (1 + 1 = ah) = false := f4
      have h2 := of_decide_eq_false h1
      have h3 : ah ≠ 0 := fun e => absurd (f1 e) (by decide)
      omega
    have e : lyR p (1 + 1) key value = jnV p 1 key value := rfl
    rw [e] at hl ⊢
    cases hb : (value.toList == []) with
    | true => unfold jnV at hl; rw [if_pos ⟨.inl rfl, hb⟩] at hl; exact absurd hl (by simp)
    | false =>
      have e2 : jnV p 1 key value = ({ p with nm := value }, 0) := by unfold jnV; rw [if_neg (fun h => by rw [hb] at h; exact absurd h.2 (by decide)), if_pos rfl]
      rw [e2]
      refine ⟨fun h => absurd h (by decide), fun _ => I.e3 (by omega), fun _ => I.e4 (by omega), fun _ => I.e5 (by omega), fun _ => I.e6 (by omega), fun _ => ?_, fun h => absurd h (by decide)⟩
      rw [← I.pr (by omega), prm_of, prm_of, hk.2.1 rfl]
      simp only
      rw [hb, I.e2 (by omega), I.e3 (by omega), I.e4 (by omega), I.e5 (by omega), I.e6 (by omega)]
      rfl
  · -- so
    have hah : ah ≠ 0 ∧ ah < 3 := by
      have h1 : decide (2 + 1 = ah) = false := f4
      have h2 := of_decide_eq_false h1
      have h3 : ah ≠ 0 := fun e => absurd (f1 e) (by decide)
      omega
    have e : lyR p (2 + 1) key value = loR p value := rfl
    rw [e] at hl ⊢
    unfold loR at hl ⊢
    cases hr : rdG (pieces value 44) with
    | none => rw [hr] at hl; exact absurd hl (by simp)
    | some rs =>
      rw [hr] at hl
      simp only at hl ⊢
      split at hl
      · rename_i ha
        rw [if_pos ha]
        refine ⟨fun h => absurd h (by decide), fun h => absurd h (by decide), fun _ => I.e4 (by omega), fun _ => I.e5 (by omega), fun _ => I.e6 (by omega), fun _ => ?_, fun h => absurd h (by decide)⟩
        obtain ⟨v1, v2⟩ := rs_val hv hr
        rw [← I.pr hah.1, prm_of, prm_of, hk.2.2.1 rfl]
        simp only
        rw [if_neg v2, v1, I.e3 (by omega), I.e4 (by omega), I.e5 (by omega), I.e6 (by omega)]
        simp
      · exact absurd hl (by simp)
  · -- tr
    have hah : ah ≠ 0 ∧ ah ≤ 4 := ⟨fun e => absurd (f1 e) (by decide), by omega⟩
    have e : lyR p (3 + 1) key value = jnV p 3 key value := rfl
    rw [e] at hl ⊢
    cases hb : (value.toList == []) with
    | true => unfold jnV at hl; rw [if_pos ⟨.inr (.inl rfl), hb⟩] at hl; exact absurd hl (by simp)
    | false =>
      have e2 : jnV p 3 key value = ({ p with ts := p.ts ++ [value] }, 0) := by unfold jnV; rw [if_neg (fun h => by rw [hb] at h; exact absurd h.2 (by decide)), if_neg (by decide), if_neg (by decide), if_pos rfl]
      rw [e2]
      refine ⟨fun h => absurd h (by decide), fun h => absurd h (by decide), fun h => absurd h (by decide), fun _ => I.e5 (by omega), fun _ => I.e6 (by omega), fun _ => ?_, fun h => absurd h (by decide)⟩
      rw [← I.pr hah.1, prm_of, prm_of, hk.2.2.2.1 rfl]
      simp only
      rw [I.e5 (by omega), I.e6 (by omega)]
      simp
  · -- x.pe
    have hah : ah ≠ 0 ∧ ah ≤ 5 := ⟨fun e => absurd (f1 e) (by decide), by omega⟩
    have e : lyR p (4 + 1) key value = jnV p 4 key value := rfl
    rw [e] at hl ⊢
    cases hb : (value.toList == []) with
    | true => unfold jnV at hl; rw [if_pos ⟨.inr (.inr rfl), hb⟩] at hl; exact absurd hl (by simp)
    | false =>
      have e2 : jnV p 4 key value = ({ p with ps := p.ps ++ [value] }, 0) := by unfold jnV; rw [if_neg (fun h => by rw [hb] at h; exact absurd h.2 (by decide)), if_neg (by decide), if_neg (by decide), if_neg (by decide), if_pos rfl]
      rw [e2]
      refine ⟨fun h => absurd h (by decide), fun h => absurd h (by decide), fun h => absurd h (by decide), fun h => absurd h (by decide), fun _ => I.e6 (by omega), fun _ => ?_, fun h => absurd h (by decide)⟩
      rw [← I.pr hah.1, prm_of, prm_of, hk.2.2.2.2 rfl]
      simp only
      rw [I.e6 (by omega)]
      simp
  · -- more
    have hah : ah ≠ 0 := fun e => absurd (f1 e) (by decide)
    have e : lyR p (5 + 1) key value = jnV p 5 key value := rfl
    rw [e]
    have e2 : jnV p 5 key value = ({ p with mo := p.mo ++ [(key, value)] }, 0) := by unfold jnV; rw [if_neg (fun h => by omega), if_neg (by decide), if_neg (by decide), if_neg (by decide), if_neg (by decide)]
    rw [e2]
    refine ⟨fun h => absurd h (by decide), fun h => absurd h (by decide), fun h => absurd h (by decide), fun h => absurd h (by decide), fun h => absurd h (by decide), fun _ => ?_, fun h => absurd h (by decide)⟩
    rw [← I.pr hah, prm_of, prm_of]
    simp
end Go.Proofs.YtchgkfmmeaemnaaGreatDoor
