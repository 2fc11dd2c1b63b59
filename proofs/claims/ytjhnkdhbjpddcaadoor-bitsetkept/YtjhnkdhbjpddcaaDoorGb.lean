import Derived.Test.YtjhnkdhbjpddcaaDoorGa
namespace Go.Proofs.YtjhnkdhbjpddcaaDoor
open Go.RowKit
theorem addr0 (g j : Nat) : (⟨g, 0, none⟩ : Addr).add j = ⟨g, j, none⟩ := by
  have : (⟨g, 0, none⟩ : Addr).add j = ⟨g, 0 + j, none⟩ := by unfold Addr.add; split <;> simp_all
  simpa using this
/-- no list -/
def nv : Value := .slice none 0 0
theorem info22 : (Tryd.prog.info? 22).map (fun i => (i.zero, i.size, i.bytes)) = some (some (.slice none 0 0), 1, 24) := by kernel_rfl
theorem OW.fr {S : Nat → Prop} {B : Nat} {w w' : World} {v : Value} {l : List UInt8} (h : OW B w v l) (hf : Fr S w w') (hs : ∀ g, v.ownBlock = some g → S g) : OW B w' v l := ownsRow_fr h hf hs
theorem OW.blk {B : Nat} {w : World} {v : Value} {l : List UInt8} (h : OW B w v l) : ∀ g, v.ownBlock = some g → B ≤ g ∧ g < w.heap.size := fun g hg => World.ownsRow.lt h g hg
theorem OW.tag {B : Nat} {w : World} {v : Value} {l : List UInt8} (h : OW B w v l) : ∀ g, v.ownBlock = some g → ∃ cs, w.heap[g]? = some (.cells cs 5 (0, 0)) := fun g hg => (ownsRow_lt h g hg).2
theorem tag_ne {w : World} {g g' : Nat} {cs cs' : Array Value} {t t' : TypeId} (h : w.heap[g]? = some (.cells cs t (0, 0))) (h' : w.heap[g']? = some (.cells cs' t' (0, 0))) (ht : t ≠ t') : g ≠ g' := by
  rintro rfl
  rw [h] at h'
  simp only [Option.some.injEq, Obj.cells.injEq] at h'
  exact ht h'.2.1
/-- a list of lists of bytes, each in a block of its own -/
structure OL (B : Nat) (w : World) (v : Value) (vs : List Value) (L : List (List UInt8)) : Prop where
  row : w.ownsRow B 22 1 v L.length vs
  len : vs.length = L.length
  each : ∀ j, j < L.length → OW B w (vs.getD j nv) (L.getD j [])
  ap : ∀ i j g, i < L.length → j < L.length → i ≠ j → (vs.getD i nv).ownBlock = some g → (vs.getD j nv).ownBlock ≠ some g
/-- the blocks of the lists -/
def bks (vs : List Value) (g : Nat) : Prop := ∃ j, j < vs.length ∧ (vs.getD j nv).ownBlock = some g
theorem OL.form {B : Nat} {w : World} {v : Value} {vs : List Value} {L : List (List UInt8)} (h : OL B w v vs L) : ∃ a c, v = .slice a L.length c := ownsRow_form h.row
theorem OL.cell {B : Nat} {w : World} {a : Option Addr} {n c : Nat} {vs : List Value} {L : List (List UInt8)} (h : OL B w (.slice a n c) vs L) (i : Nat) (hi : i < L.length) :
    ∃ g0 ai ci, a = some ⟨g0, 0, none⟩ ∧ w.cell? ⟨g0, i, none⟩ = some (.slice ai (L.getD i []).length ci) ∧ vs.getD i nv = .slice ai (L.getD i []).length ci := by
  obtain ⟨ai, ci, e⟩ := (h.each i hi).form
  have hr := h.row
  rcases h.row.2 with ⟨h1, h2⟩ | ⟨g, cap, cur, h1, h2, h3, _⟩
  · omega
  · simp only [Value.slice.injEq] at h1
    obtain ⟨rfl, rfl, rfl⟩ := h1
    refine ⟨g, ai, ci, rfl, ?_, e⟩
    have := World.ownsRow.cellAt hr i (by omega)
    rw [this, ← e]
    have hi' : i < vs.length := by rw [h.len]; exact hi
    simp [List.getD, List.getElem?_eq_getElem hi']
theorem OL.fr {S : Nat → Prop} {B : Nat} {w w' : World} {v : Value} {vs : List Value} {L : List (List UInt8)} (h : OL B w v vs L) (hf : Fr S w w') (h1 : ∀ g, v.ownBlock = some g → S g) (h2 : ∀ g, bks vs g → S g) : OL B w' v vs L :=
  ⟨ownsRow_fr h.row hf h1, h.len, fun j hj => (h.each j hj).fr hf (fun g hg => h2 g ⟨j, by rw [h.len]; exact hj, hg⟩), h.ap⟩
theorem OL.below {B : Nat} {w w' : World} {v : Value} {vs : List Value} {L : List (List UInt8)} (h : OL B w v vs L) (hb : Below w.heap.size w w') : OL B w' v vs L := h.fr (S := fun _ => True) (Fr.of_below hb) (fun _ _ => trivial) (fun _ _ => trivial)
theorem OL.base {B B' : Nat} {w : World} {v : Value} {vs : List Value} {L : List (List UInt8)} (h : OL B w v vs L) (hb : B' ≤ B) : OL B' w v vs L := ⟨ownsRow_base h.row hb, h.len, fun j hj => OW.mono (h.each j hj) hb, h.ap⟩
theorem OL.put {B : Nat} {w : World} {v : Value} {vs : List Value} {L : List (List UInt8)} (h : OL B w v vs L) (i k : Nat) (hi : i < L.length) (hk : k < (L.getD i []).length) (y : UInt8) {g : Nat} {m ci : Nat} (e : vs.getD i nv = .slice (some ⟨g, 0, none⟩) m ci) :
    OL B (w.setCell ⟨g, k, none⟩ (.int .u8 (y.toNat : Int))) v vs (L.set i ((L.getD i []).set k y)) := by
  have ei : (vs.getD i nv).ownBlock = some g := by rw [e]; rfl
  have oi := h.each i hi
  have fr : Fr (fun q => q ≠ g) w (w.setCell ⟨g, k, none⟩ (.int .u8 (y.toNat : Int))) := (Fr.refl _ _).setCell g k _ (fun _ x => x rfl)
  obtain ⟨cs, htag⟩ := oi.tag g ei
  refine ⟨?_, by rw [List.length_set]; exact h.len, fun j hj => ?_, fun a b q ha hb hab => h.ap a b q (by simpa using ha) (by simpa using hb) hab⟩
  · rw [List.length_set]
    refine ownsRow_fr h.row fr (fun q hq => ?_)
    obtain ⟨cs', ht'⟩ := (ownsRow_lt h.row q hq).2
    exact tag_ne ht' htag (by decide)
  · rw [List.length_set] at hj
    by_cases hji : j = i
    · subst hji
      have e1 : (L.set j ((L.getD j []).set k y)).getD j [] = (L.getD j []).set k y := by simp [List.getD, hj]
      rw [e1, e]
      rw [e] at oi
      have hm : m = (L.getD j []).length := by
        obtain ⟨_, _, e2⟩ := oi.form
        simp at e2; exact e2.2.1
      exact oi.stored k y
    · have e1 : (L.set i ((L.getD i []).set k y)).getD j [] = L.getD j [] := by simp [List.getD, List.getElem?_set_ne (fun x => hji x.symm)]
      rw [e1]
      exact (h.each j hj).fr fr (fun q hq hqg => h.ap j i q hj hi hji hq (by rw [hqg]; exact ei))
/-- the lists as they are being marked -/
structure AP (w : World) (B : Nat) (v : Value) (vs : List Value) (L L' : List (List UInt8)) (wr : World) : Prop where
  len : L'.length = L.length
  lens : ∀ j, (L'.getD j []).length = (L.getD j []).length
  ob : OL B wr v vs L'
  fr : Fr (fun k => ¬ bks vs k) w wr
/-- the first i are marked -/
def mkd (L' : List (List UInt8)) (i : Nat) : Prop := ∀ j, j < i → ∀ t, t < (L'.getD j []).length → byt (L'.getD j []) t = UInt8.ofNat (7 * j + t)
/-- the marks behind a list -/
def mk2 (j n : Nat) : List UInt8 := (List.range n).map fun k => UInt8.ofNat (100 + j + 5 * k)
theorem mk2_succ (j n : Nat) : mk2 j (n + 1) = mk2 j n ++ [UInt8.ofNat (100 + j + 5 * n)] := by simp [mk2, List.range_succ]
theorem mk2_len (j n : Nat) : (mk2 j n).length = n := by simp [mk2]
theorem byt_mk2 (j n k : Nat) (h : k < n) : byt (mk2 j n) k = UInt8.ofNat (100 + j + 5 * k) := by simp [byt, mk2, List.getD, h]
theorem AP.step {w : World} {B : Nat} {v : Value} {vs : List Value} {L L' : List (List UInt8)} {wr : World} (h : AP w B v vs L L' wr) (i k : Nat) (hi : i < L.length) (hk : k < (L.getD i []).length) (hm : mkd L' i) (hmi : ∀ t, t < k → byt (L'.getD i []) t = UInt8.ofNat (7 * i + t))
    {ai : Option Addr} {m ci : Nat} (e : vs.getD i nv = .slice ai m ci) :
    ∃ g x, ai = some ⟨g, 0, none⟩ ∧ wr.cell? ⟨g, k, none⟩ = some (.int .u8 x) ∧ wr.frozen? ⟨g, k, none⟩ = false ∧
      ∃ L2, AP w B v vs L L2 (wr.setCell ⟨g, k, none⟩ (.int .u8 ((7 * (i : Int) + (k : Int)) % 256))) ∧ mkd L2 i ∧ ∀ t, t < k + 1 → byt (L2.getD i []) t = UInt8.ofNat (7 * i + t) := by
  have hk' : k < (L'.getD i []).length := by rw [h.lens]; exact hk
  have hi' : i < L'.length := by rw [h.len]; exact hi
  have oi := h.ob.each i hi'
  rw [e] at oi
  have hml : m = (L'.getD i []).length := by
    obtain ⟨_, _, e2⟩ := oi.form
    simp at e2; exact e2.2.1
  obtain ⟨g, rfl, _, h1, h2⟩ := oi.at k (by rw [hml]; exact hk')
  have eg : (vs.getD i nv).ownBlock = some g := by rw [e]; rfl
  have hbk : bks vs g := ⟨i, by rw [h.ob.len]; exact hi', eg⟩
  refine ⟨g, _, rfl, h1, h2, L'.set i ((L'.getD i []).set k (UInt8.ofNat (7 * i + k))), ⟨by rw [List.length_set, h.len], fun j => ?_, ?_, h.fr.setCell g k _ (fun _ x => x hbk)⟩, fun j hj t ht => ?_, fun t ht => ?_⟩
  · by_cases hji : j = i
    · subst hji
      rw [← h.lens]
      simp [List.getD, hi']
    · rw [← h.lens]
      simp [List.getD, List.getElem?_set_ne (fun x => hji x.symm)]
  · have := h.ob.put i k hi' hk' (UInt8.ofNat (7 * i + k)) e
    rw [u8v] at this
    simpa using this
  · have hji : i ≠ j := by omega
    have e1 : (L'.set i ((L'.getD i []).set k (UInt8.ofNat (7 * i + k)))).getD j [] = L'.getD j [] := by simp [List.getD, List.getElem?_set_ne hji]
    rw [e1] at ht ⊢
    exact hm j hj t ht
  · have e1 : (L'.set i ((L'.getD i []).set k (UInt8.ofNat (7 * i + k)))).getD i [] = (L'.getD i []).set k (UInt8.ofNat (7 * i + k)) := by simp [List.getD, hi']
    rw [e1]
    by_cases htk : t = k
    · subst htk
      unfold byt
      rw [List.getD_eq_getElem?_getD, List.getElem?_set_self hk']
      rfl
    · have := hmi t (by omega)
      rw [← this]
      simp [byt, List.getD, List.getElem?_set_ne (fun x => htk x.symm)]
/-- the lists, and the first j of them gone on with -/
structure MO (w1 : World) (B : Nat) (v : Value) (vs : List Value) (L : List (List UInt8)) (mv : Value) (j : Nat) (ms : List Value) (w3 : World) : Prop where
  ob : OL B w3 v vs L
  row : w3.ownsRow w1.heap.size 22 1 mv j ms
  len : ms.length = j
  each : ∀ q, q < j → OW B w3 (ms.getD q nv) (L.getD q [] ++ mk2 q 70)
  loc : ∀ q, q < j → (ms.getD q nv).ownBlock = (vs.getD q nv).ownBlock ∨ ∀ g, (ms.getD q nv).ownBlock = some g → w1.heap.size ≤ g
  fr : Fr (fun k => ¬ bks vs k) w1 w3
  old : ∀ g, bks vs g → g < w1.heap.size
  vold : ∀ g, v.ownBlock = some g → g < w1.heap.size
theorem MO.below {w1 : World} {B : Nat} {v : Value} {vs : List Value} {L : List (List UInt8)} {mv : Value} {j : Nat} {ms : List Value} {w3 w4 : World} (h : MO w1 B v vs L mv j ms w3) (hb : Below w3.heap.size w3 w4) : MO w1 B v vs L mv j ms w4 :=
  have f : Fr (fun _ => True) w3 w4 := Fr.of_below hb
  ⟨h.ob.below hb, ownsRow_fr h.row f (fun _ _ => trivial), h.len, fun q hq => (h.each q hq).fr f (fun _ _ => trivial), h.loc, h.fr.trans f (fun _ _ _ => trivial), h.old, h.vold⟩
theorem MO.start {w1 : World} {B : Nat} {v : Value} {vs : List Value} {L : List (List UInt8)} (h : OL B w1 v vs L) : MO w1 B v vs L nv 0 [] w1 :=
  ⟨h, World.ownsRow_nil _ _ _ _, rfl, fun _ hq => absurd hq (Nat.not_lt_zero _), fun _ hq => absurd hq (Nat.not_lt_zero _), Fr.refl _ _, fun g ⟨k, hk, hg⟩ => ((h.each k (by rw [← h.len]; exact hk)).blk g hg).2, fun g hg => (World.ownsRow.lt h.row g hg).2⟩
/-- one more is gone on with -/
theorem MO.grow {w1 : World} {B : Nat} {v : Value} {vs : List Value} {L : List (List UInt8)} {mv : Value} {j : Nat} {ms : List Value} {w4 w5 : World} (h : MO w1 B v vs L mv j ms w4) (hj : j < L.length) (v' : Value)
    (h1 : OW B w5 v' (L.getD j [] ++ mk2 j 70)) (h2 : KeepsL 5 1 (vs.getD j nv) (L.getD j []).length w4 w5) (h3 : w4.grownBy w5 (vs.getD j nv).ownBlock) (h4 : v'.ownBlock = (vs.getD j nv).ownBlock ∨ ∀ g, v'.ownBlock = some g → w4.heap.size ≤ g) :
    MO w1 B v vs L mv j ms w5 ∧ OW B w5 v' (L.getD j [] ++ mk2 j 70) ∧ (v'.ownBlock = (vs.getD j nv).ownBlock ∨ ∀ g, v'.ownBlock = some g → w1.heap.size ≤ g) := by
  have hjv : j < vs.length := by rw [h.ob.len]; exact hj
  have oj := h.ob.each j hj
  have fr : Fr (fun k => some k ≠ (vs.getD j nv).ownBlock) w4 w5 := ⟨h3.os, h3.tape, h3.output, h3.size, fun k hk hs => h3.block k hk hs⟩
  have rowok : ∀ {B0 n : Nat} {v0 : Value} {xs : List Value}, w4.ownsRow B0 22 1 v0 n xs → w5.ownsRow B0 22 1 v0 n xs := fun hr => by
    refine ownsRow_fr hr fr (fun q hq hqe => ?_)
    obtain ⟨cs', ht'⟩ := (ownsRow_lt hr q hq).2
    obtain ⟨cs, ht⟩ := oj.tag q hqe.symm
    exact tag_ne ht' ht (by decide) rfl
  refine ⟨⟨⟨rowok h.ob.row, h.ob.len, fun i hi => ?_, h.ob.ap⟩, rowok h.row, h.len, fun q hq => ?_, h.loc, ?_, h.old, h.vold⟩, h1, ?_⟩
  · refine h2 B _ _ _ (h.ob.each i hi) (fun he => ?_)
    by_cases hij : i = j
    · subst hij; exact Nat.le_refl _
    · cases hb : (vs.getD i nv).ownBlock with
      | none =>
        rcases (h.ob.each i hi).2 with ⟨_, h0⟩ | ⟨g, cap, cur, e1, _⟩
        · rw [h0]; exact Nat.zero_le _
        · rw [e1] at hb; simp [Value.ownBlock] at hb
      | some g => exact absurd (by rw [← he]; exact hb) (h.ob.ap i j g hi hj hij hb)
  · have hqj : q ≠ j := by omega
    refine (h.each q hq).fr fr (fun g hg hge => ?_)
    rcases h.loc q hq with e | e
    · exact h.ob.ap q j g (by omega) hj hqj (by rw [← e]; exact hg) hge.symm
    · have h5 := e g hg
      have h6 := h.old g ⟨j, hjv, hge.symm⟩
      omega
  · exact h.fr.grown h3 (fun k hk _ x => x ⟨j, hjv, hk⟩)
  · rcases h4 with e | e
    · exact .inl e
    · exact .inr (fun g hg => Nat.le_trans h.fr.size (e g hg))
/-- and laid beside the others -/
theorem MO.next {w1 : World} {B : Nat} {v : Value} {vs : List Value} {L : List (List UInt8)} {mv mv' v' : Value} {j : Nat} {ms : List Value} {w5 w6 : World} (h : MO w1 B v vs L mv j ms w5)
    (h1 : OW B w5 v' (L.getD j [] ++ mk2 j 70)) (h2 : v'.ownBlock = (vs.getD j nv).ownBlock ∨ ∀ g, v'.ownBlock = some g → w1.heap.size ≤ g)
    (h3 : w6.ownsRow w1.heap.size 22 1 mv' (j + 1) (ms ++ [v'])) (h4 : w5.grownBy w6 mv.ownBlock) : MO w1 B v vs L mv' (j + 1) (ms ++ [v']) w6 := by
  have fr : Fr (fun k => some k ≠ mv.ownBlock) w5 w6 := ⟨h4.os, h4.tape, h4.output, h4.size, fun k hk hs => h4.block k hk hs⟩
  have ok : ∀ {u : Value} {l : List UInt8}, OW B w5 u l → OW B w6 u l := fun ho => ho.fr fr (fun q hq hqe => by
    obtain ⟨cs', ht'⟩ := (ownsRow_lt h.row q hqe.symm).2
    obtain ⟨cs, ht⟩ := ho.tag q hq
    exact tag_ne ht ht' (by decide) rfl)
  have hlast : (ms ++ [v']).getD j nv = v' := by rw [List.getD_eq_getElem?_getD, List.getElem?_append_right (by rw [h.len]; exact Nat.le_refl _), h.len]; simp
  have hold : ∀ q, q < j → (ms ++ [v']).getD q nv = ms.getD q nv := fun q hq => by rw [List.getD_eq_getElem?_getD, List.getElem?_append_left (by rw [h.len]; exact hq), ← List.getD_eq_getElem?_getD]
  refine ⟨⟨?_, h.ob.len, fun i hi => ok (h.ob.each i hi), h.ob.ap⟩, h3, by rw [List.length_append, h.len]; rfl, fun q hq => ?_, fun q hq => ?_, h.fr.grown h4 (fun k hk hlt _ => ?_), h.old, h.vold⟩
  · refine ownsRow_fr h.ob.row fr (fun q hq hqe => ?_)
    have h5 := h.vold q hq
    have h6 := (World.ownsRow.lt h.row q hqe.symm).1
    omega
  · by_cases hqj : q = j
    · subst hqj; rw [hlast]; exact ok h1
    · rw [hold q (by omega)]; exact ok (h.each q (by omega))
  · by_cases hqj : q = j
    · subst hqj; rw [hlast]; exact h2
    · rw [hold q (by omega)]; exact h.loc q (by omega)
  · have := (World.ownsRow.lt h.row k hk).1
    omega
end Go.Proofs.YtjhnkdhbjpddcaaDoor
