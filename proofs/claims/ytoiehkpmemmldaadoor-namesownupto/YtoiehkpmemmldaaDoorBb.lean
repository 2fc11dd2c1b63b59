import Derived.Test.YtoiehkpmemmldaaDoorBa
namespace Go.Proofs.YtoiehkpmemmldaaDoor
open Go.RowKit
def nv : Value := .slice none 0 0
def spS : ByteArray := ⟨#[115, 112, 97, 114, 101]⟩
theorem OS.fr {S : Nat → Prop} {B : Nat} {w w' : World} {v : Value} {l : List ByteArray} (h : OS B w v l) (hf : Fr S w w') (hs : ∀ g, v.ownBlock = some g → S g) : OS B w' v l := ownsRow_fr h hf hs
theorem OS.blk {B : Nat} {w : World} {v : Value} {l : List ByteArray} (h : OS B w v l) : ∀ g, v.ownBlock = some g → B ≤ g ∧ g < w.heap.size := fun g hg => World.ownsRow.lt h g hg
theorem OS.tag {B : Nat} {w : World} {v : Value} {l : List ByteArray} (h : OS B w v l) : ∀ g, v.ownBlock = some g → ∃ cs, w.heap[g]? = some (.cells cs 9 (0, 0)) := fun g hg => (ownsRow_lt h g hg).2
theorem getD_last {α : Type} (l : List α) (x d : α) (n : Nat) (h : l.length = n) : (l ++ [x]).getD n d = x := by
  rw [List.getD_eq_getElem?_getD, List.getElem?_append_right (by omega), h]; simp
theorem getD_old {α : Type} (l : List α) (x d : α) (n : Nat) (h : n < l.length) : (l ++ [x]).getD n d = l.getD n d := by
  rw [List.getD_eq_getElem?_getD, List.getElem?_append_left h, ← List.getD_eq_getElem?_getD]
/-- one of the lists: what the row tells of it, the list itself with its mark behind it -/
def Piece (B : Nat) (w : World) (x : Value) (l : List ByteArray) : Prop := ∃ g c, x = .slice (some ⟨g, 0, none⟩) l.length c ∧ OS B w (.slice (some ⟨g, 0, none⟩) (l.length + 1) c) (l ++ [spS])
theorem Piece.fr {S : Nat → Prop} {B : Nat} {w w' : World} {x : Value} {l : List ByteArray} (h : Piece B w x l) (hf : Fr S w w') (hs : ∀ g, x.ownBlock = some g → S g) : Piece B w' x l := by
  obtain ⟨g, c, rfl, h⟩ := h
  exact ⟨g, c, rfl, h.fr hf (fun q hq => hs q hq)⟩
theorem Piece.blk {B : Nat} {w : World} {x : Value} {l : List ByteArray} (h : Piece B w x l) : ∀ g, x.ownBlock = some g → (B ≤ g ∧ g < w.heap.size) ∧ ∃ cs, w.heap[g]? = some (.cells cs 9 (0, 0)) := by
  obtain ⟨g, c, rfl, h⟩ := h
  exact fun q hq => ⟨h.blk q hq, h.tag q hq⟩
theorem Piece.base {B B' : Nat} {w : World} {x : Value} {l : List ByteArray} (h : Piece B w x l) (hb : B' ≤ B) : Piece B' w x l := by
  obtain ⟨g, c, rfl, h⟩ := h
  exact ⟨g, c, rfl, ownsRow_base h hb⟩
theorem Piece.cap {B : Nat} {w : World} {g c n : Nat} {l : List ByteArray} (h : Piece B w (.slice (some ⟨g, 0, none⟩) n c) l) : n = l.length ∧ n + 1 ≤ c ∧ ∀ i, i ≤ l.length → w.cell? ⟨g, i, none⟩ = some (.string ((l ++ [spS]).getD i ByteArray.empty)) := by
  obtain ⟨g', c', e, h⟩ := h
  simp only [Value.slice.injEq, Option.some.injEq, Addr.mk.injEq, and_true] at e
  obtain ⟨rfl, rfl, rfl⟩ := e
  refine ⟨rfl, ?_, fun i hi => ?_⟩
  · rcases h.2 with ⟨e, _⟩ | ⟨g', cap, cur, e, _, _, hnc, _⟩
    · cases e
    · simp only [Value.slice.injEq] at e
      have := e.2.2
      simp at hnc
      omega
  · have h2 : w.ownsRow B 9 1 (.slice (some ⟨g, 0, none⟩) (l.length + 1) c) (l.length + 1) ((l ++ [spS]).map .string) := by
      have := h
      unfold OS at this
      rwa [List.length_append] at this
    have := World.ownsRow.cellAt h2 i (by omega)
    rw [this]
    have hi' : i < (l ++ [spS]).length := by simp; omega
    rw [List.getElem?_map, List.getElem?_eq_getElem hi']
    simp only [Option.map_some, List.getD_eq_getElem?_getD, List.getElem?_eq_getElem hi', Option.getD_some]
theorem Piece.sr {B : Nat} {w : World} {x : Value} {l : List ByteArray} (h : Piece B w x l) : SR w l x := by
  have h' := h
  obtain ⟨g, c, rfl, ho⟩ := h
  obtain ⟨_, h2, h3⟩ := h'.cap
  refine ⟨_, c, rfl, by omega, .inr ⟨g, 0, rfl, (ho.blk g rfl).2, fun i hi => ?_⟩⟩
  rw [Nat.zero_add, h3 i (by omega), sa_get hi]
  rw [List.getD_eq_getElem?_getD, List.getElem?_append_left hi, List.getElem?_eq_getElem hi]
  rfl
/-- the lists as they are laid one by one -/
structure IB (B : Nat) (w : World) (v : Value) (k : Nat) (vs : List Value) (L : List (List ByteArray)) : Prop where
  row : w.ownsRow B 29 1 v k vs
  vl : vs.length = k
  ll : L.length = k
  each : ∀ j, j < k → Piece B w (vs.getD j nv) (la L j)
  ap : ∀ i j g, i < k → j < k → i ≠ j → (vs.getD i nv).ownBlock = some g → (vs.getD j nv).ownBlock ≠ some g
theorem IB.nil (B : Nat) (w : World) : IB B w (.slice none 0 0) 0 [] [] := ⟨World.ownsRow_nil _ _ _ _, rfl, rfl, fun _ hj => absurd hj (Nat.not_lt_zero _), fun _ _ _ hi => absurd hi (Nat.not_lt_zero _)⟩
theorem la_last (L : List (List ByteArray)) (l : List ByteArray) (k : Nat) (h : L.length = k) : la (L ++ [l]) k = l := getD_last L l [] k h
theorem la_old (L : List (List ByteArray)) (l : List ByteArray) (k : Nat) (h : k < L.length) : la (L ++ [l]) k = la L k := getD_old L l [] k h
theorem IB.below {B : Nat} {w w' : World} {v : Value} {k : Nat} {vs : List Value} {L : List (List ByteArray)} (h : IB B w v k vs L) (hb : Below w.heap.size w w') : IB B w' v k vs L :=
  have f : Fr (fun _ => True) w w' := Fr.of_below hb
  ⟨ownsRow_fr h.row f (fun _ _ => trivial), h.vl, h.ll, fun j hj => (h.each j hj).fr f (fun _ _ => trivial), h.ap⟩
theorem IB.add {B : Nat} {w w5 w6 : World} {v v' x : Value} {k : Nat} {vs : List Value} {L : List (List ByteArray)} {l : List ByteArray} (h : IB B w v k vs L) (hb : Below w.heap.size w w5) (hB : B ≤ w.heap.size) (hx : Piece w.heap.size w5 x l)
    (h1 : w6.ownsRow B 29 1 v' (k + 1) (vs ++ [x])) (h2 : w5.grownBy w6 v.ownBlock) : IB B w6 v' (k + 1) (vs ++ [x]) (L ++ [l]) := by
  have h5 := h.below hb
  have keep : ∀ {B0 : Nat} {y : Value} {m : List ByteArray}, Piece B0 w5 y m → Piece B0 w6 y m := fun hy => hy.fr (grownFr h2) (fun q hq he => by
    obtain ⟨_, _, t1⟩ := hy.blk q hq
    obtain ⟨_, t2⟩ := (ownsRow_lt h5.row q he.symm).2
    exact tag_ne t1 t2 (by decide) rfl)
  have hold : ∀ j g, j < k → (vs.getD j nv).ownBlock = some g → g < w.heap.size := fun j g hj hg => ((h.each j hj).blk g hg).1.2
  refine ⟨h1, by rw [List.length_append, h.vl]; rfl, by rw [List.length_append, h.ll]; rfl, fun j hj => ?_, fun a b g ha hb' hab => ?_⟩
  · by_cases hjk : j = k
    · subst hjk
      rw [getD_last vs x nv j h.vl, la_last L l j h.ll]
      exact (keep hx).base hB
    · rw [getD_old vs x nv j (by rw [h.vl]; omega), la_old L l j (by rw [h.ll]; omega)]
      exact keep (h5.each j (by omega))
  · by_cases hak : a = k
    · subst hak
      rw [getD_last vs x nv a h.vl, getD_old vs x nv b (by rw [h.vl]; omega)]
      intro hg hg'
      have := hold b g (by omega) hg'
      have := (hx.blk g hg).1.1
      omega
    · rw [getD_old vs x nv a (by rw [h.vl]; omega)]
      by_cases hbk : b = k
      · subst hbk
        rw [getD_last vs x nv b h.vl]
        intro hg hg'
        have := hold a g (by omega) hg
        have := (hx.blk g hg').1.1
        omega
      · rw [getD_old vs x nv b (by rw [h.vl]; omega)]
        exact h.ap a b g (by omega) (by omega) hab
/-- the lists, and the mark behind them -/
structure IN (B : Nat) (w : World) (gi cap gl n : Nat) (vs : List Value) (L : List (List ByteArray)) : Prop where
  row : w.ownsRow B 29 1 (.slice (some ⟨gi, 0, none⟩) (n + 1) cap) (n + 1) (vs ++ [.slice (some ⟨gl, 0, none⟩) 1 1])
  vl : vs.length = n
  ll : L.length = n
  each : ∀ j, j < n → Piece B w (vs.getD j nv) (la L j)
  ap : ∀ i j g, i < n → j < n → i ≠ j → (vs.getD i nv).ownBlock = some g → (vs.getD j nv).ownBlock ≠ some g
  last : w.heap[gl]? = some (.cells #[.string spS] 9 (0, 0))
  lb : B ≤ gl
  la' : ∀ j, j < n → (vs.getD j nv).ownBlock ≠ some gl
/-- its blocks -/
def inS (gi gl : Nat) (vs : List Value) (q : Nat) : Prop := q = gi ∨ q = gl ∨ ∃ j, j < vs.length ∧ (vs.getD j nv).ownBlock = some q
theorem IN.fr {S : Nat → Prop} {B : Nat} {w w' : World} {gi cap gl n : Nat} {vs : List Value} {L : List (List ByteArray)} (h : IN B w gi cap gl n vs L) (hf : Fr S w w') (hs : ∀ q, inS gi gl vs q → S q) : IN B w' gi cap gl n vs L :=
  ⟨ownsRow_fr h.row hf (fun g hg => hs g (.inl (by simpa [Value.ownBlock] using hg.symm))), h.vl, h.ll, fun j hj => (h.each j hj).fr hf (fun g hg => hs g (.inr (.inr ⟨j, by rw [h.vl]; exact hj, hg⟩))), h.ap, (hf.block gl (Array.getElem?_eq_some_iff.1 h.last).1 (hs gl (.inr (.inl rfl)))).trans h.last, h.lb, h.la'⟩
theorem IN.lt {B : Nat} {w : World} {gi cap gl n : Nat} {vs : List Value} {L : List (List ByteArray)} (h : IN B w gi cap gl n vs L) : ∀ q, inS gi gl vs q → B ≤ q ∧ q < w.heap.size := by
  rintro q (rfl | rfl | ⟨j, hj, hg⟩)
  · exact World.ownsRow.lt h.row q rfl
  · exact ⟨h.lb, (Array.getElem?_eq_some_iff.1 h.last).1⟩
  · exact ((h.each j (by rw [← h.vl]; exact hj)).blk q hg).1
/-- as something in memory -/
def INI (B gi cap gl n : Nat) (vs : List Value) (L : List (List ByteArray)) : Itm := ⟨inS gi gl vs, fun w => IN B w gi cap gl n vs L⟩
theorem INI.ok {B : Nat} {w : World} {gi cap gl n : Nat} {vs : List Value} {L : List (List ByteArray)} (h : IN B w gi cap gl n vs L) : (INI B gi cap gl n vs L).Ok B w :=
  ⟨h, fun q hq => (h.lt q hq).1, fun q hq => (h.lt q hq).2, fun _ hf => h.fr hf (fun _ x => x)⟩
theorem IN.cap {B : Nat} {w : World} {gi cap gl n : Nat} {vs : List Value} {L : List (List ByteArray)} (h : IN B w gi cap gl n vs L) : n + 1 ≤ cap := by
  rcases h.row.2 with ⟨e, _⟩ | ⟨g', cap, cur, e, _, _, hnc, _⟩
  · cases e
  · simp only [Value.slice.injEq] at e
    have := e.2.2
    omega
theorem IN.cell {B : Nat} {w : World} {gi cap gl n : Nat} {vs : List Value} {L : List (List ByteArray)} (h : IN B w gi cap gl n vs L) (j : Nat) (hj : j < n) : w.cell? ⟨gi, j, none⟩ = some (vs.getD j nv) := by
  have := World.ownsRow.cellAt h.row j (by omega)
  rw [this]
  have hj' : j < vs.length := by rw [h.vl]; exact hj
  rw [List.getElem?_append_left hj']
  simp [List.getD, List.getElem?_eq_getElem hj']
theorem IN.cellLast {B : Nat} {w : World} {gi cap gl n : Nat} {vs : List Value} {L : List (List ByteArray)} (h : IN B w gi cap gl n vs L) : w.cell? ⟨gi, n, none⟩ = some (.slice (some ⟨gl, 0, none⟩) 1 1) ∧ w.cell? ⟨gl, 0, none⟩ = some (.string spS) := by
  constructor
  · have := World.ownsRow.cellAt h.row n (by omega)
    rw [this, List.getElem?_append_right (by rw [h.vl]; exact Nat.le_refl _), h.vl]
    simp
  · rw [cellH h.last]; rfl
theorem IN.pr {B : Nat} {w : World} {gi cap gl n : Nat} {vs : List Value} {L : List (List ByteArray)} (h : IN B w gi cap gl n vs L) : PR w L (.slice (some ⟨gi, 0, none⟩) n cap) := by
  refine ⟨_, cap, by rw [h.ll], by rw [h.ll]; have := h.cap; omega, .inr ⟨gi, 0, rfl, (World.ownsRow.lt h.row gi rfl).2, fun i hi => ?_⟩⟩
  rw [h.ll] at hi
  exact ⟨_, by rw [Nat.zero_add]; exact h.cell i hi, (h.each i hi).sr⟩
/-- the mark is laid behind them -/
theorem IN.of {B : Nat} {w w5 w6 : World} {v : Value} {k gi cap gl : Nat} {vs : List Value} {L : List (List ByteArray)} (h : IB B w v k vs L) (hb : Below w.heap.size w w5) (hB : B ≤ w.heap.size) (hl : w5.heap[gl]? = some (.cells #[.string spS] 9 (0, 0))) (hgl : w.heap.size ≤ gl)
    (h1 : w6.ownsRow B 29 1 (.slice (some ⟨gi, 0, none⟩) (k + 1) cap) (k + 1) (vs ++ [.slice (some ⟨gl, 0, none⟩) 1 1])) (h2 : w5.grownBy w6 v.ownBlock) : IN B w6 gi cap gl k vs L := by
  have h5 := h.below hb
  refine ⟨h1, h.vl, h.ll, fun j hj => (h5.each j hj).fr (grownFr h2) (fun q hq he => ?_), h.ap, ?_, Nat.le_trans hB hgl, fun j hj hg => ?_⟩
  · obtain ⟨_, _, t1⟩ := (h5.each j hj).blk q hq
    obtain ⟨_, t2⟩ := (ownsRow_lt h5.row q he.symm).2
    exact tag_ne t1 t2 (by decide) rfl
  · refine (h2.block gl (Array.getElem?_eq_some_iff.1 hl).1 (fun e => ?_)).trans hl
    obtain ⟨_, t2⟩ := (ownsRow_lt h5.row gl e.symm).2
    exact tag_ne hl t2 (by decide) rfl
  · have := ((h.each j hj).blk gl hg).1.2
    omega
/-- a string of one of the lists is written over -/
theorem IN.setS {B : Nat} {w : World} {gi cap gl n : Nat} {vs : List Value} {L : List (List ByteArray)} (h : IN B w gi cap gl n vs L) (i k : Nat) (hi : i < n) (hk : k < (la L i).length) :
    ∃ g c, vs.getD i nv = .slice (some ⟨g, 0, none⟩) (la L i).length c ∧ w.cell? ⟨g, k, none⟩ = some (.string (sa (la L i) k)) ∧ w.frozen? ⟨g, k, none⟩ = false ∧ ∀ s : ByteArray, IN B (w.setCell ⟨g, k, none⟩ (.string s)) gi cap gl n vs (L.set i ((la L i).set k s)) ∧ B ≤ g := by
  have hp := h.each i hi
  obtain ⟨g, c, e, ho⟩ := hp
  have hp' := h.each i hi
  rw [e] at hp'
  obtain ⟨_, hc, hcell⟩ := hp'.cap
  have eg : (vs.getD i nv).ownBlock = some g := by rw [e]; rfl
  have h2 : w.ownsRow B 9 1 (.slice (some ⟨g, 0, none⟩) ((la L i).length + 1) c) ((la L i).length + 1) ((la L i ++ [spS]).map .string) := by
    have := ho
    unfold OS at this
    rwa [List.length_append] at this
  obtain ⟨cs, htag⟩ := ho.tag g rfl
  have hiL : i < L.length := by rw [h.ll]; exact hi
  refine ⟨g, c, e, ?_, World.ownsRow.frozenAt h2 k, fun s => ⟨⟨?_, h.vl, by rw [List.length_set]; exact h.ll, fun j hj => ?_, h.ap, ?_, h.lb, h.la'⟩, (ho.blk g rfl).1⟩⟩
  · rw [hcell k (by omega), sa_get hk, List.getD_eq_getElem?_getD, List.getElem?_append_left hk, List.getElem?_eq_getElem hk]
    rfl
  · refine ownsRow_fr (S := fun q => q ≠ g) h.row ((Fr.refl _ _).setCell g k _ (fun _ x => x rfl)) (fun q hq => ?_)
    obtain ⟨_, t2⟩ := (ownsRow_lt h.row q hq).2
    exact tag_ne t2 htag (by decide)
  · by_cases hji : j = i
    · subst hji
      have e1 : la (L.set j ((la L j).set k s)) j = (la L j).set k s := by
        show (L.set j ((la L j).set k s)).getD j [] = _
        simp [List.getD, hiL]
      rw [e1, e]
      refine ⟨g, c, by rw [List.length_set], ?_⟩
      have h3 := own_setR (i := k) (u := .string s) h2
      unfold OS
      rw [List.length_append, List.length_set]
      have e2 : ((la L j ++ [spS]).map Value.string).set k (.string s) = ((la L j).set k s ++ [spS]).map Value.string := by
        rw [← List.map_set, List.set_append_left _ _ hk]
      rw [← e2]
      exact h3
    · have e1 : la (L.set i ((la L i).set k s)) j = la L j := by
        show (L.set i ((la L i).set k s)).getD j [] = L.getD j []
        simp [List.getD, List.getElem?_set_ne (fun x => hji x.symm)]
      rw [e1]
      exact (h.each j hj).fr (S := fun q => q ≠ g) ((Fr.refl _ _).setCell g k _ (fun _ x => x rfl)) (fun q hq hqg => h.ap j i q hj hi hji hq (by rw [hqg]; exact eg))
  · refine (setCell_other (fun e' => h.la' i hi (by rw [e']; exact eg))).trans h.last
/-- one of the lists takes the place of another one, and the other one its place -/
theorem IN.swap {B : Nat} {w : World} {gi cap gl n : Nat} {vs : List Value} {L : List (List ByteArray)} (h : IN B w gi cap gl n vs L) (i j : Nat) (hi : i < n) (hj : j < n) (_hij : i ≠ j) :
    w.frozen? ⟨gi, i, none⟩ = false ∧ w.frozen? ⟨gi, j, none⟩ = false ∧ B ≤ gi ∧ IN B ((w.setCell ⟨gi, i, none⟩ (vs.getD j nv)).setCell ⟨gi, j, none⟩ (vs.getD i nv)) gi cap gl n ((vs.set i (vs.getD j nv)).set j (vs.getD i nv)) ((L.set i (la L j)).set j (la L i)) ∧ (∀ q, inS gi gl ((vs.set i (vs.getD j nv)).set j (vs.getD i nv)) q → inS gi gl vs q) ∧ ∀ q, q < n → la ((L.set i (la L j)).set j (la L i)) q = if q = j then la L i else if q = i then la L j else la L q := by
  obtain ⟨cs, htag⟩ := (ownsRow_lt h.row gi rfl).2
  have hiv : i < vs.length := by rw [h.vl]; exact hi
  have hjv : j < vs.length := by rw [h.vl]; exact hj
  have hiL : i < L.length := by rw [h.ll]; exact hi
  have hjL : j < L.length := by rw [h.ll]; exact hj
  have fr : Fr (fun q => q ≠ gi) w ((w.setCell ⟨gi, i, none⟩ (vs.getD j nv)).setCell ⟨gi, j, none⟩ (vs.getD i nv)) := ((Fr.refl _ _).setCell gi i _ (fun _ x => x rfl)).setCell gi j _ (fun _ x => x rfl)
  have gv : ∀ q, q < n → ((vs.set i (vs.getD j nv)).set j (vs.getD i nv)).getD q nv = if q = j then vs.getD i nv else if q = i then vs.getD j nv else vs.getD q nv := fun q hq => by
    rw [List.getD_eq_getElem?_getD, List.getElem?_set]
    by_cases h1 : j = q
    · subst h1; simp [hjv]
    · rw [if_neg h1, List.getElem?_set]
      by_cases h2 : i = q
      · subst h2; simp [hiv, Ne.symm h1]
      · rw [if_neg h2, if_neg (Ne.symm h1), if_neg (Ne.symm h2), ← List.getD_eq_getElem?_getD]
  have gL : ∀ q, q < n → la ((L.set i (la L j)).set j (la L i)) q = if q = j then la L i else if q = i then la L j else la L q := fun q hq => by
    show ((L.set i (la L j)).set j (la L i)).getD q [] = _
    rw [List.getD_eq_getElem?_getD, List.getElem?_set]
    by_cases h1 : j = q
    · subst h1; simp [hjL]
    · rw [if_neg h1, List.getElem?_set]
      by_cases h2 : i = q
      · subst h2; simp [hiL, Ne.symm h1]
      · rw [if_neg h2, if_neg (Ne.symm h1), if_neg (Ne.symm h2), ← List.getD_eq_getElem?_getD]
        rfl
  have pp : ∀ q, q < n → ∃ r, r < n ∧ ((vs.set i (vs.getD j nv)).set j (vs.getD i nv)).getD q nv = vs.getD r nv ∧ la ((L.set i (la L j)).set j (la L i)) q = la L r ∧ r = (if q = j then i else if q = i then j else q) := fun q hq => by
    rw [gv q hq, gL q hq]
    by_cases h1 : q = j
    · exact ⟨i, hi, by rw [if_pos h1], by rw [if_pos h1], by rw [if_pos h1]⟩
    · by_cases h2 : q = i
      · exact ⟨j, hj, by rw [if_neg h1, if_pos h2], by rw [if_neg h1, if_pos h2], by rw [if_neg h1, if_pos h2]⟩
      · exact ⟨q, hq, by rw [if_neg h1, if_neg h2], by rw [if_neg h1, if_neg h2], by rw [if_neg h1, if_neg h2]⟩
  refine ⟨World.ownsRow.frozenAt h.row i, World.ownsRow.frozenAt h.row j, (World.ownsRow.lt h.row gi rfl).1, ⟨?_, by simp [h.vl], by simp [h.ll], fun q hq => ?_, fun a b g ha hb hab => ?_, ?_, h.lb, fun q hq => ?_⟩, ?_, gL⟩
  rotate_right
  · rintro q (rfl | rfl | ⟨r, hr, hg⟩)
    · exact .inl rfl
    · exact .inr (.inl rfl)
    · have hr' : r < n := by simpa [h.vl] using hr
      obtain ⟨s, hs, e1, _, _⟩ := pp r hr'
      rw [e1] at hg
      exact .inr (.inr ⟨s, by rw [h.vl]; exact hs, hg⟩)
  · have h1 := own_setR (i := i) (u := vs.getD j nv) h.row
    have h2 := own_setR (i := j) (u := vs.getD i nv) h1
    rw [List.set_append_left _ _ hiv, List.set_append_left _ _ (by simp; exact hjv)] at h2
    exact h2
  · obtain ⟨r, hr, e1, e2, _⟩ := pp q hq
    rw [e1, e2]
    refine (h.each r hr).fr fr (fun g hg hgi => ?_)
    obtain ⟨_, _, t⟩ := (h.each r hr).blk g hg
    exact tag_ne t htag (by decide) hgi
  · obtain ⟨r, hr, e1, _, d1⟩ := pp a ha
    obtain ⟨s, hs, e2, _, d2⟩ := pp b hb
    rw [e1, e2]
    refine h.ap r s g hr hs (fun e => ?_)
    subst d1 d2
    split at e <;> split at e <;> (try split at e) <;> (try split at e) <;> omega
  · refine (fr.block gl (Array.getElem?_eq_some_iff.1 h.last).1 ?_).trans h.last
    exact tag_ne h.last htag (by decide)
  · obtain ⟨r, hr, e1, _, _⟩ := pp q hq
    rw [e1]
    exact h.la' r hr
end Go.Proofs.YtoiehkpmemmldaaDoor
