import Derived.Test.YtnpcbcfjnhjmmaaGreatDoorV44
import Derived.Test.YtnpcbcfjnhjmmaaGreatDoorV24
namespace Go.Proofs.YtnpcbcfjnhjmmaaGreatDoor
open Go.RowKit Go.Deep
namespace Ow
theorem frSet (w : World) (g i : Nat) (u : Value) : Fr (fun b => b ≠ g) w (w.setCell ⟨g, i, none⟩ u) := ⟨rfl, rfl, rfl, by simp, fun k _ hk => Below.heap_setCell _ _ _ _ hk⟩
theorem RSo.set {S : Nat → Prop} {w : World} {g cap n : Nat} {ts : List ByteArray} (h : RSo S w (.slice (some ⟨g, 0, none⟩) n cap) ts) (i : Nat) (y : ByteArray) : RSo S (w.setCell ⟨g, i, none⟩ (.string y)) (.slice (some ⟨g, 0, none⟩) n cap) (ts.set i y) := by
  obtain ⟨a, c, e⟩ := OwS.form h
  simp only [Value.slice.injEq] at e
  obtain ⟨_, rfl, _⟩ := e
  refine ⟨?_, h.2⟩
  have h1 := (World.ownsRow.stored h.1 i (.string y)).1
  show World.ownsRow _ _ _ _ _ (ts.set i y).length (tsC (ts.set i y))
  rw [List.length_set, show tsC (ts.set i y) = (tsC ts).set i (.string y) by simp [tsC, List.map_set]]
  exact h1
theorem rsC_set : ∀ (rs : List (Int × Int)) (i : Nat) (z : Int) (x : Int × Int), rs[i]? = some x → (rsC rs).set (i * 2) (.int .i64 z) = rsC (rs.set i (z, x.2))
  | [], i, z, x, h => by simp at h
  | y :: rs, 0, z, x, h => by
    simp at h
    subst h
    rfl
  | y :: rs, i + 1, z, x, h => by
    have ih := rsC_set rs i z x (by simpa using h)
    have e : rsC (y :: rs) = .int .i64 y.1 :: .int .i64 y.2 :: rsC rs := rfl
    rw [e, show (i + 1) * 2 = i * 2 + 1 + 1 by omega, List.set_cons_succ, List.set_cons_succ, ih]
    rfl
theorem RRo.set {S : Nat → Prop} {w : World} {g cap n : Nat} {rs : List (Int × Int)} (h : RRo S w (.slice (some ⟨g, 0, none⟩) n cap) rs) (i : Nat) (z : Int) (x : Int × Int) (hx : rs[i]? = some x) : RRo S (w.setCell ⟨g, i * 2, none⟩ (.int .i64 z)) (.slice (some ⟨g, 0, none⟩) n cap) (rs.set i (z, x.2)) := by
  obtain ⟨a, c, e⟩ := OwS.form h
  simp only [Value.slice.injEq] at e
  obtain ⟨_, rfl, _⟩ := e
  refine ⟨?_, h.2⟩
  have h1 := (World.ownsRow.stored h.1 (i * 2) (.int .i64 z)).1
  show World.ownsRow _ _ _ _ _ (rs.set i (z, x.2)).length (rsC (rs.set i (z, x.2)))
  rw [List.length_set, ← rsC_set rs i z x hx]
  exact h1
def updK (ky : Nat → ByteArray) (i : Nat) (y : ByteArray) : Nat → ByteArray := fun j => if j = i then y else ky j
theorem rowD_one (ky : Nat → ByteArray) (dv : Nat → T) (X Y : Nat → Value) (n : Nat) : rowD ky dv X Y (n + 1) = rowD ky dv X Y n ++ (.string (ky n) :: cv (dv n) (X n) (Y n)) := by
  unfold rowD
  rw [List.range_succ, List.flatMap_append]
  simp
theorem rowD_len (ky : Nat → ByteArray) (dv : Nat → T) (X Y : Nat → Value) : ∀ n, (rowD ky dv X Y n).length = n * 6
  | 0 => rfl
  | n + 1 => by rw [rowD_one, List.length_append, rowD_len ky dv X Y n]; simp [cv]; omega
theorem rowD_upK {ky : Nat → ByteArray} {dv : Nat → T} {X Y : Nat → Value} {i : Nat} {y : ByteArray} : ∀ n, n ≤ i → rowD (updK ky i y) dv X Y n = rowD ky dv X Y n
  | 0, _ => rfl
  | n + 1, h => by rw [rowD_one, rowD_one, rowD_upK n (by omega), show updK ky i y n = ky n by unfold updK; rw [if_neg (by omega)]]
theorem rowD_set {ky : Nat → ByteArray} {dv : Nat → T} {X Y : Nat → Value} {i : Nat} {y : ByteArray} : ∀ n, i < n → (rowD ky dv X Y n).set (i * 6) (.string y) = rowD (updK ky i y) dv X Y n
  | 0, h => absurd h (Nat.not_lt_zero _)
  | n + 1, h => by
    rw [rowD_one, rowD_one]
    rcases Nat.lt_succ_iff_lt_or_eq.1 h with h1 | rfl
    · rw [List.set_append_left _ _ (by rw [rowD_len]; omega), rowD_set n h1, show updK ky i y n = ky n by unfold updK; rw [if_neg (by omega)]]
    · rw [List.set_append_right _ _ (by rw [rowD_len]; exact Nat.le_refl _), rowD_len, Nat.sub_self, rowD_upK _ (Nat.le_refl _), show updK ky i y i = y by unfold updK; rw [if_pos rfl]]
      rfl
theorem RDo.setKey {S : Nat → Prop} {w : World} {g cap n dn : Nat} {ky : Nat → ByteArray} {dv : Nat → T} (h : RDo S w dn ky dv (.slice (some ⟨g, 0, none⟩) n cap)) (i : Nat) (hi : i < dn) (y : ByteArray) : RDo S (w.setCell ⟨g, i * 6, none⟩ (.string y)) dn (updK ky i y) dv (.slice (some ⟨g, 0, none⟩) n cap) := by
  obtain ⟨X, Y, h1, h2⟩ := h
  obtain ⟨a, c, e⟩ := h1.form
  simp only [Value.slice.injEq] at e
  obtain ⟨_, rfl, _⟩ := e
  refine ⟨X, Y, ⟨?_, h1.2⟩, fun j hj => RV.move (fun b hb _ => hb) (by simp) (fun b hb _ => Below.heap_setCell _ _ _ _ (fun e => hb.2 (by rw [show b = g from e]; rfl))) _ _ _ (h2 j hj)⟩
  rw [← rowD_set _ hi]
  exact (World.ownsRow.stored h1.1 (i * 6) (.string y)).1
/-- a list of a link takes another's place: its block is the old one's, or new -/
def At (w : World) (v v' : Value) : Prop := v'.ownBlock = v.ownBlock ∨ ∀ g, v'.ownBlock = some g → w.heap.size ≤ g
theorem At.refl (w : World) (v : Value) : At w v v := .inl rfl
theorem dj_at {w : World} {v v' a : Value} (h : At w v v') (hd : Dj v a) (ha : ∀ g, a.ownBlock = some g → g < w.heap.size) : Dj v' a := fun g h1 h2 => by
  rcases h with e | e
  · exact hd g (e ▸ h1) h2
  · have := e g h1; have := ha g h2; omega
theorem at_ne {w : World} {v v' : Value} (h : At w v v') {b : Nat} (hb : b < w.heap.size) (hn : v.ownBlock ≠ some b) : v'.ownBlock ≠ some b := fun e => by
  rcases h with h | h
  · exact hn (h ▸ e)
  · have := h b e; omega
theorem OwS.fr {S S' : Nat → Prop} {w w' : World} {e sz n : Nat} {v : Value} {xs : List Value} {P : Nat → Prop} (h : OwS S w e sz v n xs) (f : Fr P w w') (hS : ∀ b, S b → b < w.heap.size → S' b) (hP : ∀ b, v.ownBlock = some b → P b) : OwS S' w' e sz v n xs :=
  ⟨own_keep h.1 fun g hg => f.block g (h.lt hg) (hP g hg), fun g hg => hS g (h.2 g hg) (h.lt hg)⟩
theorem RDo.fr {S S' : Nat → Prop} {w w' : World} {dn : Nat} {ky : Nat → ByteArray} {dv : Nat → T} {y : Value} {P : Nat → Prop} (h : RDo S w dn ky dv y) (f : Fr P w w') (hS : ∀ b, S b → b < w.heap.size → S' b) (hP : ∀ b, S b → P b) : RDo S' w' dn ky dv y :=
  h.move hS f.size (fun b hb hl => f.block b hl (hP b hb))
theorem RDo.lt {S : Nat → Prop} {w : World} {dn : Nat} {ky : Nat → ByteArray} {dv : Nat → T} {y : Value} (h : RDo S w dn ky dv y) {g : Nat} (hg : y.ownBlock = some g) : g < w.heap.size ∧ S g := by
  obtain ⟨X, Y, h1, _⟩ := h
  exact ⟨h1.lt hg, h1.2 g hg⟩
theorem RLo.putT {S S' : Nat → Prop} {w w' : World} {k : Lk} {tr pe on mo tr' : Value} {ts' : List ByteArray} (h : RLo S w k tr pe on mo) (f : Fr (fun b => tr.ownBlock ≠ some b) w w') (n : RSo S' w' tr' ts') (hS : ∀ b, S b → b < w.heap.size → S' b) (a : At w tr tr') : RLo S' w' { k with ts := ts' } tr' pe on mo :=
  ⟨n, OwS.fr h.o2 f hS (fun _ hb e => h.d1 _ e hb), OwS.fr h.o3 f hS (fun _ hb e => h.d2 _ e hb),
    h.o4.fr f (fun b hb hl => ⟨hS b hb.1 hl, at_ne a hl hb.2.1, hb.2.2⟩) (fun _ hb => hb.2.1), dj_at a h.d1 (fun _ hg => OwS.lt h.o2 hg), dj_at a h.d2 (fun _ hg => OwS.lt h.o3 hg), h.d4⟩
theorem RLo.putP {S S' : Nat → Prop} {w w' : World} {k : Lk} {tr pe on mo pe' : Value} {ps' : List ByteArray} (h : RLo S w k tr pe on mo) (f : Fr (fun b => pe.ownBlock ≠ some b) w w') (n : RSo S' w' pe' ps') (hS : ∀ b, S b → b < w.heap.size → S' b) (a : At w pe pe') : RLo S' w' { k with ps := ps' } tr pe' on mo :=
  ⟨OwS.fr h.o1 f hS (fun _ hb e => h.d1 _ hb e), n, OwS.fr h.o3 f hS (fun _ hb e => h.d4 _ e hb),
    h.o4.fr f (fun b hb hl => ⟨hS b hb.1 hl, hb.2.1, at_ne a hl hb.2.2.1, hb.2.2.2⟩) (fun _ hb => hb.2.2.1), (dj_at a h.d1.symm (fun _ hg => OwS.lt h.o1 hg)).symm, h.d2, dj_at a h.d4 (fun _ hg => OwS.lt h.o3 hg)⟩
theorem RLo.putO {S S' : Nat → Prop} {w w' : World} {k : Lk} {tr pe on mo on' : Value} {rs' : List (Int × Int)} (h : RLo S w k tr pe on mo) (f : Fr (fun b => on.ownBlock ≠ some b) w w') (n : RRo S' w' on' rs') (hS : ∀ b, S b → b < w.heap.size → S' b) (a : At w on on') : RLo S' w' { k with rs := rs' } tr pe on' mo :=
  ⟨OwS.fr h.o1 f hS (fun _ hb e => h.d2 _ hb e), OwS.fr h.o2 f hS (fun _ hb e => h.d4 _ hb e), n,
    h.o4.fr f (fun b hb hl => ⟨hS b hb.1 hl, hb.2.1, hb.2.2.1, at_ne a hl hb.2.2.2⟩) (fun _ hb => hb.2.2.2), h.d1, (dj_at a h.d2.symm (fun _ hg => OwS.lt h.o1 hg)).symm, (dj_at a h.d4.symm (fun _ hg => OwS.lt h.o2 hg)).symm⟩
theorem RLo.mo_ne {S : Nat → Prop} {w : World} {k : Lk} {tr pe on mo : Value} (h : RLo S w k tr pe on mo) {b : Nat} (hb : mo.ownBlock = some b) : tr.ownBlock ≠ some b ∧ pe.ownBlock ≠ some b ∧ on.ownBlock ≠ some b := (h.o4.lt hb).2.2
theorem RLo.putM {S S' : Nat → Prop} {w w' : World} {k : Lk} {tr pe on mo mo' : Value} {ky' : Nat → ByteArray} (h : RLo S w k tr pe on mo) (f : Fr (fun b => mo.ownBlock ≠ some b) w w') (hS : ∀ b, S b → b < w.heap.size → S' b) (n : RDo (fun b => S' b ∧ tr.ownBlock ≠ some b ∧ pe.ownBlock ≠ some b ∧ on.ownBlock ≠ some b) w' k.dn ky' k.dv mo') : RLo S' w' { k with ky := ky' } tr pe on mo' :=
  ⟨OwS.fr h.o1 f hS (fun _ hb e => (h.mo_ne e).1 hb), OwS.fr h.o2 f hS (fun _ hb e => (h.mo_ne e).2.1 hb), OwS.fr h.o3 f hS (fun _ hb e => (h.mo_ne e).2.2 hb), n, h.d1, h.d2, h.d4⟩
theorem RLo.fr {S : Nat → Prop} {w w' : World} {k : Lk} {tr pe on mo : Value} {P : Nat → Prop} (h : RLo S w k tr pe on mo) (f : Fr P w w') (hP : ∀ b, S b → P b) : RLo S w' k tr pe on mo :=
  h.move (fun _ hb _ => hb) f.size (fun b hb hl => f.block b hl (hP b hb))
theorem RLo.below {S : Nat → Prop} {w w' : World} {k : Lk} {tr pe on mo : Value} (h : RLo S w k tr pe on mo) (f : Below w.heap.size w w') : RLo S w' k tr pe on mo :=
  h.move (fun _ hb _ => hb) f.size (fun b _ hl => f.block b hl)
/-- what was read, as own rows -/
theorem moC_rowD (l : List (ByteArray × ByteArray)) : ∀ n, n ≤ l.length → moC (l.take n) = rowD (fun i => (l.getD i (⟨#[]⟩, ⟨#[]⟩)).1) (fun i => .mk 2 0 (l.getD i (⟨#[]⟩, ⟨#[]⟩)).2 0 (fun _ => .no) 0 (fun _ => ⟨#[]⟩) (fun _ => .no)) (fun _ => .slice none 0 0) (fun _ => .slice none 0 0) n
  | 0, _ => rfl
  | n + 1, h => by
    have hx : l[n]? = some l[n] := List.getElem?_eq_getElem (by omega)
    have e : l.getD n (⟨#[]⟩, ⟨#[]⟩) = l[n] := by rw [List.getD_eq_getElem?_getD, hx]; rfl
    have e2 : moC (l.take (n + 1)) = moC (l.take n) ++ [.string l[n].1, .int .i64 2, .int .i64 0, .string l[n].2, .slice none 0 0, .slice none 0 0] := by
      rw [List.take_add_one, hx]
      unfold moC
      rw [List.flatMap_append]
      rfl
    rw [rowD_one, ← moC_rowD l n (by omega), e2]
    simp only [e]
    rfl
theorem lo_rlo {B : Nat} {w : World} {p : Ps} {tr pe on mo : Value} (h : LO B w p tr pe on mo) : RLo (fun b => B ≤ b) w (lkOf p) tr pe on mo := by
  have h9 := own_zero h.o4
  have e := moC_rowD p.mo p.mo.length (Nat.le_refl _)
  rw [List.take_length] at e
  rw [e] at h9
  exact ⟨own_zero h.o1, own_zero h.o2, own_zero h.o3, ⟨fun _ => .slice none 0 0, fun _ => .slice none 0 0, ⟨h9.1, fun g hg => ⟨h9.2 g hg, h.d3.symm g hg, h.d5.symm g hg, h.d6.symm g hg⟩⟩, fun i _ => ⟨⟨none, 0, rfl, .inl rfl⟩, ⟨none, 0, rfl, .inl rfl⟩⟩⟩, h.d1, h.d2, h.d4⟩
end Ow
end Go.Proofs.YtnpcbcfjnhjmmaaGreatDoor
