import Derived.Test.YtpembmfpgolniaaDoorTh
namespace Go.Proofs.YtpembmfpgolniaaDoor
open Go.RowKit
/-- what is left of a body behind field c -/
def rst (c : Nat) (l : List UInt8) : List UInt8 :=
  match c with
  | 1 => l.drop 1
  | 2 => l.drop 1
  | 7 => l.drop 32
  | 10 => []
  | 11 => []
  | _ => l.drop 4
/-- a message with field c's number, or root, taken off a body -/
def upd (c : Nat) (m : Mv) (l : List UInt8) : Mv :=
  match c with
  | 2 => { m with i := ((byt l 0).toNat : Int) }
  | 3 => { m with i := (nm4 l : Int) }
  | 4 => { m with b := (nm4 l : Int) }
  | 5 => { m with l := (nm4 l : Int) }
  | 6 => { m with l := (nm4 l : Int) }
  | 7 => { m with r := l.take 32 }
  | 8 => { m with ba := (nm4 l : Int) }
  | 9 => { m with pr := (nm4 l : Int) }
  | _ => m
def dD (c : Nat) (l D : List UInt8) : List UInt8 := if c = 10 then l else D
def dH (c : Nat) (l hb : List UInt8) : List UInt8 := if c = 11 then l else hb
/-- field c can be taken off a body -/
def nds (c : Nat) (l : List UInt8) : Prop :=
  match c with
  | 1 => 1 ≤ l.length
  | 2 => 1 ≤ l.length
  | 7 => 32 ≤ l.length
  | 10 => True
  | 11 => ∃ n, l.length = n * 32
  | _ => 4 ≤ l.length
theorem OW.besides {B : Nat} {w w' : World} {v : Value} {l : List UInt8} {g : Nat} {m : Mv} (h : OW B w v l) (hm : MB w g m) (hb : Besides g w w') : OW B w' v l := by
  refine ⟨h.1, ?_⟩
  rcases h.2 with h1 | ⟨k, cap, cur, h1, h2, h3, h4⟩
  · exact .inl h1
  · refine .inr ⟨k, cap, cur, h1, h2, (hb.block k (Array.getElem?_eq_some_iff.1 h3).1 ?_).trans h3, h4⟩
    rintro rfl
    unfold MB at hm
    rw [h3] at hm
    simp at hm
theorem OH.besides {B : Nat} {w w' : World} {v : Value} {l : List UInt8} {g : Nat} {m : Mv} (h : OH B w v l) (hm : MB w g m) (hb : Besides g w w') : OH B w' v l := by
  obtain ⟨n, e, h⟩ := h
  refine ⟨n, e, h.1, ?_⟩
  rcases h.2 with h1 | ⟨k, cap, cur, h1, h2, h3, h4⟩
  · exact .inl h1
  · refine .inr ⟨k, cap, cur, h1, h2, (hb.block k (Array.getElem?_eq_some_iff.1 h3).1 ?_).trans h3, h4⟩
    rintro rfl
    unfold MB at hm
    rw [h3] at hm
    simp at hm
theorem OH.of_block {B g n : Nat} {w : World} {l : List UInt8} (hB : B ≤ g) (hg : w.heap[g]? = some (.cells (bc l) 24 (0, 0))) (hl : l.length = n * 32) (hn : n ≤ 1000000) : OH B w (.slice (some ⟨g, 0, none⟩) n n) l := by
  refine ⟨n, hl, by rw [bcl_len]; exact hl, .inr ⟨g, n, bc l, rfl, hB, hg, Nat.le_refl _, by unfold maxLen; omega, by rw [bc_size, hl], ?_⟩⟩
  rw [bc_list, ← hl, ← bcl_len, List.take_length]
/-- what a call that takes field c off a body does -/
def TKR (W w w' : World) (e : Ending) (c g : Nat) (m : Mv) (D hb l : List UInt8) : Prop :=
  ∃ v' d' h', e = .returned v' ∧ RB W v' (rst c l) ∧ MB w' g { upd c m l with d := d', h := h' } ∧ OW W.heap.size w' d' (dD c l D) ∧ OH W.heap.size w' h' (dH c l hb) ∧ Besides g w w'
def TKC (w : World) (c f : Nat) (caps : Array Value) : Prop := ∀ (W : World) (g : Nat) (m : Mv) (D hb : List UInt8) (v : Value) (l : List UInt8), MB w g m → m.ok → RB W v l → Below W.heap.size W w → W.heap.size ≤ g → l.length ≤ 1000000 → nds c l → OW W.heap.size w m.d D → OH W.heap.size w m.h hb → Calls Tryd.prog f (#[ptr g, v] ++ caps) w fun e w' => TKR W w w' e c g m D hb l
theorem TKR.one {W w w' : World} {e : Ending} {c g : Nat} {m m' : Mv} {D hb l : List UInt8} {v' : Value} (he : e = .returned v') (hr : RB W v' (rst c l)) (hm : MB w g m) (h1 : MB w' g m') (h2 : m' = { upd c m l with d := m.d, h := m.h }) (hd : OW W.heap.size w m.d D) (hh : OH W.heap.size w m.h hb) (hb' : Besides g w w') (c10 : c ≠ 10) (c11 : c ≠ 11) : TKR W w w' e c g m D hb l := by
  subst h2
  exact ⟨v', m.d, m.h, he, hr, h1, by unfold dD; rw [if_neg c10]; exact hd.besides hm hb', by unfold dH; rw [if_neg c11]; exact hh.besides hm hb', hb'⟩
theorem besidesN (g : Nat) (w : World) (n : Nat) : Besides g w (w.drewN n) := Besides.of_below (belowDrew w n)
theorem FLD.take {w : World} {c : Nat} {v0 v1 v2 v3 v4 : Value} (h : FLD w c [v0, v1, v2, v3, v4]) : ∃ f caps, v2 = clo f caps ∧ EN f ∧ TKC w c f caps := by
  unfold FLD at h
  split at h
  · cases h
    refine ⟨_, _, rfl, en_k3, fun W g m D hb v l hm ok hr hW hg hl hn hd hh => ?_⟩
    refine (k3T W w g v l hn (by omega) hr).mono ?_
    rintro e w' ⟨v', he, h1, rfl⟩
    exact TKR.one he h1 hm hm rfl hd hh (Besides.refl _ _) (by decide) (by decide)
  · cases h
    refine ⟨_, _, rfl, en_o3, fun W g m D hb v l hm ok hr hW hg hl hn hd hh => ?_⟩
    refine (o3T W w g m hm v l hn (by omega) hr hW).mono ?_
    rintro e w' ⟨v', he, h1, rfl⟩
    exact TKR.one he h1 hm (hm.set 1 _ rfl) rfl hd hh (Besides.setCell _ _ _ _) (by decide) (by decide)
  · obtain ⟨p, q, s, e, hp, hq, hs⟩ := h.cells
    cases e
    refine ⟨_, _, rfl, en_n3, fun W g m D hb v l hm ok hr hW hg hl hn hd hh => ?_⟩
    refine (n3T W w g p 34 1 m.i hp en_of1 of1C (hm.c1) (hm.free 1) v l hn (by omega) hr hW).mono ?_
    rintro e w' ⟨v', n, he, h1, rfl⟩
    have hm2 : MB (w.drewN n) g m := hm.below (belowDrew w n)
    exact TKR.one he h1 hm (hm2.set 1 _ (rfl)) rfl hd hh ((besidesN g w n).trans (Besides.setCell _ _ _ _)) (by decide) (by decide)
  · obtain ⟨p, q, s, e, hp, hq, hs⟩ := h.cells
    cases e
    refine ⟨_, _, rfl, en_n3, fun W g m D hb v l hm ok hr hW hg hl hn hd hh => ?_⟩
    refine (n3T W w g p 35 2 m.b hp en_of2 of2C (hm.c2) (hm.free 2) v l hn (by omega) hr hW).mono ?_
    rintro e w' ⟨v', n, he, h1, rfl⟩
    have hm2 : MB (w.drewN n) g m := hm.below (belowDrew w n)
    exact TKR.one he h1 hm (hm2.set 2 _ (rfl)) rfl hd hh ((besidesN g w n).trans (Besides.setCell _ _ _ _)) (by decide) (by decide)
  · obtain ⟨p, q, s, e, hp, hq, hs⟩ := h.cells
    cases e
    refine ⟨_, _, rfl, en_n3, fun W g m D hb v l hm ok hr hW hg hl hn hd hh => ?_⟩
    refine (n3T W w g p 36 3 m.l hp en_of3 of3C (hm.c3) (hm.free 3) v l hn (by omega) hr hW).mono ?_
    rintro e w' ⟨v', n, he, h1, rfl⟩
    have hm2 : MB (w.drewN n) g m := hm.below (belowDrew w n)
    exact TKR.one he h1 hm (hm2.set 3 _ (rfl)) rfl hd hh ((besidesN g w n).trans (Besides.setCell _ _ _ _)) (by decide) (by decide)
  · obtain ⟨p, q, s, e, hp, hq, hs⟩ := h.cells
    cases e
    refine ⟨_, _, rfl, en_n3, fun W g m D hb v l hm ok hr hW hg hl hn hd hh => ?_⟩
    refine (n3T W w g p 37 3 m.l hp en_of4 of4C (hm.c3) (hm.free 3) v l hn (by omega) hr hW).mono ?_
    rintro e w' ⟨v', n, he, h1, rfl⟩
    have hm2 : MB (w.drewN n) g m := hm.below (belowDrew w n)
    exact TKR.one he h1 hm (hm2.set 3 _ (rfl)) rfl hd hh ((besidesN g w n).trans (Besides.setCell _ _ _ _)) (by decide) (by decide)
  · cases h
    refine ⟨_, _, rfl, en_r3, fun W g m D hb v l hm ok hr hW hg hl hn hd hh => ?_⟩
    refine (r3T W w g m ok hm v l hn (by omega) hr hW).mono ?_
    rintro e w' ⟨v', he, h1, rfl⟩
    exact TKR.one he h1 hm (MB.setRow hm) rfl hd hh (Besides.setRow _ _ _) (by decide) (by decide)
  · obtain ⟨p, q, s, e, hp, hq, hs⟩ := h.cells
    cases e
    refine ⟨_, _, rfl, en_n3, fun W g m D hb v l hm ok hr hW hg hl hn hd hh => ?_⟩
    refine (n3T W w g p 39 37 m.ba hp en_of5 of5C (hm.c37 ok) (hm.free 37) v l hn (by omega) hr hW).mono ?_
    rintro e w' ⟨v', n, he, h1, rfl⟩
    have hm2 : MB (w.drewN n) g m := hm.below (belowDrew w n)
    exact TKR.one he h1 hm (hm2.set 37 _ (Mv.set37 ok _)) rfl hd hh ((besidesN g w n).trans (Besides.setCell _ _ _ _)) (by decide) (by decide)
  · obtain ⟨p, q, s, e, hp, hq, hs⟩ := h.cells
    cases e
    refine ⟨_, _, rfl, en_n3, fun W g m D hb v l hm ok hr hW hg hl hn hd hh => ?_⟩
    refine (n3T W w g p 40 38 m.pr hp en_of6 of6C (hm.c38 ok) (hm.free 38) v l hn (by omega) hr hW).mono ?_
    rintro e w' ⟨v', n, he, h1, rfl⟩
    have hm2 : MB (w.drewN n) g m := hm.below (belowDrew w n)
    exact TKR.one he h1 hm (hm2.set 38 _ (Mv.set38 ok _)) rfl hd hh ((besidesN g w n).trans (Besides.setCell _ _ _ _)) (by decide) (by decide)
  · cases h
    refine ⟨_, _, rfl, en_d3, fun W g m D hb v l hm ok hr hW hg hl hn hd hh => ?_⟩
    refine (d3T w g m hm v l (by omega) (hr.keep hW)).mono ?_
    rintro e w' ⟨d', he, h1, h2, h3⟩
    exact ⟨_, d', m.h, he, ⟨none, 0, rfl, Nat.le_refl _, .inl rfl⟩, h2, h1.mono hW.size, hh.besides hm h3, h3⟩
  · cases h
    refine ⟨_, _, rfl, en_takeHashes, fun W g m D hb v l hm ok hr hW hg hl hn hd hh => ?_⟩
    obtain ⟨n, hn⟩ := hn
    refine (takeHashesT w g n m ok hm v l hn hl (hr.keep hW) ?_).mono ?_
    · intro hpos b o c e
      obtain ⟨a, c', e2, _, h2⟩ := hr
      rcases h2 with h2 | ⟨g', o', h2, h3, _⟩
      · rw [h2] at hn; simp at hn; omega
      · rw [e2, h2] at e
        simp only [Value.slice.injEq, Option.some.injEq, Addr.mk.injEq] at e
        have := e.1.1
        omega
    · rintro e w' ⟨he, h1, h2, h3⟩
      exact ⟨_, m.d, _, he, ⟨none, 0, rfl, Nat.le_refl _, .inl rfl⟩, h1, hd.besides hm h3, OH.of_block hW.size h2 hn (by omega), h3⟩
  · exact absurd h id
end Go.Proofs.YtpembmfpgolniaaDoor
