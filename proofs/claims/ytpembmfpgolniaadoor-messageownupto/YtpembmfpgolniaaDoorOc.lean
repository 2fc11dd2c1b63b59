import Derived.Test.YtpembmfpgolniaaDoorOp
namespace Go.Proofs.YtpembmfpgolniaaDoor
open Go.RowKit
theorem of1C : OFC 34 1 := of1T
theorem of2C : OFC 35 2 := of2T
theorem of3C : OFC 36 3 := of3T
theorem of4C : OFC 37 3 := of4T
theorem of5C : OFC 39 37 := of5T
theorem of6C : OFC 40 38 := of6T
theorem NUM.cells {w : World} {f : Nat} {lo hi : Int} {vs : List Value} (h : NUM w f lo hi vs) : ∃ p q s, vs = numVs p q s ∧ w.cell? ⟨p, 0, none⟩ = some (fnv f) ∧ w.cell? ⟨q, 0, none⟩ = some (.int .i64 lo) ∧ w.cell? ⟨s, 0, none⟩ = some (.int .i64 hi) := by
  obtain ⟨p, q, s, rfl, hp, hq, hs⟩ := h
  exact ⟨p, q, s, rfl, rangeOf (cs := [fnv f]) hp 0 _ rfl, rangeOf (cs := [.int .i64 lo]) hq 0 _ rfl, rangeOf (cs := [.int .i64 hi]) hs 0 _ rfl⟩
theorem en_of1 : EN 34 := enters_of Tryd.func34 (by kernel_rfl) rfl
theorem en_of2 : EN 35 := enters_of Tryd.func35 (by kernel_rfl) rfl
theorem en_of3 : EN 36 := enters_of Tryd.func36 (by kernel_rfl) rfl
theorem en_of4 : EN 37 := enters_of Tryd.func37 (by kernel_rfl) rfl
theorem en_of5 : EN 39 := enters_of Tryd.func39 (by kernel_rfl) rfl
theorem en_of6 : EN 40 := enters_of Tryd.func40 (by kernel_rfl) rfl
theorem en_k1 : EN 49 := enters_of Tryd.func49 (by kernel_rfl) rfl
theorem en_k2 : EN 50 := enters_of Tryd.func50 (by kernel_rfl) rfl
theorem en_k3 : EN 51 := enters_of Tryd.func51 (by kernel_rfl) rfl
theorem en_k4 : EN 53 := enters_of Tryd.func53 (by kernel_rfl) rfl
theorem en_always : EN 52 := enters_of Tryd.func52 (by kernel_rfl) rfl
theorem en_o1 : EN 54 := enters_of Tryd.func54 (by kernel_rfl) rfl
theorem en_o2 : EN 55 := enters_of Tryd.func55 (by kernel_rfl) rfl
theorem en_o3 : EN 56 := enters_of Tryd.func56 (by kernel_rfl) rfl
theorem en_o4 : EN 57 := enters_of Tryd.func57 (by kernel_rfl) rfl
theorem en_o5 : EN 58 := enters_of Tryd.func58 (by kernel_rfl) rfl
theorem en_n1 : EN 59 := enters_of Tryd.func59 (by kernel_rfl) rfl
theorem en_n2 : EN 60 := enters_of Tryd.func60 (by kernel_rfl) rfl
theorem en_n3 : EN 62 := enters_of Tryd.func62 (by kernel_rfl) rfl
theorem en_n4 : EN 64 := enters_of Tryd.func64 (by kernel_rfl) rfl
theorem en_r1 : EN 66 := enters_of Tryd.func66 (by kernel_rfl) rfl
theorem en_r2 : EN 67 := enters_of Tryd.func67 (by kernel_rfl) rfl
theorem en_r3 : EN 68 := enters_of Tryd.func68 (by kernel_rfl) rfl
theorem en_r4 : EN 69 := enters_of Tryd.func69 (by kernel_rfl) rfl
theorem en_d1 : EN 70 := enters_of Tryd.func70 (by kernel_rfl) rfl
theorem en_d2 : EN 71 := enters_of Tryd.func71 (by kernel_rfl) rfl
theorem en_d3 : EN 72 := enters_of Tryd.func72 (by kernel_rfl) rfl
theorem en_d4 : EN 73 := enters_of Tryd.func73 (by kernel_rfl) rfl
theorem en_h1 : EN 74 := enters_of Tryd.func74 (by kernel_rfl) rfl
theorem en_layHashes : EN 75 := enters_of Tryd.func75 (by kernel_rfl) rfl
theorem en_takeHashes : EN 76 := enters_of Tryd.func76 (by kernel_rfl) rfl
theorem en_h2 : EN 77 := enters_of Tryd.func77 (by kernel_rfl) rfl
theorem en_n5 : EN 65 := en85
/-- what a call that blanks field c does -/
def BLC (w : World) (c f : Nat) (caps : Array Value) : Prop := ∀ (g : Nat) (m : Mv), MB w g m → m.ok → Calls Tryd.prog f (#[ptr g] ++ caps) w fun e w' => e = .returned (.tuple #[]) ∧ MB w' g (blk c m) ∧ Besides g w w'
theorem FLD.blank {w : World} {c : Nat} {v0 v1 v2 v3 v4 : Value} (h : FLD w c [v0, v1, v2, v3, v4]) : ∃ f caps, v4 = clo f caps ∧ EN f ∧ BLC w c f caps := by
  unfold FLD at h
  split at h
  · cases h
    refine ⟨_, _, rfl, en_k4, fun g m hm ok => ?_⟩
    exact (k4T w g).mono fun e w' ⟨h1, h2⟩ => ⟨h1, by subst h2; exact hm, by subst h2; exact Besides.refl _ _⟩
  · cases h
    refine ⟨_, _, rfl, en_o5, fun g m hm ok => ?_⟩
    exact (o5T w g m hm).mono fun e w' ⟨h1, h2⟩ => ⟨h1, by subst h2; exact hm.set 1 _ rfl, by subst h2; exact Besides.setCell _ _ _ _⟩
  · obtain ⟨p, q, s, e, hp, hq, hs⟩ := h.cells
    cases e
    refine ⟨_, _, rfl, en_n5, fun g m hm ok => ?_⟩
    exact (n5T w g p 34 1 m.i hp en_of1 of1C (hm.c1) (hm.free 1)).mono fun e w' ⟨h1, h2⟩ => ⟨h1, by subst h2; exact hm.set 1 _ (rfl), by subst h2; exact Besides.setCell _ _ _ _⟩
  · obtain ⟨p, q, s, e, hp, hq, hs⟩ := h.cells
    cases e
    refine ⟨_, _, rfl, en_n5, fun g m hm ok => ?_⟩
    exact (n5T w g p 35 2 m.b hp en_of2 of2C (hm.c2) (hm.free 2)).mono fun e w' ⟨h1, h2⟩ => ⟨h1, by subst h2; exact hm.set 2 _ (rfl), by subst h2; exact Besides.setCell _ _ _ _⟩
  · obtain ⟨p, q, s, e, hp, hq, hs⟩ := h.cells
    cases e
    refine ⟨_, _, rfl, en_n5, fun g m hm ok => ?_⟩
    exact (n5T w g p 36 3 m.l hp en_of3 of3C (hm.c3) (hm.free 3)).mono fun e w' ⟨h1, h2⟩ => ⟨h1, by subst h2; exact hm.set 3 _ (rfl), by subst h2; exact Besides.setCell _ _ _ _⟩
  · obtain ⟨p, q, s, e, hp, hq, hs⟩ := h.cells
    cases e
    refine ⟨_, _, rfl, en_n5, fun g m hm ok => ?_⟩
    exact (n5T w g p 37 3 m.l hp en_of4 of4C (hm.c3) (hm.free 3)).mono fun e w' ⟨h1, h2⟩ => ⟨h1, by subst h2; exact hm.set 3 _ (rfl), by subst h2; exact Besides.setCell _ _ _ _⟩
  · cases h
    refine ⟨_, _, rfl, en_r4, fun g m hm ok => ?_⟩
    exact (r4T w g m ok hm).mono fun e w' ⟨h1, h2⟩ => ⟨h1, by subst h2; exact hm.setRoot ok _ (zr_len 32), by subst h2; exact besides_setCells _ _ _ _⟩
  · obtain ⟨p, q, s, e, hp, hq, hs⟩ := h.cells
    cases e
    refine ⟨_, _, rfl, en_n5, fun g m hm ok => ?_⟩
    exact (n5T w g p 39 37 m.ba hp en_of5 of5C (hm.c37 ok) (hm.free 37)).mono fun e w' ⟨h1, h2⟩ => ⟨h1, by subst h2; exact hm.set 37 _ (Mv.set37 ok _), by subst h2; exact Besides.setCell _ _ _ _⟩
  · obtain ⟨p, q, s, e, hp, hq, hs⟩ := h.cells
    cases e
    refine ⟨_, _, rfl, en_n5, fun g m hm ok => ?_⟩
    exact (n5T w g p 40 38 m.pr hp en_of6 of6C (hm.c38 ok) (hm.free 38)).mono fun e w' ⟨h1, h2⟩ => ⟨h1, by subst h2; exact hm.set 38 _ (Mv.set38 ok _), by subst h2; exact Besides.setCell _ _ _ _⟩
  · cases h
    refine ⟨_, _, rfl, en_d4, fun g m hm ok => ?_⟩
    exact (d4T w g m hm).mono fun e w' ⟨h1, h2⟩ => ⟨h1, by subst h2; exact hm.set 4 _ rfl, by subst h2; exact Besides.setCell _ _ _ _⟩
  · cases h
    refine ⟨_, _, rfl, en_h2, fun g m hm ok => ?_⟩
    exact (h2T w g m ok hm).mono fun e w' ⟨h1, h2⟩ => ⟨h1, by subst h2; exact hm.set 39 _ (Mv.set39 ok _), by subst h2; exact Besides.setCell _ _ _ _⟩
  · exact absurd h id
/-- what a call that looks at field c answers -/
def LKC (w : World) (c f : Nat) (caps : Array Value) : Prop := ∀ (g : Nat) (m : Mv), MB w g m → m.ok → Calls Tryd.prog f (#[ptr g] ++ caps) w fun e w' => e = .returned (.bool (lk c m)) ∧ w' = w
theorem FLD.look {w : World} {c : Nat} {v0 v1 v2 v3 v4 : Value} (h : FLD w c [v0, v1, v2, v3, v4]) : ∃ f caps, v3 = clo f caps ∧ EN f ∧ LKC w c f caps := by
  unfold FLD at h
  split at h
  · cases h
    refine ⟨_, _, rfl, en_always, fun g m hm ok => ?_⟩
    exact alwaysT w g
  · cases h
    refine ⟨_, _, rfl, en_o4, fun g m hm ok => ?_⟩
    exact o4T w g m hm
  · obtain ⟨p, q, s, e, hp, hq, hs⟩ := h.cells
    cases e
    refine ⟨_, _, rfl, en_n4, fun g m hm ok => ?_⟩
    exact n4T w g p q s 34 1 m.i _ _ hp hq hs en_of1 of1C (hm.c1)
  · obtain ⟨p, q, s, e, hp, hq, hs⟩ := h.cells
    cases e
    refine ⟨_, _, rfl, en_n4, fun g m hm ok => ?_⟩
    exact n4T w g p q s 35 2 m.b _ _ hp hq hs en_of2 of2C (hm.c2)
  · obtain ⟨p, q, s, e, hp, hq, hs⟩ := h.cells
    cases e
    refine ⟨_, _, rfl, en_n4, fun g m hm ok => ?_⟩
    exact n4T w g p q s 36 3 m.l _ _ hp hq hs en_of3 of3C (hm.c3)
  · obtain ⟨p, q, s, e, hp, hq, hs⟩ := h.cells
    cases e
    refine ⟨_, _, rfl, en_n4, fun g m hm ok => ?_⟩
    exact n4T w g p q s 37 3 m.l _ _ hp hq hs en_of4 of4C (hm.c3)
  · cases h
    refine ⟨_, _, rfl, en_always, fun g m hm ok => ?_⟩
    exact alwaysT w g
  · obtain ⟨p, q, s, e, hp, hq, hs⟩ := h.cells
    cases e
    refine ⟨_, _, rfl, en_n4, fun g m hm ok => ?_⟩
    exact n4T w g p q s 39 37 m.ba _ _ hp hq hs en_of5 of5C (hm.c37 ok)
  · obtain ⟨p, q, s, e, hp, hq, hs⟩ := h.cells
    cases e
    refine ⟨_, _, rfl, en_n4, fun g m hm ok => ?_⟩
    exact n4T w g p q s 40 38 m.pr _ _ hp hq hs en_of6 of6C (hm.c38 ok)
  · cases h
    refine ⟨_, _, rfl, en_always, fun g m hm ok => ?_⟩
    exact alwaysT w g
  · cases h
    refine ⟨_, _, rfl, en_always, fun g m hm ok => ?_⟩
    exact alwaysT w g
  · exact absurd h id
/-- what a call that tells field c's size answers -/
def SZC (w : World) (c f : Nat) (caps : Array Value) : Prop := ∀ (g : Nat) (m : Mv), MB w g m → m.ok → sln m.h ≤ 140737488351232 → Calls Tryd.prog f (#[ptr g] ++ caps) w fun e w' => e = .returned (.int .i64 (sz c m : Nat)) ∧ w' = w
theorem FLD.siz {w : World} {c : Nat} {v0 v1 v2 v3 v4 : Value} (h : FLD w c [v0, v1, v2, v3, v4]) : ∃ f caps, v0 = clo f caps ∧ EN f ∧ SZC w c f caps := by
  unfold FLD at h
  split at h
  · cases h
    refine ⟨_, _, rfl, en_k1, fun g m hm ok hh => ?_⟩
    exact k1T w g
  · cases h
    refine ⟨_, _, rfl, en_o1, fun g m hm ok hh => ?_⟩
    exact o1T w g
  · obtain ⟨p, q, s, e, hp, hq, hs⟩ := h.cells
    cases e
    refine ⟨_, _, rfl, en_n1, fun g m hm ok hh => ?_⟩
    exact n1T w g
  · obtain ⟨p, q, s, e, hp, hq, hs⟩ := h.cells
    cases e
    refine ⟨_, _, rfl, en_n1, fun g m hm ok hh => ?_⟩
    exact n1T w g
  · obtain ⟨p, q, s, e, hp, hq, hs⟩ := h.cells
    cases e
    refine ⟨_, _, rfl, en_n1, fun g m hm ok hh => ?_⟩
    exact n1T w g
  · obtain ⟨p, q, s, e, hp, hq, hs⟩ := h.cells
    cases e
    refine ⟨_, _, rfl, en_n1, fun g m hm ok hh => ?_⟩
    exact n1T w g
  · cases h
    refine ⟨_, _, rfl, en_r1, fun g m hm ok hh => ?_⟩
    exact r1T w g
  · obtain ⟨p, q, s, e, hp, hq, hs⟩ := h.cells
    cases e
    refine ⟨_, _, rfl, en_n1, fun g m hm ok hh => ?_⟩
    exact n1T w g
  · obtain ⟨p, q, s, e, hp, hq, hs⟩ := h.cells
    cases e
    refine ⟨_, _, rfl, en_n1, fun g m hm ok hh => ?_⟩
    exact n1T w g
  · cases h
    refine ⟨_, _, rfl, en_d1, fun g m hm ok hh => ?_⟩
    obtain ⟨a, n, cc, hd⟩ := ok.d
    have e : sz 10 m = n := by simp [sz, sln, hd]
    rw [e]
    exact d1T w g a n cc (by rw [← hd]; exact hm.c4)
  · cases h
    refine ⟨_, _, rfl, en_h1, fun g m hm ok hh => ?_⟩
    obtain ⟨a, n, cc, hd⟩ := ok.h
    have e : sz 11 m = 32 * n := by simp [sz, sln, hd]
    have hn : n ≤ 140737488351232 := by rw [hd] at hh; exact hh
    rw [e]
    have := h1T w g a n cc hn (by rw [← hd]; exact hm.c39 ok)
    simpa using this
  · exact absurd h id
end Go.Proofs.YtpembmfpgolniaaDoor
