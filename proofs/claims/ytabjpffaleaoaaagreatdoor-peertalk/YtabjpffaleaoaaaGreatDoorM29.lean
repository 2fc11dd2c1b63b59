import Derived.Test.YtabjpffaleaoaaaGreatDoorM28
namespace Go.Proofs.YtabjpffaleaoaaaGreatDoor
open Go.RowKit
/-- a message that is legal where it stands -/
structure Gd (L : List Int) (pb : Int) (q : Qs) (x : Mg) : Prop where
  no : x.m.k ≠ 1000
  lg : legE L pb q.b x.m x.D = 0
  bd : Bd x.m
  vl : ∀ d h, sln d = x.D.length → x.hb.length = sln h * 32 → valE { x.m with d := d, h := h } = 0
/-- messages one after the other, each legal where it stands -/
inductive Tr (L : List Int) (pb : Int) : Qs → List Mg → Qs → Prop
  | nil (q : Qs) : Tr L pb q [] q
  | cons (q q1 q' : Qs) (x : Mg) (xs : List Mg) : Gd L pb q x → Hstep L.length q x.m x.D q1 → Tr L pb q1 xs q' → Tr L pb q (x :: xs) q'
theorem Hr.tr {L : List Int} {pb : Int} {q q1 : Qs} {bs : List (List UInt8)} {xs : List Mg} {e : Int} (x : Hr L pb q bs xs q1 e) : Tr L pb q xs q1 := by
  induction x with
  | nil q => exact Tr.nil q
  | dec q => exact Tr.nil q
  | ill q => exact Tr.nil q
  | ok q qa q' y bs xs e h h' hs _ ih =>
    by_cases hk : (decS y).m.k = 1000
    · rw [if_pos hk, List.nil_append]
      have e1 : qa = q := by
        obtain ⟨a1, a2, a3, a4⟩ := hs
        have hsy : sy (decS y).m.k q.c q.i q.b = (q.c, q.i, q.b) := by unfold sy; rw [if_pos (.inr hk)]
        rw [hsy] at a1 a2 a3
        have hH : qa.H = q.H := by
          rcases a4 with ⟨k4, _⟩ | ⟨k5, _⟩ | ⟨_, _, a⟩
          · omega
          · omega
          · exact a
        cases qa
        cases q
        simp only at *
        subst a1 a2 a3 hH
        rfl
      rw [← e1]
      exact ih
    · rw [if_neg hk]
      exact Tr.cons q qa q' _ xs ⟨hk, h', decS_bd y, fun d hv hd hh => (two_way y h d hv hd hh).1⟩ hs ih
theorem Tel.tr {info : List UInt8} {L : List Int} {pb : Int} {q0 : Qs} {T : List UInt8} {met : List (List UInt8)} {xs : List Mg} {q' : Qs} {fin : Int} (x : Tel info L pb q0 T met xs q' fin) : Tr L pb q0 xs q' ∧ (met = [] → xs = []) ∧ met.length ≤ 1 := by
  obtain ⟨m1, bs1, h1, r1, er, d1, x⟩ := x
  rcases x with ⟨_, _, _, rfl, rfl, rfl, _⟩ | ⟨_, rfl, f1, hr1, _⟩
  · exact ⟨Tr.nil _, fun _ => rfl, by simp⟩
  · refine ⟨hr1.tr, fun h0 => ?_, (rd_facts d1).2.1⟩
    have := ((Fm.rd_none d1).1 h0).1
    rw [this] at hr1
    cases hr1
    rfl
/-- what a valid message's kind says -/
theorem val_kind {m : Mv} (h : valE m = 0) : m.k = -1 ∨ 0 ≤ m.k := by
  unfold valE at h
  cases hr : rowFor m.k with
  | none => rw [hr] at h; simp at h
  | some r =>
    obtain ⟨h1, h2⟩ := rowFor_mem hr
    have key : ∀ r ∈ rws, r.k = -1 ∨ 0 ≤ r.k := by decide
    rw [← h2]
    exact key r h1
theorem val_len {m : Mv} (h : valE m = 0) (hk : m.k = 6 ∨ m.k = 8) : 1 ≤ m.l := by
  have key : ∀ r : Kr, rowFor m.k = some r → lks r.cs m = true := fun r hr => by
    unfold valE at h
    rw [hr] at h
    simp only at h
    split at h
    · simp at h
    · split at h
      · assumption
      · simp at h
  rcases hk with hk | hk
  · have h1 := key ⟨6, 13, 13, 1, [1, 3, 4, 6, 0, 0, 0]⟩ (by rw [hk]; rfl)
    have h2 : lk 6 m = true := List.all_eq_true.1 h1 6 (by decide)
    have h3 : rng 1 16384 m.l = true := h2
    unfold rng at h3
    have := of_decide_eq_true h3
    omega
  · have h1 := key ⟨8, 13, 13, 1, [1, 3, 4, 6, 0, 0, 0]⟩ (by rw [hk]; rfl)
    have h2 : lk 6 m = true := List.all_eq_true.1 h1 6 (by decide)
    have h3 : rng 1 16384 m.l = true := h2
    unfold rng at h3
    have := of_decide_eq_true h3
    omega
theorem val_data {m : Mv} (h : valE m = 0) (hk : m.k = 7) : 1 ≤ sln m.d := by
  have key : ∀ r : Kr, rowFor m.k = some r → r.fit (szs r.cs m : Nat) = true := fun r hr => by
    unfold valE at h
    rw [hr] at h
    simp only at h
    split at h
    · simp at h
    · split at h
      · split at h
        · assumption
        · simp at h
      · simp at h
  have h1 := fit_of (key ⟨7, 10, 16393, 1, [1, 3, 4, 10, 0, 0, 0]⟩ (by rw [hk]; rfl))
  have e : szs (Kr.cs ⟨7, 10, 16393, 1, [1, 3, 4, 10, 0, 0, 0]⟩) m = 1 + (4 + (4 + (sln m.d + 0))) := rfl
  rw [e] at h1
  have := h1.1
  simp only at this
  omega
/-- a piece that was there is put once more -/
theorem pu_same {n : Nat} {H : List UInt8} {i : Int} (h : Bs.gB (n : Int) H i = true) : Bs.PU (n : Int) H i true H := by
  unfold Bs.gB at h
  split at h
  · rename_i hg
    refine .inr ⟨hg, ?_⟩
    have hck : Bs.ck (n : Int) H = 0 := by
      by_cases hc : Bs.ck (n : Int) H = 0
      · exact hc
      · rw [(Bs.gE_ck hc).1] at hg; exact absurd hg hc
    have hbf := Bs.ck_bf hck
    refine ⟨hbf.1, fun k => (hbf.2 k).trans ?_⟩
    show _ = (decide (k < (n : Int).toNat) && if k = i.toNat then true else Bs.bit H k)
    split
    · rename_i e; subst e; rw [h]
    · rfl
  · cases h
end Go.Proofs.YtabjpffaleaoaaaGreatDoor
namespace Go.Proofs.YtabjpffaleaoaaaGreatDoor
open Go.RowKit
set_option maxHeartbeats 2000000 in
set_option maxRecDepth 100000 in
theorem range1T (w : World) (b v : Int) (lv : Value) (L : List Int) (hr : Bs.RZ w lv L) (i bg n : Int) (hL : LOk L) (hi : pce L i = true) (hb0 : 0 ≤ bg) (hb1 : bg ≤ 4294967295) (hn0 : 1 ≤ n) (hn1 : n ≤ 16384) (hn : n ≤ b) (hx : bg ≤ Bs.iz L i.toNat - n) :
    Calls Tryz.prog 22 #[Bs.sc b v, lv, .int .i64 i, .int .i64 bg, .int .i64 n] w fun e w' => e = .returned (.bool true) ∧ Below w.heap.size w w' := by
  unfold pce at hi
  obtain ⟨hi0, hi1⟩ : 0 ≤ i ∧ i < (L.length : Int) := by simpa using hi
  obtain ⟨k, rfl⟩ := Int.eq_ofNat_of_zero_le hi0
  have hkL : k < L.length := by omega
  have hxl := hL.2 k hkL
  rw [Int.toNat_natCast] at hx
  obtain ⟨a, c, rfl, _, h⟩ := hr
  rcases h with h | ⟨g, o, rfl, hg, h⟩
  · rw [h] at hkL; simp at hkL
  have hcell := h k hkL
  have HB : Hid (Below w.heap.size w (w.alloc (.cells #[.int .i64 b, .int .i64 v] 23))) := (Below.refl _ _).alloc (Nat.le_refl _) _
  have hcA : (w.alloc (.cells #[.int .i64 b, .int .i64 v] 23)).cell? ⟨g, o + k, none⟩ = some (.int .i64 (Bs.iz L k)) := (World.cell?_of_block (w := w) (HB.out.block g hg)).trans hcell
  have hcB : (w.alloc (.cells #[.int .i64 b, .int .i64 v] 23)).cell? ⟨w.heap.size, 0, none⟩ = some (.int .i64 b) := by
    unfold World.cell?
    rw [heapNew]
    rfl
  generalize hgen : w.alloc (.cells #[.int .i64 b, .int .i64 v] 23) = w1 at *
  generalize Bs.iz L k = x at *
  obtain ⟨hx1, hx2⟩ := hxl
  clear hcell h hi
  go_enter Tryz.func22, Tryz.ntmps22
  go_wp2_with fail
  go_ret
  exact ⟨rfl, HB.out⟩
end Go.Proofs.YtabjpffaleaoaaaGreatDoor
