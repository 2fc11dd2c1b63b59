import Derived.Test.YtglknmelcianjaaRq2
namespace Go.Proofs.Ytglknmelcianjaa
open Go.RowKit
/-- the two sides of a place -/
def PA (S : Nat → Prop) (w : World) (v : Value) : Option Dk → Prop
  | none => v = .pointer none
  | some D => ∃ p, v = .pointer (some ⟨p, 0, none⟩) ∧ DK S w p D
def PB (S : Nat → Prop) (w : World) (v : Value) : Option Dk → Prop
  | none => v = .pointer none
  | some D => ∃ q, v = .pointer (some ⟨q, 0, none⟩) ∧ RK S w q D
section
variable {S T Sa Sb : Nat → Prop} {w w' : World} {v va vb : Value} {o : Option Dk}
theorem PD.a (h : PD Sa Sb w va vb o) : PA Sa w va o := by
  cases h with
  | no => rfl
  | yes p q D ha hb => exact ⟨p, rfl, ha⟩
theorem PD.b (h : PD Sa Sb w va vb o) : PB Sb w vb o := by
  cases h with
  | no => rfl
  | yes p q D ha hb => exact ⟨q, rfl, hb⟩
theorem PD.mk (ha : PA Sa w va o) (hb : PB Sb w vb o) : PD Sa Sb w va vb o := by
  cases o with
  | none =>
    have e1 : va = .pointer none := ha
    have e2 : vb = .pointer none := hb
    subst e1 e2
    exact .no
  | some D =>
    obtain ⟨p, rfl, ha⟩ := ha
    obtain ⟨q, rfl, hb⟩ := hb
    exact .yes p q D ha hb
theorem PA.fr (h : PA S w v o) (hf : Fr S w w') : PA S w' v o := by
  cases o with
  | none => exact h
  | some D => obtain ⟨p, e, h⟩ := h; exact ⟨p, e, h.fr hf⟩
theorem PA.sub (h : PA S w v o) (hs : ∀ k, k < w.heap.size → S k → T k) : PA T w v o := by
  cases o with
  | none => exact h
  | some D => obtain ⟨p, e, h⟩ := h; exact ⟨p, e, h.sub hs⟩
theorem PB.fr (h : PB S w v o) (hf : Fr S w w') : PB S w' v o := by
  cases o with
  | none => exact h
  | some D => obtain ⟨p, e, h⟩ := h; exact ⟨p, e, h.fr hf⟩
theorem PB.sub (h : PB S w v o) (hs : ∀ k, k < w.heap.size → S k → T k) : PB T w v o := by
  cases o with
  | none => exact h
  | some D => obtain ⟨p, e, h⟩ := h; exact ⟨p, e, h.sub hs⟩
theorem RK.n {q m : Nat} {D : Dk} (h : RK S w q D) (hn : D.ws.length ≤ m) : ∃ lb cap wv ps lf, RI S w q lb cap wv ps lf D ∧ ps.length ≤ m := by
  obtain ⟨lb, cap, wv, ps, lf, h⟩ := h
  exact ⟨lb, cap, wv, ps, lf, h, by rw [h.ws, List.length_map] at hn; exact hn⟩
/-- what a call that changes a disk leaves: its answer, the disk, what stands -/
def AE (S : Nat → Prop) (w : World) (v : Value) (n : Int) (o' : Option Dk) (e : Ending) (w' : World) : Prop := e = .returned (.int .i64 n) ∧ PA (fun k => S k ∨ w.heap.size ≤ k) w' v o' ∧ Fr (fun k => ¬ S k) w w'
def BE (S : Nat → Prop) (w : World) (v : Value) (n : Int) (o' : Option Dk) (e : Ending) (w' : World) : Prop := e = .returned (.int .i64 n) ∧ PB (fun k => S k ∨ w.heap.size ≤ k) w' v o' ∧ Fr (fun k => ¬ S k) w w'
theorem AE.same (h : PA S w v o) {n : Int} : AE S w v n o (.returned (.int .i64 n)) w := ⟨rfl, h.sub (fun _ _ h => .inl h), Fr.refl _ _⟩
theorem BE.same (h : PB S w v o) {n : Int} : BE S w v n o (.returned (.int .i64 n)) w := ⟨rfl, h.sub (fun _ _ h => .inl h), Fr.refl _ _⟩
def wrN (s : Int) (d : List UInt8) : Option Dk → Int
  | none => 1
  | some D => if rdOk s D then (if d.length = 64 then 0 else 121) else 120
def wrO (s : Int) (d : List UInt8) : Option Dk → Option Dk
  | none => none
  | some D => if rdOk s D then (if d.length = 64 then some ⟨D.last, D.ws ++ [⟨s.toNat, d, blownF D.fu⟩], burnt D.fu⟩ else some D) else some D
theorem awrite (h : PA S w v o) (hn : nW o < 1073741824) (s : Int) (dv : Value) (d : List UInt8) (hr : RB w dv d) : Calls Try.prog 29 #[v, .int .i64 s, dv] w (AE S w v (wrN s d o) (wrO s d o)) := by
  cases o with
  | none =>
    have e : v = .pointer none := h
    subst e
    exact (write_nil w s dv).mono (by rintro e w' ⟨rfl, rfl⟩; exact AE.same h)
  | some D =>
    have h0 := h
    obtain ⟨p, rfl, h⟩ := h
    cases hr1 : rdOk s D with
    | false =>
      have h1 := of_decide_eq_false hr1
      simp only [wrN, wrO, hr1]
      exact (write_no h s (by omega) dv).mono (by rintro e w' ⟨rfl, rfl⟩; exact AE.same h0)
    | true =>
      have h1 := of_decide_eq_true hr1
      have e : s = (s.toNat : Int) := by omega
      by_cases hd : d.length = 64
      · simp only [wrN, wrO, hr1, if_true, hd]
        have := write h s.toNat (by omega) dv d hr hd hn
        rw [← e] at this
        refine this.mono ?_
        rintro e w' ⟨rfl, h2, h3⟩
        exact ⟨rfl, ⟨p, rfl, h2⟩, h3⟩
      · simp only [wrN, wrO, hr1, if_true, hd, if_false]
        have := write_size h s.toNat (by omega) dv d hr hd
        rw [← e] at this
        exact this.mono (by rintro e w' ⟨rfl, rfl⟩; exact AE.same h0)
theorem bwrite (h : PB S w v o) (hn : nW o < 1073741824) (s : Int) (dv : Value) (d : List UInt8) (hr : RB w dv d) (hs : ∀ g, dv.ownBlock = some g → ¬ S g) : Calls Try.prog 30 #[v, .int .i64 s, dv] w (BE S w v (wrN s d o) (wrO s d o)) := by
  cases o with
  | none =>
    have e : v = .pointer none := h
    subst e
    exact (rwrite_nil w s dv).mono (by rintro e w' ⟨rfl, rfl⟩; exact BE.same h)
  | some D =>
    have h0 := h
    obtain ⟨p, rfl, h⟩ := h
    obtain ⟨lb, cap, wv, ps, lf, h⟩ := h
    have hps : ps.length < 1073741824 := by have h9 : D.ws.length < 1073741824 := hn; rw [h.ws, List.length_map] at h9; exact h9
    cases hr1 : rdOk s D with
    | false =>
      have h1 := of_decide_eq_false hr1
      simp only [wrN, wrO, hr1]
      exact (rwrite_no h s (by omega) dv).mono (by rintro e w' ⟨rfl, rfl⟩; exact BE.same h0)
    | true =>
      have h1 := of_decide_eq_true hr1
      have e : s = (s.toNat : Int) := by omega
      by_cases hd : d.length = 64
      · simp only [wrN, wrO, hr1, if_true, hd]
        have := rwriteT h s.toNat (by omega) dv d hr hs hd hps
        rw [← e] at this
        refine this.mono ?_
        rintro e w' ⟨rfl, h2, h3⟩
        exact ⟨rfl, ⟨p, rfl, h2⟩, h3⟩
      · simp only [wrN, wrO, hr1, if_true, hd, if_false]
        have := rwrite_size h s.toNat (by omega) dv d hr hd
        rw [← e] at this
        exact this.mono (by rintro e w' ⟨rfl, rfl⟩; exact BE.same h0)
def syN : Option Dk → Int
  | none => 1
  | some _ => 0
theorem async (h : PA S w v o) : Calls Try.prog 31 #[v] w (AE S w v (syN o) (o.map syD)) := by
  cases o with
  | none =>
    have e : v = .pointer none := h
    subst e
    exact (sync_nil w).mono (by rintro e w' ⟨rfl, rfl⟩; exact AE.same h)
  | some D =>
    obtain ⟨p, rfl, h⟩ := h
    cases hb : blownF D.fu with
    | true =>
      refine (sync_blown h hb).mono ?_
      rintro e w' ⟨rfl, b⟩
      refine ⟨rfl, ⟨p, rfl, ?_⟩, Fr.of_below b⟩
      rw [syD_t hb]
      exact (h.below b).sub (fun _ _ h => .inl h)
    | false =>
      refine (sync_live h hb).mono ?_
      rintro e w' ⟨rfl, h2, h3⟩
      refine ⟨rfl, ⟨p, rfl, ?_⟩, h3⟩
      rw [syD_f hb]
      exact h2.sub (fun _ _ h => .inl h)
theorem bsync (h : PB S w v o) (hn : nW o ≤ 1073741824) : Calls Try.prog 32 #[v] w (BE S w v (syN o) (o.map syD)) := by
  cases o with
  | none =>
    have e : v = .pointer none := h
    subst e
    exact (rsync_nil w).mono (by rintro e w' ⟨rfl, rfl⟩; exact BE.same h)
  | some D =>
    obtain ⟨p, rfl, h⟩ := h
    obtain ⟨lb, cap, wv, ps, lf, h, hps⟩ := h.n (m := 1073741824) hn
    refine (rsyncT h hps).mono ?_
    rintro e w' ⟨rfl, h2, h3⟩
    exact ⟨rfl, ⟨p, rfl, h2.sub (fun _ _ h => .inl h)⟩, h3⟩
def fuN (n : Int) : Option Dk → Int
  | none => 1
  | some _ => if n < 0 then 2 else 0
def fuO (n : Int) (o : Option Dk) : Option Dk := if n < 0 then o else o.map (fuD n.toNat)
theorem afuse (h : PA S w v o) (n : Int) (hn : n ≤ 9223372036854775807) : Calls Try.prog 33 #[v, .int .i64 n] w (AE S w v (fuN n o) (fuO n o)) := by
  cases o with
  | none =>
    have e : v = .pointer none := h
    subst e
    have e2 : fuO n none = none := by unfold fuO; split <;> rfl
    rw [e2]
    exact (fuse_nil w n).mono (by rintro e w' ⟨rfl, rfl⟩; exact AE.same h)
  | some D =>
    have h0 := h
    obtain ⟨p, rfl, h⟩ := h
    by_cases h1 : n < 0
    · simp only [fuN, fuO, h1, if_true]
      exact (fuse_arg h n h1).mono (by rintro e w' ⟨rfl, rfl⟩; exact AE.same h0)
    · simp only [fuN, fuO, h1, if_false]
      have e : n = (n.toNat : Int) := by omega
      have := fuseT h n.toNat (by omega)
      rw [← e] at this
      refine this.mono ?_
      rintro e w' ⟨rfl, h2, h3⟩
      exact ⟨rfl, ⟨p, rfl, h2.sub (fun _ _ h => .inl h)⟩, h3⟩
theorem bfuse (h : PB S w v o) (n : Int) (hn : n ≤ 9223372036854775807) : Calls Try.prog 34 #[v, .int .i64 n] w (BE S w v (fuN n o) (fuO n o)) := by
  cases o with
  | none =>
    have e : v = .pointer none := h
    subst e
    have e2 : fuO n none = none := by unfold fuO; split <;> rfl
    rw [e2]
    exact (rfuse_nil w n).mono (by rintro e w' ⟨rfl, rfl⟩; exact BE.same h)
  | some D =>
    have h0 := h
    obtain ⟨p, rfl, h⟩ := h
    obtain ⟨lb, cap, wv, ps, lf, h⟩ := h
    by_cases h1 : n < 0
    · simp only [fuN, fuO, h1, if_true]
      exact (rfuse_arg p w n h1).mono (by rintro e w' ⟨rfl, rfl⟩; exact BE.same h0)
    · simp only [fuN, fuO, h1, if_false]
      have e : n = (n.toNat : Int) := by omega
      have := rfuseT h n.toNat (by omega)
      rw [← e] at this
      refine this.mono ?_
      rintro e w' ⟨rfl, h2, h3⟩
      exact ⟨rfl, ⟨p, rfl, h2.sub (fun _ _ h => .inl h)⟩, h3⟩
def crOk (torn cut : Int) (D : Dk) : Bool := decide (-1 ≤ torn ∧ torn < D.ws.length ∧ (torn ≠ -1 → 0 ≤ cut ∧ cut ≤ 64))
def crNn (keep : List Bool) (torn cut : Int) : Option Dk → Int
  | none => 1
  | some D => if keep.length = D.ws.length then (if crOk torn cut D then 0 else 2) else 121
def crO (keep : List Bool) (torn cut : Int) : Option Dk → Option Dk
  | none => none
  | some D => if keep.length = D.ws.length then (if crOk torn cut D then some (crE keep torn cut D) else some D) else some D
theorem acrash (h : PA S w v o) (hn : nW o ≤ 1073741824) (kv : Value) (keep : List Bool) (hk : RBo w kv keep) (hks : ∀ g, kv.ownBlock = some g → keep ≠ [] → ¬ S g) (torn cut : Int) : Calls Try.prog 35 #[v, kv, .int .i64 torn, .int .i64 cut] w (AE S w v (crNn keep torn cut o) (crO keep torn cut o)) := by
  cases o with
  | none =>
    have e : v = .pointer none := h
    subst e
    exact (crash_nil w kv torn cut).mono (by rintro e w' ⟨rfl, rfl⟩; exact AE.same h)
  | some D =>
    have h0 := h
    obtain ⟨p, rfl, h⟩ := h
    by_cases hl : keep.length = D.ws.length
    · cases hc : crOk torn cut D with
      | true =>
        have h1 := of_decide_eq_true hc
        simp only [crNn, crO, hl, if_true, hc]
        refine (crash h kv keep hk hl hks hn torn cut h1.1 h1.2.1 h1.2.2).mono ?_
        rintro e w' ⟨rfl, h2, h3⟩
        exact ⟨rfl, ⟨p, rfl, h2.sub (fun _ _ h => .inl h)⟩, h3⟩
      | false =>
        have h1 := of_decide_eq_false hc
        simp only [crNn, crO, hl, if_true, hc]
        exact (crash_arg h kv keep hk hl torn cut (by omega)).mono (by rintro e w' ⟨rfl, rfl⟩; exact AE.same h0)
    · simp only [crNn, crO, hl, if_false]
      exact (crash_size h kv keep hk hl torn cut).mono (by rintro e w' ⟨rfl, rfl⟩; exact AE.same h0)
theorem bcrash (h : PB S w v o) (hn : nW o ≤ 1073741824) (kv : Value) (keep : List Bool) (hk : RBo w kv keep) (hks : ∀ g, kv.ownBlock = some g → ¬ S g) (torn cut : Int) : Calls Try.prog 36 #[v, kv, .int .i64 torn, .int .i64 cut] w (BE S w v (crNn keep torn cut o) (crO keep torn cut o)) := by
  cases o with
  | none =>
    have e : v = .pointer none := h
    subst e
    exact (rcrash_nil w kv torn cut).mono (by rintro e w' ⟨rfl, rfl⟩; exact BE.same h)
  | some D =>
    have h0 := h
    obtain ⟨p, rfl, h⟩ := h
    obtain ⟨lb, cap, wv, ps, lf, h, hps⟩ := h.n (m := 1073741824) hn
    by_cases hl : keep.length = D.ws.length
    · cases hc : crOk torn cut D with
      | true =>
        have h1 := of_decide_eq_true hc
        simp only [crNn, crO, hl, if_true, hc]
        refine (rcrashT h kv keep hk hl (fun g hg _ => hks g hg) hps torn cut h1.1 h1.2.1 h1.2.2).mono ?_
        rintro e w' ⟨rfl, h2, h3⟩
        exact ⟨rfl, ⟨p, rfl, h2.sub (fun _ _ h => .inl h)⟩, h3⟩
      | false =>
        have h1 := of_decide_eq_false hc
        simp only [crNn, crO, hl, if_true, hc]
        exact (rcrash_arg h kv keep hk hl torn cut (by omega)).mono (by rintro e w' ⟨rfl, rfl⟩; exact BE.same h0)
    · simp only [crNn, crO, hl, if_false]
      exact (rcrash_size h kv keep hk hl torn cut).mono (by rintro e w' ⟨rfl, rfl⟩; exact BE.same h0)
end
end Go.Proofs.Ytglknmelcianjaa
