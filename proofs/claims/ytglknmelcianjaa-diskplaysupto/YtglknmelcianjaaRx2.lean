import Derived.Test.YtglknmelcianjaaRv2
namespace Go.Proofs.Ytglknmelcianjaa
open Go.RowKit
/-- a disk, or none, and an error were answered -/
def NA (w : World) (n : Int) (o : Option Dk) (e : Ending) (w' : World) : Prop := ∃ x : Option Addr, e = .returned (.tuple #[.pointer x, .int .i64 n]) ∧ x.isNone = o.isNone ∧ PA (fun k => w.heap.size ≤ k) w' (.pointer x) o ∧ Below w.heap.size w w'
def NB (w : World) (n : Int) (o : Option Dk) (e : Ending) (w' : World) : Prop := ∃ x : Option Addr, e = .returned (.tuple #[.pointer x, .int .i64 n]) ∧ x.isNone = o.isNone ∧ PB (fun k => w.heap.size ≤ k) w' (.pointer x) o ∧ Below w.heap.size w w'
def CA (w : World) (o : Option Dk) (e : Ending) (w' : World) : Prop := ∃ x : Option Addr, e = .returned (.pointer x) ∧ x.isNone = o.isNone ∧ PA (fun k => w.heap.size ≤ k) w' (.pointer x) o ∧ Below w.heap.size w w'
def CB (w : World) (o : Option Dk) (e : Ending) (w' : World) : Prop := ∃ x : Option Addr, e = .returned (.pointer x) ∧ x.isNone = o.isNone ∧ PB (fun k => w.heap.size ≤ k) w' (.pointer x) o ∧ Below w.heap.size w w'
def nwO (n : Int) : Option Dk := if 1 ≤ n ∧ n ≤ 65536 then some ⟨zr (64 * n.toNat), [], none⟩ else none
def ldO (l : List UInt8) : Option Dk := if l.length % 64 = 0 ∧ 64 ≤ l.length ∧ l.length ≤ 4194304 then some ⟨l, [], none⟩ else none
def erN (c : Int) (o : Option Dk) : Int := if o.isNone then c else 0
section
variable {S : Nat → Prop} {w : World} {v : Value} {o : Option Dk}
theorem na_no {c : Int} : NA w (erN c none) none (.returned (.tuple #[.pointer none, .int .i64 c])) w := ⟨none, rfl, rfl, rfl, Below.refl _ _⟩
theorem nb_no {c : Int} : NB w (erN c none) none (.returned (.tuple #[.pointer none, .int .i64 c])) w := ⟨none, rfl, rfl, rfl, Below.refl _ _⟩
theorem newA (n : Int) (w : World) : Calls Try.prog 4 #[.int .i64 n] w (NA w (erN 120 (nwO n)) (nwO n)) := by
  by_cases h : 1 ≤ n ∧ n ≤ 65536
  · have e : n = (n.toNat : Int) := by omega
    have := new_ok n.toNat w (by omega) (by omega)
    rw [← e] at this
    refine this.mono ?_
    intro e w' hx
    unfold nwO
    rw [if_pos h]
    obtain ⟨p, rfl, _, hk, hb⟩ := hx
    exact ⟨_, rfl, rfl, ⟨p, rfl, hk⟩, hb⟩
  · unfold nwO
    rw [if_neg h]
    exact (new_no n w (by omega)).mono (by rintro e w' ⟨rfl, rfl⟩; exact na_no)
theorem newB (n : Int) (w : World) : Calls Try.prog 5 #[.int .i64 n] w (NB w (erN 120 (nwO n)) (nwO n)) := by
  by_cases h : 1 ≤ n ∧ n ≤ 65536
  · have e : n = (n.toNat : Int) := by omega
    have := rnewT n.toNat w (by omega) (by omega)
    rw [← e] at this
    refine this.mono ?_
    rintro e w' ⟨q, rfl, hk, hb⟩
    unfold nwO
    rw [if_pos h]
    exact ⟨_, rfl, rfl, ⟨q, rfl, hk⟩, hb⟩
  · unfold nwO
    rw [if_neg h]
    exact (rnew_no n w (by omega)).mono (by rintro e w' ⟨rfl, rfl⟩; exact nb_no)
theorem loadB (dv : Value) (l : List UInt8) (w : World) (hr : RB w dv l) (hl : l.length ≤ 140737488355328) : Calls Try.prog 8 #[dv] w (NB w (erN 122 (ldO l)) (ldO l)) := by
  by_cases h : l.length % 64 = 0 ∧ 64 ≤ l.length ∧ l.length ≤ 4194304
  · refine (rloadT dv l w hr h.1 h.2.1 h.2.2).mono ?_
    rintro e w' ⟨q, rfl, hk, hb⟩
    unfold ldO
    rw [if_pos h]
    exact ⟨_, rfl, rfl, ⟨q, rfl, hk⟩, hb⟩
  · unfold ldO
    rw [if_neg h]
    exact (rload_no dv l w hr hl h).mono (by rintro e w' ⟨rfl, rfl⟩; exact nb_no)
theorem loadA (dv : Value) (l : List UInt8) (w : World) (hr : RB w dv l) (hl : l.length ≤ 140737488355328) : Calls Try.prog 7 #[dv] w (NA w (erN 122 (ldO l)) (ldO l)) := by
  by_cases h : l.length % 64 = 0 ∧ 64 ≤ l.length ∧ l.length ≤ 4194304
  · refine (load_ok dv l w hr h.1 h.2.1 h.2.2).mono ?_
    rintro e w' ⟨q, rfl, _, hk, hb⟩
    unfold ldO
    rw [if_pos h]
    exact ⟨_, rfl, rfl, ⟨q, rfl, hk⟩, hb⟩
  · unfold ldO
    rw [if_neg h]
    exact (load_no dv l w hr hl h).mono (by rintro e w' ⟨rfl, rfl⟩; exact na_no)
theorem copyA (h : PA S w v o) (hn : nW o ≤ 1073741824) : Calls Try.prog 10 #[v] w (CA w o) := by
  cases o with
  | none =>
    have e : v = .pointer none := h
    subst e
    exact (copy_nil w).mono (by rintro e w' ⟨rfl, rfl⟩; exact ⟨none, rfl, rfl, rfl, Below.refl _ _⟩)
  | some D =>
    obtain ⟨p, rfl, h⟩ := h
    refine (copy h hn).mono ?_
    rintro e w' ⟨q, rfl, h2, h3⟩
    exact ⟨_, rfl, rfl, ⟨q, rfl, h2⟩, h3⟩
theorem copyB (h : PB S w v o) (hn : nW o ≤ 1073741824) : Calls Try.prog 11 #[v] w (CB w o) := by
  cases o with
  | none =>
    have e : v = .pointer none := h
    subst e
    exact (rcopy_nil w).mono (by rintro e w' ⟨rfl, rfl⟩; exact ⟨none, rfl, rfl, rfl, Below.refl _ _⟩)
  | some D =>
    obtain ⟨p, rfl, h⟩ := h
    obtain ⟨lb, cap, wv, ps, lf, h, hps⟩ := h.n (m := 1073741824) hn
    refine (rcopyT h hps).mono ?_
    rintro e w' ⟨q, rfl, h2, h3⟩
    exact ⟨_, rfl, rfl, ⟨q, rfl, h2⟩, h3⟩
end
end Go.Proofs.Ytglknmelcianjaa
