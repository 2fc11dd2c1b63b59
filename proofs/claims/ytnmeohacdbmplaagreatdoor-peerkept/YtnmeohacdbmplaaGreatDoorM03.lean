import Derived.Test.YtnmeohacdbmplaaGreatDoorM02
import Derived.Deep.Cut
import Derived.Deep.CutRange
import Derived.Deep.QuietTactic
namespace Go.Proofs.YtnmeohacdbmplaaGreatDoor
open Go.RowKit
def asksB (k : Int) : Bool := k == 6 || k == 8
def queryB (k : Int) : Bool := decide (21 ≤ k) && decide (k ≤ 23)
def numB (n : Int) : Bool := decide (0 ≤ n) && decide (n ≤ 4294967295)
def knownB (k : Int) : Bool := (decide (0 ≤ k) && decide (k ≤ 8)) || (decide (21 ≤ k) && decide (k ≤ 23))
def fc1 (m : Mv) (A Q : Bool) : Bool := m.i != 0 && m.k != 4 && m.k != 7 && m.k != 1000 && !A && !Q
def fc2 (m : Mv) (A : Bool) : Bool := m.b != 0 && m.k != 7 && !A
def fc3 (m : Mv) (A Q : Bool) : Bool := m.l != 0 && !A && !Q
def fc4 (m : Mv) (nd : Nat) : Bool := decide (0 < nd) && m.k != 5 && m.k != 7 && m.k != 1000
def fc5 (m : Mv) (Q : Bool) : Bool := (m.r != zr 32 || m.ba != 0 || m.pr != 0) && !Q
def fc6 (m : Mv) (nh : Nat) : Bool := decide (0 < nh) && m.k != 22
def fR (m : Mv) : Bool := fc1 m (asksB m.k) (queryB m.k) || fc2 m (asksB m.k) || fc3 m (asksB m.k) (queryB m.k) || fc4 m (sln m.d) || fc5 m (queryB m.k) || fc6 m (sln m.h)
end Go.Proofs.YtnmeohacdbmplaaGreatDoor
namespace Go.Proofs.YtnmeohacdbmplaaGreatDoor
open Go.RowKit
def fd1 (m : Mv) : Bool := !(numB m.i && numB m.b && numB m.l && numB m.ba && numB m.pr)
def fd2 (m : Mv) (A : Bool) : Bool := A && (decide (m.l < 1) || decide (16384 < m.l))
def fd3 (m : Mv) : Bool := m.k != 1000 || (decide (64 ≤ m.i) && decide (m.i ≤ 255))
def fdR (m : Mv) : Bool := !fd1 m && !fd2 m (asksB m.k) && fd3 m
def kE (k : Int) : Bool := k != -1 && k != 1000 && !knownB k
def szb (m : Mv) (nd nh : Nat) : Bool := (m.k == 5 && decide (8192 < nd)) || (m.k == 7 && (decide (nd < 1) || decide (16384 < nd))) || (m.k == 1000 && decide (32767 < nd)) || (m.k == 22 && decide (560 < nh))
/-- what the reference says of a message -/
def refE (m : Mv) : Int := if kE m.k then 110 else if fR m then 113 else if fdR m then (if szb m (sln m.d) (sln m.h) then 111 else 0) else 112
end Go.Proofs.YtnmeohacdbmplaaGreatDoor
namespace Go.Proofs.YtnmeohacdbmplaaGreatDoor
open Go.RowKit
theorem rowFor_lit : rowFor (-1) = some ⟨-1, 0, 0, 1, [0, 0, 0, 0, 0, 0, 0]⟩ ∧ rowFor 0 = some ⟨0, 1, 1, 1, [1, 0, 0, 0, 0, 0, 0]⟩ ∧ rowFor 1 = some ⟨1, 1, 1, 1, [1, 0, 0, 0, 0, 0, 0]⟩ ∧ rowFor 2 = some ⟨2, 1, 1, 1, [1, 0, 0, 0, 0, 0, 0]⟩ ∧ rowFor 3 = some ⟨3, 1, 1, 1, [1, 0, 0, 0, 0, 0, 0]⟩ ∧ rowFor 4 = some ⟨4, 5, 5, 1, [1, 3, 0, 0, 0, 0, 0]⟩ ∧ rowFor 5 = some ⟨5, 1, 8193, 1, [1, 10, 0, 0, 0, 0, 0]⟩ ∧ rowFor 6 = some ⟨6, 13, 13, 1, [1, 3, 4, 6, 0, 0, 0]⟩ ∧ rowFor 7 = some ⟨7, 10, 16393, 1, [1, 3, 4, 10, 0, 0, 0]⟩ ∧ rowFor 8 = some ⟨8, 13, 13, 1, [1, 3, 4, 6, 0, 0, 0]⟩ ∧ rowFor 21 = some ⟨21, 49, 49, 1, [1, 7, 8, 3, 5, 9, 0]⟩ ∧ rowFor 22 = some ⟨22, 49, 17969, 32, [1, 7, 8, 3, 5, 9, 11]⟩ ∧ rowFor 23 = some ⟨23, 49, 49, 1, [1, 7, 8, 3, 5, 9, 0]⟩ ∧ rowFor 1000 = some ⟨1000, 1, 32768, 1, [2, 10, 0, 0, 0, 0, 0]⟩ := by
  refine ⟨rfl, rfl, rfl, rfl, rfl, rfl, rfl, rfl, rfl, rfl, rfl, rfl, rfl, rfl⟩
theorem kE_cases (k : Int) (h : kE k = false) : k = -1 ∨ k = 0 ∨ k = 1 ∨ k = 2 ∨ k = 3 ∨ k = 4 ∨ k = 5 ∨ k = 6 ∨ k = 7 ∨ k = 8 ∨ k = 21 ∨ k = 22 ∨ k = 23 ∨ k = 1000 := by
  simp [kE, knownB] at h
  omega
theorem rowFor_kE (k : Int) (h : kE k = true) : rowFor k = none := by
  unfold rowFor
  rw [List.find?_eq_none]
  intro r hr hk
  have hk' : r.k = k := by simpa using hk
  subst hk'
  have : ∀ r ∈ rws, kE r.k = false := by decide
  rw [this r hr] at h
  cases h
set_option maxHeartbeats 1000000 in
theorem val_0 (m : Mv) (h : m.k = -1) : (if fR m then (113 : Int) else if fdR m then (if szb m (sln m.d) (sln m.h) then 111 else 0) else 112) = (if frn (blks [] m) then 113 else if lks [] m then (if (⟨-1, 0, 0, 1, [0, 0, 0, 0, 0, 0, 0]⟩ : Kr).fit (szs [] m : Nat) then 0 else 111) else 112) := by
  have e1 : fR m = frn (blks [] m) := by
    rw [Bool.eq_iff_iff]
    simp [fR, fc1, fc2, fc3, fc4, fc5, fc6, asksB, queryB, h, blks, blk, frn, sln] <;> grind
  rw [← e1]
  cases hf : fR m with
  | true => rfl
  | false =>
    rw [e1] at hf
    simp [blks, blk, frn, sln] at hf
    have e2 : fdR m = lks [] m := by
      rw [Bool.eq_iff_iff]
      simp [fdR, fd1, fd2, fd3, numB, asksB, h, lks, lk, rng] <;> omega
    have e3 : szb m (sln m.d) (sln m.h) = !(⟨-1, 0, 0, 1, [0, 0, 0, 0, 0, 0, 0]⟩ : Kr).fit (szs [] m : Nat) := by
      rw [Bool.eq_iff_iff]
      simp [szb, h, Kr.fit, szs, sz] <;> omega
    rw [e2, e3]
    cases lks [] m <;> cases (⟨-1, 0, 0, 1, [0, 0, 0, 0, 0, 0, 0]⟩ : Kr).fit (szs [] m : Nat) <;> rfl
set_option maxHeartbeats 1000000 in
theorem val_1 (m : Mv) (h : m.k = 0) : (if fR m then (113 : Int) else if fdR m then (if szb m (sln m.d) (sln m.h) then 111 else 0) else 112) = (if frn (blks [1] m) then 113 else if lks [1] m then (if (⟨0, 1, 1, 1, [1, 0, 0, 0, 0, 0, 0]⟩ : Kr).fit (szs [1] m : Nat) then 0 else 111) else 112) := by
  have e1 : fR m = frn (blks [1] m) := by
    rw [Bool.eq_iff_iff]
    simp [fR, fc1, fc2, fc3, fc4, fc5, fc6, asksB, queryB, h, blks, blk, frn, sln] <;> grind
  rw [← e1]
  cases hf : fR m with
  | true => rfl
  | false =>
    rw [e1] at hf
    simp [blks, blk, frn, sln] at hf
    have e2 : fdR m = lks [1] m := by
      rw [Bool.eq_iff_iff]
      simp [fdR, fd1, fd2, fd3, numB, asksB, h, lks, lk, rng] <;> omega
    have e3 : szb m (sln m.d) (sln m.h) = !(⟨0, 1, 1, 1, [1, 0, 0, 0, 0, 0, 0]⟩ : Kr).fit (szs [1] m : Nat) := by
      rw [Bool.eq_iff_iff]
      simp [szb, h, Kr.fit, szs, sz] <;> omega
    rw [e2, e3]
    cases lks [1] m <;> cases (⟨0, 1, 1, 1, [1, 0, 0, 0, 0, 0, 0]⟩ : Kr).fit (szs [1] m : Nat) <;> rfl
set_option maxHeartbeats 1000000 in
theorem val_2 (m : Mv) (h : m.k = 1) : (if fR m then (113 : Int) else if fdR m then (if szb m (sln m.d) (sln m.h) then 111 else 0) else 112) = (if frn (blks [1] m) then 113 else if lks [1] m then (if (⟨1, 1, 1, 1, [1, 0, 0, 0, 0, 0, 0]⟩ : Kr).fit (szs [1] m : Nat) then 0 else 111) else 112) := by
  have e1 : fR m = frn (blks [1] m) := by
    rw [Bool.eq_iff_iff]
    simp [fR, fc1, fc2, fc3, fc4, fc5, fc6, asksB, queryB, h, blks, blk, frn, sln] <;> grind
  rw [← e1]
  cases hf : fR m with
  | true => rfl
  | false =>
    rw [e1] at hf
    simp [blks, blk, frn, sln] at hf
    have e2 : fdR m = lks [1] m := by
      rw [Bool.eq_iff_iff]
      simp [fdR, fd1, fd2, fd3, numB, asksB, h, lks, lk, rng] <;> omega
    have e3 : szb m (sln m.d) (sln m.h) = !(⟨1, 1, 1, 1, [1, 0, 0, 0, 0, 0, 0]⟩ : Kr).fit (szs [1] m : Nat) := by
      rw [Bool.eq_iff_iff]
      simp [szb, h, Kr.fit, szs, sz] <;> omega
    rw [e2, e3]
    cases lks [1] m <;> cases (⟨1, 1, 1, 1, [1, 0, 0, 0, 0, 0, 0]⟩ : Kr).fit (szs [1] m : Nat) <;> rfl
set_option maxHeartbeats 1000000 in
theorem val_3 (m : Mv) (h : m.k = 2) : (if fR m then (113 : Int) else if fdR m then (if szb m (sln m.d) (sln m.h) then 111 else 0) else 112) = (if frn (blks [1] m) then 113 else if lks [1] m then (if (⟨2, 1, 1, 1, [1, 0, 0, 0, 0, 0, 0]⟩ : Kr).fit (szs [1] m : Nat) then 0 else 111) else 112) := by
  have e1 : fR m = frn (blks [1] m) := by
    rw [Bool.eq_iff_iff]
    simp [fR, fc1, fc2, fc3, fc4, fc5, fc6, asksB, queryB, h, blks, blk, frn, sln] <;> grind
  rw [← e1]
  cases hf : fR m with
  | true => rfl
  | false =>
    rw [e1] at hf
    simp [blks, blk, frn, sln] at hf
    have e2 : fdR m = lks [1] m := by
      rw [Bool.eq_iff_iff]
      simp [fdR, fd1, fd2, fd3, numB, asksB, h, lks, lk, rng] <;> omega
    have e3 : szb m (sln m.d) (sln m.h) = !(⟨2, 1, 1, 1, [1, 0, 0, 0, 0, 0, 0]⟩ : Kr).fit (szs [1] m : Nat) := by
      rw [Bool.eq_iff_iff]
      simp [szb, h, Kr.fit, szs, sz] <;> omega
    rw [e2, e3]
    cases lks [1] m <;> cases (⟨2, 1, 1, 1, [1, 0, 0, 0, 0, 0, 0]⟩ : Kr).fit (szs [1] m : Nat) <;> rfl
set_option maxHeartbeats 1000000 in
theorem val_4 (m : Mv) (h : m.k = 3) : (if fR m then (113 : Int) else if fdR m then (if szb m (sln m.d) (sln m.h) then 111 else 0) else 112) = (if frn (blks [1] m) then 113 else if lks [1] m then (if (⟨3, 1, 1, 1, [1, 0, 0, 0, 0, 0, 0]⟩ : Kr).fit (szs [1] m : Nat) then 0 else 111) else 112) := by
  have e1 : fR m = frn (blks [1] m) := by
    rw [Bool.eq_iff_iff]
    simp [fR, fc1, fc2, fc3, fc4, fc5, fc6, asksB, queryB, h, blks, blk, frn, sln] <;> grind
  rw [← e1]
  cases hf : fR m with
  | true => rfl
  | false =>
    rw [e1] at hf
    simp [blks, blk, frn, sln] at hf
    have e2 : fdR m = lks [1] m := by
      rw [Bool.eq_iff_iff]
      simp [fdR, fd1, fd2, fd3, numB, asksB, h, lks, lk, rng] <;> omega
    have e3 : szb m (sln m.d) (sln m.h) = !(⟨3, 1, 1, 1, [1, 0, 0, 0, 0, 0, 0]⟩ : Kr).fit (szs [1] m : Nat) := by
      rw [Bool.eq_iff_iff]
      simp [szb, h, Kr.fit, szs, sz] <;> omega
    rw [e2, e3]
    cases lks [1] m <;> cases (⟨3, 1, 1, 1, [1, 0, 0, 0, 0, 0, 0]⟩ : Kr).fit (szs [1] m : Nat) <;> rfl
set_option maxHeartbeats 1000000 in
theorem val_5 (m : Mv) (h : m.k = 4) : (if fR m then (113 : Int) else if fdR m then (if szb m (sln m.d) (sln m.h) then 111 else 0) else 112) = (if frn (blks [1, 3] m) then 113 else if lks [1, 3] m then (if (⟨4, 5, 5, 1, [1, 3, 0, 0, 0, 0, 0]⟩ : Kr).fit (szs [1, 3] m : Nat) then 0 else 111) else 112) := by
  have e1 : fR m = frn (blks [1, 3] m) := by
    rw [Bool.eq_iff_iff]
    simp [fR, fc1, fc2, fc3, fc4, fc5, fc6, asksB, queryB, h, blks, blk, frn, sln] <;> grind
  rw [← e1]
  cases hf : fR m with
  | true => rfl
  | false =>
    rw [e1] at hf
    simp [blks, blk, frn, sln] at hf
    have e2 : fdR m = lks [1, 3] m := by
      rw [Bool.eq_iff_iff]
      simp [fdR, fd1, fd2, fd3, numB, asksB, h, lks, lk, rng] <;> omega
    have e3 : szb m (sln m.d) (sln m.h) = !(⟨4, 5, 5, 1, [1, 3, 0, 0, 0, 0, 0]⟩ : Kr).fit (szs [1, 3] m : Nat) := by
      rw [Bool.eq_iff_iff]
      simp [szb, h, Kr.fit, szs, sz] <;> omega
    rw [e2, e3]
    cases lks [1, 3] m <;> cases (⟨4, 5, 5, 1, [1, 3, 0, 0, 0, 0, 0]⟩ : Kr).fit (szs [1, 3] m : Nat) <;> rfl
set_option maxHeartbeats 1000000 in
theorem val_6 (m : Mv) (h : m.k = 5) : (if fR m then (113 : Int) else if fdR m then (if szb m (sln m.d) (sln m.h) then 111 else 0) else 112) = (if frn (blks [1, 10] m) then 113 else if lks [1, 10] m then (if (⟨5, 1, 8193, 1, [1, 10, 0, 0, 0, 0, 0]⟩ : Kr).fit (szs [1, 10] m : Nat) then 0 else 111) else 112) := by
  have e1 : fR m = frn (blks [1, 10] m) := by
    rw [Bool.eq_iff_iff]
    simp [fR, fc1, fc2, fc3, fc4, fc5, fc6, asksB, queryB, h, blks, blk, frn, sln] <;> grind
  rw [← e1]
  cases hf : fR m with
  | true => rfl
  | false =>
    rw [e1] at hf
    simp [blks, blk, frn, sln] at hf
    have e2 : fdR m = lks [1, 10] m := by
      rw [Bool.eq_iff_iff]
      simp [fdR, fd1, fd2, fd3, numB, asksB, h, lks, lk, rng] <;> omega
    have e3 : szb m (sln m.d) (sln m.h) = !(⟨5, 1, 8193, 1, [1, 10, 0, 0, 0, 0, 0]⟩ : Kr).fit (szs [1, 10] m : Nat) := by
      rw [Bool.eq_iff_iff]
      simp [szb, h, Kr.fit, szs, sz] <;> omega
    rw [e2, e3]
    cases lks [1, 10] m <;> cases (⟨5, 1, 8193, 1, [1, 10, 0, 0, 0, 0, 0]⟩ : Kr).fit (szs [1, 10] m : Nat) <;> rfl
set_option maxHeartbeats 1000000 in
theorem val_7 (m : Mv) (h : m.k = 6) : (if fR m then (113 : Int) else if fdR m then (if szb m (sln m.d) (sln m.h) then 111 else 0) else 112) = (if frn (blks [1, 3, 4, 6] m) then 113 else if lks [1, 3, 4, 6] m then (if (⟨6, 13, 13, 1, [1, 3, 4, 6, 0, 0, 0]⟩ : Kr).fit (szs [1, 3, 4, 6] m : Nat) then 0 else 111) else 112) := by
  have e1 : fR m = frn (blks [1, 3, 4, 6] m) := by
    rw [Bool.eq_iff_iff]
    simp [fR, fc1, fc2, fc3, fc4, fc5, fc6, asksB, queryB, h, blks, blk, frn, sln] <;> grind
  rw [← e1]
  cases hf : fR m with
  | true => rfl
  | false =>
    rw [e1] at hf
    simp [blks, blk, frn, sln] at hf
    have e2 : fdR m = lks [1, 3, 4, 6] m := by
      rw [Bool.eq_iff_iff]
      simp [fdR, fd1, fd2, fd3, numB, asksB, h, lks, lk, rng] <;> omega
    have e3 : szb m (sln m.d) (sln m.h) = !(⟨6, 13, 13, 1, [1, 3, 4, 6, 0, 0, 0]⟩ : Kr).fit (szs [1, 3, 4, 6] m : Nat) := by
      rw [Bool.eq_iff_iff]
      simp [szb, h, Kr.fit, szs, sz] <;> omega
    rw [e2, e3]
    cases lks [1, 3, 4, 6] m <;> cases (⟨6, 13, 13, 1, [1, 3, 4, 6, 0, 0, 0]⟩ : Kr).fit (szs [1, 3, 4, 6] m : Nat) <;> rfl
set_option maxHeartbeats 1000000 in
theorem val_8 (m : Mv) (h : m.k = 7) : (if fR m then (113 : Int) else if fdR m then (if szb m (sln m.d) (sln m.h) then 111 else 0) else 112) = (if frn (blks [1, 3, 4, 10] m) then 113 else if lks [1, 3, 4, 10] m then (if (⟨7, 10, 16393, 1, [1, 3, 4, 10, 0, 0, 0]⟩ : Kr).fit (szs [1, 3, 4, 10] m : Nat) then 0 else 111) else 112) := by
  have e1 : fR m = frn (blks [1, 3, 4, 10] m) := by
    rw [Bool.eq_iff_iff]
    simp [fR, fc1, fc2, fc3, fc4, fc5, fc6, asksB, queryB, h, blks, blk, frn, sln] <;> grind
  rw [← e1]
  cases hf : fR m with
  | true => rfl
  | false =>
    rw [e1] at hf
    simp [blks, blk, frn, sln] at hf
    have e2 : fdR m = lks [1, 3, 4, 10] m := by
      rw [Bool.eq_iff_iff]
      simp [fdR, fd1, fd2, fd3, numB, asksB, h, lks, lk, rng] <;> omega
    have e3 : szb m (sln m.d) (sln m.h) = !(⟨7, 10, 16393, 1, [1, 3, 4, 10, 0, 0, 0]⟩ : Kr).fit (szs [1, 3, 4, 10] m : Nat) := by
      rw [Bool.eq_iff_iff]
      simp [szb, h, Kr.fit, szs, sz] <;> omega
    rw [e2, e3]
    cases lks [1, 3, 4, 10] m <;> cases (⟨7, 10, 16393, 1, [1, 3, 4, 10, 0, 0, 0]⟩ : Kr).fit (szs [1, 3, 4, 10] m : Nat) <;> rfl
set_option maxHeartbeats 1000000 in
theorem val_9 (m : Mv) (h : m.k = 8) : (if fR m then (113 : Int) else if fdR m then (if szb m (sln m.d) (sln m.h) then 111 else 0) else 112) = (if frn (blks [1, 3, 4, 6] m) then 113 else if lks [1, 3, 4, 6] m then (if (⟨8, 13, 13, 1, [1, 3, 4, 6, 0, 0, 0]⟩ : Kr).fit (szs [1, 3, 4, 6] m : Nat) then 0 else 111) else 112) := by
  have e1 : fR m = frn (blks [1, 3, 4, 6] m) := by
    rw [Bool.eq_iff_iff]
    simp [fR, fc1, fc2, fc3, fc4, fc5, fc6, asksB, queryB, h, blks, blk, frn, sln] <;> grind
  rw [← e1]
  cases hf : fR m with
  | true => rfl
  | false =>
    rw [e1] at hf
    simp [blks, blk, frn, sln] at hf
    have e2 : fdR m = lks [1, 3, 4, 6] m := by
      rw [Bool.eq_iff_iff]
      simp [fdR, fd1, fd2, fd3, numB, asksB, h, lks, lk, rng] <;> omega
    have e3 : szb m (sln m.d) (sln m.h) = !(⟨8, 13, 13, 1, [1, 3, 4, 6, 0, 0, 0]⟩ : Kr).fit (szs [1, 3, 4, 6] m : Nat) := by
      rw [Bool.eq_iff_iff]
      simp [szb, h, Kr.fit, szs, sz] <;> omega
    rw [e2, e3]
    cases lks [1, 3, 4, 6] m <;> cases (⟨8, 13, 13, 1, [1, 3, 4, 6, 0, 0, 0]⟩ : Kr).fit (szs [1, 3, 4, 6] m : Nat) <;> rfl
set_option maxHeartbeats 1000000 in
theorem val_10 (m : Mv) (h : m.k = 21) : (if fR m then (113 : Int) else if fdR m then (if szb m (sln m.d) (sln m.h) then 111 else 0) else 112) = (if frn (blks [1, 7, 8, 3, 5, 9] m) then 113 else if lks [1, 7, 8, 3, 5, 9] m then (if (⟨21, 49, 49, 1, [1, 7, 8, 3, 5, 9, 0]⟩ : Kr).fit (szs [1, 7, 8, 3, 5, 9] m : Nat) then 0 else 111) else 112) := by
  have e1 : fR m = frn (blks [1, 7, 8, 3, 5, 9] m) := by
    rw [Bool.eq_iff_iff]
    simp [fR, fc1, fc2, fc3, fc4, fc5, fc6, asksB, queryB, h, blks, blk, frn, sln] <;> grind
  rw [← e1]
  cases hf : fR m with
  | true => rfl
  | false =>
    rw [e1] at hf
    simp [blks, blk, frn, sln] at hf
    have e2 : fdR m = lks [1, 7, 8, 3, 5, 9] m := by
      rw [Bool.eq_iff_iff]
      simp [fdR, fd1, fd2, fd3, numB, asksB, h, lks, lk, rng] <;> omega
    have e3 : szb m (sln m.d) (sln m.h) = !(⟨21, 49, 49, 1, [1, 7, 8, 3, 5, 9, 0]⟩ : Kr).fit (szs [1, 7, 8, 3, 5, 9] m : Nat) := by
      rw [Bool.eq_iff_iff]
      simp [szb, h, Kr.fit, szs, sz] <;> omega
    rw [e2, e3]
    cases lks [1, 7, 8, 3, 5, 9] m <;> cases (⟨21, 49, 49, 1, [1, 7, 8, 3, 5, 9, 0]⟩ : Kr).fit (szs [1, 7, 8, 3, 5, 9] m : Nat) <;> rfl
set_option maxHeartbeats 1000000 in
theorem val_11 (m : Mv) (h : m.k = 22) : (if fR m then (113 : Int) else if fdR m then (if szb m (sln m.d) (sln m.h) then 111 else 0) else 112) = (if frn (blks [1, 7, 8, 3, 5, 9, 11] m) then 113 else if lks [1, 7, 8, 3, 5, 9, 11] m then (if (⟨22, 49, 17969, 32, [1, 7, 8, 3, 5, 9, 11]⟩ : Kr).fit (szs [1, 7, 8, 3, 5, 9, 11] m : Nat) then 0 else 111) else 112) := by
  have e1 : fR m = frn (blks [1, 7, 8, 3, 5, 9, 11] m) := by
    rw [Bool.eq_iff_iff]
    simp [fR, fc1, fc2, fc3, fc4, fc5, fc6, asksB, queryB, h, blks, blk, frn, sln] <;> grind
  rw [← e1]
  cases hf : fR m with
  | true => rfl
  | false =>
    rw [e1] at hf
    simp [blks, blk, frn, sln] at hf
    have e2 : fdR m = lks [1, 7, 8, 3, 5, 9, 11] m := by
      rw [Bool.eq_iff_iff]
      simp [fdR, fd1, fd2, fd3, numB, asksB, h, lks, lk, rng] <;> omega
    have e3 : szb m (sln m.d) (sln m.h) = !(⟨22, 49, 17969, 32, [1, 7, 8, 3, 5, 9, 11]⟩ : Kr).fit (szs [1, 7, 8, 3, 5, 9, 11] m : Nat) := by
      rw [Bool.eq_iff_iff]
      simp [szb, h, Kr.fit, szs, sz] <;> omega
    rw [e2, e3]
    cases lks [1, 7, 8, 3, 5, 9, 11] m <;> cases (⟨22, 49, 17969, 32, [1, 7, 8, 3, 5, 9, 11]⟩ : Kr).fit (szs [1, 7, 8, 3, 5, 9, 11] m : Nat) <;> rfl
set_option maxHeartbeats 1000000 in
theorem val_12 (m : Mv) (h : m.k = 23) : (if fR m then (113 : Int) else if fdR m then (if szb m (sln m.d) (sln m.h) then 111 else 0) else 112) = (if frn (blks [1, 7, 8, 3, 5, 9] m) then 113 else if lks [1, 7, 8, 3, 5, 9] m then (if (⟨23, 49, 49, 1, [1, 7, 8, 3, 5, 9, 0]⟩ : Kr).fit (szs [1, 7, 8, 3, 5, 9] m : Nat) then 0 else 111) else 112) := by
  have e1 : fR m = frn (blks [1, 7, 8, 3, 5, 9] m) := by
    rw [Bool.eq_iff_iff]
    simp [fR, fc1, fc2, fc3, fc4, fc5, fc6, asksB, queryB, h, blks, blk, frn, sln] <;> grind
  rw [← e1]
  cases hf : fR m with
  | true => rfl
  | false =>
    rw [e1] at hf
    simp [blks, blk, frn, sln] at hf
    have e2 : fdR m = lks [1, 7, 8, 3, 5, 9] m := by
      rw [Bool.eq_iff_iff]
      simp [fdR, fd1, fd2, fd3, numB, asksB, h, lks, lk, rng] <;> omega
    have e3 : szb m (sln m.d) (sln m.h) = !(⟨23, 49, 49, 1, [1, 7, 8, 3, 5, 9, 0]⟩ : Kr).fit (szs [1, 7, 8, 3, 5, 9] m : Nat) := by
      rw [Bool.eq_iff_iff]
      simp [szb, h, Kr.fit, szs, sz] <;> omega
    rw [e2, e3]
    cases lks [1, 7, 8, 3, 5, 9] m <;> cases (⟨23, 49, 49, 1, [1, 7, 8, 3, 5, 9, 0]⟩ : Kr).fit (szs [1, 7, 8, 3, 5, 9] m : Nat) <;> rfl
set_option maxHeartbeats 1000000 in
theorem val_13 (m : Mv) (h : m.k = 1000) : (if fR m then (113 : Int) else if fdR m then (if szb m (sln m.d) (sln m.h) then 111 else 0) else 112) = (if frn (blks [2, 10] m) then 113 else if lks [2, 10] m then (if (⟨1000, 1, 32768, 1, [2, 10, 0, 0, 0, 0, 0]⟩ : Kr).fit (szs [2, 10] m : Nat) then 0 else 111) else 112) := by
  have e1 : fR m = frn (blks [2, 10] m) := by
    rw [Bool.eq_iff_iff]
    simp [fR, fc1, fc2, fc3, fc4, fc5, fc6, asksB, queryB, h, blks, blk, frn, sln] <;> grind
  rw [← e1]
  cases hf : fR m with
  | true => rfl
  | false =>
    rw [e1] at hf
    simp [blks, blk, frn, sln] at hf
    have e2 : fdR m = lks [2, 10] m := by
      rw [Bool.eq_iff_iff]
      simp [fdR, fd1, fd2, fd3, numB, asksB, h, lks, lk, rng] <;> omega
    have e3 : szb m (sln m.d) (sln m.h) = !(⟨1000, 1, 32768, 1, [2, 10, 0, 0, 0, 0, 0]⟩ : Kr).fit (szs [2, 10] m : Nat) := by
      rw [Bool.eq_iff_iff]
      simp [szb, h, Kr.fit, szs, sz] <;> omega
    rw [e2, e3]
    cases lks [2, 10] m <;> cases (⟨1000, 1, 32768, 1, [2, 10, 0, 0, 0, 0, 0]⟩ : Kr).fit (szs [2, 10] m : Nat) <;> rfl
/-- the program and the reference say the same of a message -/
theorem ref_val (m : Mv) : refE m = valE m := by
  unfold refE valE
  cases hk : kE m.k with
  | true => rw [rowFor_kE _ hk]; rfl
  | false =>
    obtain ⟨r0, r1, r2, r3, r4, r5, r6, r7, r8, r9, r10, r11, r12, r13⟩ := rowFor_lit
    rcases kE_cases _ hk with h | h | h | h | h | h | h | h | h | h | h | h | h | h
    · rw [h, r0]; exact val_0 m h
    · rw [h, r1]; exact val_1 m h
    · rw [h, r2]; exact val_2 m h
    · rw [h, r3]; exact val_3 m h
    · rw [h, r4]; exact val_4 m h
    · rw [h, r5]; exact val_5 m h
    · rw [h, r6]; exact val_6 m h
    · rw [h, r7]; exact val_7 m h
    · rw [h, r8]; exact val_8 m h
    · rw [h, r9]; exact val_9 m h
    · rw [h, r10]; exact val_10 m h
    · rw [h, r11]; exact val_11 m h
    · rw [h, r12]; exact val_12 m h
    · rw [h, r13]; exact val_13 m h
end Go.Proofs.YtnmeohacdbmplaaGreatDoor
namespace Go.Proofs.YtnmeohacdbmplaaGreatDoor
open Go.RowKit
/-- the slice v of hashes reads as these bytes -/
def RH (w : World) (v : Value) (l : List UInt8) : Prop :=
  ∃ a n c, v = .slice a n c ∧ l.length = n * 32 ∧ n ≤ c ∧ (n = 0 ∨ ∃ g o, a = some ⟨g, o, none⟩ ∧ g < w.heap.size ∧ ∀ i, i < l.length → w.cell? ⟨g, o + i, none⟩ = some (.int .u8 ((byt l i).toNat : Int)))
theorem RH.keep {w w' : World} {v : Value} {l : List UInt8} (h : RH w v l) (hb : Below w.heap.size w w') : RH w' v l := by
  obtain ⟨a, n, c, rfl, hl, hle, h⟩ := h
  refine ⟨a, n, c, rfl, hl, hle, ?_⟩
  rcases h with h | ⟨g, o, h1, h2, h3⟩
  · exact .inl h
  · exact .inr ⟨g, o, h1, Nat.lt_of_lt_of_le h2 hb.size, fun i hi => (World.cell?_of_block (w := w) (hb.block g h2)).trans (h3 i hi)⟩
/-- an own list of hashes -/
def OH (B : Nat) (w : World) (v : Value) (l : List UInt8) : Prop := ∃ n, l.length = n * 32 ∧ w.ownsRow B 25 32 v n (Lib.byteCells l)
theorem OH.nil (B : Nat) (w : World) : OH B w (.slice none 0 0) [] := ⟨0, rfl, World.ownsRow_nil _ _ _ _⟩
theorem OH.rh {B : Nat} {w : World} {v : Value} {l : List UInt8} (h : OH B w v l) : RH w v l := by
  obtain ⟨n, hl, ho⟩ := h
  have ho' := ho
  rcases ho.2 with ⟨rfl, h0⟩ | ⟨g, cap, cur, rfl, _, hg, hle, _⟩
  · exact ⟨none, 0, 0, rfl, by rw [hl, h0], Nat.le_refl _, .inl rfl⟩
  · refine ⟨_, n, cap, rfl, hl, hle, .inr ⟨g, 0, rfl, (Array.getElem?_eq_some_iff.1 hg).1, fun i hi => ?_⟩⟩
    have := World.ownsRow.cellAt ho' i (by omega)
    rw [Nat.zero_add, this, getD_byt l i hi]
    simp [Lib.byteCells, List.getElem?_eq_getElem hi]
theorem info_hashP : (Tryz.prog.info? 25).map (fun i => (i.zero, i.size, i.bytes)) = some (some (.agg (bc (zr 32))), 32, 32) := by kernel_rfl
theorem append_none_hash {w : World} (ty : TypeId) (c : Nat) :
    (Builtin.append_ #[45, 45] ty #[.slice none 0 0, .slice none 0 c]).run Tryz.prog w = .ok (.slice none 0 0) w := by
  obtain ⟨i0, hi, hz0, hz1, hz2⟩ := info_parts info_hashP
  simp [Builtin.append_, run_underlying Tryz.underlying45, sizeOf, typeInfo, hi, Builtin.lenOf, Builtin.firstCells]
/-- append(nil, hashes...) -/
theorem append_hashes {ops : Array Oper} {rest : List Oper} {o : Oper} {a : Act} {Q : Exit → Act → World → Prop} {w : World} {xv : Value} {l : List UInt8} (hgd : o.guard = none) (s x : Operand)
    (ho : o.op = .call { callee := .builtin .append, args := #[s, x], argTypes := #[45, 45] }) (hs : a.eval s = .slice none 0 0) (hx : a.eval x = xv)
    (hr : RH w xv l) (hlim : l.length ≤ 140737488351232)
    (h : ∀ v' w', OH w.heap.size w' v' l → Below w.heap.size w w' → wpList Tryz.prog ops Q rest (a.put o.dst v') w') : wpList Tryz.prog ops Q (o :: rest) a w := by
  obtain ⟨i0, hi, hz0, hz1, hz2⟩ := info_parts info_hashP
  obtain ⟨ad, n, c, rfl, hl, _, hr⟩ := hr
  have hown : w.ownsRow w.heap.size 25 32 (.slice none 0 0) 0 [] := World.ownsRow_nil _ _ _ _
  have key : ∀ (b : Addr), ad = some b → (∀ j, j < l.length → w.cell? (b.add j) = some (.int .u8 ((byt l j).toNat : Int))) → wpList Tryz.prog ops Q (o :: rest) a w := by
    rintro b rfl hc
    refine wpList_append_own w hgd s x 45 ho w.heap.size 25 i0 _ 32 32 Tryz.underlying45 hi hz0 hz1 hz2 rfl (by omega) _ 0 [] hs hown b n c (Lib.byteCells l) hx (by rw [bcl_len]; exact hl) (fun j u hu => ?_) (Lib.byteCells_one _) (by unfold maxLen; omega) (by omega) (Nat.le_refl _) (fun v' w' h1 h2 _ => ?_)
    · have hj' : j < l.length := by
        have := (List.getElem?_eq_some_iff.1 hu).1
        rwa [bcl_len] at this
      rw [hc j hj', getD_byt l j hj']
      simpa [Lib.byteCells, List.getElem?_eq_getElem hj'] using hu
    · refine h v' w' ⟨n, hl, ?_⟩ ((Below.refl _ w).grown h2 (Nat.le_refl _) (fun k hk => (World.ownsRow.lt hown k hk).1))
      simpa using h1
  rcases hr with rfl | ⟨b, off, rfl, _, hc⟩
  · have hl0 : l = [] := List.length_eq_zero_iff.1 (by omega)
    subst hl0
    cases ad with
    | none =>
      refine wpList_plain hgd fun K hK => ?_
      have hrun := append_none_hash (w := w) o.type c
      unfold Oper.wp
      simp [execOp, ho, resolve, invoke, builtin, hs, hx, hrun, Result.andThen]
      exact hK _ _ (h _ _ (OH.nil _ _) (Below.refl _ _))
    | some ad => exact key ad rfl (fun j hj => by simp at hj)
  · refine key ⟨b, off, none⟩ rfl (fun j hj => ?_)
    rw [Addr.add_mid]; exact hc j hj
theorem ownsRow_keepB {w w' : World} {B e size n : Nat} {v : Value} {xs : List Value} (h : w.ownsRow B e size v n xs) (hk : ∀ k, B ≤ k → k < w.heap.size → w'.heap[k]? = w.heap[k]?) : w'.ownsRow B e size v n xs := by
  refine ⟨h.1, ?_⟩
  rcases h.2 with h1 | ⟨g, cap, cur, h1, h2, h3, h4⟩
  · exact .inl h1
  · exact .inr ⟨g, cap, cur, h1, h2, (hk g h2 (Array.getElem?_eq_some_iff.1 h3).1).trans h3, h4⟩
theorem ownsRow_mono {w : World} {B B' e size n : Nat} {v : Value} {xs : List Value} (h : w.ownsRow B e size v n xs) (hb : B' ≤ B) : w.ownsRow B' e size v n xs := by
  refine ⟨h.1, ?_⟩
  rcases h.2 with h1 | ⟨g, cap, cur, h1, h2, h3⟩
  · exact .inl h1
  · exact .inr ⟨g, cap, cur, h1, Nat.le_trans hb h2, h3⟩
/-- a message in memory, with its data and its hashes -/
structure MM (w : World) (m : Mv) (D hb : List UInt8) : Prop where
  ok : m.ok
  d : RB w m.d D
  h : RH w m.h hb
  dl : D.length ≤ 140737488351232
  hl : hb.length ≤ 140737488351232
theorem MM.keep {w w' : World} {m : Mv} {D hb : List UInt8} (h : MM w m D hb) (hb' : Below w.heap.size w w') : MM w' m D hb := ⟨h.ok, h.d.keep hb', h.h.keep hb', h.dl, h.hl⟩
theorem MM.sd {w : World} {m : Mv} {D hb : List UInt8} (h : MM w m D hb) : sln m.d = D.length := by
  obtain ⟨a, c, e, _⟩ := h.d
  rw [e]; rfl
theorem MM.sh {w : World} {m : Mv} {D hb : List UInt8} (h : MM w m D hb) : hb.length = sln m.h * 32 := by
  obtain ⟨a, n, c, e, h2, _⟩ := h.h
  rw [e]; exact h2
theorem results_msg {fn : Func} {p : Tmp} (h : fn.results = #[.cell p 47]) (tmps : Array Value) (w : World) (g : Nat) (m : Mv)
    (hp : tmps.getD p undef = .pointer (some ⟨g, 0, none⟩)) (hg : MB w g m) (ok : m.ok) : (results fn tmps).run Tryz.prog w = .ok (.agg m.cs) w := by
  have hp' : tmps[p]?.getD undef = .pointer (some ⟨g, 0, none⟩) := by simpa using hp
  simp [results, h, hp', asAddr, run_loadVar_row w g 47 47 m.cs (0, 0) _ hg Tryz.underlying47 rfl (info_msg ok)]
/-- no message -/
def zm : Mv := ⟨0, 0, 0, 0, .slice none 0 0, zr 32, 0, 0, .slice none 0 0⟩
theorem zm_ok : zm.ok := ⟨zr_len 32, ⟨_, _, _, rfl⟩, ⟨_, _, _, rfl⟩⟩
theorem z40_eq : (#[Value.int .i64 0, Value.int .i64 0, Value.int .i64 0, Value.int .i64 0, Value.slice none 0 0, Value.int .u8 0, Value.int .u8 0, Value.int .u8 0, Value.int .u8 0, Value.int .u8 0, Value.int .u8 0, Value.int .u8 0, Value.int .u8 0, Value.int .u8 0, Value.int .u8 0, Value.int .u8 0, Value.int .u8 0, Value.int .u8 0, Value.int .u8 0, Value.int .u8 0, Value.int .u8 0, Value.int .u8 0, Value.int .u8 0, Value.int .u8 0, Value.int .u8 0, Value.int .u8 0, Value.int .u8 0, Value.int .u8 0, Value.int .u8 0, Value.int .u8 0, Value.int .u8 0, Value.int .u8 0, Value.int .u8 0, Value.int .u8 0, Value.int .u8 0, Value.int .u8 0, Value.int .u8 0, Value.int .i64 0, Value.int .i64 0, Value.slice none 0 0] : Array Value) = zm.cs := rfl
theorem MB.setRow {w : World} {g : Nat} {m m' : Mv} (h : MB w g m) : MB (w.setRow g m'.cs) g m' := heapSetRow _ _ _ _ _ h
end Go.Proofs.YtnmeohacdbmplaaGreatDoor
namespace Go.Proofs.YtnmeohacdbmplaaGreatDoor
open Go.RowKit
theorem drewN2 (w : World) (n m : Nat) : (w.drewN n).drewN m = w.drewN (n + m) := by
  simp [World.drewN, Nat.add_assoc]
theorem wpQuiet_hash {ops : Array Oper} {C : World → Prop} {Q : Act → Prop} {a : Act} {o : Oper} {rest : List Oper} (hw : Region.wanted o (yielded ops a.tmps) = true) (x : Operand) (ho : o.op = .load 25 x) (g k : Nat) (hx : a.eval x = .pointer (some ⟨g, k, none⟩)) (h : List UInt8) (hr : ∀ w', C w' → w'.rangeAt g k (Lib.byteCells h)) (hl : h.length = 32)
    (hn : wpQuiet Tryz.prog ops C Q rest (a.put o.dst (.agg (bc h)))) : wpQuiet Tryz.prog ops C Q (o :: rest) a := by
  refine wpQuiet_step (fun K hK => ?_)
  rw [if_pos hw]
  refine ⟨.agg (bc h), fun w' hC => ?_, hK _ hn⟩
  unfold Oper.quietAt
  have := run_loadAt_mid w' g k 25 (Lib.byteCells h) _ (hr w' hC) Tryz.underlying25 rfl (by rw [bcl_len, hl]; exact info_hash)
  unfold execOp
  simp only [ho, hx, Sem.run_bind, this, Result.andThen_ok, Sem.run_pure]
  exact ⟨rfl, rfl⟩
theorem bcl_get (l : List UInt8) (j : Nat) (hj : j < l.length) : (Lib.byteCells l)[j]? = some (.int .u8 ((byt l j).toNat : Int)) := by
  simp [Lib.byteCells, hj, getD_byt l j hj]
theorem RH.cut {w : World} {v : Value} {l : List UInt8} {a : Option Addr} {n c : Nat} (h : RH w v l) (hv : v = .slice a n c) (k : Nat) (hk : k < n) : ∃ g o, a = some ⟨g, o, none⟩ ∧ g < w.heap.size ∧ w.rangeAt g (o + k * 32) (Lib.byteCells ((l.drop (k * 32)).take 32)) ∧ ((l.drop (k * 32)).take 32).length = 32 := by
  obtain ⟨a', n', c', e, hl, _, h⟩ := h
  rw [hv] at e
  cases e
  rcases h with h | ⟨g, o, rfl, h2, h3⟩
  · omega
  · have hl32 : ((l.drop (k * 32)).take 32).length = 32 := by rw [List.length_take, List.length_drop]; omega
    refine ⟨g, o, rfl, h2, fun j y hj => ?_, hl32⟩
    have hj32 : j < 32 := by
      have := (List.getElem?_eq_some_iff.1 hj).1
      rw [bcl_len, hl32] at this; exact this
    have := h3 (k * 32 + j) (by omega)
    rw [← Nat.add_assoc] at this
    rw [this]
    have e2 : byt l (k * 32 + j) = byt ((l.drop (k * 32)).take 32) j := by rw [byt_take _ _ _ hj32, byt_drop]
    rw [e2, ← hj, bcl_get _ j (by omega)]
set_option maxHeartbeats 2000000 in
set_option maxRecDepth 100000 in
theorem msameT (w : World) (m n : Mv) (D hb : List UInt8) (hm : MM w m D hb) (hn : MM w n D hb) (he : n = { m with d := n.d, h := n.h }) :
    Calls Tryz.prog 18 #[.agg m.cs, .agg n.cs] w fun e w' => e = .returned (.bool true) ∧ Below w.heap.size w w' := by
  have C0 : ∃ X, (w.alloc (.cells m.cs 47)).alloc (.cells n.cs 47) = X ∧ MB X w.heap.size m ∧ MB X (w.heap.size + 1) n ∧ Below w.heap.size w X := by
    refine ⟨_, rfl, ?_, ?_, ((Below.refl _ _).alloc (Nat.le_refl _) _).alloc (by simp) _⟩
    · show (World.alloc _ _).heap[_]? = _
      rw [heapOld _ _ _ (by simp), heapNew]
    · exact heapLast _ _ (by simp)
  have HM : Hid (MM w m D hb ∧ MM w n D hb) := ⟨hm, hn⟩
  obtain ⟨d2, h2⟩ : ∃ d2 h2, n = { m with d := d2, h := h2 } := ⟨_, _, he⟩
  obtain ⟨h2, rfl⟩ := h2
  obtain ⟨ad, cd, ed, _⟩ := hm.d
  obtain ⟨ad2, cd2, ed2, _⟩ := hn.d
  obtain ⟨ah, nh, ch, eh, lh, _, _⟩ := hm.h
  obtain ⟨ah2, nh2, ch2, eh2, lh2, _, _⟩ := hn.h
  obtain rfl : nh2 = nh := by omega
  simp only at ed2 eh2
  subst ed2 eh2
  have hnl : nh2 * 32 ≤ 140737488351232 := by have := hm.hl; omega
  have ok := hm.ok
  have ok2 := hn.ok
  clear hm hn he lh lh2
  go_enter Tryz.func18, Tryz.ntmps18
  go_upto_region 1 with fail
  obtain ⟨X, hX, C0⟩ := C0
  rw [hX]
  clear hX
  generalize Mv.cs _ = mc1
  generalize Mv.cs _ = mc2
  have HX : Hid (Below w.heap.size w X ∧ MM X m D hb ∧ MM X { m with d := .slice ad2 D.length cd2, h := .slice ah2 nh2 ch2 } D hb) := ⟨C0.2.2, HM.out.1.keep C0.2.2, HM.out.2.keep C0.2.2⟩
  have c0 := C0.1.c0
  have c1 := C0.1.c1
  have c2 := C0.1.c2
  have c3 := C0.1.c3
  have c4 := C0.1.c4
  have c37 := C0.1.c37 ok
  have c38 := C0.1.c38 ok
  have c39 := C0.1.c39 ok
  have e0 : X.cell? ⟨w.heap.size + 1, 0, none⟩ = some (.int .i64 m.k) := C0.2.1.c0
  have e1 : X.cell? ⟨w.heap.size + 1, 1, none⟩ = some (.int .i64 m.i) := C0.2.1.c1
  have e2 : X.cell? ⟨w.heap.size + 1, 2, none⟩ = some (.int .i64 m.b) := C0.2.1.c2
  have e3 : X.cell? ⟨w.heap.size + 1, 3, none⟩ = some (.int .i64 m.l) := C0.2.1.c3
  have e4 : X.cell? ⟨w.heap.size + 1, 4, none⟩ = some (.slice ad2 D.length cd2) := C0.2.1.c4
  have e37 : X.cell? ⟨w.heap.size + 1, 37, none⟩ = some (.int .i64 m.ba) := C0.2.1.c37 ok2
  have e38 : X.cell? ⟨w.heap.size + 1, 38, none⟩ = some (.int .i64 m.pr) := C0.2.1.c38 ok2
  have e39 : X.cell? ⟨w.heap.size + 1, 39, none⟩ = some (.slice ah2 nh2 ch2) := C0.2.1.c39 ok2
  have r0 := C0.1.root
  have r1 : X.rangeAt (w.heap.size + 1) 5 (Lib.byteCells m.r) := C0.2.1.root
  have hih : (Tryz.prog.info? 25).map (·.size) = some (Lib.byteCells m.r).length := by rw [bcl_len, ok.r]; exact info_hash
  have hne : ∀ u : World, (Op.equalIn 10000 25 (.agg (Lib.byteCells m.r).toArray) (.agg (Lib.byteCells m.r).toArray)).run Tryz.prog u = .ok (decide (m.r = m.r)) u := fun u => equal_hash u 9998 m.r m.r ok.r ok.r
  rw [decide_eq_true rfl] at hne
  rw [ed] at c4
  rw [eh] at c39
  have HE : Hid (m.d = .slice ad D.length cd ∧ m.h = .slice ah nh2 ch) := ⟨ed, eh⟩
  clear ed eh C0 ok2 HM
  go_wp2_with (first | (refine wpList_load_mid rfl 25 _ rfl w.heap.size 5 rfl (Lib.byteCells m.r) _ r0 Tryz.underlying25 rfl hih ?_) | (refine wpList_load_mid rfl 25 _ rfl (w.heap.size + 1) 5 rfl (Lib.byteCells m.r) _ r1 Tryz.underlying25 rfl hih ?_) | (go_at_call 23; refine (same _ _ D X HX.out.2.1.dl (HE.out.1 ▸ HX.out.2.1.d) HX.out.2.2.d).mono ?_; rintro e w' ⟨rfl, nq, rfl⟩))
  clear hne r0 r1 hih c0 c1 c2 c3 c4 c37 c38 e0 e1 e2 e3 e4 e37 e38
  go_loopw [5] (fun t wr => ∃ k nn : Nat, k ≤ nh2 ∧ t = .int .i64 k ∧ wr = X.drewN nn) (fun t _ => nh2 - (intOf t).toNat)
  case atStart => exact ⟨0, nq, by omega, rfl, rfl⟩
  case round =>
    obtain ⟨k, nn, hk, rfl, rfl⟩ := hrel
    by_cases hlt : k < nh2
    · obtain ⟨G1, o1, rfl, _, r1, l1⟩ := RH.cut HX.out.2.1.h HE.out.2 k hlt
      obtain ⟨G2, o2, rfl, _, r2, _⟩ := RH.cut HX.out.2.2.h rfl k hlt
      have R1 : Hid (∀ n, (X.drewN n).rangeAt G1 (o1 + k * 32) (Lib.byteCells ((hb.drop (k * 32)).take 32))) := fun n => r1
      have R2 : Hid (∀ n, (X.drewN n).rangeAt G2 (o2 + k * 32) (Lib.byteCells ((hb.drop (k * 32)).take 32))) := fun n => r2
      have heq := fun u => equal_hash u 9998 ((hb.drop (k * 32)).take 32) ((hb.drop (k * 32)).take 32) l1 l1
      rw [decide_eq_true rfl] at heq
      have HL : Hid (((hb.drop (k * 32)).take 32).length = 32) := l1
      clear r1 r2 l1
      generalize (hb.drop (k * 32)).take 32 = h32 at *
      have hgd : Tryz.prog.eqGuardType Tryz.prog.depth 25 = false := by kernel_rfl
      go_wp2
      refine wp_region_quiet_lit (by kernel_rfl) (by kernel_rfl) ?_
      quiet_step (fail)
      quiet_step (fail)
      quiet_step (fail)
      quiet_step (fail)
      refine wpQuiet_hash rfl _ rfl G1 (o1 + k * 32) rfl h32 (fun w' hw' => by obtain ⟨m, rfl⟩ := hw'; rw [drewN2]; exact R1.out _) HL.out ?_
      quiet_step (fail)
      quiet_step (fail)
      quiet_step (fail)
      quiet_step (fail)
      refine wpQuiet_hash rfl _ rfl G2 (o2 + k * 32) rfl h32 (fun w' hw' => by obtain ⟨m, rfl⟩ := hw'; rw [drewN2]; exact R2.out _) HL.out ?_
      quiet_step (fail)
      refine wpQuiet_nil ?_
      intro _ hw'
      obtain ⟨nq, hw''⟩ := hw'
      subst hw''
      rw [drewN2]
      go_wp2
      exact ⟨⟨k + 1, _, by omega, by go_num, rfl⟩, by simp [intOf]; omega⟩
    · go_wp2
      go_ret
      exact ⟨rfl, belowN HX.out.1 _⟩
end Go.Proofs.YtnmeohacdbmplaaGreatDoor
namespace Go.Proofs.YtnmeohacdbmplaaGreatDoor
open Go.RowKit
theorem MM.big {w : World} {m : Mv} {D hb : List UInt8} (h : MM w m D hb) : sln m.h ≤ 140737488351232 ∧ sln m.d ≤ 140737488351232 := by
  have h1 := h.sh
  have h2 := h.sd
  have h3 := h.dl
  have h4 := h.hl
  omega
theorem wpList_load_msg {ops : Array Oper} {rest : List Oper} {o : Oper} {a : Act} {w : World} {Q : Exit → Act → World → Prop} (hw : Region.wanted o (yielded ops a.tmps) = true) (x : Operand) (ho : o.op = .load 47 x)
    (g : Nat) (hx : a.eval x = .pointer (some ⟨g, 0, none⟩)) (m : Mv) (hg : w.heap[g]? = some (.cells m.cs 47 (0, 0))) (hi : (Tryz.prog.info? 47).map (·.size) = some m.cs.size)
    (h : wpList Tryz.prog ops Q rest (a.put o.dst (.agg m.cs)) w) : wpList Tryz.prog ops Q (o :: rest) a w :=
  wpList_step fun K hK => by
    rw [if_pos hw]
    exact wp_load_row 47 x ho g hx 47 m.cs (0, 0) _ hg Tryz.underlying47 rfl hi (hK _ _ h)
theorem sz_same (m : Mv) (d h : Value) (e1 : sln d = sln m.d) (e2 : sln h = sln m.h) (c : Nat) : sz c { m with d := d, h := h } = sz c m := by
  unfold sz
  split <;> simp [e1, e2]
theorem lk_same (m : Mv) (d h : Value) (c : Nat) : lk c { m with d := d, h := h } = lk c m := by
  unfold lk
  split <;> rfl
theorem frn_same (m : Mv) (d h : Value) (e1 : sln d = sln m.d) (e2 : sln h = sln m.h) (cs : List Nat) : frn (blks cs { m with d := d, h := h }) = frn (blks cs m) := by
  suffices H : ∀ cs (m m' : Mv), m'.i = m.i → m'.b = m.b → m'.l = m.l → m'.ba = m.ba → m'.pr = m.pr → m'.r = m.r → sln m'.d = sln m.d → sln m'.h = sln m.h → frn (blks cs m') = frn (blks cs m) from H cs m _ rfl rfl rfl rfl rfl rfl e1 e2
  intro cs
  induction cs with
  | nil => intro m m' h1 h2 h3 h4 h5 h6 h7 h8; show frn m' = frn m; unfold frn; rw [h1, h2, h3, h4, h5, h6, h7, h8]
  | cons c l ih =>
    intro m m' h1 h2 h3 h4 h5 h6 h7 h8
    refine ih (blk c m) (blk c m') ?_ ?_ ?_ ?_ ?_ ?_ ?_ ?_
    all_goals (unfold blk; split <;> first | assumption | rfl)
theorem valE_same (m : Mv) (d h : Value) (e1 : sln d = sln m.d) (e2 : sln h = sln m.h) : valE { m with d := d, h := h } = valE m := by
  unfold valE
  show (match rowFor m.k with | none => _ | some r => _) = _
  cases rowFor m.k with
  | none => rfl
  | some r =>
    have h1 : lks r.cs { m with d := d, h := h } = lks r.cs m := by simp only [lks, lk_same]
    have h2 : szs r.cs { m with d := d, h := h } = szs r.cs m := by simp only [szs, sz_same m d h e1 e2]
    simp only [frn_same m d h e1 e2, h1, h2]
set_option maxHeartbeats 1000000 in
theorem validT (w : World) (m : Mv) (ok : m.ok) (hk : KT w) (hh : sln m.h ≤ 140737488351232) (hd : sln m.d ≤ 140737488351232) :
    Calls Tryz.prog 19 #[.agg m.cs] w fun e w' => e = .returned (.int .i64 (valE m)) ∧ Below w.heap.size w w' := by
  have hc := heapNew w (.cells m.cs 47)
  have b0 : Below w.heap.size w (w.alloc (.cells m.cs 47)) := (Below.refl _ _).alloc (Nat.le_refl _) _
  have HA : Hid (KT (w.alloc (.cells m.cs 47)) ∧ Below w.heap.size w (w.alloc (.cells m.cs 47)) ∧ w.heap.size ≤ (w.alloc (.cells m.cs 47)).heap.size) := ⟨hk.below b0 hk.pos, b0, by simp⟩
  have him := info_msg ok
  clear b0
  go_enter Tryz.func19, Tryz.ntmps19
  go_wp2_with (first | (refine wpList_load_row rfl 47 _ rfl w.heap.size rfl 47 m.cs (0, 0) _ hc Tryz.underlying47 rfl him ?_))
  generalize w.alloc (.cells m.cs 47) = w0 at *
  refine (checkedT w0 m ok HA.out.1 hh hd).mono ?_
  rintro e w1 ⟨v, rfl, _, b1⟩
  have HB : Hid (Below w.heap.size w w1) := HA.out.2.1.trans (b1.mono HA.out.2.2)
  clear b1
  go_wp2
  go_ret
  exact ⟨rfl, HB.out⟩
end Go.Proofs.YtnmeohacdbmplaaGreatDoor
