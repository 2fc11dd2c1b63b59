import Derived.Test.YtpembmfpgolniaaDoorRg
namespace Go.Proofs.YtpembmfpgolniaaDoor
open Go.RowKit
theorem rowFor_lit : rowFor (-1) = some ⟨-1, 0, 0, 1, [0, 0, 0, 0, 0, 0, 0]⟩ ∧ rowFor 0 = some ⟨0, 1, 1, 1, [1, 0, 0, 0, 0, 0, 0]⟩ ∧ rowFor 1 = some ⟨1, 1, 1, 1, [1, 0, 0, 0, 0, 0, 0]⟩ ∧ rowFor 2 = some ⟨2, 1, 1, 1, [1, 0, 0, 0, 0, 0, 0]⟩ ∧ rowFor 3 = some ⟨3, 1, 1, 1, [1, 0, 0, 0, 0, 0, 0]⟩ ∧ rowFor 4 = some ⟨4, 5, 5, 1, [1, 3, 0, 0, 0, 0, 0]⟩ ∧ rowFor 5 = some ⟨5, 1, 8193, 1, [1, 10, 0, 0, 0, 0, 0]⟩ ∧ rowFor 6 = some ⟨6, 13, 13, 1, [1, 3, 4, 6, 0, 0, 0]⟩ ∧ rowFor 7 = some ⟨7, 10, 16393, 1, [1, 3, 4, 10, 0, 0, 0]⟩ ∧ rowFor 8 = some ⟨8, 13, 13, 1, [1, 3, 4, 6, 0, 0, 0]⟩ ∧ rowFor 21 = some ⟨21, 49, 49, 1, [1, 7, 8, 3, 5, 9, 0]⟩ ∧ rowFor 22 = some ⟨22, 49, 17969, 32, [1, 7, 8, 3, 5, 9, 11]⟩ ∧ rowFor 23 = some ⟨23, 49, 49, 1, [1, 7, 8, 3, 5, 9, 0]⟩ ∧ rowFor 1000 = some ⟨1000, 1, 32768, 1, [2, 10, 0, 0, 0, 0, 0]⟩ := by
  refine ⟨rfl, rfl, rfl, rfl, rfl, rfl, rfl, rfl, rfl, rfl, rfl, rfl, rfl, rfl⟩
theorem kE_cases (k : Int) (h : kE k = false) : k = -1 ∨ k = 0 ∨ k = 1 ∨ k = 2 ∨ k = 3 ∨ k = 4 ∨ k = 5 ∨ k = 6 ∨ k = 7 ∨ k = 8 ∨ k = 21 ∨ k = 22 ∨ k = 23 ∨ k = 1000 := by
  simp [kE, knownB] at h
  omega
theorem rowFor_kE (k : Int) (h : kE k = true) : rowFor k = none := by
  unfold rowFor
  rw [List.find?_eq_none]
  intro r hr hk
  have hk' : r.k = k := by simpa using hk
  subst hk'
  have : ∀ r ∈ rws, kE r.k = false := by decide
  rw [this r hr] at h
  cases h
set_option maxHeartbeats 1000000 in
theorem val_0 (m : Mv) (h : m.k = -1) : (if fR m then (113 : Int) else if fdR m then (if szb m (sln m.d) (sln m.h) then 111 else 0) else 112) = (if frn (blks [] m) then 113 else if lks [] m then (if (⟨-1, 0, 0, 1, [0, 0, 0, 0, 0, 0, 0]⟩ : Kr).fit (szs [] m : Nat) then 0 else 111) else 112) := by
  have e1 : fR m = frn (blks [] m) := by
    rw [Bool.eq_iff_iff]
    simp [fR, fc1, fc2, fc3, fc4, fc5, fc6, asksB, queryB, h, blks, blk, frn, sln] <;> grind
  rw [← e1]
  cases hf : fR m with
  | true => rfl
  | false =>
    rw [e1] at hf
    simp [blks, blk, frn, sln] at hf
    have e2 : fdR m = lks [] m := by
      rw [Bool.eq_iff_iff]
      simp [fdR, fd1, fd2, fd3, numB, asksB, h, lks, lk, rng] <;> omega
    have e3 : szb m (sln m.d) (sln m.h) = !(⟨-1, 0, 0, 1, [0, 0, 0, 0, 0, 0, 0]⟩ : Kr).fit (szs [] m : Nat) := by
      rw [Bool.eq_iff_iff]
      simp [szb, h, Kr.fit, szs, sz] <;> omega
    rw [e2, e3]
    cases lks [] m <;> cases (⟨-1, 0, 0, 1, [0, 0, 0, 0, 0, 0, 0]⟩ : Kr).fit (szs [] m : Nat) <;> rfl
set_option maxHeartbeats 1000000 in
theorem val_1 (m : Mv) (h : m.k = 0) : (if fR m then (113 : Int) else if fdR m then (if szb m (sln m.d) (sln m.h) then 111 else 0) else 112) = (if frn (blks [1] m) then 113 else if lks [1] m then (if (⟨0, 1, 1, 1, [1, 0, 0, 0, 0, 0, 0]⟩ : Kr).fit (szs [1] m : Nat) then 0 else 111) else 112) := by
  have e1 : fR m = frn (blks [1] m) := by
    rw [Bool.eq_iff_iff]
    simp [fR, fc1, fc2, fc3, fc4, fc5, fc6, asksB, queryB, h, blks, blk, frn, sln] <;> grind
  rw [← e1]
  cases hf : fR m with
  | true => rfl
  | false =>
    rw [e1] at hf
    simp [blks, blk, frn, sln] at hf
    have e2 : fdR m = lks [1] m := by
      rw [Bool.eq_iff_iff]
      simp [fdR, fd1, fd2, fd3, numB, asksB, h, lks, lk, rng] <;> omega
    have e3 : szb m (sln m.d) (sln m.h) = !(⟨0, 1, 1, 1, [1, 0, 0, 0, 0, 0, 0]⟩ : Kr).fit (szs [1] m : Nat) := by
      rw [Bool.eq_iff_iff]
      simp [szb, h, Kr.fit, szs, sz] <;> omega
    rw [e2, e3]
    cases lks [1] m <;> cases (⟨0, 1, 1, 1, [1, 0, 0, 0, 0, 0, 0]⟩ : Kr).fit (szs [1] m : Nat) <;> rfl
set_option maxHeartbeats 1000000 in
theorem val_2 (m : Mv) (h : m.k = 1) : (if fR m then (113 : Int) else if fdR m then (if szb m (sln m.d) (sln m.h) then 111 else 0) else 112) = (if frn (blks [1] m) then 113 else if lks [1] m then (if (⟨1, 1, 1, 1, [1, 0, 0, 0, 0, 0, 0]⟩ : Kr).fit (szs [1] m : Nat) then 0 else 111) else 112) := by
  have e1 : fR m = frn (blks [1] m) := by
    rw [Bool.eq_iff_iff]
    simp [fR, fc1, fc2, fc3, fc4, fc5, fc6, asksB, queryB, h, blks, blk, frn, sln] <;> grind
  rw [← e1]
  cases hf : fR m with
  | true => rfl
  | false =>
    rw [e1] at hf
    simp [blks, blk, frn, sln] at hf
    have e2 : fdR m = lks [1] m := by
      rw [Bool.eq_iff_iff]
      simp [fdR, fd1, fd2, fd3, numB, asksB, h, lks, lk, rng] <;> omega
    have e3 : szb m (sln m.d) (sln m.h) = !(⟨1, 1, 1, 1, [1, 0, 0, 0, 0, 0, 0]⟩ : Kr).fit (szs [1] m : Nat) := by
      rw [Bool.eq_iff_iff]
      simp [szb, h, Kr.fit, szs, sz] <;> omega
    rw [e2, e3]
    cases lks [1] m <;> cases (⟨1, 1, 1, 1, [1, 0, 0, 0, 0, 0, 0]⟩ : Kr).fit (szs [1] m : Nat) <;> rfl
set_option maxHeartbeats 1000000 in
theorem val_3 (m : Mv) (h : m.k = 2) : (if fR m then (113 : Int) else if fdR m then (if szb m (sln m.d) (sln m.h) then 111 else 0) else 112) = (if frn (blks [1] m) then 113 else if lks [1] m then (if (⟨2, 1, 1, 1, [1, 0, 0, 0, 0, 0, 0]⟩ : Kr).fit (szs [1] m : Nat) then 0 else 111) else 112) := by
  have e1 : fR m = frn (blks [1] m) := by
    rw [Bool.eq_iff_iff]
    simp [fR, fc1, fc2, fc3, fc4, fc5, fc6, asksB, queryB, h, blks, blk, frn, sln] <;> grind
  rw [← e1]
  cases hf : fR m with
  | true => rfl
  | false =>
    rw [e1] at hf
    simp [blks, blk, frn, sln] at hf
    have e2 : fdR m = lks [1] m := by
      rw [Bool.eq_iff_iff]
      simp [fdR, fd1, fd2, fd3, numB, asksB, h, lks, lk, rng] <;> omega
    have e3 : szb m (sln m.d) (sln m.h) = !(⟨2, 1, 1, 1, [1, 0, 0, 0, 0, 0, 0]⟩ : Kr).fit (szs [1] m : Nat) := by
      rw [Bool.eq_iff_iff]
      simp [szb, h, Kr.fit, szs, sz] <;> omega
    rw [e2, e3]
    cases lks [1] m <;> cases (⟨2, 1, 1, 1, [1, 0, 0, 0, 0, 0, 0]⟩ : Kr).fit (szs [1] m : Nat) <;> rfl
set_option maxHeartbeats 1000000 in
theorem val_4 (m : Mv) (h : m.k = 3) : (if fR m then (113 : Int) else if fdR m then (if szb m (sln m.d) (sln m.h) then 111 else 0) else 112) = (if frn (blks [1] m) then 113 else if lks [1] m then (if (⟨3, 1, 1, 1, [1, 0, 0, 0, 0, 0, 0]⟩ : Kr).fit (szs [1] m : Nat) then 0 else 111) else 112) := by
  have e1 : fR m = frn (blks [1] m) := by
    rw [Bool.eq_iff_iff]
    simp [fR, fc1, fc2, fc3, fc4, fc5, fc6, asksB, queryB, h, blks, blk, frn, sln] <;> grind
  rw [← e1]
  cases hf : fR m with
  | true => rfl
  | false =>
    rw [e1] at hf
    simp [blks, blk, frn, sln] at hf
    have e2 : fdR m = lks [1] m := by
      rw [Bool.eq_iff_iff]
      simp [fdR, fd1, fd2, fd3, numB, asksB, h, lks, lk, rng] <;> omega
    have e3 : szb m (sln m.d) (sln m.h) = !(⟨3, 1, 1, 1, [1, 0, 0, 0, 0, 0, 0]⟩ : Kr).fit (szs [1] m : Nat) := by
      rw [Bool.eq_iff_iff]
      simp [szb, h, Kr.fit, szs, sz] <;> omega
    rw [e2, e3]
    cases lks [1] m <;> cases (⟨3, 1, 1, 1, [1, 0, 0, 0, 0, 0, 0]⟩ : Kr).fit (szs [1] m : Nat) <;> rfl
set_option maxHeartbeats 1000000 in
theorem val_5 (m : Mv) (h : m.k = 4) : (if fR m then (113 : Int) else if fdR m then (if szb m (sln m.d) (sln m.h) then 111 else 0) else 112) = (if frn (blks [1, 3] m) then 113 else if lks [1, 3] m then (if (⟨4, 5, 5, 1, [1, 3, 0, 0, 0, 0, 0]⟩ : Kr).fit (szs [1, 3] m : Nat) then 0 else 111) else 112) := by
  have e1 : fR m = frn (blks [1, 3] m) := by
    rw [Bool.eq_iff_iff]
    simp [fR, fc1, fc2, fc3, fc4, fc5, fc6, asksB, queryB, h, blks, blk, frn, sln] <;> grind
  rw [← e1]
  cases hf : fR m with
  | true => rfl
  | false =>
    rw [e1] at hf
    simp [blks, blk, frn, sln] at hf
    have e2 : fdR m = lks [1, 3] m := by
      rw [Bool.eq_iff_iff]
      simp [fdR, fd1, fd2, fd3, numB, asksB, h, lks, lk, rng] <;> omega
    have e3 : szb m (sln m.d) (sln m.h) = !(⟨4, 5, 5, 1, [1, 3, 0, 0, 0, 0, 0]⟩ : Kr).fit (szs [1, 3] m : Nat) := by
      rw [Bool.eq_iff_iff]
      simp [szb, h, Kr.fit, szs, sz] <;> omega
    rw [e2, e3]
    cases lks [1, 3] m <;> cases (⟨4, 5, 5, 1, [1, 3, 0, 0, 0, 0, 0]⟩ : Kr).fit (szs [1, 3] m : Nat) <;> rfl
set_option maxHeartbeats 1000000 in
theorem val_6 (m : Mv) (h : m.k = 5) : (if fR m then (113 : Int) else if fdR m then (if szb m (sln m.d) (sln m.h) then 111 else 0) else 112) = (if frn (blks [1, 10] m) then 113 else if lks [1, 10] m then (if (⟨5, 1, 8193, 1, [1, 10, 0, 0, 0, 0, 0]⟩ : Kr).fit (szs [1, 10] m : Nat) then 0 else 111) else 112) := by
  have e1 : fR m = frn (blks [1, 10] m) := by
    rw [Bool.eq_iff_iff]
    simp [fR, fc1, fc2, fc3, fc4, fc5, fc6, asksB, queryB, h, blks, blk, frn, sln] <;> grind
  rw [← e1]
  cases hf : fR m with
  | true => rfl
  | false =>
    rw [e1] at hf
    simp [blks, blk, frn, sln] at hf
    have e2 : fdR m = lks [1, 10] m := by
      rw [Bool.eq_iff_iff]
      simp [fdR, fd1, fd2, fd3, numB, asksB, h, lks, lk, rng] <;> omega
    have e3 : szb m (sln m.d) (sln m.h) = !(⟨5, 1, 8193, 1, [1, 10, 0, 0, 0, 0, 0]⟩ : Kr).fit (szs [1, 10] m : Nat) := by
      rw [Bool.eq_iff_iff]
      simp [szb, h, Kr.fit, szs, sz] <;> omega
    rw [e2, e3]
    cases lks [1, 10] m <;> cases (⟨5, 1, 8193, 1, [1, 10, 0, 0, 0, 0, 0]⟩ : Kr).fit (szs [1, 10] m : Nat) <;> rfl
set_option maxHeartbeats 1000000 in
theorem val_7 (m : Mv) (h : m.k = 6) : (if fR m then (113 : Int) else if fdR m then (if szb m (sln m.d) (sln m.h) then 111 else 0) else 112) = (if frn (blks [1, 3, 4, 6] m) then 113 else if lks [1, 3, 4, 6] m then (if (⟨6, 13, 13, 1, [1, 3, 4, 6, 0, 0, 0]⟩ : Kr).fit (szs [1, 3, 4, 6] m : Nat) then 0 else 111) else 112) := by
  have e1 : fR m = frn (blks [1, 3, 4, 6] m) := by
    rw [Bool.eq_iff_iff]
    simp [fR, fc1, fc2, fc3, fc4, fc5, fc6, asksB, queryB, h, blks, blk, frn, sln] <;> grind
  rw [← e1]
  cases hf : fR m with
  | true => rfl
  | false =>
    rw [e1] at hf
    simp [blks, blk, frn, sln] at hf
    have e2 : fdR m = lks [1, 3, 4, 6] m := by
      rw [Bool.eq_iff_iff]
      simp [fdR, fd1, fd2, fd3, numB, asksB, h, lks, lk, rng] <;> omega
    have e3 : szb m (sln m.d) (sln m.h) = !(⟨6, 13, 13, 1, [1, 3, 4, 6, 0, 0, 0]⟩ : Kr).fit (szs [1, 3, 4, 6] m : Nat) := by
      rw [Bool.eq_iff_iff]
      simp [szb, h, Kr.fit, szs, sz] <;> omega
    rw [e2, e3]
    cases lks [1, 3, 4, 6] m <;> cases (⟨6, 13, 13, 1, [1, 3, 4, 6, 0, 0, 0]⟩ : Kr).fit (szs [1, 3, 4, 6] m : Nat) <;> rfl
set_option maxHeartbeats 1000000 in
theorem val_8 (m : Mv) (h : m.k = 7) : (if fR m then (113 : Int) else if fdR m then (if szb m (sln m.d) (sln m.h) then 111 else 0) else 112) = (if frn (blks [1, 3, 4, 10] m) then 113 else if lks [1, 3, 4, 10] m then (if (⟨7, 10, 16393, 1, [1, 3, 4, 10, 0, 0, 0]⟩ : Kr).fit (szs [1, 3, 4, 10] m : Nat) then 0 else 111) else 112) := by
  have e1 : fR m = frn (blks [1, 3, 4, 10] m) := by
    rw [Bool.eq_iff_iff]
    simp [fR, fc1, fc2, fc3, fc4, fc5, fc6, asksB, queryB, h, blks, blk, frn, sln] <;> grind
  rw [← e1]
  cases hf : fR m with
  | true => rfl
  | false =>
    rw [e1] at hf
    simp [blks, blk, frn, sln] at hf
    have e2 : fdR m = lks [1, 3, 4, 10] m := by
      rw [Bool.eq_iff_iff]
      simp [fdR, fd1, fd2, fd3, numB, asksB, h, lks, lk, rng] <;> omega
    have e3 : szb m (sln m.d) (sln m.h) = !(⟨7, 10, 16393, 1, [1, 3, 4, 10, 0, 0, 0]⟩ : Kr).fit (szs [1, 3, 4, 10] m : Nat) := by
      rw [Bool.eq_iff_iff]
      simp [szb, h, Kr.fit, szs, sz] <;> omega
    rw [e2, e3]
    cases lks [1, 3, 4, 10] m <;> cases (⟨7, 10, 16393, 1, [1, 3, 4, 10, 0, 0, 0]⟩ : Kr).fit (szs [1, 3, 4, 10] m : Nat) <;> rfl
set_option maxHeartbeats 1000000 in
theorem val_9 (m : Mv) (h : m.k = 8) : (if fR m then (113 : Int) else if fdR m then (if szb m (sln m.d) (sln m.h) then 111 else 0) else 112) = (if frn (blks [1, 3, 4, 6] m) then 113 else if lks [1, 3, 4, 6] m then (if (⟨8, 13, 13, 1, [1, 3, 4, 6, 0, 0, 0]⟩ : Kr).fit (szs [1, 3, 4, 6] m : Nat) then 0 else 111) else 112) := by
  have e1 : fR m = frn (blks [1, 3, 4, 6] m) := by
    rw [Bool.eq_iff_iff]
    simp [fR, fc1, fc2, fc3, fc4, fc5, fc6, asksB, queryB, h, blks, blk, frn, sln] <;> grind
  rw [← e1]
  cases hf : fR m with
  | true => rfl
  | false =>
    rw [e1] at hf
    simp [blks, blk, frn, sln] at hf
    have e2 : fdR m = lks [1, 3, 4, 6] m := by
      rw [Bool.eq_iff_iff]
      simp [fdR, fd1, fd2, fd3, numB, asksB, h, lks, lk, rng] <;> omega
    have e3 : szb m (sln m.d) (sln m.h) = !(⟨8, 13, 13, 1, [1, 3, 4, 6, 0, 0, 0]⟩ : Kr).fit (szs [1, 3, 4, 6] m : Nat) := by
      rw [Bool.eq_iff_iff]
      simp [szb, h, Kr.fit, szs, sz] <;> omega
    rw [e2, e3]
    cases lks [1, 3, 4, 6] m <;> cases (⟨8, 13, 13, 1, [1, 3, 4, 6, 0, 0, 0]⟩ : Kr).fit (szs [1, 3, 4, 6] m : Nat) <;> rfl
set_option maxHeartbeats 1000000 in
theorem val_10 (m : Mv) (h : m.k = 21) : (if fR m then (113 : Int) else if fdR m then (if szb m (sln m.d) (sln m.h) then 111 else 0) else 112) = (if frn (blks [1, 7, 8, 3, 5, 9] m) then 113 else if lks [1, 7, 8, 3, 5, 9] m then (if (⟨21, 49, 49, 1, [1, 7, 8, 3, 5, 9, 0]⟩ : Kr).fit (szs [1, 7, 8, 3, 5, 9] m : Nat) then 0 else 111) else 112) := by
  have e1 : fR m = frn (blks [1, 7, 8, 3, 5, 9] m) := by
    rw [Bool.eq_iff_iff]
    simp [fR, fc1, fc2, fc3, fc4, fc5, fc6, asksB, queryB, h, blks, blk, frn, sln] <;> grind
  rw [← e1]
  cases hf : fR m with
  | true => rfl
  | false =>
    rw [e1] at hf
    simp [blks, blk, frn, sln] at hf
    have e2 : fdR m = lks [1, 7, 8, 3, 5, 9] m := by
      rw [Bool.eq_iff_iff]
      simp [fdR, fd1, fd2, fd3, numB, asksB, h, lks, lk, rng] <;> omega
    have e3 : szb m (sln m.d) (sln m.h) = !(⟨21, 49, 49, 1, [1, 7, 8, 3, 5, 9, 0]⟩ : Kr).fit (szs [1, 7, 8, 3, 5, 9] m : Nat) := by
      rw [Bool.eq_iff_iff]
      simp [szb, h, Kr.fit, szs, sz] <;> omega
    rw [e2, e3]
    cases lks [1, 7, 8, 3, 5, 9] m <;> cases (⟨21, 49, 49, 1, [1, 7, 8, 3, 5, 9, 0]⟩ : Kr).fit (szs [1, 7, 8, 3, 5, 9] m : Nat) <;> rfl
set_option maxHeartbeats 1000000 in
theorem val_11 (m : Mv) (h : m.k = 22) : (if fR m then (113 : Int) else if fdR m then (if szb m (sln m.d) (sln m.h) then 111 else 0) else 112) = (if frn (blks [1, 7, 8, 3, 5, 9, 11] m) then 113 else if lks [1, 7, 8, 3, 5, 9, 11] m then (if (⟨22, 49, 17969, 32, [1, 7, 8, 3, 5, 9, 11]⟩ : Kr).fit (szs [1, 7, 8, 3, 5, 9, 11] m : Nat) then 0 else 111) else 112) := by
  have e1 : fR m = frn (blks [1, 7, 8, 3, 5, 9, 11] m) := by
    rw [Bool.eq_iff_iff]
    simp [fR, fc1, fc2, fc3, fc4, fc5, fc6, asksB, queryB, h, blks, blk, frn, sln] <;> grind
  rw [← e1]
  cases hf : fR m with
  | true => rfl
  | false =>
    rw [e1] at hf
    simp [blks, blk, frn, sln] at hf
    have e2 : fdR m = lks [1, 7, 8, 3, 5, 9, 11] m := by
      rw [Bool.eq_iff_iff]
      simp [fdR, fd1, fd2, fd3, numB, asksB, h, lks, lk, rng] <;> omega
    have e3 : szb m (sln m.d) (sln m.h) = !(⟨22, 49, 17969, 32, [1, 7, 8, 3, 5, 9, 11]⟩ : Kr).fit (szs [1, 7, 8, 3, 5, 9, 11] m : Nat) := by
      rw [Bool.eq_iff_iff]
      simp [szb, h, Kr.fit, szs, sz] <;> omega
    rw [e2, e3]
    cases lks [1, 7, 8, 3, 5, 9, 11] m <;> cases (⟨22, 49, 17969, 32, [1, 7, 8, 3, 5, 9, 11]⟩ : Kr).fit (szs [1, 7, 8, 3, 5, 9, 11] m : Nat) <;> rfl
set_option maxHeartbeats 1000000 in
theorem val_12 (m : Mv) (h : m.k = 23) : (if fR m then (113 : Int) else if fdR m then (if szb m (sln m.d) (sln m.h) then 111 else 0) else 112) = (if frn (blks [1, 7, 8, 3, 5, 9] m) then 113 else if lks [1, 7, 8, 3, 5, 9] m then (if (⟨23, 49, 49, 1, [1, 7, 8, 3, 5, 9, 0]⟩ : Kr).fit (szs [1, 7, 8, 3, 5, 9] m : Nat) then 0 else 111) else 112) := by
  have e1 : fR m = frn (blks [1, 7, 8, 3, 5, 9] m) := by
    rw [Bool.eq_iff_iff]
    simp [fR, fc1, fc2, fc3, fc4, fc5, fc6, asksB, queryB, h, blks, blk, frn, sln] <;> grind
  rw [← e1]
  cases hf : fR m with
  | true => rfl
  | false =>
    rw [e1] at hf
    simp [blks, blk, frn, sln] at hf
    have e2 : fdR m = lks [1, 7, 8, 3, 5, 9] m := by
      rw [Bool.eq_iff_iff]
      simp [fdR, fd1, fd2, fd3, numB, asksB, h, lks, lk, rng] <;> omega
    have e3 : szb m (sln m.d) (sln m.h) = !(⟨23, 49, 49, 1, [1, 7, 8, 3, 5, 9, 0]⟩ : Kr).fit (szs [1, 7, 8, 3, 5, 9] m : Nat) := by
      rw [Bool.eq_iff_iff]
      simp [szb, h, Kr.fit, szs, sz] <;> omega
    rw [e2, e3]
    cases lks [1, 7, 8, 3, 5, 9] m <;> cases (⟨23, 49, 49, 1, [1, 7, 8, 3, 5, 9, 0]⟩ : Kr).fit (szs [1, 7, 8, 3, 5, 9] m : Nat) <;> rfl
set_option maxHeartbeats 1000000 in
theorem val_13 (m : Mv) (h : m.k = 1000) : (if fR m then (113 : Int) else if fdR m then (if szb m (sln m.d) (sln m.h) then 111 else 0) else 112) = (if frn (blks [2, 10] m) then 113 else if lks [2, 10] m then (if (⟨1000, 1, 32768, 1, [2, 10, 0, 0, 0, 0, 0]⟩ : Kr).fit (szs [2, 10] m : Nat) then 0 else 111) else 112) := by
  have e1 : fR m = frn (blks [2, 10] m) := by
    rw [Bool.eq_iff_iff]
    simp [fR, fc1, fc2, fc3, fc4, fc5, fc6, asksB, queryB, h, blks, blk, frn, sln] <;> grind
  rw [← e1]
  cases hf : fR m with
  | true => rfl
  | false =>
    rw [e1] at hf
    simp [blks, blk, frn, sln] at hf
    have e2 : fdR m = lks [2, 10] m := by
      rw [Bool.eq_iff_iff]
      simp [fdR, fd1, fd2, fd3, numB, asksB, h, lks, lk, rng] <;> omega
    have e3 : szb m (sln m.d) (sln m.h) = !(⟨1000, 1, 32768, 1, [2, 10, 0, 0, 0, 0, 0]⟩ : Kr).fit (szs [2, 10] m : Nat) := by
      rw [Bool.eq_iff_iff]
      simp [szb, h, Kr.fit, szs, sz] <;> omega
    rw [e2, e3]
    cases lks [2, 10] m <;> cases (⟨1000, 1, 32768, 1, [2, 10, 0, 0, 0, 0, 0]⟩ : Kr).fit (szs [2, 10] m : Nat) <;> rfl
/-- the program and the reference say the same of a message -/
theorem ref_val (m : Mv) : refE m = valE m := by
  unfold refE valE
  cases hk : kE m.k with
  | true => rw [rowFor_kE _ hk]; rfl
  | false =>
    obtain ⟨r0, r1, r2, r3, r4, r5, r6, r7, r8, r9, r10, r11, r12, r13⟩ := rowFor_lit
    rcases kE_cases _ hk with h | h | h | h | h | h | h | h | h | h | h | h | h | h
    · rw [h, r0]; exact val_0 m h
    · rw [h, r1]; exact val_1 m h
    · rw [h, r2]; exact val_2 m h
    · rw [h, r3]; exact val_3 m h
    · rw [h, r4]; exact val_4 m h
    · rw [h, r5]; exact val_5 m h
    · rw [h, r6]; exact val_6 m h
    · rw [h, r7]; exact val_7 m h
    · rw [h, r8]; exact val_8 m h
    · rw [h, r9]; exact val_9 m h
    · rw [h, r10]; exact val_10 m h
    · rw [h, r11]; exact val_11 m h
    · rw [h, r12]; exact val_12 m h
    · rw [h, r13]; exact val_13 m h
end Go.Proofs.YtpembmfpgolniaaDoor
