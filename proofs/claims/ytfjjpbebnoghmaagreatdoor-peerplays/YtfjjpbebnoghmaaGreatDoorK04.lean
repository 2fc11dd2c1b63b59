import Derived.Test.YtfjjpbebnoghmaaGreatDoorK00
import Derived.Test.YtfjjpbebnoghmaaGreatDoorK03
import Derived.Deep.QuietTactic
import Derived.Laws.BitsAllLaws
namespace Go.Proofs.YtfjjpbebnoghmaaGreatDoor
open Go.RowKit
theorem rowFor_lit:rowFor (-1) = some ⟨-1,0,0,1, [0,0,0,0,0,0,0]⟩∧rowFor 0 = some ⟨0,1,1,1, [1,0,0,0,0,0,0]⟩∧rowFor 1 = some ⟨1,1,1,1, [1,0,0,0,0,0,0]⟩∧rowFor 2 = some ⟨2,1,1,1, [1,0,0,0,0,0,0]⟩∧rowFor 3 = some ⟨3,1,1,1, [1,0,0,0,0,0,0]⟩∧rowFor 4 = some ⟨4,5,5,1, [1,3,0,0,0,0,0]⟩∧rowFor 5 = some ⟨5,1,8193,1, [1,10,0,0,0,0,0]⟩∧rowFor 6 = some ⟨6,13,13,1, [1,3,4,6,0,0,0]⟩∧rowFor 7 = some ⟨7,10,16393,1, [1,3,4,10,0,0,0]⟩∧rowFor 8 = some ⟨8,13,13,1, [1,3,4,6,0,0,0]⟩∧rowFor 21 = some ⟨21,49,49,1, [1,7,8,3,5,9,0]⟩∧rowFor 22 = some ⟨22,49,17969,32, [1,7,8,3,5,9,11]⟩∧rowFor 23 = some ⟨23,49,49,1, [1,7,8,3,5,9,0]⟩∧rowFor 1000 = some ⟨1000,1,32768,1, [2,10,0,0,0,0,0]⟩:=by
  refine ⟨rfl,rfl,rfl,rfl,rfl,rfl,rfl,rfl,rfl,rfl,rfl,rfl,rfl,rfl⟩
theorem kE_cases (k:Int) (h:kE k = false):k = -1∨k = 0∨k = 1∨k = 2∨k = 3∨k = 4∨k = 5∨k = 6∨k = 7∨k = 8∨k = 21∨k = 22∨k = 23∨k = 1000:=by
  simp [kE,knownB] at h
  omega
theorem rowFor_kE (k:Int) (h:kE k = true):rowFor k = none:=by
  unfold rowFor
  rw [List.find?_eq_none]
  intro r hr hk
  have hk':r.k = k:=by simpa using hk
  subst hk'
  have:∀ r ∈ rws,kE r.k = false:=by decide
  rw [this r hr] at h
  cases h
set_option maxHeartbeats 1000000 in
theorem val_0 (m:Mv) (h:m.k = -1):(if fR m then (113:Int) else if fdR m then (if szb m (sln m.d) (sln m.h) then 111 else 0) else 112) = (if frn (blks [] m) then 113 else if lks [] m then (if (⟨-1,0,0,1, [0,0,0,0,0,0,0]⟩:Kr).fit (szs [] m:Nat) then 0 else 111) else 112):=by
  have e1:fR m = frn (blks [] m):=by
    rw [Bool.eq_iff_iff]
    simp [fR,fc1,fc2,fc3,fc4,fc5,fc6,asksB,queryB,h,blks,blk,frn,sln] <;> grind
  rw [← e1]
  cases hf:fR m with
  | true=>rfl
  | false =>
    rw [e1] at hf
    simp [blks,blk,frn,sln] at hf
    have e2:fdR m = lks [] m:=by
      rw [Bool.eq_iff_iff]
      simp [fdR,fd1,fd2,fd3,numB,asksB,h,lks,lk,rng] <;> omega
    have e3:szb m (sln m.d) (sln m.h) = !(⟨-1,0,0,1, [0,0,0,0,0,0,0]⟩:Kr).fit (szs [] m:Nat):=by
      rw [Bool.eq_iff_iff]
      simp [szb,h,Kr.fit,szs,sz] <;> omega
    rw [e2,e3]
    cases lks [] m <;> cases (⟨-1,0,0,1, [0,0,0,0,0,0,0]⟩:Kr).fit (szs [] m:Nat) <;> rfl
set_option maxHeartbeats 1000000 in
theorem val_1 (m:Mv) (h:m.k = 0):(if fR m then (113:Int) else if fdR m then (if szb m (sln m.d) (sln m.h) then 111 else 0) else 112) = (if frn (blks [1] m) then 113 else if lks [1] m then (if (⟨0,1,1,1, [1,0,0,0,0,0,0]⟩:Kr).fit (szs [1] m:Nat) then 0 else 111) else 112):=by
  have e1:fR m = frn (blks [1] m):=by
    rw [Bool.eq_iff_iff]
    simp [fR,fc1,fc2,fc3,fc4,fc5,fc6,asksB,queryB,h,blks,blk,frn,sln] <;> grind
  rw [← e1]
  cases hf:fR m with
  | true=>rfl
  | false =>
    rw [e1] at hf
    simp [blks,blk,frn,sln] at hf
    have e2:fdR m = lks [1] m:=by
      rw [Bool.eq_iff_iff]
      simp [fdR,fd1,fd2,fd3,numB,asksB,h,lks,lk,rng] <;> omega
    have e3:szb m (sln m.d) (sln m.h) = !(⟨0,1,1,1, [1,0,0,0,0,0,0]⟩:Kr).fit (szs [1] m:Nat):=by
      rw [Bool.eq_iff_iff]
      simp [szb,h,Kr.fit,szs,sz] <;> omega
    rw [e2,e3]
    cases lks [1] m <;> cases (⟨0,1,1,1, [1,0,0,0,0,0,0]⟩:Kr).fit (szs [1] m:Nat) <;> rfl
set_option maxHeartbeats 1000000 in
theorem val_2 (m:Mv) (h:m.k = 1):(if fR m then (113:Int) else if fdR m then (if szb m (sln m.d) (sln m.h) then 111 else 0) else 112) = (if frn (blks [1] m) then 113 else if lks [1] m then (if (⟨1,1,1,1, [1,0,0,0,0,0,0]⟩:Kr).fit (szs [1] m:Nat) then 0 else 111) else 112):=by
  have e1:fR m = frn (blks [1] m):=by
    rw [Bool.eq_iff_iff]
    simp [fR,fc1,fc2,fc3,fc4,fc5,fc6,asksB,queryB,h,blks,blk,frn,sln] <;> grind
  rw [← e1]
  cases hf:fR m with
  | true=>rfl
  | false =>
    rw [e1] at hf
    simp [blks,blk,frn,sln] at hf
    have e2:fdR m = lks [1] m:=by
      rw [Bool.eq_iff_iff]
      simp [fdR,fd1,fd2,fd3,numB,asksB,h,lks,lk,rng] <;> omega
    have e3:szb m (sln m.d) (sln m.h) = !(⟨1,1,1,1, [1,0,0,0,0,0,0]⟩:Kr).fit (szs [1] m:Nat):=by
      rw [Bool.eq_iff_iff]
      simp [szb,h,Kr.fit,szs,sz] <;> omega
    rw [e2,e3]
    cases lks [1] m <;> cases (⟨1,1,1,1, [1,0,0,0,0,0,0]⟩:Kr).fit (szs [1] m:Nat) <;> rfl
set_option maxHeartbeats 1000000 in
theorem val_3 (m:Mv) (h:m.k = 2):(if fR m then (113:Int) else if fdR m then (if szb m (sln m.d) (sln m.h) then 111 else 0) else 112) = (if frn (blks [1] m) then 113 else if lks [1] m then (if (⟨2,1,1,1, [1,0,0,0,0,0,0]⟩:Kr).fit (szs [1] m:Nat) then 0 else 111) else 112):=by
  have e1:fR m = frn (blks [1] m):=by
    rw [Bool.eq_iff_iff]
    simp [fR,fc1,fc2,fc3,fc4,fc5,fc6,asksB,queryB,h,blks,blk,frn,sln] <;> grind
  rw [← e1]
  cases hf:fR m with
  | true=>rfl
  | false =>
    rw [e1] at hf
    simp [blks,blk,frn,sln] at hf
    have e2:fdR m = lks [1] m:=by
      rw [Bool.eq_iff_iff]
      simp [fdR,fd1,fd2,fd3,numB,asksB,h,lks,lk,rng] <;> omega
    have e3:szb m (sln m.d) (sln m.h) = !(⟨2,1,1,1, [1,0,0,0,0,0,0]⟩:Kr).fit (szs [1] m:Nat):=by
      rw [Bool.eq_iff_iff]
      simp [szb,h,Kr.fit,szs,sz] <;> omega
    rw [e2,e3]
    cases lks [1] m <;> cases (⟨2,1,1,1, [1,0,0,0,0,0,0]⟩:Kr).fit (szs [1] m:Nat) <;> rfl
set_option maxHeartbeats 1000000 in
theorem val_4 (m:Mv) (h:m.k = 3):(if fR m then (113:Int) else if fdR m then (if szb m (sln m.d) (sln m.h) then 111 else 0) else 112) = (if frn (blks [1] m) then 113 else if lks [1] m then (if (⟨3,1,1,1, [1,0,0,0,0,0,0]⟩:Kr).fit (szs [1] m:Nat) then 0 else 111) else 112):=by
  have e1:fR m = frn (blks [1] m):=by
    rw [Bool.eq_iff_iff]
    simp [fR,fc1,fc2,fc3,fc4,fc5,fc6,asksB,queryB,h,blks,blk,frn,sln] <;> grind
  rw [← e1]
  cases hf:fR m with
  | true=>rfl
  | false =>
    rw [e1] at hf
    simp [blks,blk,frn,sln] at hf
    have e2:fdR m = lks [1] m:=by
      rw [Bool.eq_iff_iff]
      simp [fdR,fd1,fd2,fd3,numB,asksB,h,lks,lk,rng] <;> omega
    have e3:szb m (sln m.d) (sln m.h) = !(⟨3,1,1,1, [1,0,0,0,0,0,0]⟩:Kr).fit (szs [1] m:Nat):=by
      rw [Bool.eq_iff_iff]
      simp [szb,h,Kr.fit,szs,sz] <;> omega
    rw [e2,e3]
    cases lks [1] m <;> cases (⟨3,1,1,1, [1,0,0,0,0,0,0]⟩:Kr).fit (szs [1] m:Nat) <;> rfl
set_option maxHeartbeats 1000000 in
theorem val_5 (m:Mv) (h:m.k = 4):(if fR m then (113:Int) else if fdR m then (if szb m (sln m.d) (sln m.h) then 111 else 0) else 112) = (if frn (blks [1,3] m) then 113 else if lks [1,3] m then (if (⟨4,5,5,1, [1,3,0,0,0,0,0]⟩:Kr).fit (szs [1,3] m:Nat) then 0 else 111) else 112):=by
  have e1:fR m = frn (blks [1,3] m):=by
    rw [Bool.eq_iff_iff]
    simp [fR,fc1,fc2,fc3,fc4,fc5,fc6,asksB,queryB,h,blks,blk,frn,sln] <;> grind
  rw [← e1]
  cases hf:fR m with
  | true=>rfl
  | false =>
    rw [e1] at hf
    simp [blks,blk,frn,sln] at hf
    have e2:fdR m = lks [1,3] m:=by
      rw [Bool.eq_iff_iff]
      simp [fdR,fd1,fd2,fd3,numB,asksB,h,lks,lk,rng] <;> omega
    have e3:szb m (sln m.d) (sln m.h) = !(⟨4,5,5,1, [1,3,0,0,0,0,0]⟩:Kr).fit (szs [1,3] m:Nat):=by
      rw [Bool.eq_iff_iff]
      simp [szb,h,Kr.fit,szs,sz] <;> omega
    rw [e2,e3]
    cases lks [1,3] m <;> cases (⟨4,5,5,1, [1,3,0,0,0,0,0]⟩:Kr).fit (szs [1,3] m:Nat) <;> rfl
set_option maxHeartbeats 1000000 in
theorem val_6 (m:Mv) (h:m.k = 5):(if fR m then (113:Int) else if fdR m then (if szb m (sln m.d) (sln m.h) then 111 else 0) else 112) = (if frn (blks [1,10] m) then 113 else if lks [1,10] m then (if (⟨5,1,8193,1, [1,10,0,0,0,0,0]⟩:Kr).fit (szs [1,10] m:Nat) then 0 else 111) else 112):=by
  have e1:fR m = frn (blks [1,10] m):=by
    rw [Bool.eq_iff_iff]
    simp [fR,fc1,fc2,fc3,fc4,fc5,fc6,asksB,queryB,h,blks,blk,frn,sln] <;> grind
  rw [← e1]
  cases hf:fR m with
  | true=>rfl
  | false =>
    rw [e1] at hf
    simp [blks,blk,frn,sln] at hf
    have e2:fdR m = lks [1,10] m:=by
      rw [Bool.eq_iff_iff]
      simp [fdR,fd1,fd2,fd3,numB,asksB,h,lks,lk,rng] <;> omega
    have e3:szb m (sln m.d) (sln m.h) = !(⟨5,1,8193,1, [1,10,0,0,0,0,0]⟩:Kr).fit (szs [1,10] m:Nat):=by
      rw [Bool.eq_iff_iff]
      simp [szb,h,Kr.fit,szs,sz] <;> omega
    rw [e2,e3]
    cases lks [1,10] m <;> cases (⟨5,1,8193,1, [1,10,0,0,0,0,0]⟩:Kr).fit (szs [1,10] m:Nat) <;> rfl
set_option maxHeartbeats 1000000 in
theorem val_7 (m:Mv) (h:m.k = 6):(if fR m then (113:Int) else if fdR m then (if szb m (sln m.d) (sln m.h) then 111 else 0) else 112) = (if frn (blks [1,3,4,6] m) then 113 else if lks [1,3,4,6] m then (if (⟨6,13,13,1, [1,3,4,6,0,0,0]⟩:Kr).fit (szs [1,3,4,6] m:Nat) then 0 else 111) else 112):=by
  have e1:fR m = frn (blks [1,3,4,6] m):=by
    rw [Bool.eq_iff_iff]
    simp [fR,fc1,fc2,fc3,fc4,fc5,fc6,asksB,queryB,h,blks,blk,frn,sln] <;> grind
  rw [← e1]
  cases hf:fR m with
  | true=>rfl
  | false =>
    rw [e1] at hf
    simp [blks,blk,frn,sln] at hf
    have e2:fdR m = lks [1,3,4,6] m:=by
      rw [Bool.eq_iff_iff]
      simp [fdR,fd1,fd2,fd3,numB,asksB,h,lks,lk,rng] <;> omega
    have e3:szb m (sln m.d) (sln m.h) = !(⟨6,13,13,1, [1,3,4,6,0,0,0]⟩:Kr).fit (szs [1,3,4,6] m:Nat):=by
      rw [Bool.eq_iff_iff]
      simp [szb,h,Kr.fit,szs,sz] <;> omega
    rw [e2,e3]
    cases lks [1,3,4,6] m <;> cases (⟨6,13,13,1, [1,3,4,6,0,0,0]⟩:Kr).fit (szs [1,3,4,6] m:Nat) <;> rfl
set_option maxHeartbeats 1000000 in
theorem val_8 (m:Mv) (h:m.k = 7):(if fR m then (113:Int) else if fdR m then (if szb m (sln m.d) (sln m.h) then 111 else 0) else 112) = (if frn (blks [1,3,4,10] m) then 113 else if lks [1,3,4,10] m then (if (⟨7,10,16393,1, [1,3,4,10,0,0,0]⟩:Kr).fit (szs [1,3,4,10] m:Nat) then 0 else 111) else 112):=by
  have e1:fR m = frn (blks [1,3,4,10] m):=by
    rw [Bool.eq_iff_iff]
    simp [fR,fc1,fc2,fc3,fc4,fc5,fc6,asksB,queryB,h,blks,blk,frn,sln] <;> grind
  rw [← e1]
  cases hf:fR m with
  | true=>rfl
  | false =>
    rw [e1] at hf
    simp [blks,blk,frn,sln] at hf
    have e2:fdR m = lks [1,3,4,10] m:=by
      rw [Bool.eq_iff_iff]
      simp [fdR,fd1,fd2,fd3,numB,asksB,h,lks,lk,rng] <;> omega
    have e3:szb m (sln m.d) (sln m.h) = !(⟨7,10,16393,1, [1,3,4,10,0,0,0]⟩:Kr).fit (szs [1,3,4,10] m:Nat):=by
      rw [Bool.eq_iff_iff]
      simp [szb,h,Kr.fit,szs,sz] <;> omega
    rw [e2,e3]
    cases lks [1,3,4,10] m <;> cases (⟨7,10,16393,1, [1,3,4,10,0,0,0]⟩:Kr).fit (szs [1,3,4,10] m:Nat) <;> rfl
set_option maxHeartbeats 1000000 in
theorem val_9 (m:Mv) (h:m.k = 8):(if fR m then (113:Int) else if fdR m then (if szb m (sln m.d) (sln m.h) then 111 else 0) else 112) = (if frn (blks [1,3,4,6] m) then 113 else if lks [1,3,4,6] m then (if (⟨8,13,13,1, [1,3,4,6,0,0,0]⟩:Kr).fit (szs [1,3,4,6] m:Nat) then 0 else 111) else 112):=by
  have e1:fR m = frn (blks [1,3,4,6] m):=by
    rw [Bool.eq_iff_iff]
    simp [fR,fc1,fc2,fc3,fc4,fc5,fc6,asksB,queryB,h,blks,blk,frn,sln] <;> grind
  rw [← e1]
  cases hf:fR m with
  | true=>rfl
  | false =>
    rw [e1] at hf
    simp [blks,blk,frn,sln] at hf
    have e2:fdR m = lks [1,3,4,6] m:=by
      rw [Bool.eq_iff_iff]
      simp [fdR,fd1,fd2,fd3,numB,asksB,h,lks,lk,rng] <;> omega
    have e3:szb m (sln m.d) (sln m.h) = !(⟨8,13,13,1, [1,3,4,6,0,0,0]⟩:Kr).fit (szs [1,3,4,6] m:Nat):=by
      rw [Bool.eq_iff_iff]
      simp [szb,h,Kr.fit,szs,sz] <;> omega
    rw [e2,e3]
    cases lks [1,3,4,6] m <;> cases (⟨8,13,13,1, [1,3,4,6,0,0,0]⟩:Kr).fit (szs [1,3,4,6] m:Nat) <;> rfl
set_option maxHeartbeats 1000000 in
theorem val_10 (m:Mv) (h:m.k = 21):(if fR m then (113:Int) else if fdR m then (if szb m (sln m.d) (sln m.h) then 111 else 0) else 112) = (if frn (blks [1,7,8,3,5,9] m) then 113 else if lks [1,7,8,3,5,9] m then (if (⟨21,49,49,1, [1,7,8,3,5,9,0]⟩:Kr).fit (szs [1,7,8,3,5,9] m:Nat) then 0 else 111) else 112):=by
  have e1:fR m = frn (blks [1,7,8,3,5,9] m):=by
    rw [Bool.eq_iff_iff]
    simp [fR,fc1,fc2,fc3,fc4,fc5,fc6,asksB,queryB,h,blks,blk,frn,sln] <;> grind
  rw [← e1]
  cases hf:fR m with
  | true=>rfl
  | false =>
    rw [e1] at hf
    simp [blks,blk,frn,sln] at hf
    have e2:fdR m = lks [1,7,8,3,5,9] m:=by
      rw [Bool.eq_iff_iff]
      simp [fdR,fd1,fd2,fd3,numB,asksB,h,lks,lk,rng] <;> omega
    have e3:szb m (sln m.d) (sln m.h) = !(⟨21,49,49,1, [1,7,8,3,5,9,0]⟩:Kr).fit (szs [1,7,8,3,5,9] m:Nat):=by
      rw [Bool.eq_iff_iff]
      simp [szb,h,Kr.fit,szs,sz] <;> omega
    rw [e2,e3]
    cases lks [1,7,8,3,5,9] m <;> cases (⟨21,49,49,1, [1,7,8,3,5,9,0]⟩:Kr).fit (szs [1,7,8,3,5,9] m:Nat) <;> rfl
set_option maxHeartbeats 1000000 in
theorem val_11 (m:Mv) (h:m.k = 22):(if fR m then (113:Int) else if fdR m then (if szb m (sln m.d) (sln m.h) then 111 else 0) else 112) = (if frn (blks [1,7,8,3,5,9,11] m) then 113 else if lks [1,7,8,3,5,9,11] m then (if (⟨22,49,17969,32, [1,7,8,3,5,9,11]⟩:Kr).fit (szs [1,7,8,3,5,9,11] m:Nat) then 0 else 111) else 112):=by
  have e1:fR m = frn (blks [1,7,8,3,5,9,11] m):=by
    rw [Bool.eq_iff_iff]
    simp [fR,fc1,fc2,fc3,fc4,fc5,fc6,asksB,queryB,h,blks,blk,frn,sln] <;> grind
  rw [← e1]
  cases hf:fR m with
  | true=>rfl
  | false =>
    rw [e1] at hf
    simp [blks,blk,frn,sln] at hf
    have e2:fdR m = lks [1,7,8,3,5,9,11] m:=by
      rw [Bool.eq_iff_iff]
      simp [fdR,fd1,fd2,fd3,numB,asksB,h,lks,lk,rng] <;> omega
    have e3:szb m (sln m.d) (sln m.h) = !(⟨22,49,17969,32, [1,7,8,3,5,9,11]⟩:Kr).fit (szs [1,7,8,3,5,9,11] m:Nat):=by
      rw [Bool.eq_iff_iff]
      simp [szb,h,Kr.fit,szs,sz] <;> omega
    rw [e2,e3]
    cases lks [1,7,8,3,5,9,11] m <;> cases (⟨22,49,17969,32, [1,7,8,3,5,9,11]⟩:Kr).fit (szs [1,7,8,3,5,9,11] m:Nat) <;> rfl
set_option maxHeartbeats 1000000 in
theorem val_12 (m:Mv) (h:m.k = 23):(if fR m then (113:Int) else if fdR m then (if szb m (sln m.d) (sln m.h) then 111 else 0) else 112) = (if frn (blks [1,7,8,3,5,9] m) then 113 else if lks [1,7,8,3,5,9] m then (if (⟨23,49,49,1, [1,7,8,3,5,9,0]⟩:Kr).fit (szs [1,7,8,3,5,9] m:Nat) then 0 else 111) else 112):=by
  have e1:fR m = frn (blks [1,7,8,3,5,9] m):=by
    rw [Bool.eq_iff_iff]
    simp [fR,fc1,fc2,fc3,fc4,fc5,fc6,asksB,queryB,h,blks,blk,frn,sln] <;> grind
  rw [← e1]
  cases hf:fR m with
  | true=>rfl
  | false =>
    rw [e1] at hf
    simp [blks,blk,frn,sln] at hf
    have e2:fdR m = lks [1,7,8,3,5,9] m:=by
      rw [Bool.eq_iff_iff]
      simp [fdR,fd1,fd2,fd3,numB,asksB,h,lks,lk,rng] <;> omega
    have e3:szb m (sln m.d) (sln m.h) = !(⟨23,49,49,1, [1,7,8,3,5,9,0]⟩:Kr).fit (szs [1,7,8,3,5,9] m:Nat):=by
      rw [Bool.eq_iff_iff]
      simp [szb,h,Kr.fit,szs,sz] <;> omega
    rw [e2,e3]
    cases lks [1,7,8,3,5,9] m <;> cases (⟨23,49,49,1, [1,7,8,3,5,9,0]⟩:Kr).fit (szs [1,7,8,3,5,9] m:Nat) <;> rfl
set_option maxHeartbeats 1000000 in
theorem val_13 (m:Mv) (h:m.k = 1000):(if fR m then (113:Int) else if fdR m then (if szb m (sln m.d) (sln m.h) then 111 else 0) else 112) = (if frn (blks [2,10] m) then 113 else if lks [2,10] m then (if (⟨1000,1,32768,1, [2,10,0,0,0,0,0]⟩:Kr).fit (szs [2,10] m:Nat) then 0 else 111) else 112):=by
  have e1:fR m = frn (blks [2,10] m):=by
    rw [Bool.eq_iff_iff]
    simp [fR,fc1,fc2,fc3,fc4,fc5,fc6,asksB,queryB,h,blks,blk,frn,sln] <;> grind
  rw [← e1]
  cases hf:fR m with
  | true=>rfl
  | false =>
    rw [e1] at hf
    simp [blks,blk,frn,sln] at hf
    have e2:fdR m = lks [2,10] m:=by
      rw [Bool.eq_iff_iff]
      simp [fdR,fd1,fd2,fd3,numB,asksB,h,lks,lk,rng] <;> omega
    have e3:szb m (sln m.d) (sln m.h) = !(⟨1000,1,32768,1, [2,10,0,0,0,0,0]⟩:Kr).fit (szs [2,10] m:Nat):=by
      rw [Bool.eq_iff_iff]
      simp [szb,h,Kr.fit,szs,sz] <;> omega
    rw [e2,e3]
    cases lks [2,10] m <;> cases (⟨1000,1,32768,1, [2,10,0,0,0,0,0]⟩:Kr).fit (szs [2,10] m:Nat) <;> rfl
theorem ref_val (m:Mv):refE m = valE m:=by
  unfold refE valE
  cases hk:kE m.k with
  | true=>rw [rowFor_kE _ hk]; rfl
  | false =>
    obtain ⟨r0,r1,r2,r3,r4,r5,r6,r7,r8,r9,r10,r11,r12,r13⟩:=rowFor_lit
    rcases kE_cases _ hk with h | h | h | h | h | h | h | h | h | h | h | h | h | h
    · rw [h,r0]; exact val_0 m h
    · rw [h,r1]; exact val_1 m h
    · rw [h,r2]; exact val_2 m h
    · rw [h,r3]; exact val_3 m h
    · rw [h,r4]; exact val_4 m h
    · rw [h,r5]; exact val_5 m h
    · rw [h,r6]; exact val_6 m h
    · rw [h,r7]; exact val_7 m h
    · rw [h,r8]; exact val_8 m h
    · rw [h,r9]; exact val_9 m h
    · rw [h,r10]; exact val_10 m h
    · rw [h,r11]; exact val_11 m h
    · rw [h,r12]; exact val_12 m h
    · rw [h,r13]; exact val_13 m h
def RH (w:World) (v:Value) (l:List UInt8):Prop:=
  ∃ a n c,v = .slice a n c∧l.length = n * 32∧n≤c∧(n = 0∨∃ g o,a = some ⟨g,o,none⟩∧g < w.heap.size∧∀ i,i < l.length→w.cell? ⟨g,o + i,none⟩ = some (.int .u8 ((byt l i).toNat:Int)))
theorem RH.keep {w w':World} {v:Value} {l:List UInt8} (h:RH w v l) (hb:Below w.heap.size w w'):RH w' v l:=by
  obtain ⟨a,n,c,rfl,hl,hle,h⟩:=h
  refine ⟨a,n,c,rfl,hl,hle,?_⟩
  rcases h with h | ⟨g,o,h1,h2,h3⟩
  · exact .inl h
  · exact .inr ⟨g,o,h1,Nat.lt_of_lt_of_le h2 hb.size,fun i hi=>(World.cell?_of_block (w:=w) (hb.block g h2)).trans (h3 i hi)⟩
def OH (B:Nat) (w:World) (v:Value) (l:List UInt8):Prop:=∃ n,l.length = n * 32∧w.ownsRow B 25 32 v n (Lib.byteCells l)
theorem OH.nil (B:Nat) (w:World):OH B w (.slice none 0 0) []:=⟨0,rfl,World.ownsRow_nil _ _ _ _⟩
theorem OH.rh {B:Nat} {w:World} {v:Value} {l:List UInt8} (h:OH B w v l):RH w v l:=by
  obtain ⟨n,hl,ho⟩:=h
  have ho':=ho
  rcases ho.2 with ⟨rfl,h0⟩ | ⟨g,cap,cur,rfl,_,hg,hle,_⟩
  · exact ⟨none,0,0,rfl,by rw [hl,h0],Nat.le_refl _,.inl rfl⟩
  · refine ⟨_,n,cap,rfl,hl,hle,.inr ⟨g,0,rfl,(Array.getElem?_eq_some_iff.1 hg).1,fun i hi=>?_⟩⟩
    have:=World.ownsRow.cellAt ho' i (by omega)
    rw [Nat.zero_add,this,getD_byt l i hi]
    simp [Lib.byteCells,List.getElem?_eq_getElem hi]
theorem info_hashP:(Tryz.prog.info? 25).map (fun i=>(i.zero,i.size,i.bytes)) = some (some (.agg (bc (zr 32))),32,32):=by kernel_rfl
theorem append_none_hash {w:World} (ty:TypeId) (c:Nat) :
    (Builtin.append_ #[38,38] ty #[.slice none 0 0,.slice none 0 c]).run Tryz.prog w = .ok (.slice none 0 0) w:=by
  obtain ⟨i0,hi,hz0,hz1,hz2⟩:=info_parts info_hashP
  simp [Builtin.append_,run_underlying Tryz.underlying38,sizeOf,typeInfo,hi,Builtin.lenOf,Builtin.firstCells]
theorem append_hashes {ops:Array Oper} {rest:List Oper} {o:Oper} {a:Act} {Q:Exit→Act→World→Prop} {w:World} {xv:Value} {l:List UInt8} (hgd:o.guard = none) (s x:Operand)
    (ho:o.op = .call { callee:=.builtin .append,args:=#[s,x],argTypes:=#[38,38] }) (hs:a.eval s = .slice none 0 0) (hx:a.eval x = xv)
    (hr:RH w xv l) (hlim:l.length≤140737488351232)
    (h:∀ v' w',OH w.heap.size w' v' l→Below w.heap.size w w'→wpList Tryz.prog ops Q rest (a.put o.dst v') w'):wpList Tryz.prog ops Q (o :: rest) a w:=by
  obtain ⟨i0,hi,hz0,hz1,hz2⟩:=info_parts info_hashP
  obtain ⟨ad,n,c,rfl,hl,_,hr⟩:=hr
  have hown:w.ownsRow w.heap.size 25 32 (.slice none 0 0) 0 []:=World.ownsRow_nil _ _ _ _
  have key:∀ (b:Addr),ad = some b→(∀ j,j < l.length→w.cell? (b.add j) = some (.int .u8 ((byt l j).toNat:Int)))→wpList Tryz.prog ops Q (o :: rest) a w:=by
    rintro b rfl hc
    refine wpList_append_own w hgd s x 38 ho w.heap.size 25 i0 _ 32 32 Tryz.underlying38 hi hz0 hz1 hz2 rfl (by omega) _ 0 [] hs hown b n c (Lib.byteCells l) hx (by rw [bcl_len]; exact hl) (fun j u hu=>?_) (Lib.byteCells_one _) (by unfold maxLen; omega) (by omega) (Nat.le_refl _) (fun v' w' h1 h2 _=>?_)
    · have hj':j < l.length:=by
        have:=(List.getElem?_eq_some_iff.1 hu).1
        rwa [bcl_len] at this
      rw [hc j hj',getD_byt l j hj']
      simpa [Lib.byteCells,List.getElem?_eq_getElem hj'] using hu
    · refine h v' w' ⟨n,hl,?_⟩ ((Below.refl _ w).grown h2 (Nat.le_refl _) (fun k hk=>(World.ownsRow.lt hown k hk).1))
      simpa using h1
  rcases hr with rfl | ⟨b,off,rfl,_,hc⟩
  · have hl0:l = []:=List.length_eq_zero_iff.1 (by omega)
    subst hl0
    cases ad with
    | none =>
      refine wpList_plain hgd fun K hK=>?_
      have hrun:=append_none_hash (w:=w) o.type c
      unfold Oper.wp
      simp [execOp,ho,resolve,invoke,builtin,hs,hx,hrun,Result.andThen]
      exact hK _ _ (h _ _ (OH.nil _ _) (Below.refl _ _))
    | some ad=>exact key ad rfl (fun j hj=>by simp at hj)
  · refine key ⟨b,off,none⟩ rfl (fun j hj=>?_)
    rw [Addr.add_mid]; exact hc j hj
theorem ownsRow_keepB {w w':World} {B e size n:Nat} {v:Value} {xs:List Value} (h:w.ownsRow B e size v n xs) (hk:∀ k,B≤k→k < w.heap.size→w'.heap[k]? = w.heap[k]?):w'.ownsRow B e size v n xs:=by
  refine ⟨h.1,?_⟩
  rcases h.2 with h1 | ⟨g,cap,cur,h1,h2,h3,h4⟩
  · exact .inl h1
  · exact .inr ⟨g,cap,cur,h1,h2,(hk g h2 (Array.getElem?_eq_some_iff.1 h3).1).trans h3,h4⟩
theorem ownsRow_mono {w:World} {B B' e size n:Nat} {v:Value} {xs:List Value} (h:w.ownsRow B e size v n xs) (hb:B'≤B):w.ownsRow B' e size v n xs:=by
  refine ⟨h.1,?_⟩
  rcases h.2 with h1 | ⟨g,cap,cur,h1,h2,h3⟩
  · exact .inl h1
  · exact .inr ⟨g,cap,cur,h1,Nat.le_trans hb h2,h3⟩
structure MM (w:World) (m:Mv) (D hb:List UInt8):Prop where
  ok:m.ok
  d:RB w m.d D
  h:RH w m.h hb
  dl:D.length≤140737488351232
  hl:hb.length≤140737488351232
theorem MM.keep {w w':World} {m:Mv} {D hb:List UInt8} (h:MM w m D hb) (hb':Below w.heap.size w w'):MM w' m D hb:=⟨h.ok,h.d.keep hb',h.h.keep hb',h.dl,h.hl⟩
theorem MM.sd {w:World} {m:Mv} {D hb:List UInt8} (h:MM w m D hb):sln m.d = D.length:=by
  obtain ⟨a,c,e,_⟩:=h.d
  rw [e]; rfl
theorem MM.sh {w:World} {m:Mv} {D hb:List UInt8} (h:MM w m D hb):hb.length = sln m.h * 32:=by
  obtain ⟨a,n,c,e,h2,_⟩:=h.h
  rw [e]; exact h2
theorem results_msg {fn:Func} {p:Tmp} (h:fn.results = #[.cell p 40]) (tmps:Array Value) (w:World) (g:Nat) (m:Mv)
    (hp:tmps.getD p undef = .pointer (some ⟨g,0,none⟩)) (hg:MB w g m) (ok:m.ok):(results fn tmps).run Tryz.prog w = .ok (.agg m.cs) w:=by
  have hp':tmps[p]?.getD undef = .pointer (some ⟨g,0,none⟩):=by simpa using hp
  simp [results,h,hp',asAddr,run_loadVar_row w g 40 40 m.cs (0,0) _ hg Tryz.underlying40 rfl (info_msg ok)]
def zm:Mv:=⟨0,0,0,0,.slice none 0 0,zr 32,0,0,.slice none 0 0⟩
theorem zm_ok:zm.ok:=⟨zr_len 32,⟨_,_,_,rfl⟩,⟨_,_,_,rfl⟩⟩
theorem z40_eq:(#[.int .i64 0,.int .i64 0,.int .i64 0,.int .i64 0,.slice none 0 0,.int .u8 0,.int .u8 0,.int .u8 0,.int .u8 0,.int .u8 0,.int .u8 0,.int .u8 0,.int .u8 0,.int .u8 0,.int .u8 0,.int .u8 0,.int .u8 0,.int .u8 0,.int .u8 0,.int .u8 0,.int .u8 0,.int .u8 0,.int .u8 0,.int .u8 0,.int .u8 0,.int .u8 0,.int .u8 0,.int .u8 0,.int .u8 0,.int .u8 0,.int .u8 0,.int .u8 0,.int .u8 0,.int .u8 0,.int .u8 0,.int .u8 0,.int .u8 0,.int .i64 0,.int .i64 0,.slice none 0 0]:Array Value) = zm.cs:=rfl
theorem MB.setRow {w:World} {g:Nat} {m m':Mv} (h:MB w g m):MB (w.setRow g m'.cs) g m':=heapSetRow _ _ _ _ _ h
theorem drewN2 (w:World) (n m:Nat):(w.drewN n).drewN m = w.drewN (n + m):=by
  simp [World.drewN,Nat.add_assoc]
theorem wpQuiet_hash {ops:Array Oper} {C:World→Prop} {Q:Act→Prop} {a:Act} {o:Oper} {rest:List Oper} (hw:Region.wanted o (yielded ops a.tmps) = true) (x:Operand) (ho:o.op = .load 25 x) (g k:Nat) (hx:a.eval x = .pointer (some ⟨g,k,none⟩)) (h:List UInt8) (hr:∀ w',C w'→w'.rangeAt g k (Lib.byteCells h)) (hl:h.length = 32)
    (hn:wpQuiet Tryz.prog ops C Q rest (a.put o.dst (.agg (bc h)))):wpQuiet Tryz.prog ops C Q (o :: rest) a:=by
  refine wpQuiet_step (fun K hK=>?_)
  rw [if_pos hw]
  refine ⟨.agg (bc h),fun w' hC=>?_,hK _ hn⟩
  unfold Oper.quietAt
  have:=run_loadAt_mid w' g k 25 (Lib.byteCells h) _ (hr w' hC) Tryz.underlying25 rfl (by rw [bcl_len,hl]; exact info_hash)
  unfold execOp
  simp only [ho,hx,Sem.run_bind,this,Result.andThen_ok,Sem.run_pure]
  exact ⟨rfl,rfl⟩
theorem bcl_get (l:List UInt8) (j:Nat) (hj:j < l.length):(Lib.byteCells l)[j]? = some (.int .u8 ((byt l j).toNat:Int)):=by
  simp [Lib.byteCells,hj,getD_byt l j hj]
theorem RH.cut {w:World} {v:Value} {l:List UInt8} {a:Option Addr} {n c:Nat} (h:RH w v l) (hv:v = .slice a n c) (k:Nat) (hk:k < n):∃ g o,a = some ⟨g,o,none⟩∧g < w.heap.size∧w.rangeAt g (o + k * 32) (Lib.byteCells ((l.drop (k * 32)).take 32))∧((l.drop (k * 32)).take 32).length = 32:=by
  obtain ⟨a',n',c',e,hl,_,h⟩:=h
  rw [hv] at e
  cases e
  rcases h with h | ⟨g,o,rfl,h2,h3⟩
  · omega
  · have hl32:((l.drop (k * 32)).take 32).length = 32:=by rw [List.length_take,List.length_drop]; omega
    refine ⟨g,o,rfl,h2,fun j y hj=>?_,hl32⟩
    have hj32:j < 32:=by
      have:=(List.getElem?_eq_some_iff.1 hj).1
      rw [bcl_len,hl32] at this; exact this
    have:=h3 (k * 32 + j) (by omega)
    rw [← Nat.add_assoc] at this
    rw [this]
    have e2:byt l (k * 32 + j) = byt ((l.drop (k * 32)).take 32) j:=by rw [byt_take _ _ _ hj32,byt_drop]
    rw [e2, ← hj,bcl_get _ j (by omega)]
set_option maxHeartbeats 2000000 in
set_option maxRecDepth 100000 in
theorem msameT (w:World) (m n:Mv) (D hb:List UInt8) (hm:MM w m D hb) (hn:MM w n D hb) (he:n = { m with d:=n.d,h:=n.h }) :
    Calls Tryz.prog 29 #[.agg m.cs,.agg n.cs] w fun e w'=>e = .returned (.bool true)∧Below w.heap.size w w':=by
  have C0:∃ X,(w.alloc (.cells m.cs 40)).alloc (.cells n.cs 40) = X∧MB X w.heap.size m∧MB X (w.heap.size + 1) n∧Below w.heap.size w X:=by
    refine ⟨_,rfl,?_,?_,((Below.refl _ _).alloc (Nat.le_refl _) _).alloc (by simp) _⟩
    · show (World.alloc _ _).heap[_]? = _
      rw [heapOld _ _ _ (by simp),heapNew]
    · exact heapLast _ _ (by simp)
  have HM:Hid (MM w m D hb∧MM w n D hb):=⟨hm,hn⟩
  obtain ⟨d2,h2⟩:∃ d2 h2,n = { m with d:=d2,h:=h2 }:=⟨_,_,he⟩
  obtain ⟨h2,rfl⟩:=h2
  obtain ⟨ad,cd,ed,_⟩:=hm.d
  obtain ⟨ad2,cd2,ed2,_⟩:=hn.d
  obtain ⟨ah,nh,ch,eh,lh,_,_⟩:=hm.h
  obtain ⟨ah2,nh2,ch2,eh2,lh2,_,_⟩:=hn.h
  obtain rfl:nh2 = nh:=by omega
  simp only at ed2 eh2
  subst ed2 eh2
  have hnl:nh2 * 32≤140737488351232:=by have:=hm.hl; omega
  have ok:=hm.ok
  have ok2:=hn.ok
  clear hm hn he lh lh2
  go_enter Tryz.func29,Tryz.ntmps29
  go_upto_region 1 with fail
  obtain ⟨X,hX,C0⟩:=C0
  rw [hX]
  clear hX
  generalize Mv.cs _ = mc1
  generalize Mv.cs _ = mc2
  have HX:Hid (Below w.heap.size w X∧MM X m D hb∧MM X { m with d:=.slice ad2 D.length cd2,h:=.slice ah2 nh2 ch2 } D hb):=⟨C0.2.2,HM.out.1.keep C0.2.2,HM.out.2.keep C0.2.2⟩
  have c0:=C0.1.c0
  have c1:=C0.1.c1
  have c2:=C0.1.c2
  have c3:=C0.1.c3
  have c4:=C0.1.c4
  have c37:=C0.1.c37 ok
  have c38:=C0.1.c38 ok
  have c39:=C0.1.c39 ok
  have e0:X.cell? ⟨w.heap.size + 1,0,none⟩ = some (.int .i64 m.k):=C0.2.1.c0
  have e1:X.cell? ⟨w.heap.size + 1,1,none⟩ = some (.int .i64 m.i):=C0.2.1.c1
  have e2:X.cell? ⟨w.heap.size + 1,2,none⟩ = some (.int .i64 m.b):=C0.2.1.c2
  have e3:X.cell? ⟨w.heap.size + 1,3,none⟩ = some (.int .i64 m.l):=C0.2.1.c3
  have e4:X.cell? ⟨w.heap.size + 1,4,none⟩ = some (.slice ad2 D.length cd2):=C0.2.1.c4
  have e37:X.cell? ⟨w.heap.size + 1,37,none⟩ = some (.int .i64 m.ba):=C0.2.1.c37 ok2
  have e38:X.cell? ⟨w.heap.size + 1,38,none⟩ = some (.int .i64 m.pr):=C0.2.1.c38 ok2
  have e39:X.cell? ⟨w.heap.size + 1,39,none⟩ = some (.slice ah2 nh2 ch2):=C0.2.1.c39 ok2
  have r0:=C0.1.root
  have r1:X.rangeAt (w.heap.size + 1) 5 (Lib.byteCells m.r):=C0.2.1.root
  have hih:(Tryz.prog.info? 25).map (·.size) = some (Lib.byteCells m.r).length:=by rw [bcl_len,ok.r]; exact info_hash
  have hne:∀ u:World,(Op.equalIn 10000 25 (.agg (Lib.byteCells m.r).toArray) (.agg (Lib.byteCells m.r).toArray)).run Tryz.prog u = .ok (decide (m.r = m.r)) u:=fun u=>equal_hash u 9998 m.r m.r ok.r ok.r
  rw [decide_eq_true rfl] at hne
  rw [ed] at c4
  rw [eh] at c39
  have HE:Hid (m.d = .slice ad D.length cd∧m.h = .slice ah nh2 ch):=⟨ed,eh⟩
  clear ed eh C0 ok2 HM
  go_wp2_with (first |(refine wpList_load_mid rfl 25 _ rfl w.heap.size 5 rfl (Lib.byteCells m.r) _ r0 Tryz.underlying25 rfl hih ?_) |(refine wpList_load_mid rfl 25 _ rfl (w.heap.size + 1) 5 rfl (Lib.byteCells m.r) _ r1 Tryz.underlying25 rfl hih ?_) |(go_at_call 23; refine (same _ _ D X HX.out.2.1.dl (HE.out.1 ▸ HX.out.2.1.d) HX.out.2.2.d).mono ?_; rintro e w' ⟨rfl,nq,rfl⟩))
  clear hne r0 r1 hih c0 c1 c2 c3 c4 c37 c38 e0 e1 e2 e3 e4 e37 e38
  go_loopw [5] (fun t wr=>∃ k nn:Nat,k≤nh2∧t = .int .i64 k∧wr = X.drewN nn) (fun t _=>nh2 - (intOf t).toNat)
  case atStart=>exact ⟨0,nq,by omega,rfl,rfl⟩
  case round =>
    obtain ⟨k,nn,hk,rfl,rfl⟩:=hrel
    by_cases hlt:k < nh2
    · obtain ⟨G1,o1,rfl,_,r1,l1⟩:=RH.cut HX.out.2.1.h HE.out.2 k hlt
      obtain ⟨G2,o2,rfl,_,r2,_⟩:=RH.cut HX.out.2.2.h rfl k hlt
      have R1:Hid (∀ n,(X.drewN n).rangeAt G1 (o1 + k * 32) (Lib.byteCells ((hb.drop (k * 32)).take 32))):=fun n=>r1
      have R2:Hid (∀ n,(X.drewN n).rangeAt G2 (o2 + k * 32) (Lib.byteCells ((hb.drop (k * 32)).take 32))):=fun n=>r2
      have heq:=fun u=>equal_hash u 9998 ((hb.drop (k * 32)).take 32) ((hb.drop (k * 32)).take 32) l1 l1
      rw [decide_eq_true rfl] at heq
      have HL:Hid (((hb.drop (k * 32)).take 32).length = 32):=l1
      clear r1 r2 l1
      generalize (hb.drop (k * 32)).take 32 = h32 at *
      have hgd:Tryz.prog.eqGuardType Tryz.prog.depth 25 = false:=by kernel_rfl
      go_wp2
      refine wp_region_quiet_lit (by kernel_rfl) (by kernel_rfl) ?_
      quiet_step (fail)
      quiet_step (fail)
      quiet_step (fail)
      quiet_step (fail)
      refine wpQuiet_hash rfl _ rfl G1 (o1 + k * 32) rfl h32 (fun w' hw'=>by obtain ⟨m,rfl⟩:=hw'; rw [drewN2]; exact R1.out _) HL.out ?_
      quiet_step (fail)
      quiet_step (fail)
      quiet_step (fail)
      quiet_step (fail)
      refine wpQuiet_hash rfl _ rfl G2 (o2 + k * 32) rfl h32 (fun w' hw'=>by obtain ⟨m,rfl⟩:=hw'; rw [drewN2]; exact R2.out _) HL.out ?_
      quiet_step (fail)
      refine wpQuiet_nil ?_
      intro _ hw'
      obtain ⟨nq,hw''⟩:=hw'
      subst hw''
      rw [drewN2]
      go_wp2
      exact ⟨⟨k + 1,_,by omega,by go_num,rfl⟩,by simp [intOf]; omega⟩
    · go_wp2
      go_ret
      exact ⟨rfl,belowN HX.out.1 _⟩
theorem MM.big {w:World} {m:Mv} {D hb:List UInt8} (h:MM w m D hb):sln m.h≤140737488351232∧sln m.d≤140737488351232:=by
  have h1:=h.sh
  have h2:=h.sd
  have h3:=h.dl
  have h4:=h.hl
  omega
theorem sz_same (m:Mv) (d h:Value) (e1:sln d = sln m.d) (e2:sln h = sln m.h) (c:Nat):sz c { m with d:=d,h:=h } = sz c m:=by
  unfold sz
  split <;> simp [e1,e2]
theorem lk_same (m:Mv) (d h:Value) (c:Nat):lk c { m with d:=d,h:=h } = lk c m:=by
  unfold lk
  split <;> rfl
theorem frn_same (m:Mv) (d h:Value) (e1:sln d = sln m.d) (e2:sln h = sln m.h) (cs:List Nat):frn (blks cs { m with d:=d,h:=h }) = frn (blks cs m):=by
  suffices H:∀ cs (m m':Mv),m'.i = m.i→m'.b = m.b→m'.l = m.l→m'.ba = m.ba→m'.pr = m.pr→m'.r = m.r→sln m'.d = sln m.d→sln m'.h = sln m.h→frn (blks cs m') = frn (blks cs m) from H cs m _ rfl rfl rfl rfl rfl rfl e1 e2
  intro cs
  induction cs with
  | nil=>intro m m' h1 h2 h3 h4 h5 h6 h7 h8; show frn m' = frn m; unfold frn; rw [h1,h2,h3,h4,h5,h6,h7,h8]
  | cons c l ih =>
    intro m m' h1 h2 h3 h4 h5 h6 h7 h8
    refine ih (blk c m) (blk c m') ?_ ?_ ?_ ?_ ?_ ?_ ?_ ?_
    all_goals (unfold blk; split <;> first | assumption | rfl)
theorem valE_same (m:Mv) (d h:Value) (e1:sln d = sln m.d) (e2:sln h = sln m.h):valE { m with d:=d,h:=h } = valE m:=by
  unfold valE
  show (match rowFor m.k with | none=>_ | some r=>_) = _
  cases rowFor m.k with
  | none=>rfl
  | some r =>
    have h1:lks r.cs { m with d:=d,h:=h } = lks r.cs m:=by simp only [lks,lk_same]
    have h2:szs r.cs { m with d:=d,h:=h } = szs r.cs m:=by simp only [szs,sz_same m d h e1 e2]
    simp only [frn_same m d h e1 e2,h1,h2]
set_option maxHeartbeats 1000000 in
theorem validT (w:World) (m:Mv) (ok:m.ok) (hk:KT w) (hh:sln m.h≤140737488351232) (hd:sln m.d≤140737488351232) :
    Calls Tryz.prog 48 #[.agg m.cs] w fun e w'=>e = .returned (.int .i64 (valE m))∧Below w.heap.size w w':=by
  have hc:=heapNew w (.cells m.cs 40)
  have b0:Below w.heap.size w (w.alloc (.cells m.cs 40)):=(Below.refl _ _).alloc (Nat.le_refl _) _
  have HA:Hid (KT (w.alloc (.cells m.cs 40))∧Below w.heap.size w (w.alloc (.cells m.cs 40))∧w.heap.size≤(w.alloc (.cells m.cs 40)).heap.size):=⟨hk.below b0 hk.pos,b0,by simp⟩
  have him:=info_msg ok
  clear b0
  go_enter Tryz.func48,Tryz.ntmps48
  go_wp2_with (first |(refine wpList_load_row rfl 40 _ rfl w.heap.size rfl 40 m.cs (0,0) _ hc Tryz.underlying40 rfl him ?_))
  generalize w.alloc (.cells m.cs 40) = w0 at *
  refine (checkedT w0 m ok HA.out.1 hh hd).mono ?_
  rintro e w1 ⟨v,rfl,_,b1⟩
  have HB:Hid (Below w.heap.size w w1):=HA.out.2.1.trans (b1.mono HA.out.2.2)
  clear b1
  go_wp2
  go_ret
  exact ⟨rfl,HB.out⟩
theorem or4 (x0 x1 x2 x3:Nat) (h0:x0 < 256) (h1:x1 < 256) (h2:x2 < 256) (h3:x3 < 256) :
    bits .or .u32 (bits .or .u32 (bits .or .u32 ((x0:Int) * 16777216) ((x1:Int) * 65536)) ((x2:Int) * 256)) (x3:Int) = (((((x0 * 256 + x1) * 256 + x2) * 256 + x3:Nat)):Int):=by
  have a1:=u32_or_nat (x0 * 16777216) (x1 * 65536) (by omega) (by omega)
  rw [nat_join 24 _ _ (by omega) (by omega)] at a1
  have a2:=u32_or_nat (x0 * 16777216 + x1 * 65536) (x2 * 256) (by omega) (by omega)
  rw [nat_join 16 _ _ (by omega) (by omega)] at a2
  have a3:=u32_or_nat (x0 * 16777216 + x1 * 65536 + x2 * 256) x3 (by omega) (by omega)
  rw [nat_join 8 _ _ (by omega) (by omega)] at a3
  simp only [Int.natCast_mul,Int.natCast_add,Int.cast_ofNat_Int] at a1 a2 a3 ⊢
  rw [a1,a2,a3]
  omega
theorem ret_int {k:IntKind} {a b:Int} (h:a = b):Ending.returned (.int k a) = .returned (.int k b):=by rw [h]
def nm4 (l:List UInt8):Nat:=(((byt l 0).toNat * 256 + (byt l 1).toNat) * 256 + (byt l 2).toNat) * 256 + (byt l 3).toNat
theorem OW.form3 {B:Nat} {w:World} {v:Value} {l:List UInt8} (h:OW B w v l):∃ a n c,v = .slice a n c:=by
  obtain ⟨a,c,e⟩:=h.form
  exact ⟨a,_,c,e⟩
theorem RB.cells {w:World} {v:Value} {l:List UInt8} (h:RB w v l) (hl:0 < l.length):∃ b o c,v = .slice (some ⟨b,o,none⟩) l.length c∧l.length≤c∧∀ i,i < l.length→w.cell? ⟨b,o + i,none⟩ = some (.int .u8 ((byt l i).toNat:Int)):=by
  obtain ⟨a,c,rfl,hc,h⟩:=h
  rcases h with rfl | ⟨b,o,rfl,_,h⟩
  · simp at hl
  · exact ⟨b,o,c,rfl,hc,h⟩
theorem RB.from {w:World} {v:Value} {l:List UInt8} (h:RB w v l) (k:Nat) (hk:k≤l.length) (hl:0 < l.length):∃ b o c,v = .slice (some ⟨b,o,none⟩) l.length c∧l.length≤c∧RB w (.slice (some ⟨b,o + k,none⟩) (l.length - k) (c - k)) (l.drop k):=by
  obtain ⟨a,c,rfl,hc,h⟩:=h
  rcases h with rfl | ⟨b,o,rfl,hb,h⟩
  · simp at hl
  · refine ⟨b,o,c,rfl,hc,_,c - k,by rw [List.length_drop],by rw [List.length_drop]; omega,.inr ⟨b,o + k,rfl,hb,fun i hi=>?_⟩⟩
    rw [List.length_drop] at hi
    rw [byt_drop,Nat.add_assoc]
    exact h (k + i) (by omega)
theorem RB.empty {w:World} {a:Option Addr} {n c:Nat} {l:List UInt8} (hl:l = []) (hn:n = 0):RB w (.slice a n c) l:=by
  subst hl hn; exact ⟨a,c,rfl,Nat.zero_le _,.inl rfl⟩
set_option maxHeartbeats 1000000 in
theorem numberT (w:World) (v:Value) (l:List UInt8) (hl:4≤l.length) (hl2:l.length≤140737488351232) (hr:RB w v l) :
    Calls Tryz.prog 144 #[v] w fun e w'=>e = .returned (.int .i64 (nm4 l:Int))∧∃ n,w' = w.drewN n:=by
  obtain ⟨b,o,c,rfl,_,hc⟩:=hr.cells (by omega)
  have h0:=UInt8.toNat_lt (byt l 0)
  have h1:=UInt8.toNat_lt (byt l 1)
  have h2:=UInt8.toNat_lt (byt l 2)
  have h3:=UInt8.toNat_lt (byt l 3)
  have c0:w.cell? ⟨b,o,none⟩ = some (.int .u8 ((byt l 0).toNat:Int)):=hc 0 (by omega)
  have c1:=hc 1 (by omega)
  have c2:=hc 2 (by omega)
  have c3:=hc 3 (by omega)
  unfold nm4
  clear hc hr
  generalize (byt l 0).toNat = x0 at *
  generalize (byt l 1).toNat = x1 at *
  generalize (byt l 2).toNat = x2 at *
  generalize (byt l 3).toNat = x3 at *
  generalize l.length = n at *
  go_enter Tryz.func144,Tryz.ntmps144
  go_wp2
  go_quiet (fail)
  go_wp2
  go_ret
  exact ⟨ret_int (by rw [or4 x0 x1 x2 x3 h0 h1 h2 h3]; unfold wrap64; omega),_,rfl⟩
set_option maxHeartbeats 1000000 in
theorem k3T (W w:World) (g:Nat) (v:Value) (l:List UInt8) (hl:1≤l.length) (hl2:l.length≤140737488351232) (hr:RB W v l) :
    Calls Tryz.prog 132 #[ptr g,v] w fun e w'=>∃ v',e = .returned v'∧RB W v' (l.drop 1)∧w' = w:=by
  obtain ⟨b,o,c,rfl,hc,h⟩:=hr.from 1 hl (by omega)
  have HR:Hid (RB W (.slice (some ⟨b,o + 1,none⟩) (l.length - 1) (c - 1)) (l.drop 1)):=h
  clear hr h
  generalize hln:l.length = n at *
  have HLE:Hid (l.length = n):=hln
  clear hln
  by_cases hck:c = 1
  · subst hck
    have HZ:Hid (l.drop 1 = []∧n - 1 = 0):=⟨List.drop_eq_nil_of_le (by have:=HLE.out; omega),by omega⟩
    generalize hdr:l.drop 1 = LD at *
    go_enter Tryz.func132,Tryz.ntmps132
    go_wp2
    go_ret
    exact ⟨_,rfl,RB.empty HZ.out.1 (by first | rfl | exact HZ.out.2),rfl⟩
  · generalize hdr:l.drop 1 = LD at *
    go_enter Tryz.func132,Tryz.ntmps132
    go_wp2
    go_ret
    exact ⟨_,rfl,HR.out,rfl⟩
set_option maxHeartbeats 1000000 in
theorem o3T (W w:World) (g:Nat) (m:Mv) (hm:MB w g m) (v:Value) (l:List UInt8) (hl:1≤l.length) (hl2:l.length≤140737488351232) (hr:RB W v l) (hW:Below W.heap.size W w) :
    Calls Tryz.prog 137 #[ptr g,v] w fun e w'=>∃ v',e = .returned v'∧RB W v' (l.drop 1)∧w' = w.setCell ⟨g,1,none⟩ (.int .i64 ((byt l 0).toNat:Int)):=by
  have c1:=hm.c1
  have f1:=hm.free 1
  obtain ⟨b,o,c,rfl,hc,h⟩:=hr.from 1 hl (by omega)
  obtain ⟨b',o',c',e,_,hcell⟩:=(hr.keep hW).cells (by omega)
  simp only [Value.slice.injEq,Option.some.injEq,Addr.mk.injEq,true_and,and_true] at e
  obtain ⟨⟨rfl,rfl⟩,rfl⟩:=e
  have hc0:w.cell? ⟨b,o,none⟩ = some (.int .u8 ((byt l 0).toNat:Int)):=hcell 0 (by omega)
  have HR:Hid (RB W (.slice (some ⟨b,o + 1,none⟩) (l.length - 1) (c - 1)) (l.drop 1)):=h
  have hb:=UInt8.toNat_lt (byt l 0)
  clear hr h hW hcell hm
  generalize (byt l 0).toNat = y at *
  generalize hln:l.length = n at *
  have HLE:Hid (l.length = n):=hln
  clear hln
  by_cases hck:c = 1
  · subst hck
    have HZ:Hid (l.drop 1 = []∧n - 1 = 0):=⟨List.drop_eq_nil_of_le (by have:=HLE.out; omega),by omega⟩
    generalize hdr:l.drop 1 = LD at *
    go_enter Tryz.func137,Tryz.ntmps137
    go_wp2
    go_ret
    exact ⟨_,rfl,RB.empty HZ.out.1 (by first | rfl | exact HZ.out.2),rfl⟩
  · generalize hdr:l.drop 1 = LD at *
    go_enter Tryz.func137,Tryz.ntmps137
    go_wp2
    go_ret
    exact ⟨_,rfl,HR.out,rfl⟩
def N3R (W w w':World) (e:Ending) (r:List UInt8) (g j N:Nat):Prop:=∃ v' n,e = .returned v'∧RB W v' r∧w' = (w.drewN n).setCell ⟨g,j,none⟩ (.int .i64 (N:Int))
set_option maxHeartbeats 1000000 in
theorem n3T (W w:World) (g p f j:Nat) (x:Int) (hp:w.cell? ⟨p,0,none⟩ = some (fnv f)) (he:EN f) (hf:OFC f j) (h1:w.cell? ⟨g,j,none⟩ = some (.int .i64 x)) (h2:w.frozen? ⟨g,j,none⟩ = false) (v:Value) (l:List UInt8) (hl:4≤l.length) (hl2:l.length≤140737488351232) (hr:RB W v l) (hW:Below W.heap.size W w) :
    Calls Tryz.prog 143 #[ptr g,v,ptr p] w fun e w'=>N3R W w w' e (l.drop 4) g j (nm4 l):=by
  have HF:Hid (OFC f j):=hf
  have HN0:=numberT w v l hl hl2 (hr.keep hW)
  obtain ⟨b,o,c,rfl,hc,h⟩:=hr.from 4 hl (by omega)
  have HN:Hid (Calls Tryz.prog 144 #[.slice (some ⟨b,o,none⟩) l.length c] w fun e w'=>e = .returned (.int .i64 (nm4 l:Int))∧∃ n,w' = w.drewN n):=HN0
  have HR:Hid (RB W (.slice (some ⟨b,o + 4,none⟩) (l.length - 4) (c - 4)) (l.drop 4)):=h
  clear hr h hW hf HN0
  generalize nm4 l = N at *
  generalize hln:l.length = n at *
  have HLE:Hid (l.length = n):=hln
  clear hln
  by_cases hck:c = 4
  · subst hck
    have HZ:Hid (l.drop 4 = []∧n - 4 = 0):=⟨List.drop_eq_nil_of_le (by have:=HLE.out; omega),by omega⟩
    generalize hdr:l.drop 4 = LD at *
    go_enter Tryz.func143,Tryz.ntmps143
    go_wp2_with fail
    refine (HF.out w g).mono ?_
    rintro e w1 ⟨rfl,rfl⟩
    go_wp2_with fail
    refine HN.out.mono ?_
    rintro e w2 ⟨rfl,nq,rfl⟩
    go_wp2
    go_ret
    exact ⟨_,nq,rfl,RB.empty HZ.out.1 (by first | rfl | exact HZ.out.2),rfl⟩
  · generalize hdr:l.drop 4 = LD at *
    go_enter Tryz.func143,Tryz.ntmps143
    go_wp2_with fail
    refine (HF.out w g).mono ?_
    rintro e w1 ⟨rfl,rfl⟩
    go_wp2_with fail
    refine HN.out.mono ?_
    rintro e w2 ⟨rfl,nq,rfl⟩
    go_wp2
    go_ret
    exact ⟨_,nq,rfl,HR.out,rfl⟩
set_option maxHeartbeats 1000000 in
theorem d3T (w:World) (g:Nat) (m:Mv) (hm:MB w g m) (v:Value) (l:List UInt8) (hl2:l.length≤140737488351232) (hr:RB w v l) :
    Calls Tryz.prog 153 #[ptr g,v] w fun e w'=>∃ d',e = .returned (.slice none 0 0)∧OW w.heap.size w' d' l∧MB w' g { m with d:=d' }∧Besides g w w':=by
  have a4:=hm.c4
  have f4:=hm.free 4
  have HO:Hid (OW w.heap.size w (.slice none 0 0) []∧RB w v l∧([]:List UInt8).length + l.length≤140737488351232∧MB w g m):=⟨World.ownsRow_nil _ _ _ _,hr,by simpa using hl2,hm⟩
  have hlt:=hm.lt
  obtain ⟨a,c,rfl,_⟩:=id hr
  clear hr hm
  go_enter Tryz.func153,Tryz.ntmps153
  go_wp2_with (first |(at_builtin; refine append_bytes rfl _ _ rfl rfl HO.out.1 rfl HO.out.2.1 (Nat.le_refl _) HO.out.2.2.1 ?_; intro d' X o3 b3; simp only [List.nil_append] at o3; obtain ⟨da,dn,dc,rfl⟩:=o3.form3; have t4:=(b3.cell (p:=⟨g,4,none⟩) hlt).trans a4; have t5:=(b3.frozen (p:=⟨g,4,none⟩) hlt).trans f4))
  go_ret
  exact ⟨.slice da dn dc,rfl,ownsRow_setCell_below o3 hlt _,(HO.out.2.2.2.below b3).set 4 _ rfl,(Besides.of_below b3).trans (Besides.setCell _ _ _ _)⟩
end Go.Proofs.YtfjjpbebnoghmaaGreatDoor
