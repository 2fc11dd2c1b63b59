import Derived.Test.YtnmeohacdbmplaaGreatDoorM05
namespace Go.Proofs.YtnmeohacdbmplaaGreatDoor
open Go.RowKit
theorem kindB_neg {l : List UInt8} (h : kindB l = -1) : l = [] := by
  unfold kindB at h
  split at h
  · assumption
  · split at h <;> omega
theorem kindB_lit {l : List UInt8} {k : Nat} (h : kindB l = (k : Int)) (hk : k < 1000) : ∃ y l', l = y :: l' ∧ y.toNat = k := by
  unfold kindB at h
  split at h
  · omega
  · rename_i h0
    split at h
    · omega
    · match l, h0 with
      | y :: l', _ => exact ⟨y, l', rfl, by have : byt (y :: l') 0 = y := rfl; rw [this] at h; omega⟩
theorem kindB_oth {l : List UInt8} (h : kindB l = 1000) : ∃ y l', l = y :: l' ∧ 64 ≤ y.toNat := by
  unfold kindB at h
  split at h
  · omega
  · rename_i h0
    split at h
    · rename_i h1
      match l, h0 with
      | y :: l', _ => exact ⟨y, l', rfl, h1⟩
    · have := UInt8.toNat_lt (byt l 0); omega
theorem fit_of {r : Kr} {n : Nat} (h : r.fit (n : Int) = true) : r.le ≤ (n : Int) ∧ (n : Int) ≤ r.mo ∧ ((n : Int) - r.le) % r.st = 0 := by
  unfold Kr.fit at h
  simpa [and_assoc] using h
theorem frn_of {m : Mv} (h1 : m.i = 0) (h2 : m.b = 0) (h3 : m.l = 0) (h4 : m.ba = 0) (h5 : m.pr = 0) (h6 : m.r = zr 32) (h7 : sln m.d = 0) (h8 : sln m.h = 0) : frn m = false := by
  unfold frn
  rw [h1, h2, h3, h4, h5, h6, h7, h8]
  simp
theorem split4 (l m : List UInt8) (h : 4 ≤ l.length) (e : l.drop 4 = m) : be4 (nm4 l) ++ m = l := by
  rw [be4_nm4 l h, ← e, List.take_append_drop]

set_option maxHeartbeats 1000000 in
theorem tw_n1 (l : List UInt8) (hk : kindB l = -1) (hf : (⟨-1, 0, 0, 1, [0, 0, 0, 0, 0, 0, 0]⟩ : Kr).fit (l.length : Int) = true) (hl : lks [] (decR ⟨-1, 0, 0, 1, [0, 0, 0, 0, 0, 0, 0]⟩ l).m = true) (d hv : Value) (hd : sln d = (decR ⟨-1, 0, 0, 1, [0, 0, 0, 0, 0, 0, 0]⟩ l).D.length) (hh : (decR ⟨-1, 0, 0, 1, [0, 0, 0, 0, 0, 0, 0]⟩ l).hb.length = sln hv * 32) :
    frn (blks [] { (decR ⟨-1, 0, 0, 1, [0, 0, 0, 0, 0, 0, 0]⟩ l).m with d := d, h := hv }) = false ∧ szs [] { (decR ⟨-1, 0, 0, 1, [0, 0, 0, 0, 0, 0, 0]⟩ l).m with d := d, h := hv } = l.length ∧ lays [] { (decR ⟨-1, 0, 0, 1, [0, 0, 0, 0, 0, 0, 0]⟩ l).m with d := d, h := hv } (decR ⟨-1, 0, 0, 1, [0, 0, 0, 0, 0, 0, 0]⟩ l).D (decR ⟨-1, 0, 0, 1, [0, 0, 0, 0, 0, 0, 0]⟩ l).hb = l := by
  obtain ⟨f1, f2, f3⟩ := fit_of hf
  simp only at f1 f2 f3
  obtain rfl := kindB_neg hk
  have em : (decR ⟨-1, 0, 0, 1, [0, 0, 0, 0, 0, 0, 0]⟩ ([] : List UInt8)).m = zmk (-1) := rfl
  have eD : (decR ⟨-1, 0, 0, 1, [0, 0, 0, 0, 0, 0, 0]⟩ ([] : List UInt8)).D = [] := rfl
  have eH : (decR ⟨-1, 0, 0, 1, [0, 0, 0, 0, 0, 0, 0]⟩ ([] : List UInt8)).hb = [] := rfl
  rw [eD] at hd
  rw [eH] at hh
  rw [em, eD, eH]
  have hd0 : sln d = 0 := hd
  have hh0 : sln hv = 0 := by have h8 : 0 = sln hv * 32 := hh; omega
  refine ⟨?_, ?_, ?_⟩
  · exact frn_of rfl rfl rfl rfl rfl rfl hd0 hh0
  · show 0 = _
    rfl
  · rfl
set_option maxHeartbeats 1000000 in
theorem tw_0 (l : List UInt8) (hk : kindB l = 0) (hf : (⟨0, 1, 1, 1, [1, 0, 0, 0, 0, 0, 0]⟩ : Kr).fit (l.length : Int) = true) (hl : lks [1] (decR ⟨0, 1, 1, 1, [1, 0, 0, 0, 0, 0, 0]⟩ l).m = true) (d hv : Value) (hd : sln d = (decR ⟨0, 1, 1, 1, [1, 0, 0, 0, 0, 0, 0]⟩ l).D.length) (hh : (decR ⟨0, 1, 1, 1, [1, 0, 0, 0, 0, 0, 0]⟩ l).hb.length = sln hv * 32) :
    frn (blks [1] { (decR ⟨0, 1, 1, 1, [1, 0, 0, 0, 0, 0, 0]⟩ l).m with d := d, h := hv }) = false ∧ szs [1] { (decR ⟨0, 1, 1, 1, [1, 0, 0, 0, 0, 0, 0]⟩ l).m with d := d, h := hv } = l.length ∧ lays [1] { (decR ⟨0, 1, 1, 1, [1, 0, 0, 0, 0, 0, 0]⟩ l).m with d := d, h := hv } (decR ⟨0, 1, 1, 1, [1, 0, 0, 0, 0, 0, 0]⟩ l).D (decR ⟨0, 1, 1, 1, [1, 0, 0, 0, 0, 0, 0]⟩ l).hb = l := by
  obtain ⟨f1, f2, f3⟩ := fit_of hf
  simp only at f1 f2 f3
  obtain ⟨y, l, rfl, hy⟩ := kindB_lit (k := 0) hk (by omega)
  have em : (decR ⟨0, 1, 1, 1, [1, 0, 0, 0, 0, 0, 0]⟩ (y :: l)).m = zmk 0 := rfl
  have eD : (decR ⟨0, 1, 1, 1, [1, 0, 0, 0, 0, 0, 0]⟩ (y :: l)).D = [] := rfl
  have eH : (decR ⟨0, 1, 1, 1, [1, 0, 0, 0, 0, 0, 0]⟩ (y :: l)).hb = [] := rfl
  rw [eD] at hd
  rw [eH] at hh
  rw [em, eD, eH]
  have hlen : (y :: l).length = l.length + 1 := rfl
  have hd0 : sln d = 0 := hd
  have hh0 : sln hv = 0 := by have h8 : 0 = sln hv * 32 := hh; omega
  refine ⟨?_, ?_, ?_⟩
  · exact frn_of rfl rfl rfl rfl rfl rfl hd0 hh0
  · show 1 + (0) = _
    omega
  · have hub : ub (0 : Int) = y := by
      have h9 := ub_byt y
      rw [hy] at h9
      exact h9
    obtain rfl : l = [] := List.length_eq_zero_iff.1 (by omega)
    show [ub (0 : Int)] ++ [] = _
    rw [hub]; rfl
set_option maxHeartbeats 1000000 in
theorem tw_1 (l : List UInt8) (hk : kindB l = 1) (hf : (⟨1, 1, 1, 1, [1, 0, 0, 0, 0, 0, 0]⟩ : Kr).fit (l.length : Int) = true) (hl : lks [1] (decR ⟨1, 1, 1, 1, [1, 0, 0, 0, 0, 0, 0]⟩ l).m = true) (d hv : Value) (hd : sln d = (decR ⟨1, 1, 1, 1, [1, 0, 0, 0, 0, 0, 0]⟩ l).D.length) (hh : (decR ⟨1, 1, 1, 1, [1, 0, 0, 0, 0, 0, 0]⟩ l).hb.length = sln hv * 32) :
    frn (blks [1] { (decR ⟨1, 1, 1, 1, [1, 0, 0, 0, 0, 0, 0]⟩ l).m with d := d, h := hv }) = false ∧ szs [1] { (decR ⟨1, 1, 1, 1, [1, 0, 0, 0, 0, 0, 0]⟩ l).m with d := d, h := hv } = l.length ∧ lays [1] { (decR ⟨1, 1, 1, 1, [1, 0, 0, 0, 0, 0, 0]⟩ l).m with d := d, h := hv } (decR ⟨1, 1, 1, 1, [1, 0, 0, 0, 0, 0, 0]⟩ l).D (decR ⟨1, 1, 1, 1, [1, 0, 0, 0, 0, 0, 0]⟩ l).hb = l := by
  obtain ⟨f1, f2, f3⟩ := fit_of hf
  simp only at f1 f2 f3
  obtain ⟨y, l, rfl, hy⟩ := kindB_lit (k := 1) hk (by omega)
  have em : (decR ⟨1, 1, 1, 1, [1, 0, 0, 0, 0, 0, 0]⟩ (y :: l)).m = zmk 1 := rfl
  have eD : (decR ⟨1, 1, 1, 1, [1, 0, 0, 0, 0, 0, 0]⟩ (y :: l)).D = [] := rfl
  have eH : (decR ⟨1, 1, 1, 1, [1, 0, 0, 0, 0, 0, 0]⟩ (y :: l)).hb = [] := rfl
  rw [eD] at hd
  rw [eH] at hh
  rw [em, eD, eH]
  have hlen : (y :: l).length = l.length + 1 := rfl
  have hd0 : sln d = 0 := hd
  have hh0 : sln hv = 0 := by have h8 : 0 = sln hv * 32 := hh; omega
  refine ⟨?_, ?_, ?_⟩
  · exact frn_of rfl rfl rfl rfl rfl rfl hd0 hh0
  · show 1 + (0) = _
    omega
  · have hub : ub (1 : Int) = y := by
      have h9 := ub_byt y
      rw [hy] at h9
      exact h9
    obtain rfl : l = [] := List.length_eq_zero_iff.1 (by omega)
    show [ub (1 : Int)] ++ [] = _
    rw [hub]; rfl
set_option maxHeartbeats 1000000 in
theorem tw_2 (l : List UInt8) (hk : kindB l = 2) (hf : (⟨2, 1, 1, 1, [1, 0, 0, 0, 0, 0, 0]⟩ : Kr).fit (l.length : Int) = true) (hl : lks [1] (decR ⟨2, 1, 1, 1, [1, 0, 0, 0, 0, 0, 0]⟩ l).m = true) (d hv : Value) (hd : sln d = (decR ⟨2, 1, 1, 1, [1, 0, 0, 0, 0, 0, 0]⟩ l).D.length) (hh : (decR ⟨2, 1, 1, 1, [1, 0, 0, 0, 0, 0, 0]⟩ l).hb.length = sln hv * 32) :
    frn (blks [1] { (decR ⟨2, 1, 1, 1, [1, 0, 0, 0, 0, 0, 0]⟩ l).m with d := d, h := hv }) = false ∧ szs [1] { (decR ⟨2, 1, 1, 1, [1, 0, 0, 0, 0, 0, 0]⟩ l).m with d := d, h := hv } = l.length ∧ lays [1] { (decR ⟨2, 1, 1, 1, [1, 0, 0, 0, 0, 0, 0]⟩ l).m with d := d, h := hv } (decR ⟨2, 1, 1, 1, [1, 0, 0, 0, 0, 0, 0]⟩ l).D (decR ⟨2, 1, 1, 1, [1, 0, 0, 0, 0, 0, 0]⟩ l).hb = l := by
  obtain ⟨f1, f2, f3⟩ := fit_of hf
  simp only at f1 f2 f3
  obtain ⟨y, l, rfl, hy⟩ := kindB_lit (k := 2) hk (by omega)
  have em : (decR ⟨2, 1, 1, 1, [1, 0, 0, 0, 0, 0, 0]⟩ (y :: l)).m = zmk 2 := rfl
  have eD : (decR ⟨2, 1, 1, 1, [1, 0, 0, 0, 0, 0, 0]⟩ (y :: l)).D = [] := rfl
  have eH : (decR ⟨2, 1, 1, 1, [1, 0, 0, 0, 0, 0, 0]⟩ (y :: l)).hb = [] := rfl
  rw [eD] at hd
  rw [eH] at hh
  rw [em, eD, eH]
  have hlen : (y :: l).length = l.length + 1 := rfl
  have hd0 : sln d = 0 := hd
  have hh0 : sln hv = 0 := by have h8 : 0 = sln hv * 32 := hh; omega
  refine ⟨?_, ?_, ?_⟩
  · exact frn_of rfl rfl rfl rfl rfl rfl hd0 hh0
  · show 1 + (0) = _
    omega
  · have hub : ub (2 : Int) = y := by
      have h9 := ub_byt y
      rw [hy] at h9
      exact h9
    obtain rfl : l = [] := List.length_eq_zero_iff.1 (by omega)
    show [ub (2 : Int)] ++ [] = _
    rw [hub]; rfl
set_option maxHeartbeats 1000000 in
theorem tw_3 (l : List UInt8) (hk : kindB l = 3) (hf : (⟨3, 1, 1, 1, [1, 0, 0, 0, 0, 0, 0]⟩ : Kr).fit (l.length : Int) = true) (hl : lks [1] (decR ⟨3, 1, 1, 1, [1, 0, 0, 0, 0, 0, 0]⟩ l).m = true) (d hv : Value) (hd : sln d = (decR ⟨3, 1, 1, 1, [1, 0, 0, 0, 0, 0, 0]⟩ l).D.length) (hh : (decR ⟨3, 1, 1, 1, [1, 0, 0, 0, 0, 0, 0]⟩ l).hb.length = sln hv * 32) :
    frn (blks [1] { (decR ⟨3, 1, 1, 1, [1, 0, 0, 0, 0, 0, 0]⟩ l).m with d := d, h := hv }) = false ∧ szs [1] { (decR ⟨3, 1, 1, 1, [1, 0, 0, 0, 0, 0, 0]⟩ l).m with d := d, h := hv } = l.length ∧ lays [1] { (decR ⟨3, 1, 1, 1, [1, 0, 0, 0, 0, 0, 0]⟩ l).m with d := d, h := hv } (decR ⟨3, 1, 1, 1, [1, 0, 0, 0, 0, 0, 0]⟩ l).D (decR ⟨3, 1, 1, 1, [1, 0, 0, 0, 0, 0, 0]⟩ l).hb = l := by
  obtain ⟨f1, f2, f3⟩ := fit_of hf
  simp only at f1 f2 f3
  obtain ⟨y, l, rfl, hy⟩ := kindB_lit (k := 3) hk (by omega)
  have em : (decR ⟨3, 1, 1, 1, [1, 0, 0, 0, 0, 0, 0]⟩ (y :: l)).m = zmk 3 := rfl
  have eD : (decR ⟨3, 1, 1, 1, [1, 0, 0, 0, 0, 0, 0]⟩ (y :: l)).D = [] := rfl
  have eH : (decR ⟨3, 1, 1, 1, [1, 0, 0, 0, 0, 0, 0]⟩ (y :: l)).hb = [] := rfl
  rw [eD] at hd
  rw [eH] at hh
  rw [em, eD, eH]
  have hlen : (y :: l).length = l.length + 1 := rfl
  have hd0 : sln d = 0 := hd
  have hh0 : sln hv = 0 := by have h8 : 0 = sln hv * 32 := hh; omega
  refine ⟨?_, ?_, ?_⟩
  · exact frn_of rfl rfl rfl rfl rfl rfl hd0 hh0
  · show 1 + (0) = _
    omega
  · have hub : ub (3 : Int) = y := by
      have h9 := ub_byt y
      rw [hy] at h9
      exact h9
    obtain rfl : l = [] := List.length_eq_zero_iff.1 (by omega)
    show [ub (3 : Int)] ++ [] = _
    rw [hub]; rfl
set_option maxHeartbeats 1000000 in
theorem tw_4 (l : List UInt8) (hk : kindB l = 4) (hf : (⟨4, 5, 5, 1, [1, 3, 0, 0, 0, 0, 0]⟩ : Kr).fit (l.length : Int) = true) (hl : lks [1, 3] (decR ⟨4, 5, 5, 1, [1, 3, 0, 0, 0, 0, 0]⟩ l).m = true) (d hv : Value) (hd : sln d = (decR ⟨4, 5, 5, 1, [1, 3, 0, 0, 0, 0, 0]⟩ l).D.length) (hh : (decR ⟨4, 5, 5, 1, [1, 3, 0, 0, 0, 0, 0]⟩ l).hb.length = sln hv * 32) :
    frn (blks [1, 3] { (decR ⟨4, 5, 5, 1, [1, 3, 0, 0, 0, 0, 0]⟩ l).m with d := d, h := hv }) = false ∧ szs [1, 3] { (decR ⟨4, 5, 5, 1, [1, 3, 0, 0, 0, 0, 0]⟩ l).m with d := d, h := hv } = l.length ∧ lays [1, 3] { (decR ⟨4, 5, 5, 1, [1, 3, 0, 0, 0, 0, 0]⟩ l).m with d := d, h := hv } (decR ⟨4, 5, 5, 1, [1, 3, 0, 0, 0, 0, 0]⟩ l).D (decR ⟨4, 5, 5, 1, [1, 3, 0, 0, 0, 0, 0]⟩ l).hb = l := by
  obtain ⟨f1, f2, f3⟩ := fit_of hf
  simp only at f1 f2 f3
  obtain ⟨y, l, rfl, hy⟩ := kindB_lit (k := 4) hk (by omega)
  have em : (decR ⟨4, 5, 5, 1, [1, 3, 0, 0, 0, 0, 0]⟩ (y :: l)).m = { zmk 4 with i := (nm4 l : Int) } := rfl
  have eD : (decR ⟨4, 5, 5, 1, [1, 3, 0, 0, 0, 0, 0]⟩ (y :: l)).D = [] := rfl
  have eH : (decR ⟨4, 5, 5, 1, [1, 3, 0, 0, 0, 0, 0]⟩ (y :: l)).hb = [] := rfl
  rw [eD] at hd
  rw [eH] at hh
  rw [em, eD, eH]
  have hlen : (y :: l).length = l.length + 1 := rfl
  have hd0 : sln d = 0 := hd
  have hh0 : sln hv = 0 := by have h8 : 0 = sln hv * 32 := hh; omega
  refine ⟨?_, ?_, ?_⟩
  · exact frn_of rfl rfl rfl rfl rfl rfl hd0 hh0
  · show 1 + (4 + (0)) = _
    omega
  · have hub : ub (4 : Int) = y := by
      have h9 := ub_byt y
      rw [hy] at h9
      exact h9
    have e : l.drop 4 = [] := List.drop_eq_nil_of_le (by omega)
    show [ub (4 : Int)] ++ (be4 ((nm4 l : Nat) : Int).toNat ++ []) = _
    rw [hub, Int.toNat_natCast, split4 l [] (by omega) e]; rfl
set_option maxHeartbeats 1000000 in
theorem tw_5 (l : List UInt8) (hk : kindB l = 5) (hf : (⟨5, 1, 8193, 1, [1, 10, 0, 0, 0, 0, 0]⟩ : Kr).fit (l.length : Int) = true) (hl : lks [1, 10] (decR ⟨5, 1, 8193, 1, [1, 10, 0, 0, 0, 0, 0]⟩ l).m = true) (d hv : Value) (hd : sln d = (decR ⟨5, 1, 8193, 1, [1, 10, 0, 0, 0, 0, 0]⟩ l).D.length) (hh : (decR ⟨5, 1, 8193, 1, [1, 10, 0, 0, 0, 0, 0]⟩ l).hb.length = sln hv * 32) :
    frn (blks [1, 10] { (decR ⟨5, 1, 8193, 1, [1, 10, 0, 0, 0, 0, 0]⟩ l).m with d := d, h := hv }) = false ∧ szs [1, 10] { (decR ⟨5, 1, 8193, 1, [1, 10, 0, 0, 0, 0, 0]⟩ l).m with d := d, h := hv } = l.length ∧ lays [1, 10] { (decR ⟨5, 1, 8193, 1, [1, 10, 0, 0, 0, 0, 0]⟩ l).m with d := d, h := hv } (decR ⟨5, 1, 8193, 1, [1, 10, 0, 0, 0, 0, 0]⟩ l).D (decR ⟨5, 1, 8193, 1, [1, 10, 0, 0, 0, 0, 0]⟩ l).hb = l := by
  obtain ⟨f1, f2, f3⟩ := fit_of hf
  simp only at f1 f2 f3
  obtain ⟨y, l, rfl, hy⟩ := kindB_lit (k := 5) hk (by omega)
  have em : (decR ⟨5, 1, 8193, 1, [1, 10, 0, 0, 0, 0, 0]⟩ (y :: l)).m = zmk 5 := rfl
  have eD : (decR ⟨5, 1, 8193, 1, [1, 10, 0, 0, 0, 0, 0]⟩ (y :: l)).D = l := rfl
  have eH : (decR ⟨5, 1, 8193, 1, [1, 10, 0, 0, 0, 0, 0]⟩ (y :: l)).hb = [] := rfl
  rw [eD] at hd
  rw [eH] at hh
  rw [em, eD, eH]
  have hlen : (y :: l).length = l.length + 1 := rfl
  have hh0 : sln hv = 0 := by have h8 : 0 = sln hv * 32 := hh; omega
  refine ⟨?_, ?_, ?_⟩
  · exact frn_of rfl rfl rfl rfl rfl rfl rfl hh0
  · show 1 + (sln d + (0)) = _
    omega
  · have hub : ub (5 : Int) = y := by
      have h9 := ub_byt y
      rw [hy] at h9
      exact h9
    show [ub (5 : Int)] ++ (l ++ []) = _
    rw [hub]; simp
set_option maxHeartbeats 1000000 in
theorem tw_6 (l : List UInt8) (hk : kindB l = 6) (hf : (⟨6, 13, 13, 1, [1, 3, 4, 6, 0, 0, 0]⟩ : Kr).fit (l.length : Int) = true) (hl : lks [1, 3, 4, 6] (decR ⟨6, 13, 13, 1, [1, 3, 4, 6, 0, 0, 0]⟩ l).m = true) (d hv : Value) (hd : sln d = (decR ⟨6, 13, 13, 1, [1, 3, 4, 6, 0, 0, 0]⟩ l).D.length) (hh : (decR ⟨6, 13, 13, 1, [1, 3, 4, 6, 0, 0, 0]⟩ l).hb.length = sln hv * 32) :
    frn (blks [1, 3, 4, 6] { (decR ⟨6, 13, 13, 1, [1, 3, 4, 6, 0, 0, 0]⟩ l).m with d := d, h := hv }) = false ∧ szs [1, 3, 4, 6] { (decR ⟨6, 13, 13, 1, [1, 3, 4, 6, 0, 0, 0]⟩ l).m with d := d, h := hv } = l.length ∧ lays [1, 3, 4, 6] { (decR ⟨6, 13, 13, 1, [1, 3, 4, 6, 0, 0, 0]⟩ l).m with d := d, h := hv } (decR ⟨6, 13, 13, 1, [1, 3, 4, 6, 0, 0, 0]⟩ l).D (decR ⟨6, 13, 13, 1, [1, 3, 4, 6, 0, 0, 0]⟩ l).hb = l := by
  obtain ⟨f1, f2, f3⟩ := fit_of hf
  simp only at f1 f2 f3
  obtain ⟨y, l, rfl, hy⟩ := kindB_lit (k := 6) hk (by omega)
  have em : (decR ⟨6, 13, 13, 1, [1, 3, 4, 6, 0, 0, 0]⟩ (y :: l)).m = { zmk 6 with i := (nm4 l : Int), b := (nm4 (l.drop 4) : Int), l := (nm4 ((l.drop 4).drop 4) : Int) } := rfl
  have eD : (decR ⟨6, 13, 13, 1, [1, 3, 4, 6, 0, 0, 0]⟩ (y :: l)).D = [] := rfl
  have eH : (decR ⟨6, 13, 13, 1, [1, 3, 4, 6, 0, 0, 0]⟩ (y :: l)).hb = [] := rfl
  rw [eD] at hd
  rw [eH] at hh
  rw [em, eD, eH]
  have hlen : (y :: l).length = l.length + 1 := rfl
  have hd0 : sln d = 0 := hd
  have hh0 : sln hv = 0 := by have h8 : 0 = sln hv * 32 := hh; omega
  refine ⟨?_, ?_, ?_⟩
  · exact frn_of rfl rfl rfl rfl rfl rfl hd0 hh0
  · show 1 + (4 + (4 + (4 + (0)))) = _
    omega
  · have hub : ub (6 : Int) = y := by
      have h9 := ub_byt y
      rw [hy] at h9
      exact h9
    have e : ((l.drop 4).drop 4).drop 4 = [] := List.drop_eq_nil_of_le (by simp; omega)
    show [ub (6 : Int)] ++ (be4 ((nm4 l : Nat) : Int).toNat ++ (be4 ((nm4 (l.drop 4) : Nat) : Int).toNat ++ (be4 ((nm4 ((l.drop 4).drop 4) : Nat) : Int).toNat ++ []))) = _
    rw [hub, Int.toNat_natCast, Int.toNat_natCast, Int.toNat_natCast, split4 ((l.drop 4).drop 4) [] (by simp; omega) e, split4 (l.drop 4) _ (by simp; omega) rfl, split4 l _ (by omega) rfl]; rfl
set_option maxHeartbeats 1000000 in
theorem tw_7 (l : List UInt8) (hk : kindB l = 7) (hf : (⟨7, 10, 16393, 1, [1, 3, 4, 10, 0, 0, 0]⟩ : Kr).fit (l.length : Int) = true) (hl : lks [1, 3, 4, 10] (decR ⟨7, 10, 16393, 1, [1, 3, 4, 10, 0, 0, 0]⟩ l).m = true) (d hv : Value) (hd : sln d = (decR ⟨7, 10, 16393, 1, [1, 3, 4, 10, 0, 0, 0]⟩ l).D.length) (hh : (decR ⟨7, 10, 16393, 1, [1, 3, 4, 10, 0, 0, 0]⟩ l).hb.length = sln hv * 32) :
    frn (blks [1, 3, 4, 10] { (decR ⟨7, 10, 16393, 1, [1, 3, 4, 10, 0, 0, 0]⟩ l).m with d := d, h := hv }) = false ∧ szs [1, 3, 4, 10] { (decR ⟨7, 10, 16393, 1, [1, 3, 4, 10, 0, 0, 0]⟩ l).m with d := d, h := hv } = l.length ∧ lays [1, 3, 4, 10] { (decR ⟨7, 10, 16393, 1, [1, 3, 4, 10, 0, 0, 0]⟩ l).m with d := d, h := hv } (decR ⟨7, 10, 16393, 1, [1, 3, 4, 10, 0, 0, 0]⟩ l).D (decR ⟨7, 10, 16393, 1, [1, 3, 4, 10, 0, 0, 0]⟩ l).hb = l := by
  obtain ⟨f1, f2, f3⟩ := fit_of hf
  simp only at f1 f2 f3
  obtain ⟨y, l, rfl, hy⟩ := kindB_lit (k := 7) hk (by omega)
  have em : (decR ⟨7, 10, 16393, 1, [1, 3, 4, 10, 0, 0, 0]⟩ (y :: l)).m = { zmk 7 with i := (nm4 l : Int), b := (nm4 (l.drop 4) : Int) } := rfl
  have eD : (decR ⟨7, 10, 16393, 1, [1, 3, 4, 10, 0, 0, 0]⟩ (y :: l)).D = ((l.drop 4).drop 4) := rfl
  have eH : (decR ⟨7, 10, 16393, 1, [1, 3, 4, 10, 0, 0, 0]⟩ (y :: l)).hb = [] := rfl
  rw [eD] at hd
  rw [eH] at hh
  rw [em, eD, eH]
  have hlen : (y :: l).length = l.length + 1 := rfl
  have h9 : ((l.drop 4).drop 4).length = l.length - 4 - 4 := by rw [List.length_drop, List.length_drop]
  have hh0 : sln hv = 0 := by have h8 : 0 = sln hv * 32 := hh; omega
  refine ⟨?_, ?_, ?_⟩
  · exact frn_of rfl rfl rfl rfl rfl rfl rfl hh0
  · show 1 + (4 + (4 + (sln d + (0)))) = _
    omega
  · have hub : ub (7 : Int) = y := by
      have h9 := ub_byt y
      rw [hy] at h9
      exact h9
    show [ub (7 : Int)] ++ (be4 ((nm4 l : Nat) : Int).toNat ++ (be4 ((nm4 (l.drop 4) : Nat) : Int).toNat ++ ((l.drop 4).drop 4 ++ []))) = _
    rw [hub, Int.toNat_natCast, Int.toNat_natCast, List.append_nil, split4 (l.drop 4) _ (by simp; omega) rfl, split4 l _ (by omega) rfl]; rfl
set_option maxHeartbeats 1000000 in
theorem tw_8 (l : List UInt8) (hk : kindB l = 8) (hf : (⟨8, 13, 13, 1, [1, 3, 4, 6, 0, 0, 0]⟩ : Kr).fit (l.length : Int) = true) (hl : lks [1, 3, 4, 6] (decR ⟨8, 13, 13, 1, [1, 3, 4, 6, 0, 0, 0]⟩ l).m = true) (d hv : Value) (hd : sln d = (decR ⟨8, 13, 13, 1, [1, 3, 4, 6, 0, 0, 0]⟩ l).D.length) (hh : (decR ⟨8, 13, 13, 1, [1, 3, 4, 6, 0, 0, 0]⟩ l).hb.length = sln hv * 32) :
    frn (blks [1, 3, 4, 6] { (decR ⟨8, 13, 13, 1, [1, 3, 4, 6, 0, 0, 0]⟩ l).m with d := d, h := hv }) = false ∧ szs [1, 3, 4, 6] { (decR ⟨8, 13, 13, 1, [1, 3, 4, 6, 0, 0, 0]⟩ l).m with d := d, h := hv } = l.length ∧ lays [1, 3, 4, 6] { (decR ⟨8, 13, 13, 1, [1, 3, 4, 6, 0, 0, 0]⟩ l).m with d := d, h := hv } (decR ⟨8, 13, 13, 1, [1, 3, 4, 6, 0, 0, 0]⟩ l).D (decR ⟨8, 13, 13, 1, [1, 3, 4, 6, 0, 0, 0]⟩ l).hb = l := by
  obtain ⟨f1, f2, f3⟩ := fit_of hf
  simp only at f1 f2 f3
  obtain ⟨y, l, rfl, hy⟩ := kindB_lit (k := 8) hk (by omega)
  have em : (decR ⟨8, 13, 13, 1, [1, 3, 4, 6, 0, 0, 0]⟩ (y :: l)).m = { zmk 8 with i := (nm4 l : Int), b := (nm4 (l.drop 4) : Int), l := (nm4 ((l.drop 4).drop 4) : Int) } := rfl
  have eD : (decR ⟨8, 13, 13, 1, [1, 3, 4, 6, 0, 0, 0]⟩ (y :: l)).D = [] := rfl
  have eH : (decR ⟨8, 13, 13, 1, [1, 3, 4, 6, 0, 0, 0]⟩ (y :: l)).hb = [] := rfl
  rw [eD] at hd
  rw [eH] at hh
  rw [em, eD, eH]
  have hlen : (y :: l).length = l.length + 1 := rfl
  have hd0 : sln d = 0 := hd
  have hh0 : sln hv = 0 := by have h8 : 0 = sln hv * 32 := hh; omega
  refine ⟨?_, ?_, ?_⟩
  · exact frn_of rfl rfl rfl rfl rfl rfl hd0 hh0
  · show 1 + (4 + (4 + (4 + (0)))) = _
    omega
  · have hub : ub (8 : Int) = y := by
      have h9 := ub_byt y
      rw [hy] at h9
      exact h9
    have e : ((l.drop 4).drop 4).drop 4 = [] := List.drop_eq_nil_of_le (by simp; omega)
    show [ub (8 : Int)] ++ (be4 ((nm4 l : Nat) : Int).toNat ++ (be4 ((nm4 (l.drop 4) : Nat) : Int).toNat ++ (be4 ((nm4 ((l.drop 4).drop 4) : Nat) : Int).toNat ++ []))) = _
    rw [hub, Int.toNat_natCast, Int.toNat_natCast, Int.toNat_natCast, split4 ((l.drop 4).drop 4) [] (by simp; omega) e, split4 (l.drop 4) _ (by simp; omega) rfl, split4 l _ (by omega) rfl]; rfl
set_option maxHeartbeats 1000000 in
theorem tw_21 (l : List UInt8) (hk : kindB l = 21) (hf : (⟨21, 49, 49, 1, [1, 7, 8, 3, 5, 9, 0]⟩ : Kr).fit (l.length : Int) = true) (hl : lks [1, 7, 8, 3, 5, 9] (decR ⟨21, 49, 49, 1, [1, 7, 8, 3, 5, 9, 0]⟩ l).m = true) (d hv : Value) (hd : sln d = (decR ⟨21, 49, 49, 1, [1, 7, 8, 3, 5, 9, 0]⟩ l).D.length) (hh : (decR ⟨21, 49, 49, 1, [1, 7, 8, 3, 5, 9, 0]⟩ l).hb.length = sln hv * 32) :
    frn (blks [1, 7, 8, 3, 5, 9] { (decR ⟨21, 49, 49, 1, [1, 7, 8, 3, 5, 9, 0]⟩ l).m with d := d, h := hv }) = false ∧ szs [1, 7, 8, 3, 5, 9] { (decR ⟨21, 49, 49, 1, [1, 7, 8, 3, 5, 9, 0]⟩ l).m with d := d, h := hv } = l.length ∧ lays [1, 7, 8, 3, 5, 9] { (decR ⟨21, 49, 49, 1, [1, 7, 8, 3, 5, 9, 0]⟩ l).m with d := d, h := hv } (decR ⟨21, 49, 49, 1, [1, 7, 8, 3, 5, 9, 0]⟩ l).D (decR ⟨21, 49, 49, 1, [1, 7, 8, 3, 5, 9, 0]⟩ l).hb = l := by
  obtain ⟨f1, f2, f3⟩ := fit_of hf
  simp only at f1 f2 f3
  obtain ⟨y, l, rfl, hy⟩ := kindB_lit (k := 21) hk (by omega)
  have em : (decR ⟨21, 49, 49, 1, [1, 7, 8, 3, 5, 9, 0]⟩ (y :: l)).m = { zmk 21 with r := l.take 32, ba := (nm4 (l.drop 32) : Int), i := (nm4 ((l.drop 32).drop 4) : Int), l := (nm4 (((l.drop 32).drop 4).drop 4) : Int), pr := (nm4 ((((l.drop 32).drop 4).drop 4).drop 4) : Int) } := rfl
  have eD : (decR ⟨21, 49, 49, 1, [1, 7, 8, 3, 5, 9, 0]⟩ (y :: l)).D = [] := rfl
  have eH : (decR ⟨21, 49, 49, 1, [1, 7, 8, 3, 5, 9, 0]⟩ (y :: l)).hb = [] := rfl
  rw [eD] at hd
  rw [eH] at hh
  rw [em, eD, eH]
  have hlen : (y :: l).length = l.length + 1 := rfl
  have hd0 : sln d = 0 := hd
  have hh0 : sln hv = 0 := by have h8 : 0 = sln hv * 32 := hh; omega
  refine ⟨?_, ?_, ?_⟩
  · exact frn_of rfl rfl rfl rfl rfl rfl hd0 hh0
  · show 1 + (32 + (4 + (4 + (4 + (4 + (0)))))) = _
    omega
  · have hub : ub (21 : Int) = y := by
      have h9 := ub_byt y
      rw [hy] at h9
      exact h9
    show [ub (21 : Int)] ++ (l.take 32 ++ (be4 ((nm4 (l.drop 32) : Nat) : Int).toNat ++ (be4 ((nm4 ((l.drop 32).drop 4) : Nat) : Int).toNat ++ (be4 ((nm4 (((l.drop 32).drop 4).drop 4) : Nat) : Int).toNat ++ (be4 ((nm4 ((((l.drop 32).drop 4).drop 4).drop 4) : Nat) : Int).toNat ++ []))))) = _
    have e : ((((l.drop 32).drop 4).drop 4).drop 4).drop 4 = [] := List.drop_eq_nil_of_le (by simp; omega)
    rw [hub, Int.toNat_natCast, Int.toNat_natCast, Int.toNat_natCast, Int.toNat_natCast, split4 ((((l.drop 32).drop 4).drop 4).drop 4) _ (by simp; omega) e, split4 (((l.drop 32).drop 4).drop 4) _ (by simp; omega) rfl, split4 ((l.drop 32).drop 4) _ (by simp; omega) rfl, split4 (l.drop 32) _ (by simp; omega) rfl, List.take_append_drop]; rfl
set_option maxHeartbeats 1000000 in
theorem tw_22 (l : List UInt8) (hk : kindB l = 22) (hf : (⟨22, 49, 17969, 32, [1, 7, 8, 3, 5, 9, 11]⟩ : Kr).fit (l.length : Int) = true) (hl : lks [1, 7, 8, 3, 5, 9, 11] (decR ⟨22, 49, 17969, 32, [1, 7, 8, 3, 5, 9, 11]⟩ l).m = true) (d hv : Value) (hd : sln d = (decR ⟨22, 49, 17969, 32, [1, 7, 8, 3, 5, 9, 11]⟩ l).D.length) (hh : (decR ⟨22, 49, 17969, 32, [1, 7, 8, 3, 5, 9, 11]⟩ l).hb.length = sln hv * 32) :
    frn (blks [1, 7, 8, 3, 5, 9, 11] { (decR ⟨22, 49, 17969, 32, [1, 7, 8, 3, 5, 9, 11]⟩ l).m with d := d, h := hv }) = false ∧ szs [1, 7, 8, 3, 5, 9, 11] { (decR ⟨22, 49, 17969, 32, [1, 7, 8, 3, 5, 9, 11]⟩ l).m with d := d, h := hv } = l.length ∧ lays [1, 7, 8, 3, 5, 9, 11] { (decR ⟨22, 49, 17969, 32, [1, 7, 8, 3, 5, 9, 11]⟩ l).m with d := d, h := hv } (decR ⟨22, 49, 17969, 32, [1, 7, 8, 3, 5, 9, 11]⟩ l).D (decR ⟨22, 49, 17969, 32, [1, 7, 8, 3, 5, 9, 11]⟩ l).hb = l := by
  obtain ⟨f1, f2, f3⟩ := fit_of hf
  simp only at f1 f2 f3
  obtain ⟨y, l, rfl, hy⟩ := kindB_lit (k := 22) hk (by omega)
  have em : (decR ⟨22, 49, 17969, 32, [1, 7, 8, 3, 5, 9, 11]⟩ (y :: l)).m = { zmk 22 with r := l.take 32, ba := (nm4 (l.drop 32) : Int), i := (nm4 ((l.drop 32).drop 4) : Int), l := (nm4 (((l.drop 32).drop 4).drop 4) : Int), pr := (nm4 ((((l.drop 32).drop 4).drop 4).drop 4) : Int) } := rfl
  have eD : (decR ⟨22, 49, 17969, 32, [1, 7, 8, 3, 5, 9, 11]⟩ (y :: l)).D = [] := rfl
  have eH : (decR ⟨22, 49, 17969, 32, [1, 7, 8, 3, 5, 9, 11]⟩ (y :: l)).hb = (((((l.drop 32).drop 4).drop 4).drop 4).drop 4) := rfl
  rw [eD] at hd
  rw [eH] at hh
  rw [em, eD, eH]
  have hlen : (y :: l).length = l.length + 1 := rfl
  have h9 : (((((l.drop 32).drop 4).drop 4).drop 4).drop 4).length = l.length - 32 - 4 - 4 - 4 - 4 := by simp only [List.length_drop]
  have hd0 : sln d = 0 := hd
  refine ⟨?_, ?_, ?_⟩
  · exact frn_of rfl rfl rfl rfl rfl rfl hd0 rfl
  · show 1 + (32 + (4 + (4 + (4 + (4 + (32 * sln hv + (0))))))) = _
    omega
  · have hub : ub (22 : Int) = y := by
      have h9 := ub_byt y
      rw [hy] at h9
      exact h9
    show [ub (22 : Int)] ++ (l.take 32 ++ (be4 ((nm4 (l.drop 32) : Nat) : Int).toNat ++ (be4 ((nm4 ((l.drop 32).drop 4) : Nat) : Int).toNat ++ (be4 ((nm4 (((l.drop 32).drop 4).drop 4) : Nat) : Int).toNat ++ (be4 ((nm4 ((((l.drop 32).drop 4).drop 4).drop 4) : Nat) : Int).toNat ++ (((((l.drop 32).drop 4).drop 4).drop 4).drop 4 ++ [])))))) = _
    rw [List.append_nil]
    rw [hub, Int.toNat_natCast, Int.toNat_natCast, Int.toNat_natCast, Int.toNat_natCast, split4 ((((l.drop 32).drop 4).drop 4).drop 4) _ (by simp; omega) rfl, split4 (((l.drop 32).drop 4).drop 4) _ (by simp; omega) rfl, split4 ((l.drop 32).drop 4) _ (by simp; omega) rfl, split4 (l.drop 32) _ (by simp; omega) rfl, List.take_append_drop]; rfl
set_option maxHeartbeats 1000000 in
theorem tw_23 (l : List UInt8) (hk : kindB l = 23) (hf : (⟨23, 49, 49, 1, [1, 7, 8, 3, 5, 9, 0]⟩ : Kr).fit (l.length : Int) = true) (hl : lks [1, 7, 8, 3, 5, 9] (decR ⟨23, 49, 49, 1, [1, 7, 8, 3, 5, 9, 0]⟩ l).m = true) (d hv : Value) (hd : sln d = (decR ⟨23, 49, 49, 1, [1, 7, 8, 3, 5, 9, 0]⟩ l).D.length) (hh : (decR ⟨23, 49, 49, 1, [1, 7, 8, 3, 5, 9, 0]⟩ l).hb.length = sln hv * 32) :
    frn (blks [1, 7, 8, 3, 5, 9] { (decR ⟨23, 49, 49, 1, [1, 7, 8, 3, 5, 9, 0]⟩ l).m with d := d, h := hv }) = false ∧ szs [1, 7, 8, 3, 5, 9] { (decR ⟨23, 49, 49, 1, [1, 7, 8, 3, 5, 9, 0]⟩ l).m with d := d, h := hv } = l.length ∧ lays [1, 7, 8, 3, 5, 9] { (decR ⟨23, 49, 49, 1, [1, 7, 8, 3, 5, 9, 0]⟩ l).m with d := d, h := hv } (decR ⟨23, 49, 49, 1, [1, 7, 8, 3, 5, 9, 0]⟩ l).D (decR ⟨23, 49, 49, 1, [1, 7, 8, 3, 5, 9, 0]⟩ l).hb = l := by
  obtain ⟨f1, f2, f3⟩ := fit_of hf
  simp only at f1 f2 f3
  obtain ⟨y, l, rfl, hy⟩ := kindB_lit (k := 23) hk (by omega)
  have em : (decR ⟨23, 49, 49, 1, [1, 7, 8, 3, 5, 9, 0]⟩ (y :: l)).m = { zmk 23 with r := l.take 32, ba := (nm4 (l.drop 32) : Int), i := (nm4 ((l.drop 32).drop 4) : Int), l := (nm4 (((l.drop 32).drop 4).drop 4) : Int), pr := (nm4 ((((l.drop 32).drop 4).drop 4).drop 4) : Int) } := rfl
  have eD : (decR ⟨23, 49, 49, 1, [1, 7, 8, 3, 5, 9, 0]⟩ (y :: l)).D = [] := rfl
  have eH : (decR ⟨23, 49, 49, 1, [1, 7, 8, 3, 5, 9, 0]⟩ (y :: l)).hb = [] := rfl
  rw [eD] at hd
  rw [eH] at hh
  rw [em, eD, eH]
  have hlen : (y :: l).length = l.length + 1 := rfl
  have hd0 : sln d = 0 := hd
  have hh0 : sln hv = 0 := by have h8 : 0 = sln hv * 32 := hh; omega
  refine ⟨?_, ?_, ?_⟩
  · exact frn_of rfl rfl rfl rfl rfl rfl hd0 hh0
  · show 1 + (32 + (4 + (4 + (4 + (4 + (0)))))) = _
    omega
  · have hub : ub (23 : Int) = y := by
      have h9 := ub_byt y
      rw [hy] at h9
      exact h9
    show [ub (23 : Int)] ++ (l.take 32 ++ (be4 ((nm4 (l.drop 32) : Nat) : Int).toNat ++ (be4 ((nm4 ((l.drop 32).drop 4) : Nat) : Int).toNat ++ (be4 ((nm4 (((l.drop 32).drop 4).drop 4) : Nat) : Int).toNat ++ (be4 ((nm4 ((((l.drop 32).drop 4).drop 4).drop 4) : Nat) : Int).toNat ++ []))))) = _
    have e : ((((l.drop 32).drop 4).drop 4).drop 4).drop 4 = [] := List.drop_eq_nil_of_le (by simp; omega)
    rw [hub, Int.toNat_natCast, Int.toNat_natCast, Int.toNat_natCast, Int.toNat_natCast, split4 ((((l.drop 32).drop 4).drop 4).drop 4) _ (by simp; omega) e, split4 (((l.drop 32).drop 4).drop 4) _ (by simp; omega) rfl, split4 ((l.drop 32).drop 4) _ (by simp; omega) rfl, split4 (l.drop 32) _ (by simp; omega) rfl, List.take_append_drop]; rfl
set_option maxHeartbeats 1000000 in
theorem tw_1000 (l : List UInt8) (hk : kindB l = 1000) (hf : (⟨1000, 1, 32768, 1, [2, 10, 0, 0, 0, 0, 0]⟩ : Kr).fit (l.length : Int) = true) (hl : lks [2, 10] (decR ⟨1000, 1, 32768, 1, [2, 10, 0, 0, 0, 0, 0]⟩ l).m = true) (d hv : Value) (hd : sln d = (decR ⟨1000, 1, 32768, 1, [2, 10, 0, 0, 0, 0, 0]⟩ l).D.length) (hh : (decR ⟨1000, 1, 32768, 1, [2, 10, 0, 0, 0, 0, 0]⟩ l).hb.length = sln hv * 32) :
    frn (blks [2, 10] { (decR ⟨1000, 1, 32768, 1, [2, 10, 0, 0, 0, 0, 0]⟩ l).m with d := d, h := hv }) = false ∧ szs [2, 10] { (decR ⟨1000, 1, 32768, 1, [2, 10, 0, 0, 0, 0, 0]⟩ l).m with d := d, h := hv } = l.length ∧ lays [2, 10] { (decR ⟨1000, 1, 32768, 1, [2, 10, 0, 0, 0, 0, 0]⟩ l).m with d := d, h := hv } (decR ⟨1000, 1, 32768, 1, [2, 10, 0, 0, 0, 0, 0]⟩ l).D (decR ⟨1000, 1, 32768, 1, [2, 10, 0, 0, 0, 0, 0]⟩ l).hb = l := by
  obtain ⟨f1, f2, f3⟩ := fit_of hf
  simp only at f1 f2 f3
  obtain ⟨y, l, rfl, hy⟩ := kindB_oth hk
  have em : (decR ⟨1000, 1, 32768, 1, [2, 10, 0, 0, 0, 0, 0]⟩ (y :: l)).m = { zmk 1000 with i := (y.toNat : Int) } := rfl
  have eD : (decR ⟨1000, 1, 32768, 1, [2, 10, 0, 0, 0, 0, 0]⟩ (y :: l)).D = l := rfl
  have eH : (decR ⟨1000, 1, 32768, 1, [2, 10, 0, 0, 0, 0, 0]⟩ (y :: l)).hb = [] := rfl
  rw [eD] at hd
  rw [eH] at hh
  rw [em, eD, eH]
  have hlen : (y :: l).length = l.length + 1 := rfl
  have hh0 : sln hv = 0 := by have h8 : 0 = sln hv * 32 := hh; omega
  refine ⟨?_, ?_, ?_⟩
  · exact frn_of rfl rfl rfl rfl rfl rfl rfl hh0
  · show 1 + (sln d + (0)) = _
    omega
  · show [ub ((y.toNat : Nat) : Int)] ++ (l ++ []) = _
    rw [ub_byt]; simp
theorem two_way (l : List UInt8) (h : decE l = 0) (d hv : Value) (hd : sln d = (decS l).D.length) (hh : (decS l).hb.length = sln hv * 32) :
    valE { (decS l).m with d := d, h := hv } = 0 ∧ encB { (decS l).m with d := d, h := hv } (decS l).D (decS l).hb = l := by
  have hS : decS l = (match rowFor (kindB l) with | some r => decR r l | none => ⟨zm, [], [], []⟩) := by unfold decS; exact if_pos h
  unfold decE at h
  split at h
  · omega
  cases hr : rowFor (kindB l) with
  | none => rw [hr] at h; simp at h
  | some r =>
    rw [hr] at h hS
    simp only at h hS
    split at h
    · rename_i hfit
      split at h
      · rename_i hlk
        rw [hS] at hd hh ⊢
        obtain ⟨hmem, hkk⟩ := rowFor_mem hr
        have key : frn (blks r.cs { (decR r l).m with d := d, h := hv }) = false ∧ szs r.cs { (decR r l).m with d := d, h := hv } = l.length ∧ lays r.cs { (decR r l).m with d := d, h := hv } (decR r l).D (decR r l).hb = l ∧ (decR r l).m.k = r.k := by
          simp only [rws, List.mem_cons, List.not_mem_nil, or_false] at hmem
          rcases hmem with rfl | rfl | rfl | rfl | rfl | rfl | rfl | rfl | rfl | rfl | rfl | rfl | rfl | rfl
          · obtain ⟨k1, k2, k3⟩ := tw_n1 l hkk.symm hfit hlk d hv hd hh; exact ⟨k1, k2, k3, rfl⟩
          · obtain ⟨k1, k2, k3⟩ := tw_0 l hkk.symm hfit hlk d hv hd hh; exact ⟨k1, k2, k3, rfl⟩
          · obtain ⟨k1, k2, k3⟩ := tw_1 l hkk.symm hfit hlk d hv hd hh; exact ⟨k1, k2, k3, rfl⟩
          · obtain ⟨k1, k2, k3⟩ := tw_2 l hkk.symm hfit hlk d hv hd hh; exact ⟨k1, k2, k3, rfl⟩
          · obtain ⟨k1, k2, k3⟩ := tw_3 l hkk.symm hfit hlk d hv hd hh; exact ⟨k1, k2, k3, rfl⟩
          · obtain ⟨k1, k2, k3⟩ := tw_4 l hkk.symm hfit hlk d hv hd hh; exact ⟨k1, k2, k3, rfl⟩
          · obtain ⟨k1, k2, k3⟩ := tw_5 l hkk.symm hfit hlk d hv hd hh; exact ⟨k1, k2, k3, rfl⟩
          · obtain ⟨k1, k2, k3⟩ := tw_6 l hkk.symm hfit hlk d hv hd hh; exact ⟨k1, k2, k3, rfl⟩
          · obtain ⟨k1, k2, k3⟩ := tw_7 l hkk.symm hfit hlk d hv hd hh; exact ⟨k1, k2, k3, rfl⟩
          · obtain ⟨k1, k2, k3⟩ := tw_8 l hkk.symm hfit hlk d hv hd hh; exact ⟨k1, k2, k3, rfl⟩
          · obtain ⟨k1, k2, k3⟩ := tw_21 l hkk.symm hfit hlk d hv hd hh; exact ⟨k1, k2, k3, rfl⟩
          · obtain ⟨k1, k2, k3⟩ := tw_22 l hkk.symm hfit hlk d hv hd hh; exact ⟨k1, k2, k3, rfl⟩
          · obtain ⟨k1, k2, k3⟩ := tw_23 l hkk.symm hfit hlk d hv hd hh; exact ⟨k1, k2, k3, rfl⟩
          · obtain ⟨k1, k2, k3⟩ := tw_1000 l hkk.symm hfit hlk d hv hd hh; exact ⟨k1, k2, k3, rfl⟩
        obtain ⟨k1, k2, k3, k4⟩ := key
        have hrow : rowFor { (decR r l).m with d := d, h := hv }.k = some r := by
          show rowFor (decR r l).m.k = _
          rw [k4, hkk]; exact hr
        have hv0 : valE { (decR r l).m with d := d, h := hv } = 0 := by
          unfold valE
          rw [hrow]
          simp only [k1, lks_same, hlk, k2, hfit]
          rfl
        refine ⟨hv0, ?_⟩
        unfold encB
        rw [if_pos hv0, hrow]
        exact k3
      · omega
    · omega
end Go.Proofs.YtnmeohacdbmplaaGreatDoor
