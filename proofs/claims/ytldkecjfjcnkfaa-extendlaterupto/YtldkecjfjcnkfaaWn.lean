import Derived.Test.YtldkecjfjcnkfaaCopy
import Derived.Test.YtldkecjfjcnkfaaEqRef
import Derived.Lib.Hide
import Derived.Deep.Cut
import Derived.Deep.RegionHeld3
namespace Go.Proofs.Ytldkecjfjcnkfaa
open Go.RowKit Go.Deep
/-- names as they lie -/
def RNs (w : World) (v : Value) (ns : List (ByteArray × Int)) : Prop :=
  ∃ a c, v = .slice a ns.length c ∧ (ns = [] ∨ ∃ g o, a = some ⟨g, o, none⟩ ∧ g < w.heap.size ∧ ∀ i x, ns[i]? = some x → w.cell? ⟨g, o + i * 2, none⟩ = some (.string x.1) ∧ w.cell? ⟨g, o + i * 2 + 1, none⟩ = some (.int .i64 x.2))
theorem RNs.keep {w w' : World} {v : Value} {ns : List (ByteArray × Int)} (h : RNs w v ns) (hb : Below w.heap.size w w') : RNs w' v ns := by
  obtain ⟨a, c, rfl, h⟩ := h
  refine ⟨a, c, rfl, ?_⟩
  rcases h with h | ⟨g, o, h1, h2, h3⟩
  · exact .inl h
  · exact .inr ⟨g, o, h1, Nat.lt_of_lt_of_le h2 hb.size, fun i x hx => ⟨Below.cellS hb (Nat.le_refl _) (h3 i x hx).1, Below.cellS hb (Nat.le_refl _) (h3 i x hx).2⟩⟩
theorem find_at {α : Type} {p : α → Bool} : ∀ (l : List α) (k : Nat) (x : α), l[k]? = some x → p x = true → (∀ j y, j < k → l[j]? = some y → p y = false) → l.find? p = some x
  | [], k, x, h, _, _ => by simp at h
  | a :: l, 0, x, h, hp, _ => by
    simp at h
    subst h
    simp [hp]
  | a :: l, k + 1, x, h, hp, hn => by
    have h0 := hn 0 a (by omega) rfl
    rw [List.find?_cons, h0]
    exact find_at l k x (by simpa using h) hp (fun j y hj hy => hn (j + 1) y (by omega) (by simpa using hy))
theorem find_no {α : Type} {p : α → Bool} (l : List α) (h : ∀ j y, j < l.length → l[j]? = some y → p y = false) : l.find? p = none := by
  rw [List.find?_eq_none]
  intro x hx
  obtain ⟨i, hi, rfl⟩ := List.getElem_of_mem hx
  rw [h i _ hi (List.getElem?_eq_getElem hi)]
  decide
def nuF (ns : List (ByteArray × Int)) (s : ByteArray) : Option (ByteArray × Int) := ns.find? (fun x => x.1.toList == s.toList)
def nuN (ns : List (ByteArray × Int)) (s : ByteArray) : Int := ((nuF ns s).map (·.2)).getD 0
def naF (ns : List (ByteArray × Int)) (i : Int) : Option (ByteArray × Int) := ns.find? (fun x => x.2 == i)
def naS (ns : List (ByteArray × Int)) (i : Int) : ByteArray := ((naF ns i).map (·.1)).getD ⟨#[]⟩
set_option maxHeartbeats 1000000 in
theorem number16 (w : World) (nv : Value) (sz qu : Int) (ag : ByteArray) (yv : Value) (s : ByteArray) (ns : List (ByteArray × Int)) (h : RNs w nv ns) (hn : ns.length ≤ 140737488351232) :
    Calls Try.prog 16 #[.agg #[nv, .int .i64 sz, .int .i64 qu, .string ag, yv], .string s] w fun e w' => e = .returned (.tuple #[.int .i64 (nuN ns s), .bool (nuF ns s).isSome]) ∧ Below w.heap.size w w' := by
  obtain ⟨a, c, rfl, hx⟩ := h
  have HX := Lib.hid hx
  have HB : Hid (Below w.heap.size w (w.alloc (.cells #[.slice a ns.length c, .int .i64 sz, .int .i64 qu, .string ag, yv] 35))) := (Below.refl _ _).alloc (Nat.le_refl _) _
  have hb := Go.Proofs.Ytldkecjfjcnkfaa.heap_new w (.cells #[.slice a ns.length c, .int .i64 sz, .int .i64 qu, .string ag, yv] 35)
  have HBX : Hid ((w.alloc (.cells #[.slice a ns.length c, .int .i64 sz, .int .i64 qu, .string ag, yv] 35)).heap[w.heap.size]? = _ ∧ (w.alloc (.cells #[.slice a ns.length c, .int .i64 sz, .int .i64 qu, .string ag, yv] 35)).heap.size = w.heap.size + 1) := ⟨hb, by simp⟩
  generalize hnn : ns.length = n at *
  have HNN := Lib.hid hnn
  have HP : Hid (∀ (k : Nat) (x : ByteArray × Int), ns[k]? = some x → (x.1.toList == s.toList) = true → (∀ (j : Nat) (y : ByteArray × Int), j < k → ns[j]? = some y → (y.1.toList == s.toList) = false) → nuF ns s = some x) := fun k x h1 h2 h3 => find_at _ k x h1 h2 h3
  have HQ : Hid ((∀ (j : Nat) (y : ByteArray × Int), j < n → ns[j]? = some y → (y.1.toList == s.toList) = false) → nuF ns s = none) := fun h => find_no _ (fun j y hj hy => h j y (by rw [← HNN.out]; exact hj) hy)
  clear hx hb hnn
  go_enter Try.func16, Try.ntmps16
  go_wp2_with fail
  generalize hww : w.alloc (.cells #[.slice a n c, .int .i64 sz, .int .i64 qu, .string ag, yv] 35) = w0 at *
  clear hww
  go_loopw [11] (fun t wr => ∃ k : Nat, k ≤ n ∧ t = .int .i64 k ∧ Hid (Below w0.heap.size w0 wr ∧ ∀ (j : Nat) (y : ByteArray × Int), j < k → ns[j]? = some y → (y.1.toList == s.toList) = false)) (fun t _ => n - (intOf t).toNat)
  case atStart => exact ⟨0, Nat.zero_le _, rfl, Below.refl _ _, fun j y hj => absurd hj (Nat.not_lt_zero _)⟩
  case round =>
    obtain ⟨k, hk, rfl, HI⟩ := hrel
    have hbx : wr.heap[w.heap.size]? = _ := (HI.out.1.block w.heap.size (by have := HBX.out.2; omega)).trans HBX.out.1
    have c0 : wr.cell? ⟨w.heap.size, 0, none⟩ = some (.slice a n c) := by simp [World.cell?, hbx]
    have HBW : Hid (Below w.heap.size w wr) := HB.out.trans (HI.out.1.mono HB.out.size)
    clear hbx
    by_cases hlt : k < n
    · obtain ⟨x, hx⟩ : ∃ x, ns[k]? = some x := ⟨_, List.getElem?_eq_getElem (by rw [HNN.out]; exact hlt)⟩
      obtain ⟨g, o, rfl, hg, hc⟩ := HX.out.resolve_left (fun e => by have := HNN.out; rw [e] at this; simp at this; omega)
      have g0 := Below.cellS HBW.out (Nat.le_refl _) (hc k x hx).1
      have g1 := Below.cellS HBW.out (Nat.le_refl _) (hc k x hx).2
      clear hc
      obtain ⟨xs, xi⟩ := x
      have HXK := Lib.hid hx
      clear hx
      by_cases he : xs.toList = s.toList
      · have hq : (xs.toList == s.toList) = true := beq_iff_eq.2 he
        have HE : Hid (nuF ns s = some (xs, xi)) := HP.out k _ HXK.out hq HI.out.2
        clear he HI
        go_wp2
        go_ret2
        unfold nuN; rw [HE.out]; exact ⟨rfl, HBW.out.alloc HBW.out.size _⟩
      · have hq : (xs.toList == s.toList) = false := beq_eq_false_iff_ne.2 he
        have HJ : Hid (∀ (j : Nat) (y : ByteArray × Int), j < k + 1 → ns[j]? = some y → (y.1.toList == s.toList) = false) := fun j y hj hy => by
          rcases Nat.lt_succ_iff_lt_or_eq.1 hj with h | rfl
          · exact HI.out.2 j y h hy
          · have h9 := HXK.out
            rw [hy] at h9
            cases h9
            exact hq
        have HI1 := Lib.hid HI.out.1
        clear he HI
        go_wp2
        exact ⟨⟨k + 1, by omega, by go_num, HI1.out.alloc HI1.out.size _, HJ.out⟩, by simp [intOf]; omega⟩
    · obtain rfl : k = n := by omega
      have HE : Hid (nuF ns s = none) := HQ.out HI.out.2
      clear HI
      go_wp2
      go_ret2
      unfold nuN; rw [HE.out]; exact ⟨rfl, HBW.out⟩
set_option maxHeartbeats 1000000 in
theorem number17 (w : World) (nv : Value) (sz qu : Int) (ag : ByteArray) (yv : Value) (s : ByteArray) (ns : List (ByteArray × Int)) (h : RNs w nv ns) (hn : ns.length ≤ 140737488351232) :
    Calls Try.prog 17 #[.agg #[nv, .int .i64 sz, .int .i64 qu, .string ag, yv], .string s] w fun e w' => e = .returned (.tuple #[.int .i64 (nuN ns s), .bool (nuF ns s).isSome]) ∧ Below w.heap.size w w' := by
  obtain ⟨a, c, rfl, hx⟩ := h
  have HX := Lib.hid hx
  have HB : Hid (Below w.heap.size w (w.alloc (.cells #[.slice a ns.length c, .int .i64 sz, .int .i64 qu, .string ag, yv] 35))) := (Below.refl _ _).alloc (Nat.le_refl _) _
  have hb := Go.Proofs.Ytldkecjfjcnkfaa.heap_new w (.cells #[.slice a ns.length c, .int .i64 sz, .int .i64 qu, .string ag, yv] 35)
  have HBX : Hid ((w.alloc (.cells #[.slice a ns.length c, .int .i64 sz, .int .i64 qu, .string ag, yv] 35)).heap[w.heap.size]? = _ ∧ (w.alloc (.cells #[.slice a ns.length c, .int .i64 sz, .int .i64 qu, .string ag, yv] 35)).heap.size = w.heap.size + 1) := ⟨hb, by simp⟩
  generalize hnn : ns.length = n at *
  have HNN := Lib.hid hnn
  have HP : Hid (∀ (k : Nat) (x : ByteArray × Int), ns[k]? = some x → (x.1.toList == s.toList) = true → (∀ (j : Nat) (y : ByteArray × Int), j < k → ns[j]? = some y → (y.1.toList == s.toList) = false) → nuF ns s = some x) := fun k x h1 h2 h3 => find_at _ k x h1 h2 h3
  have HQ : Hid ((∀ (j : Nat) (y : ByteArray × Int), j < n → ns[j]? = some y → (y.1.toList == s.toList) = false) → nuF ns s = none) := fun h => find_no _ (fun j y hj hy => h j y (by rw [← HNN.out]; exact hj) hy)
  clear hx hb hnn
  go_enter Try.func17, Try.ntmps17
  go_wp2_with fail
  generalize hww : w.alloc (.cells #[.slice a n c, .int .i64 sz, .int .i64 qu, .string ag, yv] 35) = w0 at *
  clear hww
  go_loopw [6] (fun t wr => ∃ k : Nat, k ≤ n ∧ t = .int .i64 k ∧ Hid (Below w0.heap.size w0 wr ∧ ∀ (j : Nat) (y : ByteArray × Int), j < k → ns[j]? = some y → (y.1.toList == s.toList) = false)) (fun t _ => n - (intOf t).toNat)
  case atStart => exact ⟨0, Nat.zero_le _, rfl, Below.refl _ _, fun j y hj => absurd hj (Nat.not_lt_zero _)⟩
  case round =>
    obtain ⟨k, hk, rfl, HI⟩ := hrel
    have hbx : wr.heap[w.heap.size]? = _ := (HI.out.1.block w.heap.size (by have := HBX.out.2; omega)).trans HBX.out.1
    have c0 : wr.cell? ⟨w.heap.size, 0, none⟩ = some (.slice a n c) := by simp [World.cell?, hbx]
    have HBW : Hid (Below w.heap.size w wr) := HB.out.trans (HI.out.1.mono HB.out.size)
    clear hbx
    by_cases hlt : k < n
    · obtain ⟨x, hx⟩ : ∃ x, ns[k]? = some x := ⟨_, List.getElem?_eq_getElem (by rw [HNN.out]; exact hlt)⟩
      obtain ⟨g, o, rfl, hg, hc⟩ := HX.out.resolve_left (fun e => by have := HNN.out; rw [e] at this; simp at this; omega)
      have g0 := Below.cellS HBW.out (Nat.le_refl _) (hc k x hx).1
      have g1 := Below.cellS HBW.out (Nat.le_refl _) (hc k x hx).2
      clear hc
      obtain ⟨xs, xi⟩ := x
      have HXK := Lib.hid hx
      clear hx
      by_cases he : xs.toList = s.toList
      · have hq : (xs.toList == s.toList) = true := beq_iff_eq.2 he
        have HE : Hid (nuF ns s = some (xs, xi)) := HP.out k _ HXK.out hq HI.out.2
        clear he HI
        go_wp2
        go_ret2
        unfold nuN; rw [HE.out]; exact ⟨rfl, HBW.out⟩
      · have hq : (xs.toList == s.toList) = false := beq_eq_false_iff_ne.2 he
        have HJ : Hid (∀ (j : Nat) (y : ByteArray × Int), j < k + 1 → ns[j]? = some y → (y.1.toList == s.toList) = false) := fun j y hj hy => by
          rcases Nat.lt_succ_iff_lt_or_eq.1 hj with h | rfl
          · exact HI.out.2 j y h hy
          · have h9 := HXK.out
            rw [hy] at h9
            cases h9
            exact hq
        have HI1 := Lib.hid HI.out.1
        clear he HI
        go_wp2
        exact ⟨⟨k + 1, by omega, by go_num, HI1.out, HJ.out⟩, by simp [intOf]; omega⟩
    · obtain rfl : k = n := by omega
      have HE : Hid (nuF ns s = none) := HQ.out HI.out.2
      clear HI
      go_wp2
      go_ret2
      unfold nuN; rw [HE.out]; exact ⟨rfl, HBW.out⟩
set_option maxHeartbeats 1000000 in
theorem name18 (w : World) (nv : Value) (sz qu : Int) (ag : ByteArray) (yv : Value) (i : Int) (ns : List (ByteArray × Int)) (h : RNs w nv ns) (hn : ns.length ≤ 140737488351232) :
    Calls Try.prog 18 #[.agg #[nv, .int .i64 sz, .int .i64 qu, .string ag, yv], .int .i64 i] w fun e w' => e = .returned (.tuple #[.string (naS ns i), .bool (naF ns i).isSome]) ∧ Below w.heap.size w w' := by
  obtain ⟨a, c, rfl, hx⟩ := h
  have HX := Lib.hid hx
  have HB : Hid (Below w.heap.size w (w.alloc (.cells #[.slice a ns.length c, .int .i64 sz, .int .i64 qu, .string ag, yv] 35))) := (Below.refl _ _).alloc (Nat.le_refl _) _
  have hb := Go.Proofs.Ytldkecjfjcnkfaa.heap_new w (.cells #[.slice a ns.length c, .int .i64 sz, .int .i64 qu, .string ag, yv] 35)
  have HBX : Hid ((w.alloc (.cells #[.slice a ns.length c, .int .i64 sz, .int .i64 qu, .string ag, yv] 35)).heap[w.heap.size]? = _ ∧ (w.alloc (.cells #[.slice a ns.length c, .int .i64 sz, .int .i64 qu, .string ag, yv] 35)).heap.size = w.heap.size + 1) := ⟨hb, by simp⟩
  generalize hnn : ns.length = n at *
  have HNN := Lib.hid hnn
  have HP : Hid (∀ (k : Nat) (x : ByteArray × Int), ns[k]? = some x → (x.2 == i) = true → (∀ (j : Nat) (y : ByteArray × Int), j < k → ns[j]? = some y → (y.2 == i) = false) → naF ns i = some x) := fun k x h1 h2 h3 => find_at _ k x h1 h2 h3
  have HQ : Hid ((∀ (j : Nat) (y : ByteArray × Int), j < n → ns[j]? = some y → (y.2 == i) = false) → naF ns i = none) := fun h => find_no _ (fun j y hj hy => h j y (by rw [← HNN.out]; exact hj) hy)
  clear hx hb hnn
  go_enter Try.func18, Try.ntmps18
  go_wp2_with fail
  generalize hww : w.alloc (.cells #[.slice a n c, .int .i64 sz, .int .i64 qu, .string ag, yv] 35) = w0 at *
  clear hww
  go_loopw [11] (fun t wr => ∃ k : Nat, k ≤ n ∧ t = .int .i64 k ∧ Hid (Below w0.heap.size w0 wr ∧ ∀ (j : Nat) (y : ByteArray × Int), j < k → ns[j]? = some y → (y.2 == i) = false)) (fun t _ => n - (intOf t).toNat)
  case atStart => exact ⟨0, Nat.zero_le _, rfl, Below.refl _ _, fun j y hj => absurd hj (Nat.not_lt_zero _)⟩
  case round =>
    obtain ⟨k, hk, rfl, HI⟩ := hrel
    have hbx : wr.heap[w.heap.size]? = _ := (HI.out.1.block w.heap.size (by have := HBX.out.2; omega)).trans HBX.out.1
    have c0 : wr.cell? ⟨w.heap.size, 0, none⟩ = some (.slice a n c) := by simp [World.cell?, hbx]
    have HBW : Hid (Below w.heap.size w wr) := HB.out.trans (HI.out.1.mono HB.out.size)
    clear hbx
    by_cases hlt : k < n
    · obtain ⟨x, hx⟩ : ∃ x, ns[k]? = some x := ⟨_, List.getElem?_eq_getElem (by rw [HNN.out]; exact hlt)⟩
      obtain ⟨g, o, rfl, hg, hc⟩ := HX.out.resolve_left (fun e => by have := HNN.out; rw [e] at this; simp at this; omega)
      have g0 := Below.cellS HBW.out (Nat.le_refl _) (hc k x hx).1
      have g1 := Below.cellS HBW.out (Nat.le_refl _) (hc k x hx).2
      clear hc
      obtain ⟨xs, xi⟩ := x
      have HXK := Lib.hid hx
      clear hx
      by_cases he : xi = i
      · have hq : (xi == i) = true := beq_iff_eq.2 he
        have HE : Hid (naF ns i = some (xs, xi)) := HP.out k _ HXK.out hq HI.out.2
        clear he HI
        go_wp2
        go_ret2
        unfold naS; rw [HE.out]; exact ⟨rfl, HBW.out.alloc HBW.out.size _⟩
      · have hq : (xi == i) = false := beq_eq_false_iff_ne.2 he
        have HJ : Hid (∀ (j : Nat) (y : ByteArray × Int), j < k + 1 → ns[j]? = some y → (y.2 == i) = false) := fun j y hj hy => by
          rcases Nat.lt_succ_iff_lt_or_eq.1 hj with h | rfl
          · exact HI.out.2 j y h hy
          · have h9 := HXK.out
            rw [hy] at h9
            cases h9
            exact hq
        have HI1 := Lib.hid HI.out.1
        clear he HI
        go_wp2
        exact ⟨⟨k + 1, by omega, by go_num, HI1.out.alloc HI1.out.size _, HJ.out⟩, by simp [intOf]; omega⟩
    · obtain rfl : k = n := by omega
      have HE : Hid (naF ns i = none) := HQ.out HI.out.2
      clear HI
      go_wp2
      go_ret2
      unfold naS; rw [HE.out]; exact ⟨rfl, HBW.out⟩
set_option maxHeartbeats 1000000 in
theorem name19 (w : World) (nv : Value) (sz qu : Int) (ag : ByteArray) (yv : Value) (i : Int) (ns : List (ByteArray × Int)) (h : RNs w nv ns) (hn : ns.length ≤ 140737488351232) :
    Calls Try.prog 19 #[.agg #[nv, .int .i64 sz, .int .i64 qu, .string ag, yv], .int .i64 i] w fun e w' => e = .returned (.tuple #[.string (naS ns i), .bool (naF ns i).isSome]) ∧ Below w.heap.size w w' := by
  obtain ⟨a, c, rfl, hx⟩ := h
  have HX := Lib.hid hx
  have HB : Hid (Below w.heap.size w (w.alloc (.cells #[.slice a ns.length c, .int .i64 sz, .int .i64 qu, .string ag, yv] 35))) := (Below.refl _ _).alloc (Nat.le_refl _) _
  have hb := Go.Proofs.Ytldkecjfjcnkfaa.heap_new w (.cells #[.slice a ns.length c, .int .i64 sz, .int .i64 qu, .string ag, yv] 35)
  have HBX : Hid ((w.alloc (.cells #[.slice a ns.length c, .int .i64 sz, .int .i64 qu, .string ag, yv] 35)).heap[w.heap.size]? = _ ∧ (w.alloc (.cells #[.slice a ns.length c, .int .i64 sz, .int .i64 qu, .string ag, yv] 35)).heap.size = w.heap.size + 1) := ⟨hb, by simp⟩
  generalize hnn : ns.length = n at *
  have HNN := Lib.hid hnn
  have HP : Hid (∀ (k : Nat) (x : ByteArray × Int), ns[k]? = some x → (x.2 == i) = true → (∀ (j : Nat) (y : ByteArray × Int), j < k → ns[j]? = some y → (y.2 == i) = false) → naF ns i = some x) := fun k x h1 h2 h3 => find_at _ k x h1 h2 h3
  have HQ : Hid ((∀ (j : Nat) (y : ByteArray × Int), j < n → ns[j]? = some y → (y.2 == i) = false) → naF ns i = none) := fun h => find_no _ (fun j y hj hy => h j y (by rw [← HNN.out]; exact hj) hy)
  clear hx hb hnn
  go_enter Try.func19, Try.ntmps19
  go_wp2_with fail
  generalize hww : w.alloc (.cells #[.slice a n c, .int .i64 sz, .int .i64 qu, .string ag, yv] 35) = w0 at *
  clear hww
  go_loopw [6] (fun t wr => ∃ k : Nat, k ≤ n ∧ t = .int .i64 k ∧ Hid (Below w0.heap.size w0 wr ∧ ∀ (j : Nat) (y : ByteArray × Int), j < k → ns[j]? = some y → (y.2 == i) = false)) (fun t _ => n - (intOf t).toNat)
  case atStart => exact ⟨0, Nat.zero_le _, rfl, Below.refl _ _, fun j y hj => absurd hj (Nat.not_lt_zero _)⟩
  case round =>
    obtain ⟨k, hk, rfl, HI⟩ := hrel
    have hbx : wr.heap[w.heap.size]? = _ := (HI.out.1.block w.heap.size (by have := HBX.out.2; omega)).trans HBX.out.1
    have c0 : wr.cell? ⟨w.heap.size, 0, none⟩ = some (.slice a n c) := by simp [World.cell?, hbx]
    have HBW : Hid (Below w.heap.size w wr) := HB.out.trans (HI.out.1.mono HB.out.size)
    clear hbx
    by_cases hlt : k < n
    · obtain ⟨x, hx⟩ : ∃ x, ns[k]? = some x := ⟨_, List.getElem?_eq_getElem (by rw [HNN.out]; exact hlt)⟩
      obtain ⟨g, o, rfl, hg, hc⟩ := HX.out.resolve_left (fun e => by have := HNN.out; rw [e] at this; simp at this; omega)
      have g0 := Below.cellS HBW.out (Nat.le_refl _) (hc k x hx).1
      have g1 := Below.cellS HBW.out (Nat.le_refl _) (hc k x hx).2
      clear hc
      obtain ⟨xs, xi⟩ := x
      have HXK := Lib.hid hx
      clear hx
      by_cases he : xi = i
      · have hq : (xi == i) = true := beq_iff_eq.2 he
        have HE : Hid (naF ns i = some (xs, xi)) := HP.out k _ HXK.out hq HI.out.2
        clear he HI
        go_wp2
        go_ret2
        unfold naS; rw [HE.out]; exact ⟨rfl, HBW.out⟩
      · have hq : (xi == i) = false := beq_eq_false_iff_ne.2 he
        have HJ : Hid (∀ (j : Nat) (y : ByteArray × Int), j < k + 1 → ns[j]? = some y → (y.2 == i) = false) := fun j y hj hy => by
          rcases Nat.lt_succ_iff_lt_or_eq.1 hj with h | rfl
          · exact HI.out.2 j y h hy
          · have h9 := HXK.out
            rw [hy] at h9
            cases h9
            exact hq
        have HI1 := Lib.hid HI.out.1
        clear he HI
        go_wp2
        exact ⟨⟨k + 1, by omega, by go_num, HI1.out, HJ.out⟩, by simp [intOf]; omega⟩
    · obtain rfl : k = n := by omega
      have HE : Hid (naF ns i = none) := HQ.out HI.out.2
      clear HI
      go_wp2
      go_ret2
      unfold naS; rw [HE.out]; exact ⟨rfl, HBW.out⟩
end Go.Proofs.Ytldkecjfjcnkfaa
