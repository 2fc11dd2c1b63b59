import Derived.Test.YtoiehkpmemmldaaDoorSp
import Derived.Shelf.Strings.Search3
import Derived.Shelf.Strings.SplitCore
namespace Go.Proofs.YtoiehkpmemmldaaDoor
open Go.Shelf Go.RowKit
shelf_lay Lays.n143 Nm 143 at Tryd as lays143
theorem index34 (s : ByteArray) (w : World) : Calls Tryd.prog 54 #[.string s, .string ⟨#[47]⟩] w fun e w' => e = .returned (.int .i64 (six s)) ∧ w' = w := Any.strings_Index_one lays143 s 47 w
theorem spb_cnt : ∀ (n m : Nat) (s : ByteArray), s.data.toList.count 47 ≤ n → n ≤ m → spb m s = spb n s
  | 0, m, s, h, _ => by
    rcases six_cases s with ⟨_, h1⟩ | ⟨h1, _⟩
    · rw [spb_miss h1, spb_miss h1]
    · have := List.count_pos_iff.2 h1; omega
  | n + 1, m, s, h, hm => by
    obtain ⟨m', rfl⟩ : ∃ m', m = m' + 1 := ⟨m - 1, by omega⟩
    rcases six_cases s with ⟨_, h1⟩ | ⟨_, i, h1, _, h3, h4⟩
    · rw [spb_miss h1, spb_miss h1]
    · rw [spb_hit h1, spb_hit h1, spb_cnt n m' _ ?_ (by omega)]
      rw [h4, List.count_append, List.count_cons_self] at h
      omega
theorem spb_min (s : ByteArray) (N : Nat) (h : N = min 17 (s.size + 1)) : spb (N - 1) s = spb 16 s := by
  by_cases hs : s.size + 1 ≤ 17
  · have : s.data.toList.count 47 ≤ s.data.toList.length := List.count_le_length
    rw [Array.length_toList] at this
    exact (spb_cnt (N - 1) 16 s (Nat.le_trans this (by show s.size ≤ _; omega)) (by omega)).symm
  · rw [show N - 1 = 16 by omega]
set_option maxHeartbeats 4000000 in
set_option maxRecDepth 1000000 in
theorem genSplit24 (s : ByteArray) (w : World) (hs : s.size ≤ 140737488355328) (N : Nat) (hN : N = min 17 (s.size + 1)) :
    Calls Tryd.prog 36 #[.string s, .string ⟨#[47]⟩, .int .i64 0, .int .i64 17] w fun e w' =>
      e = .returned (.slice (some ⟨w.heap.size, 0, none⟩) (spb (N - 1) s).length N) ∧ w' = w.alloc (.cells (Lib.cellsOf (spb (N - 1) s) N) 9) := by
  have eN : min (17 : Int) ((s.size : Int) + 1) = (N : Int) := by omega
  have hN1 : 1 ≤ N := by omega
  have hN2 : N ≤ 17 := by omega
  clear hN
  have hmk := run_make_row' (P := Tryd.prog) 29 9 (.string ByteArray.empty) 16 Tryd.underlying29 info9 rfl .i64 .i64 N (by omega) (by omega)
  go_enter Tryd.func36, Tryd.ntmps36
  go_wp2
  clear hmk
  go_loopw [0, 10] (fun s0 s10 wr => ∃ (done : List ByteArray) (rest : ByteArray), s0 = .string rest ∧ s10 = .int .i64 done.length ∧ done.length ≤ N - 1 ∧ rest.size ≤ s.size ∧
      wr = w.alloc (.cells (Lib.cellsOf done N) 9) ∧ Hid (done ++ spb (N - 1 - done.length) rest = spb (N - 1) s)) (fun _ s10 _ => N - (intOf s10).toNat)
  case atStart => exact ⟨[], s, rfl, rfl, Nat.zero_le _, Nat.le_refl _, by rw [Lib.cellsOf_nil], rfl⟩
  case round =>
    obtain ⟨done, rest, rfl, rfl, hd, hrs, rfl, HS⟩ := hrel
    have hnext : (Lib.cellsOf done N)[done.length]? = some (.string ByteArray.empty) := Lib.cellsOf_next (by omega)
    have fin : Hid (spb (N - 1 - done.length) rest = [rest] → (spb (N - 1) s).length = done.length + 1 ∧ (Lib.cellsOf done N).setIfInBounds done.length (.string rest) = Lib.cellsOf (spb (N - 1) s) N) := fun h => by
      have e := HS.out
      rw [h] at e
      rw [← e]
      exact ⟨by simp, Lib.cellsOf_set (by omega) rest⟩
    have HI : ∀ w, Hid (Calls Tryd.prog 54 #[.string rest, .string ⟨#[47]⟩] w fun e w' => e = .returned (.int .i64 (six rest)) ∧ w' = w) := fun w => index34 rest w
    by_cases hlt : done.length < N - 1
    · have hltz : ((done.length : Nat) : Int) < (N : Int) - 1 := by omega
      rcases six_cases rest with ⟨_, hix⟩ | ⟨_, i, hix, hroom, _⟩
      · obtain ⟨f1, f2⟩ := fin.out (spb_miss hix _)
        have F1 : Hid ((spb (N - 1) s).length = done.length + 1) := f1
        have F2 : Hid ((Lib.cellsOf done N).setIfInBounds done.length (.string rest) = Lib.cellsOf (spb (N - 1) s) N) := f2
        rw [hix] at HI
        clear f1 f2 hix
        go_wp2_with fail
        refine ((HI _).out).mono ?_
        rintro e w' ⟨rfl, rfl⟩
        go_wp2
        go_ret
        rw [F1.out, ← F2.out]
        exact ⟨by first | rfl | (congr 2 <;> omega), rfl⟩
      · have HX : Hid (spb (N - 1 - done.length) rest = rest.extract 0 i :: spb (N - 1 - (done.length + 1)) (rest.extract (i + 1) rest.size)) := by
          have := spb_hit hix (N - 1 - (done.length + 1))
          rw [show N - 1 - (done.length + 1) + 1 = N - 1 - done.length by omega] at this; exact this
        have HE0 : (done ++ [rest.extract 0 i]) ++ spb (N - 1 - (done ++ [rest.extract 0 i]).length) (rest.extract (i + 1) rest.size) = spb (N - 1) s := by rw [← HS.out, HX.out]; simp
        have HE : Hid _ := HE0
        rw [hix] at HI
        clear hix fin HE0
        have c0 : ¬ ((i : Int) < 0) := by omega
        have c4 : (↑i + 1 : Int) ≤ ↑rest.size := by omega
        go_wp2_with fail
        refine ((HI _).out).mono ?_
        rintro e w' ⟨rfl, rfl⟩
        go_wp2
        go_roundw
        case measure => simp [intOf]; omega
        case rel =>
          refine ⟨done ++ [rest.extract 0 i], rest.extract (i + 1) rest.size, rfl, by simp, by simp; omega, by rw [ByteArray.size_extract]; omega, by rw [← Lib.cellsOf_set (by omega)], HE.out⟩
    · have hltz : ¬ (((done.length : Nat) : Int) < (N : Int) - 1) := by omega
      obtain ⟨f1, f2⟩ := fin.out (by rw [show N - 1 - done.length = 0 by omega]; rfl)
      have F1 : Hid ((spb (N - 1) s).length = done.length + 1) := f1
      have F2 : Hid ((Lib.cellsOf done N).setIfInBounds done.length (.string rest) = Lib.cellsOf (spb (N - 1) s) N) := f2
      clear f1 f2
      go_wp2
      go_ret
      rw [F1.out, ← F2.out]
      exact ⟨by first | rfl | (congr 2 <;> omega), rfl⟩
theorem cell_new (w : World) (cs : Array Value) (t : TypeId) (i : Nat) (v : Value) (h : cs[i]? = some v) : (w.alloc (.cells cs t)).cell? ⟨w.heap.size, i, none⟩ = some v := by
  rw [World.cell?_alloc_new]; exact h
theorem cells_sr (w : World) (l : List ByteArray) (N : Nat) (h : l.length ≤ N) : SR (w.alloc (.cells (Lib.cellsOf l N) 9)) l (.slice (some ⟨w.heap.size, 0, none⟩) l.length N) := by
  refine ⟨_, N, rfl, h, .inr ⟨w.heap.size, 0, rfl, by simp, fun i hi => ?_⟩⟩
  have hc : (Lib.cellsOf l N)[i]? = some (.string (sa l i)) := by
    unfold Lib.cellsOf
    rw [List.getElem?_toArray, List.getElem?_append_left (by simpa using hi), List.getElem?_map, List.getElem?_eq_getElem hi, sa_get hi]; rfl
  rw [Nat.zero_add]; exact cell_new w _ 9 i _ hc
set_option maxHeartbeats 400000 in
theorem splitN18 (s : ByteArray) (w : World) (hs : s.size ≤ 140737488355328) :
    Calls Tryd.prog 26 #[.string s, .string ⟨#[47]⟩, .int .i64 17] w fun e w' => ∃ a c, e = .returned (.slice a (spb 16 s).length c) ∧ SR w' (spb 16 s) (.slice a (spb 16 s).length c) ∧ Below w.heap.size w w' := by
  have HG : Hid (Calls Tryd.prog 36 #[.string s, .string ⟨#[47]⟩, .int .i64 0, .int .i64 17] w fun e w' => ∃ a c, e = .returned (.slice a (spb 16 s).length c) ∧ SR w' (spb 16 s) (.slice a (spb 16 s).length c) ∧ Below w.heap.size w w') := by
    refine (genSplit24 s w hs _ rfl).mono ?_
    rintro e w' ⟨rfl, rfl⟩
    have e1 := spb_min s _ rfl
    have e2 := spb_len (min 17 (s.size + 1) - 1) s
    rw [e1] at e2 ⊢
    exact ⟨_, _, rfl, cells_sr w _ _ (by omega), (Below.refl _ _).alloc (Nat.le_refl _) _⟩
  go_enter Tryd.func26, Tryd.ntmps26
  go_wp2_with fail
  refine HG.out.mono ?_
  rintro e w' ⟨a, c, rfl, hsr, hb⟩
  go_wp2
  go_ret
  exact ⟨_, _, rfl, hsr, hb⟩
/-- what Split answers -/
def sq (s : ByteArray) : List ByteArray := if pe (spb 16 s) = 0 then spb 16 s else []
set_option maxHeartbeats 400000 in
theorem split8 (s : ByteArray) (w : World) (hs : s.size ≤ 140737488351232) :
    Calls Tryd.prog 13 #[.string s] w fun e w' => ∃ a c, e = .returned (.tuple #[.slice a (sq s).length c, .int .i64 (pe (spb 16 s))]) ∧ SR w' (sq s) (.slice a (sq s).length c) ∧ Below w.heap.size w w' := by
  have HF : Hid (FL (spb 16 s)) := ⟨by have := spb_len 16 s; omega, fun x hx => by have := spb_size 16 s x hx; omega⟩
  have HS : Hid (Calls Tryd.prog 26 #[.string s, .string ⟨#[47]⟩, .int .i64 17] w fun e w' => ∃ a c, e = .returned (.slice a (spb 16 s).length c) ∧ SR w' (spb 16 s) (.slice a (spb 16 s).length c) ∧ Below w.heap.size w w') := splitN18 s w (by omega)
  unfold sq
  generalize spb 16 s = l at *
  by_cases hz : pe l = 0
  · rw [if_pos hz, hz]
    have HP : ∀ v w, Hid (SR w l v → Calls Tryd.prog 11 #[v] w fun e w' => e = .returned (.int .i64 0) ∧ Below w.heap.size w w') := fun v w h => hz ▸ path21 v l w HF.out h
    clear hz
    go_enter Tryd.func13, Tryd.ntmps13
    go_wp2_with fail
    refine HS.out.mono ?_
    rintro e w1 ⟨a, c, rfl, hsr, hb⟩
    have R1 : Hid (SR w1 l _) := hsr
    have B1 : Hid (Below w.heap.size w w1) := hb
    clear hsr hb
    go_wp2_with fail
    refine ((HP _ _).out R1.out).mono ?_
    rintro e w2 ⟨rfl, hb2⟩
    go_wp2
    go_ret2
    exact ⟨_, _, rfl, R1.out.keep hb2, B1.out.trans (hb2.mono B1.out.size)⟩
  · rw [if_neg hz]
    have HP : ∀ v w, Hid (SR w l v → Calls Tryd.prog 11 #[v] w fun e w' => e = .returned (.int .i64 (pe l)) ∧ Below w.heap.size w w') := fun v w h => path21 v l w HF.out h
    have hz' : (pe l == 0) = false := beq_eq_false_iff_ne.2 hz
    generalize pe l = z at *
    clear hz
    go_enter Tryd.func13, Tryd.ntmps13
    go_wp2_with fail
    refine HS.out.mono ?_
    rintro e w1 ⟨a, c, rfl, hsr, hb⟩
    have R1 : Hid (SR w1 l _) := hsr
    have B1 : Hid (Below w.heap.size w w1) := hb
    clear hsr hb
    go_wp2_with fail
    refine ((HP _ _).out R1.out).mono ?_
    rintro e w2 ⟨rfl, hb2⟩
    go_wp2
    go_ret2
    exact ⟨_, _, rfl, ⟨_, _, rfl, Nat.zero_le _, .inl rfl⟩, B1.out.trans (hb2.mono B1.out.size)⟩
end Go.Proofs.YtoiehkpmemmldaaDoor
