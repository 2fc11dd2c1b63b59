import Derived.Test.YtldkecjfjcnkfaaIn
namespace Go.Proofs.Ytldkecjfjcnkfaa
open Go.RowKit Go.Deep
set_option maxHeartbeats 4000000 in
set_option maxRecDepth 100000 in
theorem ins_room (B g n cap at' vb : Nat) (cur : Array Value) (L E : List Value) (w : World) (hblk : w.heap[g]? = some (.cells cur 59 (0, 0))) (hsz : cur.size = cap * 6) (hL : cur.toList.take (n * 6) = L) (hle : n + 1 ≤ cap) (hmax : cap ≤ maxLen) (hBg : B ≤ g) (hne : vb ≠ g) (hE : E.length = 6) (hvb : w.heap[vb]? = some (.cells E.toArray 59 (0, 0))) (h1 : ∀ u ∈ L, u.oneCell' = true) (h1E : ∀ u ∈ E, u.oneCell' = true) (hn : n ≤ 2147483647) (hat : at' < n) :
    Calls Try.prog 66 #[.slice (some ⟨g, 0, none⟩) n cap, .int .i64 at', .slice (some ⟨vb, 0, none⟩) 1 1] w (IR B n at' L E w) := by
  have hvlt := (Array.getElem?_eq_some_iff.1 hvb).1
  have hglt := (Array.getElem?_eq_some_iff.1 hblk).1
  have hcurl : cur.toList.length = cap * 6 := by simpa using hsz
  have hLl : L.length = n * 6 := by rw [← hL, List.length_take]; omega
  have hov : ∀ lb cb, (callFunc 79 #[.slice (some ⟨vb, 0, none⟩) 1 1, .slice (some ⟨g, (at' + 1) * 6, none⟩) lb cb]).run Try.prog w = .ok (.value (.bool false)) w := fun lb cb => by
    rw [run_callFunc_extern Try.func79 (by kernel_rfl) (by kernel_rfl) (by kernel_rfl) (e := Extern.SlicesOverlaps.overlaps #[33, 33] #[4]) (by kernel_rfl),
      Lib.run_overlaps_apart w 33 4 59 Try.underlying33 6 (fun _ => by kernel_rfl) ⟨vb, 0, none⟩ ⟨g, (at' + 1) * 6, none⟩ 1 1 lb cb hne 59 59 6 (cap * 6) (by simp [World.shape?, hvb, hE]) (by simp [World.shape?, hblk, hsz]) (by omega) (by simp [World.frozen?, hvb]) (by simp [World.frozen?, hvb])]
    rfl
  have cellg : ∀ j, w.cell? ⟨g, j, none⟩ = cur[j]? := fun j => by simp [World.cell?, hblk]
  have cellv : ∀ j, w.cell? ⟨vb, j, none⟩ = E[j]? := fun j => by simp [World.cell?, hvb]
  have hdl : (L.drop (at' * 6)).length = (n - at') * 6 := by rw [List.length_drop]; omega
  obtain ⟨q1, q2, q3⟩ := splice_get cur.toList (L.drop (at' * 6)) ((at' + 1) * 6) (by omega)
  have hc1 : ∀ ty dCap sCap, (Builtin.copy_ #[33, 33] ty #[.slice (some ⟨g, (at' + 1) * 6, none⟩) (n - at') dCap, .slice (some ⟨g, at' * 6, none⟩) (n + 1 - at') sCap]).run Try.prog w.drew = .ok (goInt (Nat.min (n + 1 - at') (n - at'))) (w.drew.setRow g (cur.toList.take ((at' + 1) * 6) ++ L.drop (at' * 6) ++ cur.toList.drop ((at' + 1) * 6 + (L.drop (at' * 6)).length)).toArray) := fun ty dCap sCap => by
    refine run_copy_row6 w.drew ty g ((at' + 1) * 6) (n - at') dCap ⟨g, at' * 6, none⟩ (n + 1 - at') sCap cur 59 (L.drop (at' * 6)) hblk (by rw [hdl, show Nat.min (n + 1 - at') (n - at') = n - at' from Nat.min_eq_right (by omega)]) (fun j u hu => ?_) (by rw [hdl]; omega) (fun u hu => h1 u (List.mem_of_mem_drop hu))
    show w.cell? _ = _
    rw [add_none, cellg]
    rw [List.getElem?_drop, ← hL] at hu
    have hj : at' * 6 + j < n * 6 := by
      have := (List.getElem?_eq_some_iff.1 hu).1
      rw [List.length_take] at this
      omega
    rw [List.getElem?_take_of_lt hj] at hu
    simpa using hu
  have hb1 := setRow_blk (w := w.drew) (cs := (cur.toList.take ((at' + 1) * 6) ++ L.drop (at' * 6) ++ cur.toList.drop ((at' + 1) * 6 + (L.drop (at' * 6)).length)).toArray) hblk
  have hbel1 : Below B w (w.drew.setRow g (cur.toList.take ((at' + 1) * 6) ++ L.drop (at' * 6) ++ cur.toList.drop ((at' + 1) * 6 + (L.drop (at' * 6)).length)).toArray) := below_setRow ((Below.refl B w).drew) hBg _
  have hvb1 : (w.drew.setRow g (cur.toList.take ((at' + 1) * 6) ++ L.drop (at' * 6) ++ cur.toList.drop ((at' + 1) * 6 + (L.drop (at' * 6)).length)).toArray).heap[vb]? = some (.cells E.toArray 59 (0, 0)) := (setRow_other w.drew g vb _ hne).trans hvb
  have hR1t : (cur.toList.take ((at' + 1) * 6) ++ L.drop (at' * 6) ++ cur.toList.drop ((at' + 1) * 6 + (L.drop (at' * 6)).length)).take ((n + 1) * 6) = cur.toList.take ((at' + 1) * 6) ++ L.drop (at' * 6) := by rw [show (n + 1) * 6 = (at' + 1) * 6 + (L.drop (at' * 6)).length by omega, q3]
  generalize cur.toList.take ((at' + 1) * 6) ++ L.drop (at' * 6) ++ cur.toList.drop ((at' + 1) * 6 + (L.drop (at' * 6)).length) = R1 at *
  generalize w.drew.setRow g R1.toArray = W1 at *
  obtain ⟨r1, r2, r3⟩ := splice_get R1 E (at' * 6) (by omega)
  have hc2 : ∀ ty dCap, (Builtin.copy_ #[33, 33] ty #[.slice (some ⟨g, at' * 6, none⟩) (n + 1 - at') dCap, .slice (some ⟨vb, 0, none⟩) 1 1]).run Try.prog W1 = .ok (goInt 1) (W1.setRow g (R1.take (at' * 6) ++ E ++ R1.drop (at' * 6 + E.length)).toArray) := fun ty dCap => by
    have hd : 0 < n + 1 - at' := by omega
    have := run_copy_row6 W1 ty g (at' * 6) (n + 1 - at') dCap ⟨vb, 0, none⟩ 1 1 R1.toArray 59 E hb1 (by rw [show Nat.min 1 (n + 1 - at') = 1 from Nat.min_eq_left hd, hE]) (fun j u hu => by
      rw [add_none, Nat.zero_add]
      simp only [World.cell?, hvb1]
      simpa using hu) (by simp; omega) h1E
    rw [show Nat.min 1 (n + 1 - at') = 1 from Nat.min_eq_left hd] at this
    simpa using this
  have hb2 := setRow_blk (cs := (R1.take (at' * 6) ++ E ++ R1.drop (at' * 6 + E.length)).toArray) hb1
  have hbel2 : Below B w (W1.setRow g (R1.take (at' * 6) ++ E ++ R1.drop (at' * 6 + E.length)).toArray) := below_setRow hbel1 hBg _
  have hfin : (R1.take (at' * 6) ++ E ++ R1.drop (at' * 6 + E.length)).take ((n + 1) * 6) = L.take (at' * 6) ++ E ++ L.drop (at' * 6) := by
    rw [take_splice R1 E (at' * 6) ((n + 1) * 6) (by omega) (by omega), hR1t]
    have e1 : R1.take (at' * 6) = L.take (at' * 6) := by
      rw [← hL, List.take_take, Nat.min_eq_left (by omega)]
      exact q2 (at' * 6) (by omega)
    rw [e1]
    congr 1
    rw [show at' * 6 + E.length = (at' + 1) * 6 by omega, List.drop_append_of_le_length (by rw [List.length_take]; omega), List.drop_eq_nil_of_le (by rw [List.length_take]; omega), List.nil_append]
  have HP : Hid (IR B n at' L E w (.returned (.slice (some ⟨g, 0, none⟩) (n + 1) cap)) (W1.setRow g (R1.take (at' * 6) ++ E ++ R1.drop (at' * 6 + E.length)).toArray)) :=
    ⟨_, rfl, ⟨by simp only [List.length_append, List.length_take, List.length_drop]; omega, .inr ⟨g, cap, _, rfl, hBg, hb2, by omega, hmax, by simp only [List.size_toArray, r1]; omega, by simpa using hfin⟩⟩, hbel2⟩
  have n1 : ((at' : Int) == (n : Int)) = false := by simp; omega
  have n2 : decide ((cap : Int) < (n : Int) + 1) = false := decide_eq_false (by omega)
  have a0 : (0 : Int) ≤ (at' : Int) := by omega
  have a1 : (at' : Int) ≤ (n : Int) := by omega
  have a2 : at' < cap := by omega
  have a3 : at' + 1 ≤ n := by omega
  have a4 : at' + 1 < cap := by omega
  generalize R1.take (at' * 6) ++ E ++ R1.drop (at' * 6 + E.length) = R2 at *
  have hc1x := fun dCap sCap => hc1 3 dCap sCap
  have hc2x := fun dCap => hc2 3 dCap
  clear hblk hsz hL h1 hvlt hglt hcurl hLl hb1 hbel1 hb2 hbel2 q1 q2 q3 r1 r2 r3 hfin hdl cellg cellv hE hvb h1E hvb1 hR1t hc1 hc2 hmax
  go_enter Try.func66, Try.ntmps66
  go_wp2
  go_region
  all_goals
    go_wp2
    go_ret
    exact HP.out
/-- slices.Insert of one pair, at any place of a row of the call's own -/
theorem insert66 (B n at' vb : Nat) (v : Value) (L E : List Value) (w : World) (hown : w.ownsRow B 59 6 v n L) (hE : E.length = 6) (hvb : w.heap[vb]? = some (.cells E.toArray 59 (0, 0))) (hne : v.ownBlock ≠ some vb) (h1 : ∀ u ∈ L, u.oneCell' = true) (h1E : ∀ u ∈ E, u.oneCell' = true) (hB : B ≤ w.heap.size) (hn : n ≤ 2147483647) (hat : at' ≤ n) :
    Calls Try.prog 66 #[v, .int .i64 at', .slice (some ⟨vb, 0, none⟩) 1 1] w (IR B n at' L E w) := by
  by_cases e : at' = n
  · subst e; exact ins_end B at' vb v L E w hown hE hvb h1E hB hn
  · rcases hown.2 with ⟨_, h0⟩ | ⟨g, cap, cur, rfl, e2, e3, e4, e5, e6, e7⟩
    · omega
    · by_cases hr : n + 1 ≤ cap
      · exact ins_room B g n cap at' vb cur L E w e3 e6 e7 hr e5 e2 (fun h => hne (by rw [h]; rfl)) hE hvb h1 h1E hn (by omega)
      · obtain rfl : cap = n := by omega
        have e8 : cur.toList = L := by rw [← e7, List.take_of_length_le (by simp; omega)]
        have := ins_grow B g cap at' vb cur E w e3 e6 hE hvb (by rw [e8]; exact h1) h1E hB hn (by omega)
        rw [e8] at this
        exact this
end Go.Proofs.Ytldkecjfjcnkfaa
