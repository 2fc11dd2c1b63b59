import Derived.Test.YtldkecjfjcnkfaaGd
namespace Go.Proofs.Ytldkecjfjcnkfaa
open Go.RowKit Go.Deep
def kM : ByteArray := ⟨#[109]⟩
def kZ : ByteArray := ⟨#[109, 101, 116, 97, 100, 97, 116, 97, 95, 115, 105, 122, 101]⟩
def kQ : ByteArray := ⟨#[114, 101, 113, 113]⟩
def kV : ByteArray := ⟨#[118]⟩
/-- a key of a wish's own -/
def owB (s : ByteArray) : Bool := s.toList == [109] || (s.toList == [109, 101, 116, 97, 100, 97, 116, 97, 95, 115, 105, 122, 101] || (s.toList == [114, 101, 113, 113] || s.toList == [118]))
def idB (i : Int) : Bool := decide (0 ≤ i) && decide (i ≤ 255)
set_option maxHeartbeats 1000000 in
theorem isID25 (id : Int) (w : World) : Calls Try.prog 25 #[.int .i64 id] w fun e w' => e = .returned (.bool (idB id)) ∧ w' = w := by
  unfold idB
  go_enter Try.func25, Try.ntmps25
  by_cases h : 0 ≤ id
  · have h1 : decide (0 ≤ id) = true := decide_eq_true h
    go_wp2
    go_ret
    exact ⟨by simp [h], rfl⟩
  · have h1 : decide (0 ≤ id) = false := decide_eq_false h
    go_wp2
    go_ret
    exact ⟨by simp, rfl⟩
set_option maxHeartbeats 1000000 in
theorem strayID54 (s : ByteArray) (i : Int) (w : World) : Calls Try.prog 54 #[.agg #[.string s, .int .i64 i]] w fun e w' => e = .returned (.bool (!idB i)) ∧ Below w.heap.size w w' := by
  go_enter Try.func54, Try.ntmps54
  go_wp2_with fail
  refine (isID25 i _).mono ?_
  rintro e w1 ⟨rfl, he⟩
  subst w1
  go_wp2
  go_ret
  exact ⟨rfl, (Below.refl _ _).alloc (Nat.le_refl _) _⟩
set_option maxHeartbeats 1000000 in
theorem isOwn72 (s : ByteArray) (w : World) : Calls Try.prog 72 #[.string s] w fun e w' => e = .returned (.bool (owB s)) ∧ w' = w := by
  have HO : owB s = (s.toList == [109] || (s.toList == [109, 101, 116, 97, 100, 97, 116, 97, 95, 115, 105, 122, 101] || (s.toList == [114, 101, 113, 113] || s.toList == [118]))) := rfl
  have HO2 := Lib.hid HO
  clear HO
  by_cases h1 : s.toList = [109]
  · have HE : Hid (owB s = true) := by
      show _ = true
      rw [HO2.out]
      simp [h1]
    clear HO2
    go_enter Try.func72, Try.ntmps72
    go_wp2
    go_ret
    exact ⟨by rw [HE.out]; rfl, rfl⟩
  by_cases h2 : s.toList = [109, 101, 116, 97, 100, 97, 116, 97, 95, 115, 105, 122, 101]
  · have HE : Hid (owB s = true) := by
      show _ = true
      rw [HO2.out]
      simp [h2]
    clear HO2
    go_enter Try.func72, Try.ntmps72
    go_wp2
    go_ret
    exact ⟨by rw [HE.out]; rfl, rfl⟩
  by_cases h3 : s.toList = [114, 101, 113, 113]
  · have HE : Hid (owB s = true) := by
      show _ = true
      rw [HO2.out]
      simp [h3]
    clear HO2
    go_enter Try.func72, Try.ntmps72
    go_wp2
    go_ret
    exact ⟨by rw [HE.out]; rfl, rfl⟩
  by_cases h4 : s.toList = [118]
  · have HE : Hid (owB s = true) := by
      show _ = true
      rw [HO2.out]
      simp [h4]
    clear HO2
    go_enter Try.func72, Try.ntmps72
    go_wp2
    go_ret
    exact ⟨by rw [HE.out]; rfl, rfl⟩
  have HE : Hid (owB s = false) := by
    show _ = false
    rw [HO2.out]
    simp [h1, h2, h3, h4]
  clear HO2
  go_enter Try.func72, Try.ntmps72
  go_wp2
  go_ret
  exact ⟨by rw [HE.out]; simp [Array.getD, h1, h2, h3, h4], rfl⟩
set_option maxHeartbeats 1000000 in
theorem strayKey56 (e : PE) (w : World) : Calls Try.prog 56 #[.agg (gC e).toArray] w fun en w' => en = .returned (.bool (owB e.key)) ∧ Below w.heap.size w w' := by
  obtain ⟨key, t, x, y⟩ := e
  show Calls Try.prog 56 #[.agg #[.string key, .int .i64 t.k, .int .i64 t.n, .string t.s, x, y]] w _
  go_enter Try.func56, Try.ntmps56
  go_wp2_with fail
  refine (isOwn72 key _).mono ?_
  rintro en w1 ⟨rfl, he⟩
  subst w1
  go_wp2
  go_ret
  exact ⟨rfl, (Below.refl _ _).alloc (Nat.le_refl _) _⟩
set_option maxHeartbeats 2000000 in
theorem index70 (nv : Value) (ns : List (ByteArray × Int)) (w : World) (h : RNs w nv ns) (hn : ns.length ≤ 2147483647) : Calls Try.prog 70 #[nv, .func (Fn.func 54) #[] #[]] w fun en w' => ∃ r : Int, en = .returned (.int .i64 r) ∧ decide (0 ≤ r) = ns.any (fun x => !idB x.2) ∧ Below w.heap.size w w' := by
  obtain ⟨a, c, rfl, hx⟩ := h
  have HX := Lib.hid hx
  generalize hnn : ns.length = n at *
  have HNN := Lib.hid hnn
  clear hx hnn
  go_enter Try.func70, Try.ntmps70
  go_wp2
  go_loopw [8] (fun t wr => ∃ i : Nat, i ≤ n ∧ t = .int .i64 i ∧ Hid (Below w.heap.size w wr ∧ ∀ (j : Nat) (y : ByteArray × Int), j < i → ns[j]? = some y → idB y.2 = true)) (fun t _ => n - (intOf t).toNat)
  case atStart => exact ⟨0, Nat.zero_le _, rfl, Below.refl _ _, fun j y hj => absurd hj (Nat.not_lt_zero _)⟩
  case round =>
    obtain ⟨i, hi, rfl, HI⟩ := hrel
    by_cases hlt : i < n
    · obtain ⟨x, hx⟩ : ∃ x, ns[i]? = some x := ⟨_, List.getElem?_eq_getElem (by rw [HNN.out]; exact hlt)⟩
      obtain ⟨g, o, rfl, hg, hc⟩ := HX.out.resolve_left (fun e => by rw [e] at hx; simp at hx)
      have g0 := Below.cellS HI.out.1 (Nat.le_refl _) (hc i x hx).1
      have g1 := Below.cellS HI.out.1 (Nat.le_refl _) (hc i x hx).2
      obtain ⟨xs, xi⟩ := x
      have HXI := Lib.hid hx
      clear hc hx
      go_wp2_with fail
      refine (strayID54 xs xi wr).mono ?_
      rintro en w1 ⟨rfl, b1⟩
      have HB1 : Hid (Below w.heap.size w w1) := HI.out.1.trans (b1.mono HI.out.1.size)
      clear g0 g1 b1
      cases hid : idB xi with
      | false =>
        have HE : Hid (ns.any (fun x => !idB x.2) = true) := List.any_eq_true.2 ⟨_, List.mem_of_getElem? HXI.out, by show (!idB xi) = true; rw [hid]; rfl⟩
        clear hid HI
        go_wp2
        go_ret
        refine ⟨i, rfl, ?_, HB1.out⟩
        rw [HE.out]
        exact decide_eq_true (by omega)
      | true =>
        have HJ : Hid (Below w.heap.size w w1 ∧ ∀ (j : Nat) (y : ByteArray × Int), j < i + 1 → ns[j]? = some y → idB y.2 = true) := ⟨HB1.out, fun j y hj hy => by
          rcases Nat.lt_succ_iff_lt_or_eq.1 hj with h | rfl
          · exact HI.out.2 j y h hy
          · have h9 := HXI.out
            rw [hy] at h9
            cases h9
            exact hid⟩
        clear hid HI
        go_wp2
        exact ⟨⟨i + 1, by omega, by go_num, HJ⟩, by simp [intOf]; omega⟩
    · obtain rfl : i = n := by omega
      have HE : Hid (ns.any (fun x => !idB x.2) = false) := by
        show _ = false
        rw [List.any_eq_false]
        intro x hx
        obtain ⟨j, hj, rfl⟩ := List.getElem_of_mem hx
        rw [HI.out.2 j _ (by rw [← HNN.out]; exact hj) (List.getElem?_eq_getElem hj)]
        decide
      go_wp2
      go_ret
      refine ⟨-1, rfl, ?_, HI.out.1⟩
      rw [HE.out]
      rfl
set_option maxHeartbeats 1000000 in
theorem contains53 (nv : Value) (ns : List (ByteArray × Int)) (w : World) (h : RNs w nv ns) (hn : ns.length ≤ 2147483647) : Calls Try.prog 53 #[nv, .func (Fn.func 54) #[] #[]] w fun en w' => en = .returned (.bool (ns.any (fun x => !idB x.2))) ∧ Below w.heap.size w w' := by
  have H := Lib.hid (index70 nv ns w h hn)
  obtain ⟨a, c, rfl, -⟩ := h
  go_enter Try.func53, Try.ntmps53
  go_wp2_with fail
  refine H.out.mono ?_
  rintro en w1 ⟨r, rfl, hr, b1⟩
  have HR : Hid (decide (0 ≤ r) = ns.any (fun x => !idB x.2) ∧ Below w.heap.size w w1) := ⟨hr, b1⟩
  clear hr b1
  go_wp2
  go_ret
  rw [← HR.out.1]
  exact ⟨rfl, HR.out.2⟩
set_option maxHeartbeats 2000000 in
theorem index71 (A : Nat) (v : Value) (es : List PE) (w : World) (h : RG A w v es) (hn : es.length ≤ 2147483647) : Calls Try.prog 71 #[v, .func (Fn.func 56) #[] #[]] w fun en w' => ∃ r : Int, en = .returned (.int .i64 r) ∧ decide (0 ≤ r) = es.any (fun e => owB e.key) ∧ Below w.heap.size w w' := by
  obtain ⟨a, c, rfl, -, hx⟩ := h
  have HX := Lib.hid hx
  generalize hnn : es.length = n at *
  have HNN := Lib.hid hnn
  clear hx hnn
  go_enter Try.func71, Try.ntmps71
  go_wp2
  go_loopw [8] (fun t wr => ∃ i : Nat, i ≤ n ∧ t = .int .i64 i ∧ Hid (Below w.heap.size w wr ∧ ∀ (j : Nat) (e : PE), j < i → es[j]? = some e → owB e.key = false)) (fun t _ => n - (intOf t).toNat)
  case atStart => exact ⟨0, Nat.zero_le _, rfl, Below.refl _ _, fun j y hj => absurd hj (Nat.not_lt_zero _)⟩
  case round =>
    obtain ⟨i, hi, rfl, HI⟩ := hrel
    by_cases hlt : i < n
    · obtain ⟨e, hx⟩ : ∃ e, es[i]? = some e := ⟨_, List.getElem?_eq_getElem (by rw [HNN.out]; exact hlt)⟩
      obtain ⟨g, o, rfl, hg, hc⟩ := HX.out.resolve_left (fun e => by rw [e] at hx; simp at hx)
      obtain ⟨hrv, hcc⟩ := hc i e hx
      obtain ⟨⟨xa, xn, xc, hxx⟩, ⟨ya, yn, yc, hyy⟩⟩ := hrv.slices
      have cw : ∀ {p : Addr} {v : Value}, w.cell? p = some v → wr.cell? p = some v := fun h => Below.cellS HI.out.1 (Nat.le_refl _) h
      have c0 : wr.cell? ⟨g, o + i * 6, none⟩ = some (.string e.key) := cw (hcc 0 (by omega))
      have c1 : wr.cell? ⟨g, o + i * 6 + 1, none⟩ = some (.int .i64 e.t.k) := cw (hcc 1 (by omega))
      have c2 : wr.cell? ⟨g, o + i * 6 + 2, none⟩ = some (.int .i64 e.t.n) := cw (hcc 2 (by omega))
      have c3 : wr.cell? ⟨g, o + i * 6 + 3, none⟩ = some (.string e.t.s) := cw (hcc 3 (by omega))
      have c4 : wr.cell? ⟨g, o + i * 6 + 4, none⟩ = some (.slice xa xn xc) := cw ((hcc 4 (by omega)).trans (congrArg some hxx))
      have c5 : wr.cell? ⟨g, o + i * 6 + 5, none⟩ = some (.slice ya yn yc) := cw ((hcc 5 (by omega)).trans (congrArg some hyy))
      have HC := Lib.hid (strayKey56 e wr)
      rw [show (gC e).toArray = #[.string e.key, .int .i64 e.t.k, .int .i64 e.t.n, .string e.t.s, .slice xa xn xc, .slice ya yn yc] by
        show #[.string e.key, .int .i64 e.t.k, .int .i64 e.t.n, .string e.t.s, e.x, e.y] = _
        rw [hxx, hyy]] at HC
      have HXI := Lib.hid hx
      clear hc hx hrv hcc hxx hyy cw
      go_wp2_with fail
      refine HC.out.mono ?_
      rintro en w1 ⟨rfl, b1⟩
      have HB1 : Hid (Below w.heap.size w w1) := HI.out.1.trans (b1.mono HI.out.1.size)
      clear c0 c1 c2 c3 c4 c5 b1 HC
      cases hid : owB e.key with
      | true =>
        have HE : Hid (es.any (fun e => owB e.key) = true) := List.any_eq_true.2 ⟨_, List.mem_of_getElem? HXI.out, hid⟩
        clear hid HI
        go_wp2
        go_ret
        refine ⟨i, rfl, ?_, HB1.out⟩
        rw [HE.out]
        exact decide_eq_true (by omega)
      | false =>
        have HJ : Hid (Below w.heap.size w w1 ∧ ∀ (j : Nat) (e : PE), j < i + 1 → es[j]? = some e → owB e.key = false) := ⟨HB1.out, fun j y hj hy => by
          rcases Nat.lt_succ_iff_lt_or_eq.1 hj with h | rfl
          · exact HI.out.2 j y h hy
          · have h9 := HXI.out
            rw [hy] at h9
            cases h9
            exact hid⟩
        clear hid HI
        go_wp2
        exact ⟨⟨i + 1, by omega, by go_num, HJ⟩, by simp [intOf]; omega⟩
    · obtain rfl : i = n := by omega
      have HE : Hid (es.any (fun e => owB e.key) = false) := by
        show _ = false
        rw [List.any_eq_false]
        intro x hx
        obtain ⟨j, hj, rfl⟩ := List.getElem_of_mem hx
        rw [HI.out.2 j _ (by rw [← HNN.out]; exact hj) (List.getElem?_eq_getElem hj)]
        decide
      go_wp2
      go_ret
      refine ⟨-1, rfl, ?_, HI.out.1⟩
      rw [HE.out]
      rfl
set_option maxHeartbeats 1000000 in
theorem contains55 (A : Nat) (v : Value) (es : List PE) (w : World) (h : RG A w v es) (hn : es.length ≤ 2147483647) : Calls Try.prog 55 #[v, .func (Fn.func 56) #[] #[]] w fun en w' => en = .returned (.bool (es.any (fun e => owB e.key))) ∧ Below w.heap.size w w' := by
  have H := Lib.hid (index71 A v es w h hn)
  obtain ⟨a, c, rfl, -⟩ := h
  go_enter Try.func55, Try.ntmps55
  go_wp2_with fail
  refine H.out.mono ?_
  rintro en w1 ⟨r, rfl, hr, b1⟩
  have HR : Hid (decide (0 ≤ r) = es.any (fun e => owB e.key) ∧ Below w.heap.size w w1) := ⟨hr, b1⟩
  clear hr b1
  go_wp2
  go_ret
  rw [← HR.out.1]
  exact ⟨rfl, HR.out.2⟩
end Go.Proofs.Ytldkecjfjcnkfaa
