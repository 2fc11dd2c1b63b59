import Derived.Test.YtdchckelnccepaaDoorZ9
namespace Go.Proofs.YtdchckelnccepaaDoor
open Go.RowKit Go.Deep
/-- the numbers are ints -/
def T.ints : T → Prop
  | .no => True
  | .mk _ n _ ln l dn _ dv => -9223372036854775808 ≤ n ∧ n ≤ 9223372036854775807 ∧ (∀ i, i < ln → (l i).ints) ∧ (∀ i, i < dn → (dv i).ints)
theorem rng_of (t : T) : t.ints → t.small → t.rng := by
  induction t with
  | no => intro _ _; trivial
  | mk k n s ln l dn ky dv il id =>
    rintro ⟨h1, h2, h3, h4⟩ ⟨s1, s2, s3, s4⟩
    exact ⟨h1, h2, s1, s2, fun i hi => il i (h3 i hi) (s3 i hi), fun i hi => id i (h4 i hi) (s4 i hi)⟩
section
variable {H : Type} {enc : TypeId × Value → H} {w : World}
/-- the five fields of a value that is read -/
theorem open25i {fuel : Nat} {cs : List Value} {x : DataW H × List MemPlace} (h : DataW.trod enc Tryd.prog w 0 (fun _ => true) true fuel 41 cs = some x) :
    ∃ (m : Nat) (k n : Int) (s : ByteArray) (lv dv : Value) (xl xd : DataW H × List MemPlace), fuel = m + 1 ∧ cs = [.int .i64 k, .int .i64 n, .string s, lv, dv] ∧
      x.1 = .agg [.lit (.int .i64 k), .lit (.int .i64 n), .lit (.string s.data.toList), xl.1, xd.1] ∧
      DataW.trod enc Tryd.prog w 0 (fun _ => true) true m 39 [lv] = some xl ∧ DataW.trod enc Tryd.prog w 0 (fun _ => true) true m 23 [dv] = some xd ∧ -9223372036854775808 ≤ n ∧ n ≤ 9223372036854775807 := by
  obtain ⟨xs, m, rfl, rfl, hl, hx, hf⟩ := DataW.trod_struct Tryd.underlying41 h
  rw [cells25] at hl
  obtain ⟨c0, c1, c2, c3, c4, rfl⟩ := len5 hl
  obtain ⟨x0, x1, x2, x3, x4, rfl⟩ := len5 (l := xs) (by simpa using hx)
  have f0 := hf 0 _ rfl
  have f1 := hf 1 _ rfl
  have f2 := hf 2 _ rfl
  have f3 := hf 3 _ rfl
  have f4 := hf 4 _ rfl
  simp [cells3, cells9, cells22, cells23] at f0 f1 f2 f3 f4
  obtain ⟨k, e0, rfl, _⟩ := DataW.trod_int Tryd.underlying3 f0
  obtain ⟨n, e1, rfl, hfit⟩ := DataW.trod_int Tryd.underlying3 f1
  obtain ⟨s, e2, rfl, _⟩ := DataW.trod_string Tryd.underlying9 f2
  simp at e0 e1 e2
  subst e0 e1 e2
  exact ⟨m, k, n, s, c3, c4, x3, x4, rfl, rfl, rfl, f3, f4, by simpa [Lit.wf, IntKind.min, IntKind.max, IntKind.signed, IntKind.bits] using hfit⟩
theorem rv_of_trod_i : ∀ (fuel : Nat) (cs : List Value) (x : DataW H × List MemPlace), DataW.trod enc Tryd.prog w 0 (fun _ => true) true fuel 41 cs = some x →
    (∀ q ∈ DataW.weights Tryd.prog 41 x.1, q ≤ reachBytes) → ∃ t lv dv, cs = [.int .i64 t.k, .int .i64 t.n, .string t.s, lv, dv] ∧ RV (fun _ => True) w t lv dv ∧ t.ok ∧ t.ints := by
  intro fuel
  induction fuel using Nat.strongRecOn with
  | ind fuel ih =>
  intro cs x h hw
  obtain ⟨m, k, n, s, lv, dv, xl, xd, rfl, rfl, hx, hl, hd, hn0, hn1⟩ := open25i h
  rw [hx] at hw
  simp only [DataW.weights, Tryd.underlying41, DataW.weightsEach, List.map, List.mem_append, List.append_nil, List.nil_append] at hw
  have hs : s.size ≤ reachBytes := by
    have := hw s.data.toList.length (.inl (by simp))
    rwa [Array.length_toList] at this
  obtain ⟨al, ln, cl, rfl, bl, gl⟩ := openRow Tryd.underlying39 hl (fun q hq => hw q (.inr (.inl hq))) (by rw [cells25]; omega)
  obtain ⟨ad, dn, cd, rfl, bd, gd⟩ := openRow Tryd.underlying23 hd (fun q hq => hw q (.inr (.inr hq))) (by rw [cells42]; omega)
  rw [bytes25] at bl
  rw [bytes42] at bd
  rw [cells25] at gl
  rw [cells42] at gd
  have e1 : reachBytes = 140737488351232 := rfl
  have L : ∃ l : Nat → T, (∀ i, i < ln → (l i).ok ∧ (l i).ints) ∧ RL (fun _ => True) w ln l (.slice al ln cl) := by
    rcases gl with rfl | ⟨m', rfl, b, o, rfl, hb, g⟩
    · exact ⟨fun _ => .no, fun i hi => absurd hi (Nat.not_lt_zero _), _, _, rfl, .inl rfl⟩
    have : ∀ i, i < ln → ∃ p : T × Value × Value, RV (fun _ => True) w p.1 p.2.1 p.2.2 ∧ five w b (o + i * 5) p.1 p.2.1 p.2.2 ∧ p.1.ok ∧ p.1.ints := by
      intro i hi
      obtain ⟨cs, y, _, hcell, ht, hq⟩ := g i hi
      obtain ⟨t, lv, dv, rfl, h1, h2⟩ := ih m' (by omega) cs y ht hq
      exact ⟨(t, lv, dv), h1, ⟨hcell 0 (by omega), hcell 1 (by omega), hcell 2 (by omega), hcell 3 (by omega), hcell 4 (by omega)⟩, h2⟩
    have : Inhabited (T × Value × Value) := ⟨(.no, .slice none 0 0, .slice none 0 0)⟩
    obtain ⟨f, hf⟩ := choose_lt ‹∀ i, i < ln → _›
    exact ⟨fun i => (f i).1, fun i hi => (hf i hi).2.2, _, _, rfl, .inr ⟨b, o, rfl, trivial, hb, fun i hi => ⟨_, _, (hf i hi).1, (hf i hi).2.1⟩⟩⟩
  have D : ∃ (ky : Nat → ByteArray) (l : Nat → T), (∀ i, i < dn → (ky i).size ≤ 140737488351232 ∧ (l i).ok ∧ (l i).ints) ∧ RD (fun _ => True) w dn ky l (.slice ad dn cd) := by
    rcases gd with rfl | ⟨m', rfl, b, o, rfl, hb, g⟩
    · exact ⟨fun _ => ByteArray.empty, fun _ => .no, fun i hi => absurd hi (Nat.not_lt_zero _), _, _, rfl, .inl rfl⟩
    have : ∀ i, i < dn → ∃ p : ByteArray × T × Value × Value, RV (fun _ => True) w p.2.1 p.2.2.1 p.2.2.2 ∧ w.cell? ⟨b, o + i * 6, none⟩ = some (.string p.1) ∧ five w b (o + i * 6 + 1) p.2.1 p.2.2.1 p.2.2.2 ∧ p.1.size ≤ 140737488351232 ∧ p.2.1.ok ∧ p.2.1.ints := by
      intro i hi
      obtain ⟨cs, y, _, hcell, ht, hq⟩ := g i hi
      obtain ⟨m2, s, cs', xv, rfl, rfl, hy, hv⟩ := open42 ht
      rw [hy] at hq
      simp only [DataW.weights, Tryd.underlying44, DataW.weightsEach, List.map, List.mem_append, List.append_nil] at hq
      obtain ⟨t, lv, dv, rfl, h1, h2⟩ := ih m2 (by omega) cs' xv hv (fun q h => hq q (.inr h))
      refine ⟨(s, t, lv, dv), h1, hcell 0 (by omega), ⟨hcell 1 (by omega), hcell 2 (by omega), hcell 3 (by omega), hcell 4 (by omega), hcell 5 (by omega)⟩, ?_, h2⟩
      have := hq s.data.toList.length (.inl (by simp))
      rwa [Array.length_toList] at this
    have : Inhabited (ByteArray × T × Value × Value) := ⟨(ByteArray.empty, .no, .slice none 0 0, .slice none 0 0)⟩
    obtain ⟨f, hf⟩ := choose_lt ‹∀ i, i < dn → _›
    exact ⟨fun i => (f i).1, fun i => (f i).2.1, fun i hi => (hf i hi).2.2.2, _, _, rfl, .inr ⟨b, o, rfl, trivial, hb, fun i hi => ⟨_, _, (hf i hi).1, (hf i hi).2.1, (hf i hi).2.2.1⟩⟩⟩
  obtain ⟨l, hlo, hL⟩ := L
  obtain ⟨ky, dvs, hdo, hD⟩ := D
  exact ⟨.mk k n s ln l dn ky dvs, _, _, rfl, ⟨hL, hD⟩, ⟨hs, by rw [e1] at bl; omega, by rw [e1] at bd; omega, fun i hi => (hlo i hi).1, fun i hi => ⟨(hdo i hi).1, (hdo i hi).2.1⟩⟩, hn0, hn1, fun i hi => (hlo i hi).2, fun i hi => (hdo i hi).2.2⟩
end
end Go.Proofs.YtdchckelnccepaaDoor
