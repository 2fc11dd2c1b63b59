import Derived.Test.YtoiehkpmemmldaaDoorAg
import Derived.Test.YtoiehkpmemmldaaDoorLy
namespace Go.Proofs.YtoiehkpmemmldaaDoor
open Go.RowKit
/-- the list at a place -/
def la (L : List (List ByteArray)) (i : Nat) : List ByteArray := L.getD i []
theorem la_get {L : List (List ByteArray)} {i : Nat} (h : i < L.length) : la L i = L[i] := by unfold la; simp [List.getD, List.getElem?_eq_getElem h]
theorem la_mem {L : List (List ByteArray)} {i : Nat} (h : i < L.length) : la L i ∈ L := by rw [la_get h]; exact List.getElem_mem h
theorem la_take {L : List (List ByteArray)} {k : Nat} (h : k < L.length) : L.take (k + 1) = L.take k ++ [la L k] := by rw [la_get h]; exact List.take_succ_eq_append_getElem h
/-- the slice v reads as the list of lists L -/
def PR (w : World) (L : List (List ByteArray)) (v : Value) : Prop := ∃ a c, v = .slice a L.length c ∧ L.length ≤ c ∧ (L = [] ∨ ∃ b o, a = some ⟨b, o, none⟩ ∧ b < w.heap.size ∧ ∀ i, i < L.length → ∃ x, w.cell? ⟨b, o + i, none⟩ = some x ∧ SR w (la L i) x)
def tot (L : List (List ByteArray)) : Nat := (L.map List.length).sum
/-- sizes -/
def PF (L : List (List ByteArray)) : Prop := L.length + tot L ≤ 1000000000000 ∧ ∀ l ∈ L, FL l
theorem tot_take {L : List (List ByteArray)} {k : Nat} (h : k < L.length) : tot (L.take (k + 1)) = tot (L.take k) + (la L k).length := by
  rw [la_take h]; unfold tot; simp
theorem tot_le (L : List (List ByteArray)) (k : Nat) : tot (L.take k) ≤ tot L := by
  have : tot L = tot (L.take k) + tot (L.drop k) := by unfold tot; rw [← List.sum_append, ← List.map_append, List.take_append_drop]
  omega
theorem PF.la {L : List (List ByteArray)} (h : PF L) {i : Nat} (hi : i < L.length) : FL (la L i) := h.2 _ (la_mem hi)
theorem PR.keep {w w' : World} {L : List (List ByteArray)} {v : Value} (h : PR w L v) (hb : Below w.heap.size w w') : PR w' L v := by
  obtain ⟨a, c, rfl, hc, h⟩ := h
  refine ⟨a, c, rfl, hc, ?_⟩
  rcases h with h | ⟨g, o, h1, h2, h3⟩
  · exact .inl h
  · refine .inr ⟨g, o, h1, Nat.lt_of_lt_of_le h2 hb.size, fun i hi => ?_⟩
    obtain ⟨x, h4, h5⟩ := h3 i hi
    exact ⟨x, (World.cell?_of_block (w := w) (hb.block g h2)).trans h4, h5.keep hb⟩
theorem PR.cellAt {w : World} {L : List (List ByteArray)} {a : Option Addr} {n c : Nat} (h : PR w L (.slice a n c)) {k : Nat} (hk : k < L.length) : ∃ b o, a = some ⟨b, o, none⟩ ∧ b < w.heap.size ∧ ∃ x, w.cell? ⟨b, o + k, none⟩ = some x ∧ SR w (la L k) x := by
  obtain ⟨a', c', he, _, h⟩ := h
  cases he
  rcases h with h | ⟨g, o, h1, h2, h3⟩
  · subst h; simp at hk
  · exact ⟨g, o, h1, h2, h3 k hk⟩
theorem PR.take {w : World} {L : List (List ByteArray)} {a : Option Addr} {n c : Nat} (h : PR w L (.slice a n c)) {k : Nat} (hk : k ≤ L.length) : PR w (L.take k) (.slice a k c) := by
  obtain ⟨a', c', he, hc, h⟩ := h
  simp only [Value.slice.injEq] at he
  obtain ⟨rfl, rfl, rfl⟩ := he
  have hlen : (L.take k).length = k := by rw [List.length_take]; omega
  refine ⟨a, c, by rw [hlen], by rw [hlen]; omega, ?_⟩
  by_cases h0 : L.take k = []
  · exact .inl h0
  rcases h with h | ⟨b, o, h1, h2, h3⟩
  · subst h; simp at h0
  · refine .inr ⟨b, o, h1, h2, fun i hi => ?_⟩
    rw [hlen] at hi
    obtain ⟨x, h4, h5⟩ := h3 i (by omega)
    have : la (L.take k) i = la L i := by rw [la_get (by omega), la_get (by omega)]; simp
    exact ⟨x, h4, by rw [this]; exact h5⟩
/-- the answer of Clash -/
def CL (L : List (List ByteArray)) (i j : Nat) (e : Int) : Prop :=
  (e = 0 ∧ i = 0 ∧ j = 0 ∧ ∀ b, b < L.length → ∀ a, a < b → er (la L a) (la L b) = 0) ∨
  (e = er (la L i) (la L j) ∧ e ≠ 0 ∧ i < j ∧ j < L.length ∧ (∀ b, b < j → ∀ a, a < b → er (la L a) (la L b) = 0) ∧ ∀ a, a < i → er (la L a) (la L j) = 0)
theorem CL.unique {L : List (List ByteArray)} {i j i' j' : Nat} {e e' : Int} (h : CL L i j e) (h' : CL L i' j' e') : i = i' ∧ j = j' ∧ e = e' := by
  rcases h with ⟨rfl, rfl, rfl, h⟩ | ⟨he, h0, h1, h2, h3, h4⟩
  · rcases h' with ⟨rfl, rfl, rfl, _⟩ | ⟨he', h0', h1', h2', _⟩
    · exact ⟨rfl, rfl, rfl⟩
    · exact absurd (h j' h2' i' h1') (by rw [← he']; exact h0')
  · rcases h' with ⟨rfl, rfl, rfl, h'⟩ | ⟨he', h0', h1', h2', h3', h4'⟩
    · exact absurd (h' j h2 i h1) (by rw [← he]; exact h0)
    · have hj : j = j' := by
        rcases Nat.lt_trichotomy j j' with hl | hl | hl
        · exact absurd (h3' j hl i h1) (by rw [← he]; exact h0)
        · exact hl
        · exact absurd (h3 j' hl i' h1') (by rw [← he']; exact h0')
      subst hj
      have hi : i = i' := by
        rcases Nat.lt_trichotomy i i' with hl | hl | hl
        · exact absurd (h4' i hl) (by rw [← he]; exact h0)
        · exact hl
        · exact absurd (h4 i' hl) (by rw [← he']; exact h0')
      subst hi
      exact ⟨rfl, rfl, by rw [he, he']⟩
/-- the box of a slice -/
def BP (w : World) (B : Nat) (x : Value) : Prop := w.heap[B]? = some (.cells #[x] 29 (0, 0))
theorem BP.cell {w : World} {B : Nat} {x : Value} (h : BP w B x) : w.cell? ⟨B, 0, none⟩ = some x := by unfold BP at h; simp [World.cell?, h]
theorem BP.drew {w : World} {B : Nat} {x : Value} (h : BP w B x) (n : Nat) : BP (w.drewN n) B x := h
set_option maxHeartbeats 1000000 in
theorem closure15 (v y : Value) (l m : List ByteArray) (B : Nat) (w : World) (hl : l.length * 16 ≤ 140737488351232) (hm : m.length * 16 ≤ 140737488351232) (h1 : SR w l v) (hB : BP w B y) (h2 : SR w m y) :
    Calls Tryd.prog 20 #[v, .pointer (some ⟨B, 0, none⟩)] w fun e w' => e = .returned (.bool (er l m != 0)) ∧ ∃ n, w' = w.drewN n := by
  have A := against16 v y l m w hl hm h1 h2
  have hc := hB.cell
  generalize hz : er l m = z at *
  clear h1 h2
  go_enter Tryd.func20, Tryd.ntmps20
  go_wp2_with fail
  refine A.mono ?_
  rintro e w1 ⟨rfl, n, rfl⟩
  go_wp2
  go_ret
  exact ⟨rfl, _, rfl⟩
set_option maxHeartbeats 1000000 in
theorem idx14 (v y : Value) (L : List (List ByteArray)) (m : List ByteArray) (B : Nat) (w : World) (hf : PF L) (hm : m.length * 16 ≤ 140737488351232) (h1 : PR w L v) (hB : BP w B y) (h2 : SR w m y) (hex : ∃ i, i < L.length ∧ er (la L i) m ≠ 0) :
    Calls Tryd.prog 19 #[v, .func (.func 20) #[] #[.pointer (some ⟨B, 0, none⟩)]] w fun e w' => ∃ i : Nat, e = .returned (.int .i64 i) ∧ i < L.length ∧ er (la L i) m ≠ 0 ∧ (∀ a, a < i → er (la L a) m = 0) ∧ ∃ n, w' = w.drewN n := by
  have H1 : Hid (PR w L v) := h1
  have H2 : Hid (BP w B y ∧ SR w m y) := ⟨hB, h2⟩
  have HF : Hid (PF L) := hf
  have HX : Hid (∃ i, i < L.length ∧ er (la L i) m ≠ 0) := hex
  have hl := hf.1
  obtain ⟨a1, c1, rfl, _, _⟩ := h1
  clear hf hB h2 hex
  generalize hn : L.length = n at *
  have HN : Hid (L.length = n) := hn
  clear hn
  go_enter Tryd.func19, Tryd.ntmps19
  go_wp2
  go_loopw [8] (fun i wr => ∃ k nq : Nat, k ≤ n ∧ i = .int .i64 k ∧ wr = w.drewN nq ∧ Hid (∀ a, a < k → er (la L a) m = 0)) (fun i _ => n - (intOf i).toNat)
  case atStart => exact ⟨0, 0, Nat.zero_le _, rfl, rfl, fun i h => by omega⟩
  case round =>
    obtain ⟨k, nq, hk, rfl, rfl, HA⟩ := hrel
    by_cases hlt : k < n
    · have hkl : k < L.length := by have := HN.out; omega
      obtain ⟨b1, o1, rfl, _, x, k1, k2⟩ := H1.out.cellAt hkl
      have HC : Hid (Calls Tryd.prog 20 #[x, .pointer (some ⟨B, 0, none⟩)] (w.drewN nq) fun e w' => e = .returned (.bool (er (la L k) m != 0)) ∧ ∃ n, w' = (w.drewN nq).drewN n) :=
        closure15 x y _ m B _ (HF.out.la hkl).1 hm (k2.keep (drB _ _)) H2.out.1 (H2.out.2.keep (drB _ _))
      have k1' : (w.drewN nq).cell? ⟨b1, o1 + k, none⟩ = some x := k1
      clear k2
      by_cases hz : er (la L k) m = 0
      · have HA' : Hid (∀ a, a < k + 1 → er (la L a) m = 0) := fun a ha => by
          by_cases e : a = k
          · rw [e]; exact hz
          · exact HA.out a (by omega)
        rw [hz] at HC
        clear hz hkl
        go_wp2_with fail
        refine HC.out.mono ?_
        rintro e w1 ⟨rfl, n2, rfl⟩
        go_wp2
        go_roundw
        case rel => exact ⟨k + 1, nq + n2, by omega, by go_num, by simp, HA'⟩
        case measure => simp [intOf]; omega
      · have hb : (er (la L k) m != 0) = true := by simp [hz]
        rw [hb] at HC
        have HZ : Hid (er (la L k) m ≠ 0) := hz
        clear hz hb hkl
        go_wp2_with fail
        refine HC.out.mono ?_
        rintro e w1 ⟨rfl, n2, rfl⟩
        go_wp2
        go_ret
        exact ⟨k, rfl, hlt, HZ.out, HA.out, _, rfl⟩
    · exfalso
      obtain ⟨i, hi, hne⟩ := HX.out
      exact hne (HA.out i (by omega))
end Go.Proofs.YtoiehkpmemmldaaDoor
