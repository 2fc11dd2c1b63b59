import Derived.Test.YtoiehkpmemmldaaDoorOpn
import Derived.Test.YtoiehkpmemmldaaDoorPl
namespace Go.Proofs.YtoiehkpmemmldaaDoor
open Go.ChangeShapes Go.WideShapes Go.ChangeAt Go.RowKit Go.Deep
theorem bulk_pos {H : Type} : ∀ d : DataW H, 1 ≤ Rows.uptoBulk d
  | .lit (.string b) => by simp [Rows.uptoBulk]
  | .lit (.int _ _) => by simp [Rows.uptoBulk]
  | .lit (.bool _) => by simp [Rows.uptoBulk]
  | .lit (.float _ _) => by simp [Rows.uptoBulk]
  | .lit .nil => by simp [Rows.uptoBulk]
  | .nil => by simp [Rows.uptoBulk]
  | .ptr d => by simp [Rows.uptoBulk]
  | .slice _ _ => by simp [Rows.uptoBulk]
  | .agg _ => by simp [Rows.uptoBulk]
  | .iface _ d => by simp [Rows.uptoBulk]
  | .map _ => by simp [Rows.uptoBulk]
  | .held _ => by simp [Rows.uptoBulk]
theorem bulk_len {H : Type} : ∀ l : List (DataW H), l.length ≤ Rows.uptoBulkAll l
  | [] => by simp [Rows.uptoBulkAll]
  | d :: l => by
    have := bulk_len l
    have := bulk_pos d
    simp [Rows.uptoBulkAll]; omega
theorem bulk_mem {H : Type} {d : DataW H} : ∀ {l : List (DataW H)}, d ∈ l → Rows.uptoBulk d ≤ Rows.uptoBulkAll l
  | [], h => by cases h
  | a :: l, h => by
    simp only [Rows.uptoBulkAll]
    rcases List.mem_cons.1 h with rfl | h
    · omega
    · have := bulk_mem h; omega
theorem tot_cons (l : List ByteArray) (L : List (List ByteArray)) : tot (l :: L) = l.length + tot L := by simp [tot]
theorem bulk_tot {H : Type} : ∀ (L : List (List ByteArray)) (E : List (DataW H)), L.length = E.length → (∀ i (h : i < E.length), (la L i).length + 1 ≤ Rows.uptoBulk E[i]) → L.length + tot L ≤ Rows.uptoBulkAll E
  | [], [], _, _ => by simp [tot]
  | [], _ :: _, h, _ => by simp at h
  | _ :: _, [], h, _ => by simp at h
  | l :: L, d :: E, h, hi => by
    have h1 := bulk_tot L E (by simpa using h) (fun i hh => by have := hi (i + 1) (by simp; omega); simpa [la] using this)
    have h2 := hi 0 (by simp)
    simp [la] at h2
    rw [tot_cons]
    simp only [Rows.uptoBulkAll, List.length_cons]
    omega
section
variable {H : Type} {enc : TypeId × Value → H} {w : World}
theorem openRowB {t e : TypeId} (ht : Tryd.prog.underlying t = some (.slice e)) {fuel : Nat} {v : Value} {x : DataW H × List MemPlace} (h : DataW.trod enc Tryd.prog w 0 (fun _ => true) true fuel t [v] = some x) (hc : 0 < Tryd.prog.cellsOf e) :
    ∃ (a : Option Addr) (len cap : Nat), v = .slice a len cap ∧ len ≤ cap ∧ (len = 0 ∨ ∃ (m : Nat) (elems : List (DataW H × List MemPlace)), elems.length = len ∧ Rows.uptoBulkAll (elems.map (·.1)) + 1 ≤ Rows.uptoBulk x.1 ∧ ∃ b o, a = some ⟨b, o, none⟩ ∧ b < w.heap.size ∧
      ∀ i (hi : i < elems.length), ∃ cs, cs.length = Tryd.prog.cellsOf e ∧ (∀ j, j < Tryd.prog.cellsOf e → w.cell? ⟨b, o + i * Tryd.prog.cellsOf e + j, none⟩ = cs[j]?) ∧ DataW.trod enc Tryd.prog w 0 (fun _ => true) true m e cs = some elems[i]) := by
  rcases DataW.trod_slice ht h with ⟨h0, rfl⟩ | ⟨a, len, cap, elems, rest, m, rfl, h0, rfl, _, hlc, _, hlen, hel, _, _⟩
  · simp at h0
    exact ⟨none, 0, 0, h0, Nat.le_refl _, .inl rfl⟩
  simp at h0
  subst h0
  refine ⟨some a, len, cap, rfl, hlc, ?_⟩
  by_cases h00 : len = 0
  · exact .inl h00
  have key : ∀ i (hi : i < elems.length), ∃ cs, w.cells? 0 (a.add (i * Tryd.prog.cellsOf e)) (Tryd.prog.cellsOf e) = some cs ∧ DataW.trod enc Tryd.prog w 0 (fun _ => true) true m e cs = some elems[i] := by
    intro i hi
    have := hel i (by omega)
    rw [List.getElem?_eq_getElem (by omega)] at this
    obtain ⟨cs', h1, h2⟩ := Option.bind_eq_some_iff.1 this
    exact ⟨cs', h1, h2⟩
  have cellof : ∀ {a' : Addr} {c : Nat} {cs : List Value}, w.cells? 0 a' c = some cs → cs.length = c ∧ ∀ j, j < c → w.cell? (a'.add j) = cs[j]? := fun h => ⟨(World.cells?_some h).2.1, (World.cells?_some h).2.2⟩
  obtain ⟨b, o, spot⟩ := a
  have hspot : spot = none ∧ b < w.heap.size := by
    obtain ⟨cs, h1, _⟩ := key 0 (by omega)
    obtain ⟨hl, hj⟩ := cellof h1
    have := hj 0 hc
    rw [List.getElem?_eq_getElem (by omega)] at this
    have h2 := World.cell?_spot this
    have h3 := World.block_lt_of_cell? w _ this
    simp [Addr.add] at h2 h3
    exact ⟨h2, h3⟩
  obtain ⟨rfl, hb⟩ := hspot
  have hadd : ∀ o i : Nat, (⟨b, o, none⟩ : Addr).add i = ⟨b, o + i, none⟩ := by intro o i; unfold Addr.add; split <;> simp_all
  refine .inr ⟨m, elems, hlen, by simp only [Rows.uptoBulk]; omega, b, o, rfl, hb, fun i hi => ?_⟩
  obtain ⟨cs, h1, h2⟩ := key i hi
  obtain ⟨hl, hj⟩ := cellof h1
  refine ⟨cs, hl, fun j hj' => ?_, h2⟩
  have := hj j hj'
  rw [hadd, hadd] at this
  exact this
theorem cells33 : Tryd.prog.cellsOf 29 = 1 := by kernel_rfl
theorem openStrsB {fuel : Nat} {v : Value} {x : DataW H × List MemPlace} (h : DataW.trod enc Tryd.prog w 0 (fun _ => true) true fuel 29 [v] = some x) :
    ∃ l, SR w l v ∧ l.length + 1 ≤ Rows.uptoBulk x.1 ∧ ∀ s ∈ l, s.size ≤ Rows.uptoBulk x.1 := by
  obtain ⟨a, len, cap, rfl, hlc, hrow⟩ := openRowB Tryd.underlying29 h (by rw [cells9]; omega)
  rcases hrow with rfl | ⟨m, elems, hlen, hbulk, b, o, rfl, hlt, hel⟩
  · exact ⟨[], ⟨a, cap, rfl, hlc, .inl rfl⟩, by have := bulk_pos x.1; simpa using this, by simp⟩
  have : ∀ i, i < len → ∃ s : ByteArray, w.cell? ⟨b, o + i, none⟩ = some (.string s) ∧ s.size ≤ Rows.uptoBulk x.1 := fun i hi => by
    obtain ⟨cs, _, hc, ht⟩ := hel i (by omega)
    obtain ⟨s, rfl, hy, _⟩ := DataW.trod_string Tryd.underlying9 ht
    have h0 := hc 0 (by rw [cells9]; omega)
    rw [cells9] at h0
    refine ⟨s, by simpa using h0, ?_⟩
    have hm := bulk_mem (d := elems[i].1) (l := elems.map (·.1)) (List.mem_map_of_mem (List.getElem_mem _))
    rw [hy] at hm
    simp [Rows.uptoBulk] at hm
    have e : s.data.size = s.size := rfl
    omega
  have hinh : Inhabited ByteArray := ⟨ByteArray.empty⟩
  obtain ⟨f, hf⟩ := choose_lt this
  obtain ⟨l, rfl, hl⟩ := list_of_fun f len
  refine ⟨l, ⟨_, cap, rfl, hlc, .inr ⟨b, o, rfl, hlt, fun i hi => by rw [hl i hi]; exact (hf i hi).1⟩⟩, ?_, fun s hs => ?_⟩
  · have := bulk_len (elems.map (·.1)); rw [List.length_map] at this; omega
  · obtain ⟨i, hi, rfl⟩ := List.getElem_of_mem hs
    rw [← sa_get hi, hl i hi]; exact (hf i hi).2
theorem lists_of_fun (f : Nat → List ByteArray) (n : Nat) : ∃ L : List (List ByteArray), L.length = n ∧ ∀ i, i < n → la L i = f i :=
  ⟨(List.range n).map f, by simp, fun i hi => by rw [la_get (by simpa using hi)]; simp⟩
set_option maxRecDepth 100000 in
/-- a list of paths that was handed in -/
theorem openPaths {base : Nat} {v : Value} {d : DataW H} {ps : List MemPlace} (hv : Value.okWide Tryd.prog w .any base 22 v)
    (h : DataW.Trod enc Tryd.prog w 0 (fun _ => true) true 22 v d ps) (hk : Rows.uptoBulk d ≤ 1048576) : ∃ L, PR w L v ∧ PF L := by
  obtain ⟨a0, len0, cap0, rfl⟩ := okWide_slice Tryd.underlying22 hv
  obtain ⟨fuel, hf⟩ := h
  have hf' : DataW.trod enc Tryd.prog w 0 (fun _ => true) true fuel 22 [.slice a0 len0 cap0] = some (d, ps) := hf
  obtain ⟨a, len, cap, he, hlc, hrow⟩ := openRowB Tryd.underlying22 hf' (by rw [cells33]; omega)
  rw [he]
  rcases hrow with rfl | ⟨m, elems, hlen, hbulk, b, o, rfl, hlt, hel⟩
  · exact ⟨[], ⟨a, cap, rfl, hlc, .inl rfl⟩, by simp [tot], by simp⟩
  have : ∀ i, i < len → ∃ l : List ByteArray, (∃ x, w.cell? ⟨b, o + i, none⟩ = some x ∧ SR w l x) ∧ (∀ hi : i < elems.length, l.length + 1 ≤ Rows.uptoBulk elems[i].1) ∧ l.length ≤ 1048576 ∧ ∀ s ∈ l, s.size ≤ 1048576 := fun i hi => by
    obtain ⟨cs, hcl, hc, ht⟩ := hel i (by omega)
    rw [cells33] at hcl
    obtain ⟨x, rfl⟩ := List.length_eq_one_iff.1 hcl
    obtain ⟨l, h1, h2, h3⟩ := openStrsB ht
    have hm := bulk_mem (d := elems[i].1) (l := elems.map (·.1)) (List.mem_map_of_mem (List.getElem_mem _))
    have h0 := hc 0 (by rw [cells33]; omega)
    rw [cells33] at h0
    simp only at hbulk
    exact ⟨l, ⟨x, by simpa using h0, h1⟩, fun _ => h2, by omega, fun s hs => by have := h3 s hs; omega⟩
  obtain ⟨f, hf2⟩ := choose_lt this
  obtain ⟨L, rfl, hL⟩ := lists_of_fun f len
  refine ⟨L, ⟨_, cap, rfl, hlc, .inr ⟨b, o, rfl, hlt, fun i hi => by rw [hL i hi]; exact (hf2 i hi).1⟩⟩, ?_, fun l hl => ?_⟩
  · have := bulk_tot L (elems.map (·.1)) (by simp [hlen]) (fun i hi => by
      simp at hi
      rw [hL i (by omega)]
      simpa using (hf2 i (by omega)).2.1 hi)
    simp only at hbulk
    omega
  · obtain ⟨i, hi, rfl⟩ := List.getElem_of_mem hl
    rw [← la_get hi, hL i hi]
    obtain ⟨_, _, h3, h4⟩ := hf2 i hi
    exact ⟨by omega, fun s hs => by have := h4 s hs; omega⟩
end
end Go.Proofs.YtoiehkpmemmldaaDoor
