import Derived.Test.YtglknmelcianjaaOpen
import Derived.Test.YtglknmelcianjaaCz
import Derived.Deep.Slices
namespace Go.Proofs.Ytglknmelcianjaa
open Go.ChangeShapes Go.WideShapes Go.ChangeAt Go.RowKit Go.Deep
theorem bulk_pos {H : Type} : ∀ d : DataW H, 1 ≤ Rows.uptoBulk d
  | .lit (.string b) => by simp [Rows.uptoBulk]
  | .lit (.int _ _) => by simp [Rows.uptoBulk]
  | .lit (.bool _) => by simp [Rows.uptoBulk]
  | .lit (.float _ _) => by simp [Rows.uptoBulk]
  | .lit .nil => by simp [Rows.uptoBulk]
  | .nil => by simp [Rows.uptoBulk]
  | .ptr d => by simp [Rows.uptoBulk]
  | .slice _ _ => by simp [Rows.uptoBulk]
  | .agg _ => by simp [Rows.uptoBulk]
  | .iface _ d => by simp [Rows.uptoBulk]
  | .map _ => by simp [Rows.uptoBulk]
  | .held _ => by simp [Rows.uptoBulk]
theorem bulk_len {H : Type} : ∀ l : List (DataW H), l.length ≤ Rows.uptoBulkAll l
  | [] => by simp [Rows.uptoBulkAll]
  | d :: l => by
    have := bulk_len l
    have := bulk_pos d
    simp [Rows.uptoBulkAll]; omega
theorem bulk_mem {H : Type} {d : DataW H} : ∀ {l : List (DataW H)}, d ∈ l → Rows.uptoBulk d ≤ Rows.uptoBulkAll l
  | [], h => by cases h
  | a :: l, h => by
    simp only [Rows.uptoBulkAll]
    rcases List.mem_cons.1 h with rfl | h
    · omega
    · have := bulk_mem h; omega
section
variable {H : Type} {enc : TypeId × Value → H} {w : World}
theorem openRowB {t e : TypeId} (ht : Try.prog.underlying t = some (.slice e)) {fuel : Nat} {v : Value} {x : DataW H × List MemPlace} (h : DataW.trod enc Try.prog w 0 (fun _ => true) true fuel t [v] = some x) (hc : 0 < Try.prog.cellsOf e) :
    ∃ (a : Option Addr) (len cap : Nat), v = .slice a len cap ∧ len ≤ cap ∧ (len = 0 ∨ ∃ (m : Nat) (elems : List (DataW H × List MemPlace)), elems.length = len ∧ Rows.uptoBulkAll (elems.map (·.1)) + 1 ≤ Rows.uptoBulk x.1 ∧ ∃ b o, a = some ⟨b, o, none⟩ ∧ b < w.heap.size ∧
      ∀ i (hi : i < elems.length), ∃ cs, cs.length = Try.prog.cellsOf e ∧ (∀ j, j < Try.prog.cellsOf e → w.cell? ⟨b, o + i * Try.prog.cellsOf e + j, none⟩ = cs[j]?) ∧ DataW.trod enc Try.prog w 0 (fun _ => true) true m e cs = some elems[i]) := by
  rcases DataW.trod_slice ht h with ⟨h0, rfl⟩ | ⟨a, len, cap, elems, rest, m, rfl, h0, rfl, _, hlc, _, hlen, hel, _, _⟩
  · simp at h0
    exact ⟨none, 0, 0, h0, Nat.le_refl _, .inl rfl⟩
  simp at h0
  subst h0
  refine ⟨some a, len, cap, rfl, hlc, ?_⟩
  by_cases h00 : len = 0
  · exact .inl h00
  have key : ∀ i (hi : i < elems.length), ∃ cs, w.cells? 0 (a.add (i * Try.prog.cellsOf e)) (Try.prog.cellsOf e) = some cs ∧ DataW.trod enc Try.prog w 0 (fun _ => true) true m e cs = some elems[i] := by
    intro i hi
    have := hel i (by omega)
    rw [List.getElem?_eq_getElem (by omega)] at this
    obtain ⟨cs', h1, h2⟩ := Option.bind_eq_some_iff.1 this
    exact ⟨cs', h1, h2⟩
  have cellof : ∀ {a' : Addr} {c : Nat} {cs : List Value}, w.cells? 0 a' c = some cs → cs.length = c ∧ ∀ j, j < c → w.cell? (a'.add j) = cs[j]? := fun h => ⟨(World.cells?_some h).2.1, (World.cells?_some h).2.2⟩
  obtain ⟨b, o, spot⟩ := a
  have hspot : spot = none ∧ b < w.heap.size := by
    obtain ⟨cs, h1, _⟩ := key 0 (by omega)
    obtain ⟨hl, hj⟩ := cellof h1
    have := hj 0 hc
    rw [List.getElem?_eq_getElem (by omega)] at this
    have h2 := World.cell?_spot this
    have h3 := World.block_lt_of_cell? w _ this
    simp [Addr.add] at h2 h3
    exact ⟨h2, h3⟩
  obtain ⟨rfl, hb⟩ := hspot
  have hadd : ∀ o i : Nat, (⟨b, o, none⟩ : Addr).add i = ⟨b, o + i, none⟩ := by intro o i; unfold Addr.add; split <;> simp_all
  refine .inr ⟨m, elems, hlen, by simp only [Rows.uptoBulk]; omega, b, o, rfl, hb, fun i hi => ?_⟩
  obtain ⟨cs, h1, h2⟩ := key i hi
  obtain ⟨hl, hj⟩ := cellof h1
  refine ⟨cs, hl, fun j hj' => ?_, h2⟩
  have := hj j hj'
  rw [hadd, hadd] at this
  exact this
theorem cells5 : Try.prog.cellsOf 5 = 1 := by kernel_rfl
theorem cells3 : Try.prog.cellsOf 3 = 1 := by kernel_rfl
theorem cellsB : Try.prog.cellsOf 27 = 1 := by kernel_rfl
theorem lists_of {α : Type} (f : Nat → α) (n : Nat) : ∃ L : List α, L.length = n ∧ ∀ i, i < n → L[i]? = some (f i) :=
  ⟨(List.range n).map f, by simp, fun i hi => by simp [hi]⟩
/-- a list of bytes that is read, and its bulk -/
theorem openBytesB {fuel : Nat} {v : Value} {x : DataW H × List MemPlace} (h : DataW.trod enc Try.prog w 0 (fun _ => true) true fuel 27 [v] = some x) :
    ∃ l, RB w v l ∧ l.length + 1 ≤ Rows.uptoBulk x.1 := by
  obtain ⟨a, len, cap, rfl, hlc, hrow⟩ := openRowB Try.underlying27 h (by rw [cells5]; omega)
  rcases hrow with rfl | ⟨m, elems, hlen, hbulk, b, o, rfl, hlt, hel⟩
  · exact ⟨[], ⟨a, cap, rfl, hlc, .inl rfl⟩, by have := bulk_pos x.1; simpa using this⟩
  have : ∀ i, i < len → ∃ c : UInt8, w.cell? ⟨b, o + i, none⟩ = some (.int .u8 (c.toNat : Int)) := fun i hi => by
    obtain ⟨cs, hcl, hc, ht⟩ := hel i (by omega)
    have h0 := hc 0 (by rw [cells5]; omega)
    rw [cells5] at h0 hcl
    obtain ⟨y, rfl⟩ := List.length_eq_one_iff.1 hcl
    obtain ⟨z, e0, _, wa⟩ := DataW.trod_int Try.underlying5 ht
    have h255 : 0 ≤ z ∧ z ≤ 255 := by simpa [Lit.wf, IntKind.min, IntKind.max, IntKind.signed, IntKind.bits] using wa
    simp at e0
    subst e0
    refine ⟨UInt8.ofNat z.toNat, ?_⟩
    rw [UInt8.toNat_ofNat', Nat.mod_eq_of_lt (by omega)]
    simp at h0
    rw [h0]
    congr 2
    omega
  have hinh : Inhabited UInt8 := ⟨0⟩
  obtain ⟨f, hf⟩ := choose_lt this
  obtain ⟨l, rfl, hl⟩ := lists_of f len
  refine ⟨l, ⟨_, cap, rfl, hlc, .inr ⟨b, o, rfl, hlt, fun i hi => ?_⟩⟩, ?_⟩
  · have : byt l i = f i := by unfold byt; simp [List.getD, hl i hi]
    rw [this]; exact hf i hi
  · have := bulk_len (elems.map (·.1)); rw [List.length_map] at this; omega
theorem openBytesU {base : Nat} {v : Value} {d : DataW H} {ps : List MemPlace} (hv : Value.okWide Try.prog w .any base 27 v)
    (h : DataW.Trod enc Try.prog w 0 (fun _ => true) true 27 v d ps) : ∃ l, RB w v l ∧ l.length + 1 ≤ Rows.uptoBulk d := by
  obtain ⟨a0, len0, cap0, rfl⟩ := okWide_slice Try.underlying27 hv
  obtain ⟨fuel, hf⟩ := h
  have hf' : DataW.trod enc Try.prog w 0 (fun _ => true) true fuel 27 [.slice a0 len0 cap0] = some (d, ps) := hf
  exact openBytesB hf'
theorem cellsBo : Try.prog.cellsOf 4 = 1 := by kernel_rfl
theorem openBoolsU {base : Nat} {v : Value} {d : DataW H} {ps : List MemPlace} (hv : Value.okWide Try.prog w .any base 28 v)
    (h : DataW.Trod enc Try.prog w 0 (fun _ => true) true 28 v d ps) : ∃ zs, RBo w v zs ∧ zs.length + 1 ≤ Rows.uptoBulk d := by
  obtain ⟨a0, len0, cap0, rfl⟩ := okWide_slice Try.underlying28 hv
  obtain ⟨fuel, hf⟩ := h
  have hf' : DataW.trod enc Try.prog w 0 (fun _ => true) true fuel 28 [.slice a0 len0 cap0] = some (d, ps) := hf
  obtain ⟨a, len, cap, he, hlc, hrow⟩ := openRowB Try.underlying28 hf' (by rw [cellsBo]; omega)
  rw [he]
  rcases hrow with rfl | ⟨m, elems, hlen, hbulk, b, o, rfl, hlt, hel⟩
  · exact ⟨[], ⟨a, cap, rfl, hlc, .inl rfl⟩, by have := bulk_pos d; simpa using this⟩
  have : ∀ i, i < len → ∃ z : Bool, w.cell? ⟨b, o + i, none⟩ = some (.bool z) := fun i hi => by
    obtain ⟨cs, hcl, hc, ht⟩ := hel i (by omega)
    have h0 := hc 0 (by rw [cellsBo]; omega)
    rw [cellsBo] at h0 hcl
    obtain ⟨y, rfl⟩ := List.length_eq_one_iff.1 hcl
    obtain ⟨z, e0, _⟩ := DataW.trod_bool Try.underlying4 ht
    simp at e0
    subst e0
    exact ⟨z, by simpa using h0⟩
  have hinh : Inhabited Bool := ⟨false⟩
  obtain ⟨f, hf⟩ := choose_lt this
  obtain ⟨l, rfl, hl⟩ := lists_of f len
  refine ⟨l, ⟨_, cap, rfl, hlc, .inr ⟨b, o, rfl, hlt, fun i hi => ?_⟩⟩, ?_⟩
  · have : l.getD i false = f i := by simp [List.getD, hl i hi]
    rw [this]; exact hf i hi
  · have := bulk_len (elems.map (·.1)); rw [List.length_map] at this; simp only at hbulk; omega
end
end Go.Proofs.Ytglknmelcianjaa
