import Derived.Test.YtpnbhcjbbcekeaaNh
import Derived.ProofKit
import Derived.OpenShut
import Derived.SizedLaws
import Derived.Lib.SmallJoins
import Derived.ChangeSlices
import Derived.Deep.Slices
namespace Go.Proofs.Ytpnbhcjbbcekeaa
open Go.ChangeShapes Go.WideShapes Go.ChangeAt Go.RowKit Go.Joins Go.Deep
theorem ownKn : ownKnob Try.prog.godebug = none := by kernel_rfl
theorem laidO : laidOutB Try.prog = true := by kernel_rfl
theorem trodLt {H : Type} {enc : TypeId × Value → H} {W : World} {t : TypeId} {v : Value} {d : DataW H} {p : List MemPlace} (h : DataW.Trod enc Try.prog W 0 (fun _ => true) true t v d p) : ∀ x ∈ p, x.block < W.heap.size := by
  obtain ⟨m, hm⟩ := h
  exact DataW.trod_lt m _ _ _ hm
theorem cellByte {H : Type} {enc : TypeId × Value → H} {W : World} {cs : List Value} {o n : Nat} {x : DataW H × List MemPlace} (ho : o < cs.length)
    (h : DataW.trod enc Try.prog W 0 (fun _ => true) true n 5 ((cs.drop o).take 1) = some x) : ∃ a : UInt8, cs[o]? = some (.int .u8 (a.toNat : Int)) := by
  have e : (cs.drop o).take 1 = [cs[o]] := by rw [List.drop_eq_getElem_cons ho]; rfl
  rw [e] at h
  obtain ⟨a, e0, rfl, wa⟩ := DataW.trod_int Try.underlying5 h
  have h255 : 0 ≤ a ∧ a ≤ 255 := by simpa [Lit.wf, IntKind.min, IntKind.max, IntKind.signed, IntKind.bits] using wa
  refine ⟨UInt8.ofNat a.toNat, ?_⟩
  rw [List.getElem?_eq_getElem ho, UInt8.toNat_ofNat', Nat.mod_eq_of_lt (by omega)]
  simp at e0
  rw [e0]
  congr 2
  omega
set_option maxRecDepth 100000 in
theorem cellsHash {H : Type} {enc : TypeId × Value → H} {W : World} {fuel : Nat} {cs : List Value} {x : DataW H × List MemPlace}
    (hf : DataW.trod enc Try.prog W 0 (fun _ => true) true fuel 32 cs = some x) : cs.length = 32 ∧ ∀ i, i < 32 → ∃ a : UInt8, cs[i]? = some (.int .u8 (a.toNat : Int)) := by
  obtain ⟨xs, m, _, _, hlen, hxs, hget⟩ := DataW.trod_array Try.underlying32 hf
  have c5 : Try.prog.cellsOf 5 = 1 := by kernel_rfl
  have c32 : Try.prog.cellsOf 32 = 32 := by kernel_rfl
  rw [c32] at hlen
  refine ⟨hlen, fun i hi => ?_⟩
  have h1 := hget i hi
  rw [c5, Nat.mul_one, List.getElem?_eq_getElem (by omega)] at h1
  exact cellByte (by omega) h1
theorem lists_of {α : Type} (f : Nat → α) (n : Nat) : ∃ L : List α, L.length = n ∧ ∀ i, i < n → L[i]? = some (f i) :=
  ⟨(List.range n).map f, by simp, fun i hi => by simp [hi]⟩
section
variable {H : Type} {enc : TypeId × Value → H} {w : World}
theorem openRowB {t e : TypeId} (ht : Try.prog.underlying t = some (.slice e)) {fuel : Nat} {v : Value} {x : DataW H × List MemPlace} (h : DataW.trod enc Try.prog w 0 (fun _ => true) true fuel t [v] = some x) (hc : 0 < Try.prog.cellsOf e) :
    ∃ (a : Option Addr) (len cap : Nat), v = .slice a len cap ∧ len ≤ cap ∧ (len = 0 ∨ ∃ (m : Nat) (elems : List (DataW H × List MemPlace)), elems.length = len ∧ ∃ b o, a = some ⟨b, o, none⟩ ∧ b < w.heap.size ∧
      ∀ i (hi : i < elems.length), ∃ cs, cs.length = Try.prog.cellsOf e ∧ (∀ j, j < Try.prog.cellsOf e → w.cell? ⟨b, o + i * Try.prog.cellsOf e + j, none⟩ = cs[j]?) ∧ DataW.trod enc Try.prog w 0 (fun _ => true) true m e cs = some elems[i]) := by
  rcases DataW.trod_slice ht h with ⟨h0, rfl⟩ | ⟨a, len, cap, elems, rest, m, rfl, h0, rfl, _, hlc, _, hlen, hel, _, _⟩
  · simp at h0
    exact ⟨none, 0, 0, h0, Nat.le_refl _, .inl rfl⟩
  simp at h0
  subst h0
  refine ⟨some a, len, cap, rfl, hlc, ?_⟩
  by_cases h00 : len = 0
  · exact .inl h00
  have key : ∀ i (hi : i < elems.length), ∃ cs, w.cells? 0 (a.add (i * Try.prog.cellsOf e)) (Try.prog.cellsOf e) = some cs ∧ DataW.trod enc Try.prog w 0 (fun _ => true) true m e cs = some elems[i] := by
    intro i hi
    have := hel i (by omega)
    rw [List.getElem?_eq_getElem (by omega)] at this
    obtain ⟨cs', h1, h2⟩ := Option.bind_eq_some_iff.1 this
    exact ⟨cs', h1, h2⟩
  have cellof : ∀ {a' : Addr} {c : Nat} {cs : List Value}, w.cells? 0 a' c = some cs → cs.length = c ∧ ∀ j, j < c → w.cell? (a'.add j) = cs[j]? := fun h => ⟨(World.cells?_some h).2.1, (World.cells?_some h).2.2⟩
  obtain ⟨b, o, spot⟩ := a
  have hspot : spot = none ∧ b < w.heap.size := by
    obtain ⟨cs, h1, _⟩ := key 0 (by omega)
    obtain ⟨hl, hj⟩ := cellof h1
    have := hj 0 hc
    rw [List.getElem?_eq_getElem (by omega)] at this
    have h2 := World.cell?_spot this
    have h3 := World.block_lt_of_cell? w _ this
    simp [Addr.add] at h2 h3
    exact ⟨h2, h3⟩
  obtain ⟨rfl, hb⟩ := hspot
  have hadd : ∀ o i : Nat, (⟨b, o, none⟩ : Addr).add i = ⟨b, o + i, none⟩ := by intro o i; unfold Addr.add; split <;> simp_all
  refine .inr ⟨m, elems, hlen, b, o, rfl, hb, fun i hi => ?_⟩
  obtain ⟨cs, h1, h2⟩ := key i hi
  obtain ⟨hl, hj⟩ := cellof h1
  refine ⟨cs, hl, fun j hj' => ?_, h2⟩
  have := hj j hj'
  rw [hadd, hadd] at this
  exact this
set_option maxRecDepth 100000 in
theorem openPc {fuel : Nat} {cs : List Value} {x : DataW H × List MemPlace} (hf : DataW.trod enc Try.prog w 0 (fun _ => true) true fuel 34 cs = some x) : ∃ y : Pc, cs = y.ls ∧ y.ok := by
  obtain ⟨xs, n, _, hx, hl, hlen, hf⟩ := DataW.trod_struct Try.underlying34 hf
  have hL : xs.length = 4 := hlen
  have hcs : cs.length = 35 := hl.trans (by kernel_rfl)
  have f0 : DataW.trod enc Try.prog w 0 (fun _ => true) true n 3 ((cs.drop 0).take (Try.prog.cellsOf 3)) = xs[0]? := hf 0 _ rfl
  have f1 : DataW.trod enc Try.prog w 0 (fun _ => true) true n 3 ((cs.drop 1).take (Try.prog.cellsOf 3)) = xs[1]? := hf 1 _ rfl
  have f2 : DataW.trod enc Try.prog w 0 (fun _ => true) true n 4 ((cs.drop 2).take (Try.prog.cellsOf 4)) = xs[2]? := hf 2 _ rfl
  have f3 : DataW.trod enc Try.prog w 0 (fun _ => true) true n 32 ((cs.drop 3).take (Try.prog.cellsOf 32)) = xs[3]? := hf 3 _ rfl
  rw [List.getElem?_eq_getElem (by omega)] at f0 f1 f2 f3
  have k3 : Try.prog.cellsOf 3 = 1 := by kernel_rfl
  have k4 : Try.prog.cellsOf 4 = 1 := by kernel_rfl
  have k35 : Try.prog.cellsOf 32 = 32 := by kernel_rfl
  rw [k3] at f0 f1
  rw [k4] at f2
  rw [k35] at f3
  obtain ⟨a0, e0, _⟩ := DataW.trod_int Try.underlying3 f0
  obtain ⟨a1, e1, _⟩ := DataW.trod_int Try.underlying3 f1
  obtain ⟨a2, e2, _⟩ := DataW.trod_bool Try.underlying4 f2
  obtain ⟨l3, b3⟩ := cellsHash f3
  have d3 : (cs.drop 3).take 32 = cs.drop 3 := List.take_of_length_le (by rw [List.length_drop]; omega)
  rw [d3] at l3 b3
  have s2 : cs.drop 2 = .bool a2 :: cs.drop 3 := by
    have := List.take_append_drop 1 (cs.drop 2)
    rw [e2, List.drop_drop] at this
    exact this.symm
  have s1 : cs.drop 1 = .int .i64 a1 :: cs.drop 2 := by
    have := List.take_append_drop 1 (cs.drop 1)
    rw [e1, List.drop_drop] at this
    exact this.symm
  have s0 : cs = .int .i64 a0 :: cs.drop 1 := by
    have := List.take_append_drop 1 (cs.drop 0)
    rw [e0, List.drop_drop] at this
    exact this.symm
  refine ⟨⟨a0, a1, .bool a2 :: cs.drop 3⟩, ?_, ?_, ?_⟩
  · unfold Pc.ls
    rw [← s2, ← s1]
    exact s0
  · simp [hcs]
  · intro u hu
    rcases List.mem_cons.1 hu with rfl | hu
    · rfl
    · obtain ⟨i, hi, rfl⟩ := List.getElem_of_mem hu
      obtain ⟨z, hz⟩ := b3 i (by omega)
      rw [List.getElem?_eq_getElem hi] at hz
      rw [Option.some.inj hz]
      rfl
set_option maxRecDepth 100000 in
theorem openPcs {base : Nat} {v : Value} {d : DataW H} {ps : List MemPlace} (hv : Value.okWide Try.prog w .any base 24 v)
    (h : DataW.Trod enc Try.prog w 0 (fun _ => true) true 24 v d ps) : ∃ ms, RP w v ms := by
  obtain ⟨a0, len0, cap0, rfl⟩ := okWide_slice Try.underlying24 hv
  obtain ⟨fuel, hf⟩ := h
  have hf' : DataW.trod enc Try.prog w 0 (fun _ => true) true fuel 24 [.slice a0 len0 cap0] = some (d, ps) := hf
  have c35 : Try.prog.cellsOf 34 = 35 := by kernel_rfl
  obtain ⟨a, len, cap, he, hlc, hrow⟩ := openRowB Try.underlying24 hf' (by rw [c35]; omega)
  rw [he]
  rcases hrow with rfl | ⟨m, elems, hlen, b, o, rfl, hlt, hel⟩
  · exact ⟨[], ⟨a, cap, rfl, hlc, .inl rfl, by simp⟩⟩
  have key : ∀ i, i < len → ∃ y : Pc, w.rangeAt b (o + i * 35) y.ls ∧ y.ok := by
    intro i hi
    obtain ⟨cs, h1, h2, h3⟩ := hel i (by omega)
    rw [c35] at h1 h2
    obtain ⟨y, e1, e2⟩ := openPc h3
    refine ⟨y, fun j u hu => ?_, e2⟩
    have hj : j < 35 := by
      have := (List.getElem?_eq_some_iff.1 hu).1
      rw [e2.len] at this; exact this
    rw [h2 j hj, e1]; exact hu
  have hinh : Inhabited Pc := ⟨⟨0, 0, []⟩⟩
  obtain ⟨f, hf2⟩ := choose_lt key
  obtain ⟨ms, hml, hms⟩ := lists_of f len
  refine ⟨ms, ⟨_, cap, by rw [hml], by omega, .inr ⟨b, o, rfl, hlt, fun i x hx => ?_⟩, fun x hx => ?_⟩⟩
  · have hi : i < len := by rw [← hml]; exact (List.getElem?_eq_some_iff.1 hx).1
    rw [hms i hi] at hx
    cases hx
    exact (hf2 i hi).1
  · obtain ⟨i, hi, rfl⟩ := List.getElem_of_mem hx
    have hi' : i < len := by omega
    have := hms i hi'
    rw [List.getElem?_eq_getElem hi] at this
    have e9 := Option.some.inj this
    rw [e9]
    exact (hf2 i hi').2
end
theorem cells23 : Try.prog.cellsOf 23 = 2 := by kernel_rfl
set_option maxRecDepth 100000 in
theorem lifted (os : Os) (started : os.Started) (H : Type) (enc : TypeId × Value → H) :
    ReturnsInHanded {} Try.checked os 3 .any (Rows.storeNeedsSpec.pre6 enc Try.prog Try.f3 Rows.storeNeedsRow.domain false) (Rows.storeNeedsSpec.post enc Try.prog Try.f3 false true false false) := by
  refine returnsInHanded_of_change (C := Try.checked) ownKn started (by kernel_rfl) Try.func3
    (ChangeSpec.witness6 (enc := enc) (C := Try.checked) false ⟨#[], #[.agg #[.int .i64 0, .int .i64 0], .slice none 0 0], []⟩ 8 (by kernel_rfl) (by kernel_rfl) (by kernel_rfl) (by kernel_rfl)) ?_
  intro W base args ds gs before hval0 hW _ _
  have hval : ∀ (j : Nat) t v, Try.f3.params[j]? = some t → args[j]? = some v → Value.okWide Try.prog W .any base t v := hval0
  have hW' := hW
  obtain ⟨p, q, hA0, hV, rfl, _, _⟩ := hW
  have hA : DataW.TrodAll enc Try.prog W 0 (fun _ => true) true Try.f3.params.toList args.toList ds p := hA0
  rw [Try.params3] at hA hval
  obtain ⟨v0, v1, d0, d1, p0, p1, rfl, rfl, rfl, h0, h1⟩ := trodAll_two hA
  obtain ⟨rfl, rfl⟩ := trodVars_none hV
  have h0k := h0
  have h1k := h1
  obtain ⟨c0, c1, y0, y1, m, rfl, rfl, rfl, hy0, hy1⟩ := open_agg2 Try.underlying23 (by kernel_rfl) cells23 (hval 0 23 v0 rfl rfl) h0
  obtain ⟨a, e0, -, wa⟩ := DataW.trod_int Try.underlying3 hy0
  obtain ⟨b, e1, -, wb⟩ := DataW.trod_int Try.underlying3 hy1
  simp at e0 e1
  subst e0 e1
  obtain ⟨ms, hr⟩ := openPcs (hval 1 24 v1 rfl rfl) h1
  clear hA0 hval0
  simp only [List.append_nil] at hW'
  refine (needs3 a b v1 ms W hr).mono fun e W' ⟨he, bel⟩ => ?_
  subst he
  exact ⟨_, rfl, _, _, _, [], _, [], hW', trodAll_mk1 (shut_bool Try.underlying4 _), trodAll_mk2 (Below.trod laidO (by kernel_rfl) (of_decide_eq_true (by kernel_rfl)) h0k bel (trodLt h0k)) (Below.trod laidO (by kernel_rfl) (of_decide_eq_true (by kernel_rfl)) h1k bel (trodLt h1k)), rfl, bel.frame _, fun h => by cases h⟩
theorem storeNeeds_holds : Rows.StoreNeedsSaid :=
  OpenClaim.holds_of_wide 3 Try.f3 rfl rfl rfl rfl rfl rfl rfl ⟨rfl, rfl, rfl, rfl, rfl⟩ rfl rfl rfl rfl rfl (by kernel_rfl) Try.func3 (by kernel_rfl)
    (of_decide_eq_true (by kernel_rfl)) (by unfold Func.isWrapper; first | (rw [if_pos (by decide +kernel)]; kernel_rfl) | (rw [if_neg (by decide +kernel)]; exact ⟨rfl, rfl⟩))
    (fun os started H enc _ => lifted os started H enc)
#print axioms storeNeeds_holds
end Go.Proofs.Ytpnbhcjbbcekeaa
