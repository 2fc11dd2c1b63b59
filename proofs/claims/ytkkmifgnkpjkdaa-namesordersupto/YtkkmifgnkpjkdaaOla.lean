import Derived.Test.YtkkmifgnkpjkdaaOp0
import Derived.Test.YtkkmifgnkpjkdaaTw
import Derived.Test.YtkkmifgnkpjkdaaOp2
namespace Go.Proofs.Ytkkmifgnkpjkdaa
open Go.RowKit
set_option maxHeartbeats 1000000 in
theorem sameInts11 (v1 v2 : Value) (l : List Nat) (w : World) (h4 : l.length ≤ 4096) (h1 : IR w l v1) (h2 : IR w l v2) :
    Calls Try.prog 11 #[v1, v2] w fun e w' => e = .returned (.bool true) ∧ ∃ n, w' = w.drewN n := by
  have H1 : Hid (IR w l v1) := h1
  have H2 : Hid (IR w l v2) := h2
  obtain ⟨a1, c1, rfl, _⟩ := h1
  obtain ⟨a2, c2, rfl, _⟩ := h2
  generalize hn : l.length = n at *
  have HN : Hid (l.length = n) := hn
  clear hn
  go_enter Try.func11, Try.ntmps11
  go_wp2
  go_loopw [5] (fun i wr => ∃ k nq : Nat, k ≤ n ∧ i = .int .i64 k ∧ wr = w.drewN nq) (fun i _ => n - (intOf i).toNat)
  case atStart => exact ⟨0, 0, Nat.zero_le _, rfl, rfl⟩
  case round =>
    obtain ⟨k, nq, hk, rfl, rfl⟩ := hrel
    by_cases hlt : k < n
    · obtain ⟨b1, o1, rfl, _, k1⟩ := H1.out.cellAt (k := k) (by have := HN.out; omega)
      obtain ⟨b2, o2, rfl, _, k2⟩ := H2.out.cellAt (k := k) (by have := HN.out; omega)
      generalize ((l.getD k 0 : Nat) : Int) = x at k1 k2
      clear H1 H2
      go_wp2
      go_quiet (fail)
      go_wp2
      exact ⟨⟨k + 1, _, by omega, by go_num, rfl⟩, by simp [intOf]; omega⟩
    · obtain rfl : k = n := by omega
      go_wp2
      go_ret
      exact ⟨rfl, nq, rfl⟩
theorem IR.form {w : World} {l : List Nat} {v : Value} (h : IR w l v) : ∃ a c, v = .slice a l.length c := by obtain ⟨a, c, h, _⟩ := h; exact ⟨a, c, h⟩
set_option maxHeartbeats 1000000 in
theorem orders4 (v : Value) (L : List (List ByteArray)) (w : World) (hf : PF L) (h1 : PR w L v) :
    Calls Try.prog 4 #[v] w fun e w' => e = .returned (.bool true) ∧ Below w.heap.size w w' := by
  have H1 : Hid (PR w L v) := h1
  have HF : Hid (PF L) := hf
  obtain ⟨a1, c1, rfl, _, _⟩ := h1
  clear hf
  generalize hn : L.length = n at *
  go_enter Try.func4, Try.ntmps4
  go_wp2_with fail
  refine (twins5 _ L _ HF.out H1.out).mono ?_
  rintro e w1 ⟨t, rfl, ho, hb⟩
  have HT : Hid (PR w1 L t ∧ PR w1 L (.slice a1 n c1) ∧ Below w.heap.size w w1) := ⟨ho.pr, H1.out.keep hb, hb⟩
  obtain ⟨ta, tc, rfl⟩ := ho.form
  rw [hn] at HT ⊢
  clear ho hb
  go_wp2_with fail
  refine (order9 _ L _ HF.out HT.out.2.1).mono ?_
  rintro e w2 ⟨x, z, l, rfl, hz, hir, hs, hne, h4, hb⟩
  have HZ : Hid (OE L z ∧ (z = 0 → SP L l) ∧ (z ≠ 0 → l = [])) := ⟨hz, hs, hne⟩
  have HT2 : Hid (PR w2 L (.slice ta n tc) ∧ PR w2 L (.slice a1 n c1) ∧ Below w.heap.size w w2 ∧ IR w2 l x) := ⟨HT.out.1.keep hb, HT.out.2.1.keep hb, HT.out.2.2.trans (hb.mono HT.out.2.2.size), hir⟩
  obtain ⟨xa, xc, rfl⟩ := hir.form
  clear hz hb HT hs hne hir
  generalize hln : l.length = ln at *
  have HLN : Hid (l.length = ln) := hln
  clear hln
  go_wp2_with fail
  refine (order10 _ L _ HF.out HT2.out.1).mono ?_
  rintro e w3 ⟨y, z', m, rfl, hz, hir, hs, hne, _, hb⟩
  obtain rfl : z' = z := hz.unique HZ.out.1
  obtain rfl : m = l := by
    rcases Classical.em (z' = 0) with h0 | h0
    · exact (HZ.out.2.1 h0).unique (hs h0)
    · rw [hne h0, HZ.out.2.2 h0]
  have HT3 : Hid (PR w3 L (.slice ta n tc) ∧ PR w3 L (.slice a1 n c1) ∧ Below w.heap.size w w3 ∧ IR w3 m (.slice xa ln xc) ∧ IR w3 m y) := ⟨HT2.out.1.keep hb, HT2.out.2.1.keep hb, HT2.out.2.2.1.trans (hb.mono HT2.out.2.2.1.size), HT2.out.2.2.2.keep hb, hir⟩
  obtain ⟨ya, yc, rfl⟩ := hir.form
  rw [HLN.out] at HT3 ⊢
  clear hz hb HT2 hs hne hir HZ
  go_wp2_with fail
  refine (sameInts11 _ _ m _ (by rw [HLN.out]; exact h4) HT3.out.2.2.2.1 HT3.out.2.2.2.2).mono ?_
  rintro e w5 ⟨rfl, n2, rfl⟩
  have HT4 : Hid (PR (w3.drewN n2) L (.slice ta n tc) ∧ PR (w3.drewN n2) L (.slice a1 n c1) ∧ Below w.heap.size w (w3.drewN n2)) := ⟨HT3.out.1.keep (drB _ _), HT3.out.2.1.keep (drB _ _), HT3.out.2.2.1.trans ((drB _ _).mono HT3.out.2.2.1.size)⟩
  clear HT3
  generalize w3.drewN n2 = w4 at *
  go_wp2_with fail
  refine (sameAll8 _ _ L _ HF.out HT4.out.2.1 HT4.out.1).mono ?_
  rintro e w5 ⟨rfl, n2, rfl⟩
  go_wp2
  go_ret
  exact ⟨rfl, HT4.out.2.2.trans ((drB _ _).mono HT4.out.2.2.size)⟩
end Go.Proofs.Ytkkmifgnkpjkdaa
namespace Go.Proofs.Ytkkmifgnkpjkdaa.namesOrders
open Go.ChangeShapes Go.WideShapes Go.ChangeAt Go.RowKit
theorem contract (H : Type) (enc : TypeId × Value → H) (W : World) (base : Nat) (args : Array Value) (ds gs : List (DataW H)) (before : List MemPlace)
    (hval0 : ∀ (j : Nat) t v, Try.f4.params[j]? = some t → args[j]? = some v → Value.okWide Try.prog W .any base t v)
    (hW : DataW.Whole enc Try.prog Try.f4.params.toList Rows.namesOrdersSpec.vars false W args.toList ds gs before)
    (hk0 : Rows.uptoSmall H (ds ++ gs) = true) :
    Calls Try.prog 4 args W fun e W' => ∃ v, e = .returned v ∧ Rows.namesOrdersSpec.post enc Try.prog Try.f4 false true false false W args v W' := by
  have hval : ∀ (j : Nat) t v, Try.f4.params[j]? = some t → args[j]? = some v → Value.okWide Try.prog W .any base t v := hval0
  have hW' := hW
  obtain ⟨p, q, hA0, hV, rfl, _, _⟩ := hW
  have hA : DataW.TrodAll enc Try.prog W 0 (fun _ => true) true Try.f4.params.toList args.toList ds p := hA0
  rw [Try.params4] at hA hval
  obtain ⟨v0, d0, rfl, rfl, h0⟩ := trodAll_one hA
  obtain ⟨rfl, rfl⟩ := trodVars_none hV
  have h0k := h0
  have hk : Rows.uptoBulk d0 ≤ 1048576 := by
    have h := of_decide_eq_true hk0
    simp only [List.cons_append, List.nil_append, Rows.uptoBulkAll] at h
    omega
  obtain ⟨L, hr, hf⟩ := openPaths (hval 0 22 v0 rfl rfl) h0 hk
  clear hA0 hval0
  simp only [List.append_nil] at hW'
  refine (orders4 v0 L W hf hr).mono fun e W' ⟨he, bel⟩ => ?_
  subst he
  exact ⟨_, rfl, _, _, _, [], _, [], hW', trodAll_mk1 (shut_bool Try.underlying4 _), trodAll_mk1 (Below.trod laidO (by kernel_rfl) (of_decide_eq_true (by kernel_rfl)) h0k bel (trodLt h0k)), rfl, bel.frame _, fun h => by cases h⟩
set_option maxRecDepth 100000 in
theorem lifted (os : Os) (started : os.Started) (H : Type) (enc : TypeId × Value → H) (F : Stop.Interp) :
    ReturnsInHanded {} Try.checked os 4 .any ((Rows.OpenSpec.upto Rows.namesOrdersSpec).pre6 enc Try.prog Try.f4 Rows.namesOrdersUptoRow.domain false) (((Rows.OpenSpec.upto Rows.namesOrdersSpec).at F).post enc Try.prog Try.f4 false true false false) := by
  refine returnsInHanded_of_cond (C := Try.checked) (s := Rows.OpenSpec.upto Rows.namesOrdersSpec) (k := Rows.uptoSmall) rfl ownKn started (by kernel_rfl) Try.func4
    (OpenSpec.witness (enc := enc) (C := Try.checked) (s := Rows.OpenSpec.upto Rows.namesOrdersSpec) (k := Rows.uptoSmall) rfl false ⟨#[], #[.slice none 0 0], []⟩ 8 (by kernel_rfl) (by kernel_rfl) (by kernel_rfl)
      (x := ([.nil], [], [])) (by kernel_rfl) rfl (by kernel_rfl)) ?_
  intro W base args ds gs before hval hW _ hk _
  exact contract H enc W base args ds gs before hval hW hk
end Go.Proofs.Ytkkmifgnkpjkdaa.namesOrders
namespace Go.Proofs.Ytkkmifgnkpjkdaa
theorem namesOrdersUpto_holds : Rows.NamesOrdersUptoSaid :=
  OpenClaim.holds_of_cond 4 Try.f4 rfl rfl rfl rfl rfl rfl rfl ⟨rfl, rfl, rfl, rfl, rfl⟩ rfl rfl rfl rfl rfl (by kernel_rfl) Try.func4 (by kernel_rfl)
    (of_decide_eq_true (by kernel_rfl)) (by unfold Func.isWrapper; first | (rw [if_pos (by decide +kernel)]; kernel_rfl) | (rw [if_neg (by decide +kernel)]; exact ⟨rfl, rfl⟩))
    (fun os started H enc _ F => namesOrders.lifted os started H enc F)
#print axioms namesOrdersUpto_holds
end Go.Proofs.Ytkkmifgnkpjkdaa
