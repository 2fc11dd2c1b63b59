import Derived.Test.YtoiehkpmemmldaaDoorPl
namespace Go.Proofs.YtoiehkpmemmldaaDoor
open Go.RowKit
theorem info33 : (Tryd.prog.info? 29).map (fun i => (i.zero, i.size, i.bytes)) = some (some (.slice none 0 0), 1, 24) := by kernel_rfl
/-- a row of rows that the call owns -/
def OT (B : Nat) (w : World) (v : Value) (L : List (List ByteArray)) : Prop := ∃ vals : List Value, w.ownsRow B 29 1 v L.length vals ∧ ∀ i, i < L.length → ∃ x, vals[i]? = some x ∧ OS B w x (la L i)
theorem OS.base {B C : Nat} {w : World} {v : Value} {l : List ByteArray} (h : OS B w v l) (hC : C ≤ B) : OS C w v l := by
  refine ⟨h.1, ?_⟩
  rcases h.2 with h1 | ⟨g, cap, cur, h1, h2, h3⟩
  · exact .inl h1
  · exact .inr ⟨g, cap, cur, h1, Nat.le_trans hC h2, h3⟩
theorem OS.kept {B C n : Nat} {w w' : World} {q v : Value} {l : List ByteArray} {vals : List Value} (h : OS B w q l) (hv : w.ownsRow C 29 1 v n vals) (hg : w.grownBy w' v.ownBlock) : OS B w' q l := by
  refine World.ownsRow.kept h hg ?_
  rcases h.2 with ⟨rfl, _⟩ | ⟨g, cap, cur, rfl, _, h3, _⟩
  · exact .inl rfl
  · right
    rcases hv.2 with ⟨rfl, _⟩ | ⟨g', cap', cur', rfl, _, h3', _⟩
    · simp [Value.ownBlock]
    · simp only [Value.ownBlock]
      intro e
      simp at e
      rw [e, h3'] at h3
      simp at h3
theorem OT.nil (B : Nat) (w : World) : OT B w (.slice none 0 0) [] := ⟨[], World.ownsRow_nil _ _ _ _, fun i h => by simp at h⟩
theorem OT.form {B : Nat} {w : World} {v : Value} {L : List (List ByteArray)} (h : OT B w v L) : ∃ a c, v = .slice a L.length c := by
  obtain ⟨vals, h, _⟩ := h
  rcases h.2 with ⟨rfl, h0⟩ | ⟨g, cap, cur, rfl, _⟩
  · exact ⟨none, 0, by rw [h0]⟩
  · exact ⟨_, _, rfl⟩
theorem OT.pr {B : Nat} {w : World} {v : Value} {L : List (List ByteArray)} (h : OT B w v L) : PR w L v := by
  obtain ⟨vals, h, he⟩ := h
  have h' := h
  rcases h.2 with ⟨rfl, h0⟩ | ⟨g, cap, cur, rfl, _, hg, hc, _⟩
  · have : L = [] := List.length_eq_zero_iff.1 h0
    subst this; exact ⟨none, 0, rfl, Nat.le_refl _, .inl rfl⟩
  · refine ⟨_, cap, rfl, hc, .inr ⟨g, 0, rfl, (Array.getElem?_eq_some_iff.1 hg).1, fun i hi => ?_⟩⟩
    obtain ⟨x, h1, h2⟩ := he i hi
    refine ⟨x, ?_, h2.sr⟩
    have := World.ownsRow.cellAt h' i (by omega)
    rw [Nat.zero_add, this, h1]
theorem OT.grow {B : Nat} {w w' : World} {v : Value} {L : List (List ByteArray)} (h : OT B w v L) (hb : Below w.heap.size w w') : OT B w' v L := by
  obtain ⟨vals, h, he⟩ := h
  refine ⟨vals, ⟨h.1, ?_⟩, fun i hi => ?_⟩
  · rcases h.2 with h1 | ⟨g, cap, cur, h1, h2, h3, h4⟩
    · exact .inl h1
    · exact .inr ⟨g, cap, cur, h1, h2, (hb.block g (Array.getElem?_eq_some_iff.1 h3).1).trans h3, h4⟩
  · obtain ⟨x, h1, h2⟩ := he i hi
    exact ⟨x, h1, h2.grow hb⟩
theorem append_sl {ops : Array Oper} {rest : List Oper} {o : Oper} {a : Act} {Q : Exit → Act → World → Prop} {w : World} {B : Nat} {sv q : Value} {L : List (List ByteArray)} {l : List ByteArray} (hgd : o.guard = none) (s x : Operand)
    (ho : o.op = .call { callee := .builtin .append, args := #[s, x], argTypes := #[22, 22] }) (hs : a.eval s = sv) (hown : OT B w sv L) (b : Nat) (hx : a.eval x = .slice (some ⟨b, 0, none⟩) 1 1)
    (hc : w.cell? ⟨b, 0, none⟩ = some q) (hq : OS B w q l) (hB : B ≤ w.heap.size) (hlim : L.length * 24 < 140737488351232)
    (h : ∀ v' w', OT B w' v' (L ++ [l]) → Below B w w' → wpList Tryd.prog ops Q rest (a.put o.dst v') w') : wpList Tryd.prog ops Q (o :: rest) a w := by
  obtain ⟨vals, hown, hel⟩ := hown
  obtain ⟨i0, hi, hz0, hz1, hz2⟩ := info_parts info33
  obtain ⟨qa, qc, rfl⟩ := hq.form
  refine wpList_append_own w hgd s x 22 ho B 29 i0 _ 1 24 Tryd.underlying22 hi hz0 hz1 hz2 rfl (by omega) sv L.length vals hs hown ⟨b, 0, none⟩ 1 1 [.slice qa l.length qc] hx rfl (fun j u hu => ?_) (fun u hu => ?_) (by unfold maxLen; omega) (by omega) hB (fun v' w' h1 h2 _ => ?_)
  · match j, hu with
    | 0, hu => simp at hu; subst hu; simpa [Addr.add] using hc
  · simp at hu; subst hu; rfl
  · refine h v' w' ⟨vals ++ [.slice qa l.length qc], by simpa using h1, fun i hi => ?_⟩ ((Below.refl B w).grown h2 hB (fun k hk => (World.ownsRow.lt hown k hk).1))
    have hvl : vals.length = L.length := by have := hown.1; omega
    by_cases e : i = L.length
    · subst e
      refine ⟨.slice qa l.length qc, by rw [List.getElem?_append_right (by omega)]; simp [hvl], ?_⟩
      rw [la_get (by simp)]
      simp
      exact hq.kept hown h2
    · simp at hi
      obtain ⟨y, g1, g2⟩ := hel i (by omega)
      refine ⟨y, by rw [List.getElem?_append_left (by omega)]; exact g1, ?_⟩
      have : la (L ++ [l]) i = la L i := by rw [la_get (by simp; omega), la_get (by omega)]; simp [List.getElem_append_left (by omega : i < L.length)]
      rw [this]
      exact g2.kept hown h2
set_option maxHeartbeats 1000000 in
theorem twins5 (v : Value) (L : List (List ByteArray)) (w : World) (hf : PF L) (h1 : PR w L v) :
    Calls Tryd.prog 28 #[v] w fun e w' => ∃ v', e = .returned v' ∧ OT w.heap.size w' v' L ∧ Below w.heap.size w w' := by
  have H1 : Hid (PR w L v) := h1
  have HF : Hid (PF L) := hf
  have hl := hf.1
  obtain ⟨a1, c1, rfl, _, _⟩ := h1
  clear hf
  generalize hn : L.length = n at *
  have HN : Hid (L.length = n) := hn
  clear hn
  go_enter Tryd.func28, Tryd.ntmps28
  go_wp2
  go_loopw [3, 4] (fun v t wr => ∃ (k : Nat) (a : Option Addr) (cp : Nat), k ≤ n ∧ t = .int .i64 k ∧ v = .slice a k cp ∧ Hid (OT w.heap.size wr v (L.take k) ∧ Below w.heap.size w wr)) (fun _ t _ => n - (intOf t).toNat)
  case atStart => exact ⟨0, none, 0, Nat.zero_le _, rfl, rfl, by rw [List.take_zero]; exact OT.nil _ _, Below.refl _ _⟩
  case round =>
    obtain ⟨k, a, cp, hk, rfl, rfl, HO⟩ := hrel
    by_cases hlt : k < n
    · have hkl : k < L.length := by have := HN.out; omega
      obtain ⟨b1, o1, rfl, hb1, x, k1, k2⟩ := (H1.out.keep HO.out.2).cellAt hkl
      go_wp2_with fail
      refine (twin11 x (la L k) _ (HF.out.la hkl).1 k2).mono ?_
      rintro e w1 ⟨q, rfl, hq, hb⟩
      have HQ : Hid (OS w.heap.size w1 q (la L k)) := hq.base HO.out.2.size
      have HO1 : Hid (OT w.heap.size w1 (.slice a k cp) (L.take k) ∧ Below w.heap.size w w1) := ⟨HO.out.1.grow hb, HO.out.2.trans (hb.mono HO.out.2.size)⟩
      obtain ⟨qa, qc, rfl⟩ := hq.form
      have htl : (L.take k).length = k := by rw [List.length_take]; omega
      have HT : Hid (L.take (k + 1) = L.take k ++ [la L k]) := la_take hkl
      clear hq hb k1 k2 HO
      generalize (la L k).length = qn at *
      go_wp2_with (at_builtin; refine append_sl rfl _ _ rfl rfl (HO1.out.1.grow ((Below.refl _ _).alloc (Nat.le_refl _) _)) w1.heap.size rfl (by go_simp) (HQ.out.alloc _) (by have := HO1.out.2.size; simp; omega) (by rw [htl]; omega) ?_; intro v' w2 hown' hb2)
      obtain ⟨a', c', rfl⟩ := hown'.form
      have hlen : (L.take k ++ [la L k]).length = k + 1 := by rw [List.length_append, htl]; rfl
      have HO2 : Hid (OT w.heap.size w2 (.slice a' (k + 1) c') (L.take (k + 1)) ∧ Below w.heap.size w w2) := by
        rw [hlen] at hown'
        exact ⟨by rw [HT.out]; exact hown', (HO1.out.2.alloc HO1.out.2.size _).trans hb2⟩
      clear hown' hb2 HO1 HQ
      go_wp2
      go_roundw
      case rel => exact ⟨k + 1, a', c', by omega, by go_num, by rw [hlen], by rw [hlen]; exact HO2⟩
      case measure => simp [intOf]; omega
    · obtain rfl : k = n := by omega
      have hn := HN.out
      obtain ⟨ho, hbel⟩ := HO.out
      rw [List.take_of_length_le (by omega)] at ho
      clear HO
      go_wp2
      go_ret
      exact ⟨_, rfl, ho, hbel⟩
end Go.Proofs.YtoiehkpmemmldaaDoor
