import Derived.Test.YtglknmelcianjaaCo
namespace Go.Proofs.Ytglknmelcianjaa
open Go.RowKit
/-- a sector's writes are copied, the map is not yet written -/
structure CS (w : World) (q lb mb2 cap r mb box : Nat) (ov v' : Value) (M : DataW Value) (D : Dk) (left : Lit → Bool) (s nm : Nat) (d : List UInt8) (M2 : DataW Value) (L2 : Nat → Value) (cnt : Nat) (wr : World) : Prop where
  rg : wr.ranges Try.prog 3 idR mb r D.ws.length M (fun z => left z && !z.sameKey (ky s)) cnt
  dp : DP (fun k => (w.heap.size ≤ k ∧ k ≠ r) ∧ k ≠ box) wr q lb cap mb2 nm ov ov M2 (fun t => if t = s then v' else L2 t) (fun t => if t = s then lv s 0 D.ws else if left (ky t) then [] else lv t 0 D.ws) D.last (D.ws.map (·.at_)) D.fu
  bx : wr.heap[box]? = some (.cells (bc d ++ #[v']) 59 (0, 0))
  f : Below w.heap.size w wr
theorem CR.clone {w wr w7 w8 w9 : World} {q lb mb2 cap r mb : Nat} {ov v' L0 : Value} {M : DataW Value} {D : Dk} {left : Lit → Bool} {cnt cnt2 s : Nat} {d : List UInt8} (h : CR w q lb mb2 cap r mb ov M D left cnt wr) (hm : mb < w.heap.size) (hrg : w7.ranges Try.prog 3 idR mb r D.ws.length M (fun z => left z && !z.sameKey (ky s)) cnt2) (hg7 : wr.grownBy w7 (some r)) (b8 : Below w7.heap.size w7 w8)
    (hbox : w8.heap[w7.heap.size]? = some (.cells (bc d ++ #[L0]) 59 (0, 0))) (b9 : Below w8.heap.size w8 w9) (ho : w9.ownsRow w8.heap.size 62 65 v' (lv s 0 D.ws).length ((lv s 0 D.ws).flatMap wc)) (hd : d.length = 64) (hr : w.heap.size ≤ r) :
    w9.cell? ⟨w7.heap.size, 64, none⟩ = some L0 ∧ w9.frozen? ⟨w7.heap.size, 64, none⟩ = false ∧ ∃ nm M2 L2, nm + cnt ≤ D.ws.length ∧ CS w q lb mb2 cap r mb w7.heap.size ov v' M D left s nm d M2 L2 cnt2 (w9.setCell ⟨w7.heap.size, 64, none⟩ v') ∧
      (∀ kl, Maps.has M2 kl = true → ∃ s, kl = ky s ∧ (nw s D.ws).isSome = true ∧ left (ky s) = false) ∧
      (∀ s d, nw s D.ws = some d → left (ky s) = false → Maps.has M2 (ky s) = true ∧ ∀ z, M2.atKey (ky s) z = .held (secV d (L2 s))) ∧
      (∀ s, (if left (ky s) then [] else lv s 0 D.ws) = [] → L2 s = .slice none 0 0) := by
  obtain ⟨nm, M2, L2, h1, h2, h3⟩ := h.cp
  have hr7 := hrg.lt
  have hb8 : w7.heap.size < w8.heap.size := (Array.getElem?_eq_some_iff.1 hbox).1
  have hbox9 := (b9.block _ hb8).trans hbox
  have hz : (bc d ++ #[L0]).size = 65 := sc_size d L0 hd
  have hz7 : w.heap.size ≤ w7.heap.size := Nat.le_trans h.f.size hg7.size
  have f7 : Fr (fun k => w.heap.size ≤ k ∧ k ≠ r) wr w7 := ⟨hg7.os, hg7.tape, hg7.output, hg7.size, fun k hk hs => hg7.block k hk (fun e => hs.2 (Option.some.inj e))⟩
  have d7 := (h2.fr f7).sub (T := fun k => (w.heap.size ≤ k ∧ k ≠ r) ∧ k ≠ w7.heap.size) (fun k hk hs => ⟨hs, by omega⟩)
  have d9 := (d7.fr (Fr.of_below b8)).clone s v' (lv s 0 D.ws) b9 ho (fun k hk => ⟨⟨by omega, by omega⟩, by omega⟩)
  have d10 := d9.fr (w' := w9.setCell ⟨w7.heap.size, 64, none⟩ v') ((Fr.refl _ w9).setCell _ _ _ (fun _ h => h.2 rfl))
  refine ⟨?_, by simp [World.frozen?, hbox9], nm, M2, L2, h1, ⟨?_, d10, ?_, ?_⟩, h3⟩
  · simp only [World.cell?, hbox9]
    rw [Array.getElem?_append_right (by rw [bc_size, hd]; exact Nat.le_refl _), bc_size, hd]
    rfl
  · have k8 := hrg.kept (w' := w8) (row := none) ⟨b8.os, b8.tape, b8.output, b8.size, fun k hk _ => b8.block k hk⟩ (by simp) (by simp)
    have k9 := k8.kept (w' := w9) (row := none) ⟨b9.os, b9.tape, b9.output, b9.size, fun k hk _ => b9.block k hk⟩ (by simp) (by simp)
    refine k9.kept (row := some w7.heap.size) ⟨rfl, rfl, rfl, by simp, fun k hk hne => setCell_other (fun e => hne (by rw [e]))⟩ (fun e => ?_) (fun e => ?_)
    · injection e with e; omega
    · injection e with e; omega
  · rw [setCell_eq_setRow w9 _ _ _ _ _ _ hbox9, heapSetRow _ _ _ _ _ hbox9]
    congr 2
    have hs : (bc d).toList.length = 64 := by rw [Array.length_toList, bc_size, hd]
    apply Array.ext'
    rw [Array.toList_setIfInBounds, Array.toList_append, Array.toList_append, List.set_append_right _ _ (by omega), hs]
    rfl
  · have b7 : Below w.heap.size w w7 := ⟨hg7.os.trans h.f.os, hg7.tape.trans h.f.tape, hg7.output.trans h.f.output, hz7, fun k hk => (hg7.block k (Nat.lt_of_lt_of_le hk h.f.size) (fun e => by injection e with e; omega)).trans (h.f.block k hk)⟩
    exact ((b7.trans (b8.mono hz7)).trans (b9.mono (by omega))).setCell hz7 _
theorem CS.put {w wr wI : World} {q lb mb2 cap r mb box : Nat} {ov v' : Value} {M : DataW Value} {D : Dk} {left : Lit → Bool} {s nm cnt cnt2 : Nat} {d : List UInt8} {M2 : DataW Value} {L2 : Nat → Value} (h : CS w q lb mb2 cap r mb box ov v' M D left s nm d M2 L2 cnt2 wr) (h1 : nm + cnt ≤ D.ws.length) (hlt : cnt2 < cnt) (hn : nw s D.ws = some d) (hm : mb < w.heap.size)
    (h3 : ∀ kl, Maps.has M2 kl = true → ∃ s, kl = ky s ∧ (nw s D.ws).isSome = true ∧ left (ky s) = false)
    (h4 : ∀ s d, nw s D.ws = some d → left (ky s) = false → Maps.has M2 (ky s) = true ∧ ∀ z, M2.atKey (ky s) z = .held (secV d (L2 s)))
    (h5 : ∀ s, (if left (ky s) then [] else lv s 0 D.ws) = [] → L2 s = .slice none 0 0) (hv : lv s 0 D.ws = [] → v' = .slice none 0 0)
    (hmI : wI.ownsMap Try.prog 3 idR mb2 (nm + 1) (M2.put (ky s) (.held (secV d v')))) (hgI : wr.grownBy wI (some mb2)) : CR w q lb mb2 cap r mb ov M D (fun z => left z && !z.sameKey (ky s)) cnt2 wI := by
  have hM := h.dp.map.isMap
  obtain ⟨l1, l2⟩ := left_strike left s
  have l1' : (left (ky s) && !(ky s).sameKey (ky s)) = false := l1
  have l2' : ∀ t, t ≠ s → (left (ky t) && !(ky t).sameKey (ky s)) = left (ky t) := l2
  have hmb : mb2 ≠ mb := fun e => by have := h.dp.sm.1.1; omega
  have hmr : mb2 ≠ r := h.dp.sm.1.2
  have hmw : w.heap.size ≤ mb2 := h.dp.sm.1.1
  have e : (fun t => if t = s then lv s 0 D.ws else if left (ky t) then [] else lv t 0 D.ws) = fun t => if (left (ky t) && !(ky t).sameKey (ky s)) then [] else lv t 0 D.ws := by
    funext t
    by_cases ht : t = s
    · subst ht; rw [if_pos rfl, l1']; rfl
    · rw [if_neg ht, l2' t ht]
  refine ⟨h.rg.kept hgI (fun e => hmb (Option.some.inj e).symm) (fun e => hmr (Option.some.inj e).symm), ⟨nm + 1, M2.put (ky s) (.held (secV d v')), (fun t => if t = s then v' else L2 t), by omega, ?_, fun kl hk => ?_, fun t d' ht hl => ?_, fun t ht => ?_⟩, ?_⟩
  · have := (h.dp.put hmI hgI).sub (T := fun k => w.heap.size ≤ k ∧ k ≠ r) (fun k _ hs => hs.1)
    rw [e] at this
    exact this
  · by_cases hks : kl = ky s
    · exact ⟨s, hks, by rw [hn]; rfl, l1'⟩
    · rw [Maps.has_put_other hks] at hk
      obtain ⟨t, e, ht, hl⟩ := h3 kl hk
      refine ⟨t, e, ht, ?_⟩
      show (left (ky t) && !(ky t).sameKey (ky s)) = false
      rw [hl]; rfl
  · by_cases hts : t = s
    · subst hts
      rw [hn] at ht
      cases ht
      simp only [if_pos]
      exact ⟨Maps.has_put_same hM (isKey t) _, fun z => Maps.atKey_put_same hM (isKey t) _ z⟩
    · have hl' : left (ky t) = false := by rw [← l2' t hts]; exact hl
      obtain ⟨a, b⟩ := h4 t d' ht hl'
      have hne : ky t ≠ ky s := fun e => hts (ky_inj e)
      exact ⟨by rw [Maps.has_put_other hne]; exact a, fun z => by rw [Maps.atKey_put_other hne, b z]; simp only [if_neg hts]⟩
  · by_cases hts : t = s
    · subst hts
      simp only [if_pos]
      refine hv ?_
      have ht' : (if (left (ky t) && !(ky t).sameKey (ky t)) then [] else lv t 0 D.ws) = [] := ht
      rw [l1'] at ht'
      exact ht'
    · simp only [if_neg hts]
      refine h5 t ?_
      have ht' : (if (left (ky t) && !(ky t).sameKey (ky s)) then [] else lv t 0 D.ws) = [] := ht
      rw [l2' t hts] at ht'
      exact ht'
  · exact ⟨hgI.os.trans h.f.os, hgI.tape.trans h.f.tape, hgI.output.trans h.f.output, Nat.le_trans h.f.size hgI.size, fun k hk => (hgI.block k (Nat.lt_of_lt_of_le hk h.f.size) (fun e => by injection e with e; omega)).trans (h.f.block k hk)⟩
end Go.Proofs.Ytglknmelcianjaa
