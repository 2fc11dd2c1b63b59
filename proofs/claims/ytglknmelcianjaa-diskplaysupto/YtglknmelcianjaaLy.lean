import Derived.Test.YtglknmelcianjaaWr
namespace Go.Proofs.Ytglknmelcianjaa
open Go.RowKit
/-- a part is copied into a list of one's own -/
theorem OW_copy {w : World} {g cap : Nat} {l : List UInt8} (hi : OW 0 w (.slice (some ⟨g, 0, none⟩) l.length cap) l) (o b so : Nat) (s : List UInt8) (hs : ∀ i, i < s.length → w.cell? ⟨b, so + i, none⟩ = some (.int .u8 ((byt s i).toNat : Int))) (hfit : o + s.length ≤ l.length) :
    ∃ cs, (∀ ty dl dc sl sc, s.length = Nat.min sl dl → (Builtin.copy_ #[27, 27] ty #[.slice (some ⟨g, o, none⟩) dl dc, .slice (some ⟨b, so, none⟩) sl sc]).run Try.prog w = .ok (goInt s.length) (w.setRow g cs)) ∧ OW 0 (w.setRow g cs) (.slice (some ⟨g, 0, none⟩) l.length cap) (sp l o s) := by
  rcases hi.2 with ⟨e, _⟩ | ⟨g', cap', cur, e, h1, h2, h3, h4, h5, h6⟩
  · cases e
  simp only [Value.slice.injEq, Option.some.injEq, Addr.mk.injEq] at e
  obtain ⟨⟨rfl, _⟩, _, rfl⟩ := e
  rw [Nat.mul_one] at h5 h6
  have hcs : ∀ j v, (Lib.byteCells s)[j]? = some v → w.cell? ((⟨b, so, none⟩ : Addr).add j) = some v := fun j v hj => by
    have hj' : j < s.length := by
      have := (List.getElem?_eq_some_iff.1 hj).1
      rwa [bcl_len] at this
    have hadd : (⟨b, so, none⟩ : Addr).add j = ⟨b, so + j, none⟩ := by unfold Addr.add; split <;> simp_all
    rw [hadd, hs j hj', getD_byt s j hj']
    simpa [Lib.byteCells, List.getElem?_eq_getElem hj'] using hj
  refine ⟨(cur.toList.take o ++ Lib.byteCells s ++ cur.toList.drop (o + s.length)).toArray, fun ty dl dc sl sc hn => ?_, ?_⟩
  · have h := run_copy_row (P := Try.prog) w 27 27 ty 5 g o dl dc ⟨b, so, none⟩ sl sc cur 5 (Lib.byteCells s) Try.underlying27 hs5 h2 (by rw [bcl_len]; exact hn) hcs (by rw [bcl_len, h5]; omega) (Lib.byteCells_one _)
    rw [bcl_len] at h
    exact h
  · refine ⟨by rw [bcl_len, Nat.mul_one, sp_len _ _ _ hfit], .inr ⟨g, cap, _, by rw [sp_len _ _ _ hfit], Nat.zero_le _, heapSetRow _ _ _ _ _ h2, by rw [sp_len _ _ _ hfit]; exact h3, h4, ?_, ?_⟩⟩
    · simp [bcl_len]
      omega
    · rw [Nat.mul_one, sp_len _ _ _ hfit]
      have e1 : cur.toList.take o = Lib.byteCells (l.take o) := by
        rw [← bcl_take, ← h6, List.take_take, Nat.min_eq_left (by omega)]
      have e2 : (cur.toList.drop (o + s.length)).take (l.length - (o + s.length)) = Lib.byteCells (l.drop (o + s.length)) := by
        rw [← bcl_drop, ← h6, List.drop_take]
      unfold sp
      rw [bcl_append, bcl_append, ← e1, ← e2]
      have hl1 : (cur.toList.take o ++ Lib.byteCells s).length = o + s.length := by rw [List.length_append, List.length_take, bcl_len, Array.length_toList]; omega
      rw [List.take_append, hl1, List.take_of_length_le (by rw [hl1]; exact hfit)]
/-- what the map says of the sectors -/
structure MK (M : DataW Value) (L : Nat → Value) (ws : List Wt) : Prop where
  key : ∀ kl, Maps.has M kl = true → ∃ s, kl = ky s ∧ (nw s ws).isSome = true
  got : ∀ s d, nw s ws = some d → Maps.has M (ky s) = true ∧ ∀ z, M.atKey (ky s) z = .held (secV d (L s))
theorem DI.mks {S : Nat → Prop} {w : World} {p lb cap mb : Nat} {ov : Value} {M : DataW Value} {L : Nat → Value} {D : Dk} (h : DI S w p lb cap mb ov M L D) : MK M L D.ws := ⟨h.key, h.got⟩
/-- the step of a range over the map -/
theorem next_disk {ops : Array Oper} {rest : List Oper} {o : Oper} {a : Act} {Q : Exit → Act → World → Prop} {w : World} {M : DataW Value} {L : Nat → Value} {ws : List Wt} (hk : MK M L ws) (hg : o.guard = none) (it : Operand) (hop : o.op = Op.next it false) (b r n : Nat) (left : Lit → Bool) (cnt : Nat)
    (hit : a.eval it = .pointer (some ⟨r, 0, none⟩)) (h : w.ranges Try.prog 3 idR b r n M left cnt)
    (hDone : (∀ kl, left kl = false) → wpList Try.prog ops Q rest (a.put o.dst (.tuple #[.bool false])) w)
    (hMore : ∀ (s : Nat) (d : List UInt8) (cs : Array Value) (w' : World) (cnt' : Nat), cs = bc d ++ #[L s] → nw s ws = some d → left (ky s) = true → w'.ranges Try.prog 3 idR b r n M (fun z => left z && !z.sameKey (ky s)) cnt' → cnt' < cnt → w.grownBy w' (some r) → w'.heap.size = w.heap.size →
      (Instr.entry (.pointer (some ⟨r, 0, none⟩))).run Try.prog w' = .ok (.tuple #[.int .i64 s, .agg cs]) w' → wpList Try.prog ops Q rest (a.put o.dst (.tuple #[.bool true, .int .i64 s, .agg cs])) w') :
    wpList Try.prog ops Q (o :: rest) a w := by
  refine wpList_plain hg fun K' hK' => ?_
  unfold Oper.wp
  rcases h.next K3 o.type with ⟨h0, hl, hrun⟩ | ⟨key, v, kl, y, w', cnt', hkey, hlk, hv, hat, hrun, hrg, hlt, hgr, hsz, hen⟩
  · simp [execOp, hop, hit, hrun, Result.andThen]
    exact hK' _ _ (hDone hl)
  · obtain ⟨s, rfl, hs⟩ := hk.key kl (Maps.has_true_of_atKey hat)
    obtain ⟨d, hd⟩ := Option.isSome_iff_exists.1 hs
    obtain ⟨x, rfl, ex, _⟩ := Maps.keyOf_int_inv (q := .i64) (by kernel_rfl) hkey
    simp only [ky, Lit.int.injEq] at ex
    obtain ⟨_, rfl⟩ := ex
    have e1 := (hk.got s d hd).2 .nil
    rw [hat .nil] at e1
    simp only [idR, Option.some.injEq] at hv
    rw [← hv] at e1
    simp only [DataW.held.injEq] at e1
    subst e1
    simp [execOp, hop, hit, hrun, Result.andThen]
    refine hK' _ _ ?_
    have := hMore s d _ w' cnt' rfl hd hlk hrg hlt hgr hsz hen
    simpa [secV] using this
end Go.Proofs.Ytglknmelcianjaa
