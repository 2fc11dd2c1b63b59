import Derived.Test.YtpembmfpgolniaaDoorLp
namespace Go.Proofs.YtpembmfpgolniaaDoor
open Go.RowKit
def setL : Nat → List Value → List Value → List Value
  | _, [], l => l
  | o, v :: r, l => setL (o + 1) r (l.set o v)
theorem setL_mid : ∀ (vs A B C : List Value), B.length = vs.length → setL A.length vs (A ++ (B ++ C)) = A ++ (vs ++ C)
  | [], A, B, C, h => by
    have : B = [] := List.length_eq_zero_iff.1 h
    subst this; rfl
  | v :: r, A, [], C, h => by simp at h
  | v :: r, A, b :: B, C, h => by
    have ih := setL_mid r (A ++ [v]) B C (by simpa using h)
    simp only [setL]
    rw [List.set_append_right _ _ (Nat.le_refl _), Nat.sub_self]
    simp only [List.length_append, List.length_cons, List.length_nil, List.append_assoc, List.cons_append, List.nil_append] at ih
    simp only [List.cons_append, List.set_cons_zero]
    exact ih
theorem heap_setCells (g : Nat) (t : TypeId) : ∀ (vs : List Value) (o : Nat) (w : World) (ls : List Value), w.heap[g]? = some (.cells ls.toArray t (0, 0)) → (w.setCells g o vs).heap[g]? = some (.cells (setL o vs ls).toArray t (0, 0))
  | [], _, _, _, h => h
  | v :: r, o, w, ls, h => by
    rw [World.setCells]
    refine heap_setCells g t r (o + 1) _ (ls.set o v) ?_
    show (w.heap.modify g _)[g]? = _
    rw [Array.getElem?_modify, if_pos rfl, h]
    simp
theorem besides_setCells (g : Nat) : ∀ (vs : List Value) (o : Nat) (w : World), Besides g w (w.setCells g o vs)
  | [], _, w => Besides.refl g w
  | v :: r, o, w => by
    rw [World.setCells]
    exact (Besides.setCell w g o v).trans (besides_setCells g r (o + 1) _)
theorem MB.setRoot {w : World} {g : Nat} {m : Mv} (h : MB w g m) (ok : m.ok) (r : List UInt8) (hr : r.length = 32) : MB (w.setCells g 5 (Lib.byteCells r)) g { m with r := r } := by
  have := heap_setCells g 27 (Lib.byteCells r) 5 w m.ls h
  unfold MB
  rw [this]
  have e : setL 5 (Lib.byteCells r) m.ls = { m with r := r }.ls := setL_mid (Lib.byteCells r) [.int .i64 m.k, .int .i64 m.i, .int .i64 m.b, .int .i64 m.l, m.d] (Lib.byteCells m.r) [.int .i64 m.ba, .int .i64 m.pr, m.h] (by rw [bcl_len, bcl_len, ok.r, hr])
  rw [e]; rfl
theorem MB.there {w : World} {g : Nat} {m : Mv} (h : MB w g m) (ok : m.ok) (o n : Nat) (hn : o + n ≤ 40) : w.there g o n := by
  intro j hj
  refine ⟨?_, h.free _⟩
  have hl : o + j < m.ls.length := by
    have := ok.size
    unfold Mv.cs at this
    simp at this
    omega
  rw [h.cell (o + j) (List.getElem?_eq_getElem hl)]
  rfl
theorem info_hash : (Tryd.prog.info? 24).map (·.size) = some 32 := by kernel_rfl
def z32 : Array Value := #[Value.int .u8 0, Value.int .u8 0, Value.int .u8 0, Value.int .u8 0, Value.int .u8 0, Value.int .u8 0, Value.int .u8 0, Value.int .u8 0, Value.int .u8 0, Value.int .u8 0, Value.int .u8 0, Value.int .u8 0, Value.int .u8 0, Value.int .u8 0, Value.int .u8 0, Value.int .u8 0, Value.int .u8 0, Value.int .u8 0, Value.int .u8 0, Value.int .u8 0, Value.int .u8 0, Value.int .u8 0, Value.int .u8 0, Value.int .u8 0, Value.int .u8 0, Value.int .u8 0, Value.int .u8 0, Value.int .u8 0, Value.int .u8 0, Value.int .u8 0, Value.int .u8 0, Value.int .u8 0]
theorem z32_bc : z32 = bc (zr 32) := rfl
theorem z32_list : z32.toList = Lib.byteCells (zr 32) := rfl
theorem r4T (w : World) (g : Nat) (m : Mv) (ok : m.ok) (h : MB w g m) : Calls Tryd.prog 69 #[ptr g] w fun e w' => e = .returned (.tuple #[]) ∧ w' = w.setCells g 5 (Lib.byteCells (zr 32)) := by
  have ht : w.there g 5 z32.size := h.there ok 5 32 (by omega)
  have hone : z32.all (·.oneCell') = true := by rw [z32_bc]; exact bc_one _
  have hi : (Tryd.prog.info? 24).map (·.size) = some z32.size := info_hash
  clear h
  go_enter Tryd.func69, Tryd.ntmps69
  go_wp2_with (refine wpList_store_mid rfl 24 _ _ rfl g 5 z32 rfl rfl ht hi hone ?_)
  go_end0
  exact ⟨rfl, rfl⟩
theorem en85 : EN 65 := enters_of Tryd.func65 (by kernel_rfl) rfl
end Go.Proofs.YtpembmfpgolniaaDoor
