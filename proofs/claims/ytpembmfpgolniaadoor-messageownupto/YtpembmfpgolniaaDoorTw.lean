import Derived.Test.YtpembmfpgolniaaDoorPv
namespace Go.Proofs.YtpembmfpgolniaaDoor
open Go.RowKit
/-- the slice v of hashes reads as these bytes -/
def RH (w : World) (v : Value) (l : List UInt8) : Prop :=
  ∃ a n c, v = .slice a n c ∧ l.length = n * 32 ∧ n ≤ c ∧ (n = 0 ∨ ∃ g o, a = some ⟨g, o, none⟩ ∧ g < w.heap.size ∧ ∀ i, i < l.length → w.cell? ⟨g, o + i, none⟩ = some (.int .u8 ((byt l i).toNat : Int)))
theorem RH.keep {w w' : World} {v : Value} {l : List UInt8} (h : RH w v l) (hb : Below w.heap.size w w') : RH w' v l := by
  obtain ⟨a, n, c, rfl, hl, hle, h⟩ := h
  refine ⟨a, n, c, rfl, hl, hle, ?_⟩
  rcases h with h | ⟨g, o, h1, h2, h3⟩
  · exact .inl h
  · exact .inr ⟨g, o, h1, Nat.lt_of_lt_of_le h2 hb.size, fun i hi => (World.cell?_of_block (w := w) (hb.block g h2)).trans (h3 i hi)⟩
/-- an own list of hashes -/
def OH (B : Nat) (w : World) (v : Value) (l : List UInt8) : Prop := ∃ n, l.length = n * 32 ∧ w.ownsRow B 24 32 v n (Lib.byteCells l)
theorem OH.nil (B : Nat) (w : World) : OH B w (.slice none 0 0) [] := ⟨0, rfl, World.ownsRow_nil _ _ _ _⟩
theorem OH.rh {B : Nat} {w : World} {v : Value} {l : List UInt8} (h : OH B w v l) : RH w v l := by
  obtain ⟨n, hl, ho⟩ := h
  have ho' := ho
  rcases ho.2 with ⟨rfl, h0⟩ | ⟨g, cap, cur, rfl, _, hg, hle, _⟩
  · exact ⟨none, 0, 0, rfl, by rw [hl, h0], Nat.le_refl _, .inl rfl⟩
  · refine ⟨_, n, cap, rfl, hl, hle, .inr ⟨g, 0, rfl, (Array.getElem?_eq_some_iff.1 hg).1, fun i hi => ?_⟩⟩
    have := World.ownsRow.cellAt ho' i (by omega)
    rw [Nat.zero_add, this, getD_byt l i hi]
    simp [Lib.byteCells, List.getElem?_eq_getElem hi]
theorem info_hashP : (Tryd.prog.info? 24).map (fun i => (i.zero, i.size, i.bytes)) = some (some (.agg (bc (zr 32))), 32, 32) := by kernel_rfl
theorem append_none_hash {w : World} (ty : TypeId) (c : Nat) :
    (Builtin.append_ #[25, 25] ty #[.slice none 0 0, .slice none 0 c]).run Tryd.prog w = .ok (.slice none 0 0) w := by
  obtain ⟨i0, hi, hz0, hz1, hz2⟩ := info_parts info_hashP
  simp [Builtin.append_, run_underlying Tryd.underlying25, sizeOf, typeInfo, hi, Builtin.lenOf, Builtin.firstCells]
/-- append(nil, hashes...) -/
theorem append_hashes {ops : Array Oper} {rest : List Oper} {o : Oper} {a : Act} {Q : Exit → Act → World → Prop} {w : World} {xv : Value} {l : List UInt8} (hgd : o.guard = none) (s x : Operand)
    (ho : o.op = .call { callee := .builtin .append, args := #[s, x], argTypes := #[25, 25] }) (hs : a.eval s = .slice none 0 0) (hx : a.eval x = xv)
    (hr : RH w xv l) (hlim : l.length ≤ 140737488351232)
    (h : ∀ v' w', OH w.heap.size w' v' l → Below w.heap.size w w' → wpList Tryd.prog ops Q rest (a.put o.dst v') w') : wpList Tryd.prog ops Q (o :: rest) a w := by
  obtain ⟨i0, hi, hz0, hz1, hz2⟩ := info_parts info_hashP
  obtain ⟨ad, n, c, rfl, hl, _, hr⟩ := hr
  have hown : w.ownsRow w.heap.size 24 32 (.slice none 0 0) 0 [] := World.ownsRow_nil _ _ _ _
  have key : ∀ (b : Addr), ad = some b → (∀ j, j < l.length → w.cell? (b.add j) = some (.int .u8 ((byt l j).toNat : Int))) → wpList Tryd.prog ops Q (o :: rest) a w := by
    rintro b rfl hc
    refine wpList_append_own w hgd s x 25 ho w.heap.size 24 i0 _ 32 32 Tryd.underlying25 hi hz0 hz1 hz2 rfl (by omega) _ 0 [] hs hown b n c (Lib.byteCells l) hx (by rw [bcl_len]; exact hl) (fun j u hu => ?_) (Lib.byteCells_one _) (by unfold maxLen; omega) (by omega) (Nat.le_refl _) (fun v' w' h1 h2 _ => ?_)
    · have hj' : j < l.length := by
        have := (List.getElem?_eq_some_iff.1 hu).1
        rwa [bcl_len] at this
      rw [hc j hj', getD_byt l j hj']
      simpa [Lib.byteCells, List.getElem?_eq_getElem hj'] using hu
    · refine h v' w' ⟨n, hl, ?_⟩ ((Below.refl _ w).grown h2 (Nat.le_refl _) (fun k hk => (World.ownsRow.lt hown k hk).1))
      simpa using h1
  rcases hr with rfl | ⟨b, off, rfl, _, hc⟩
  · have hl0 : l = [] := List.length_eq_zero_iff.1 (by omega)
    subst hl0
    cases ad with
    | none =>
      refine wpList_plain hgd fun K hK => ?_
      have hrun := append_none_hash (w := w) o.type c
      unfold Oper.wp
      simp [execOp, ho, resolve, invoke, builtin, hs, hx, hrun, Result.andThen]
      exact hK _ _ (h _ _ (OH.nil _ _) (Below.refl _ _))
    | some ad => exact key ad rfl (fun j hj => by simp at hj)
  · refine key ⟨b, off, none⟩ rfl (fun j hj => ?_)
    rw [Addr.add_mid]; exact hc j hj
theorem ownsRow_keepB {w w' : World} {B e size n : Nat} {v : Value} {xs : List Value} (h : w.ownsRow B e size v n xs) (hk : ∀ k, B ≤ k → k < w.heap.size → w'.heap[k]? = w.heap[k]?) : w'.ownsRow B e size v n xs := by
  refine ⟨h.1, ?_⟩
  rcases h.2 with h1 | ⟨g, cap, cur, h1, h2, h3, h4⟩
  · exact .inl h1
  · exact .inr ⟨g, cap, cur, h1, h2, (hk g h2 (Array.getElem?_eq_some_iff.1 h3).1).trans h3, h4⟩
theorem ownsRow_mono {w : World} {B B' e size n : Nat} {v : Value} {xs : List Value} (h : w.ownsRow B e size v n xs) (hb : B' ≤ B) : w.ownsRow B' e size v n xs := by
  refine ⟨h.1, ?_⟩
  rcases h.2 with h1 | ⟨g, cap, cur, h1, h2, h3⟩
  · exact .inl h1
  · exact .inr ⟨g, cap, cur, h1, Nat.le_trans hb h2, h3⟩
/-- a message in memory, with its data and its hashes -/
structure MM (w : World) (m : Mv) (D hb : List UInt8) : Prop where
  ok : m.ok
  d : RB w m.d D
  h : RH w m.h hb
  dl : D.length ≤ 140737488351232
  hl : hb.length ≤ 140737488351232
theorem MM.keep {w w' : World} {m : Mv} {D hb : List UInt8} (h : MM w m D hb) (hb' : Below w.heap.size w w') : MM w' m D hb := ⟨h.ok, h.d.keep hb', h.h.keep hb', h.dl, h.hl⟩
theorem MM.sd {w : World} {m : Mv} {D hb : List UInt8} (h : MM w m D hb) : sln m.d = D.length := by
  obtain ⟨a, c, e, _⟩ := h.d
  rw [e]; rfl
theorem MM.sh {w : World} {m : Mv} {D hb : List UInt8} (h : MM w m D hb) : hb.length = sln m.h * 32 := by
  obtain ⟨a, n, c, e, h2, _⟩ := h.h
  rw [e]; exact h2
theorem results_msg {fn : Func} {p : Tmp} (h : fn.results = #[.cell p 27]) (tmps : Array Value) (w : World) (g : Nat) (m : Mv)
    (hp : tmps.getD p undef = .pointer (some ⟨g, 0, none⟩)) (hg : MB w g m) (ok : m.ok) : (results fn tmps).run Tryd.prog w = .ok (.agg m.cs) w := by
  have hp' : tmps[p]?.getD undef = .pointer (some ⟨g, 0, none⟩) := by simpa using hp
  simp [results, h, hp', asAddr, run_loadVar_row w g 27 27 m.cs (0, 0) _ hg Tryd.underlying27 rfl (info_msg ok)]
/-- no message -/
def zm : Mv := ⟨0, 0, 0, 0, .slice none 0 0, zr 32, 0, 0, .slice none 0 0⟩
theorem zm_ok : zm.ok := ⟨zr_len 32, ⟨_, _, _, rfl⟩, ⟨_, _, _, rfl⟩⟩
theorem z40_eq : (#[Value.int .i64 0, Value.int .i64 0, Value.int .i64 0, Value.int .i64 0, Value.slice none 0 0, Value.int .u8 0, Value.int .u8 0, Value.int .u8 0, Value.int .u8 0, Value.int .u8 0, Value.int .u8 0, Value.int .u8 0, Value.int .u8 0, Value.int .u8 0, Value.int .u8 0, Value.int .u8 0, Value.int .u8 0, Value.int .u8 0, Value.int .u8 0, Value.int .u8 0, Value.int .u8 0, Value.int .u8 0, Value.int .u8 0, Value.int .u8 0, Value.int .u8 0, Value.int .u8 0, Value.int .u8 0, Value.int .u8 0, Value.int .u8 0, Value.int .u8 0, Value.int .u8 0, Value.int .u8 0, Value.int .u8 0, Value.int .u8 0, Value.int .u8 0, Value.int .u8 0, Value.int .u8 0, Value.int .i64 0, Value.int .i64 0, Value.slice none 0 0] : Array Value) = zm.cs := rfl
theorem MB.setRow {w : World} {g : Nat} {m m' : Mv} (h : MB w g m) : MB (w.setRow g m'.cs) g m' := heapSetRow _ _ _ _ _ h
end Go.Proofs.YtpembmfpgolniaaDoor
