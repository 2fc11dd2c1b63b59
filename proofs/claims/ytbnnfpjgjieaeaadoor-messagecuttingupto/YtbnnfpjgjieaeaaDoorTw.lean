import Derived.Test.YtbnnfpjgjieaeaaDoorPv
namespace Go.Proofs.YtbnnfpjgjieaeaaDoor
open Go.RowKit
/-- the slice v of hashes reads as these bytes -/
def RH (w : World) (v : Value) (l : List UInt8) : Prop :=
  ∃ a n c, v = .slice a n c ∧ l.length = n * 32 ∧ n ≤ c ∧ (n = 0 ∨ ∃ g o, a = some ⟨g, o, none⟩ ∧ g < w.heap.size ∧ ∀ i, i < l.length → w.cell? ⟨g, o + i, none⟩ = some (.int .u8 ((byt l i).toNat : Int)))
theorem RH.keep {w w' : World} {v : Value} {l : List UInt8} (h : RH w v l) (hb : Below w.heap.size w w') : RH w' v l := by
  obtain ⟨a, n, c, rfl, hl, hle, h⟩ := h
  refine ⟨a, n, c, rfl, hl, hle, ?_⟩
  rcases h with h | ⟨g, o, h1, h2, h3⟩
  · exact .inl h
  · exact .inr ⟨g, o, h1, Nat.lt_of_lt_of_le h2 hb.size, fun i hi => (World.cell?_of_block (w := w) (hb.block g h2)).trans (h3 i hi)⟩
/-- an own list of hashes -/
def OH (B : Nat) (w : World) (v : Value) (l : List UInt8) : Prop := ∃ n, l.length = n * 32 ∧ w.ownsRow B 44 32 v n (Lib.byteCells l)
theorem OH.nil (B : Nat) (w : World) : OH B w (.slice none 0 0) [] := ⟨0, rfl, World.ownsRow_nil _ _ _ _⟩
theorem OH.rh {B : Nat} {w : World} {v : Value} {l : List UInt8} (h : OH B w v l) : RH w v l := by
  obtain ⟨n, hl, ho⟩ := h
  have ho' := ho
  rcases ho.2 with ⟨rfl, h0⟩ | ⟨g, cap, cur, rfl, _, hg, hle, _⟩
  · exact ⟨none, 0, 0, rfl, by rw [hl, h0], Nat.le_refl _, .inl rfl⟩
  · refine ⟨_, n, cap, rfl, hl, hle, .inr ⟨g, 0, rfl, (Array.getElem?_eq_some_iff.1 hg).1, fun i hi => ?_⟩⟩
    have := World.ownsRow.cellAt ho' i (by omega)
    rw [Nat.zero_add, this, getD_byt l i hi]
    simp [Lib.byteCells, List.getElem?_eq_getElem hi]
theorem info_hashP : (Tryd.prog.info? 44).map (fun i => (i.zero, i.size, i.bytes)) = some (some (.agg (bc (zr 32))), 32, 32) := by kernel_rfl
theorem append_none_hash {w : World} (ty : TypeId) (c : Nat) :
    (Builtin.append_ #[45, 45] ty #[.slice none 0 0, .slice none 0 c]).run Tryd.prog w = .ok (.slice none 0 0) w := by
  obtain ⟨i0, hi, hz0, hz1, hz2⟩ := info_parts info_hashP
  simp [Builtin.append_, run_underlying Tryd.underlying45, sizeOf, typeInfo, hi, Builtin.lenOf, Builtin.firstCells]
/-- append(nil, hashes...) -/
theorem append_hashes {ops : Array Oper} {rest : List Oper} {o : Oper} {a : Act} {Q : Exit → Act → World → Prop} {w : World} {xv : Value} {l : List UInt8} (hgd : o.guard = none) (s x : Operand)
    (ho : o.op = .call { callee := .builtin .append, args := #[s, x], argTypes := #[45, 45] }) (hs : a.eval s = .slice none 0 0) (hx : a.eval x = xv)
    (hr : RH w xv l) (hlim : l.length ≤ 140737488351232)
    (h : ∀ v' w', OH w.heap.size w' v' l → Below w.heap.size w w' → wpList Tryd.prog ops Q rest (a.put o.dst v') w') : wpList Tryd.prog ops Q (o :: rest) a w := by
  obtain ⟨i0, hi, hz0, hz1, hz2⟩ := info_parts info_hashP
  obtain ⟨ad, n, c, rfl, hl, _, hr⟩ := hr
  have hown : w.ownsRow w.heap.size 44 32 (.slice none 0 0) 0 [] := World.ownsRow_nil _ _ _ _
  have key : ∀ (b : Addr), ad = some b → (∀ j, j < l.length → w.cell? (b.add j) = some (.int .u8 ((byt l j).toNat : Int))) → wpList Tryd.prog ops Q (o :: rest) a w := by
    rintro b rfl hc
    refine wpList_append_own w hgd s x 45 ho w.heap.size 44 i0 _ 32 32 Tryd.underlying45 hi hz0 hz1 hz2 rfl (by omega) _ 0 [] hs hown b n c (Lib.byteCells l) hx (by rw [bcl_len]; exact hl) (fun j u hu => ?_) (Lib.byteCells_one _) (by unfold maxLen; omega) (by omega) (Nat.le_refl _) (fun v' w' h1 h2 _ => ?_)
    · have hj' : j < l.length := by
        have := (List.getElem?_eq_some_iff.1 hu).1
        rwa [bcl_len] at this
      rw [hc j hj', getD_byt l j hj']
      simpa [Lib.byteCells, List.getElem?_eq_getElem hj'] using hu
    · refine h v' w' ⟨n, hl, ?_⟩ ((Below.refl _ w).grown h2 (Nat.le_refl _) (fun k hk => (World.ownsRow.lt hown k hk).1))
      simpa using h1
  rcases hr with rfl | ⟨b, off, rfl, _, hc⟩
  · have hl0 : l = [] := List.length_eq_zero_iff.1 (by omega)
    subst hl0
    cases ad with
    | none =>
      refine wpList_plain hgd fun K hK => ?_
      have hrun := append_none_hash (w := w) o.type c
      unfold Oper.wp
      simp [execOp, ho, resolve, invoke, builtin, hs, hx, hrun, Result.andThen]
      exact hK _ _ (h _ _ (OH.nil _ _) (Below.refl _ _))
    | some ad => exact key ad rfl (fun j hj => by simp at hj)
  · refine key ⟨b, off, none⟩ rfl (fun j hj => ?_)
    rw [Addr.add_mid]; exact hc j hj
theorem ownsRow_keepB {w w' : World} {B e size n : Nat} {v : Value} {xs : List Value} (h : w.ownsRow B e size v n xs) (hk : ∀ k, B ≤ k → k < w.heap.size → w'.heap[k]? = w.heap[k]?) : w'.ownsRow B e size v n xs := by
  refine ⟨h.1, ?_⟩
  rcases h.2 with h1 | ⟨g, cap, cur, h1, h2, h3, h4⟩
  · exact .inl h1
  · exact .inr ⟨g, cap, cur, h1, h2, (hk g h2 (Array.getElem?_eq_some_iff.1 h3).1).trans h3, h4⟩
theorem ownsRow_mono {w : World} {B B' e size n : Nat} {v : Value} {xs : List Value} (h : w.ownsRow B e size v n xs) (hb : B' ≤ B) : w.ownsRow B' e size v n xs := by
  refine ⟨h.1, ?_⟩
  rcases h.2 with h1 | ⟨g, cap, cur, h1, h2, h3⟩
  · exact .inl h1
  · exact .inr ⟨g, cap, cur, h1, Nat.le_trans hb h2, h3⟩
/-- a message in memory, with its data and its hashes -/
structure MM (w : World) (m : Mv) (D hb : List UInt8) : Prop where
  ok : m.ok
  d : RB w m.d D
  h : RH w m.h hb
  dl : D.length ≤ 140737488351232
  hl : hb.length ≤ 140737488351232
theorem MM.keep {w w' : World} {m : Mv} {D hb : List UInt8} (h : MM w m D hb) (hb' : Below w.heap.size w w') : MM w' m D hb := ⟨h.ok, h.d.keep hb', h.h.keep hb', h.dl, h.hl⟩
theorem MM.sd {w : World} {m : Mv} {D hb : List UInt8} (h : MM w m D hb) : sln m.d = D.length := by
  obtain ⟨a, c, e, _⟩ := h.d
  rw [e]; rfl
theorem MM.sh {w : World} {m : Mv} {D hb : List UInt8} (h : MM w m D hb) : hb.length = sln m.h * 32 := by
  obtain ⟨a, n, c, e, h2, _⟩ := h.h
  rw [e]; exact h2
theorem results_msg {fn : Func} {p : Tmp} (h : fn.results = #[.cell p 47]) (tmps : Array Value) (w : World) (g : Nat) (m : Mv)
    (hp : tmps.getD p undef = .pointer (some ⟨g, 0, none⟩)) (hg : MB w g m) (ok : m.ok) : (results fn tmps).run Tryd.prog w = .ok (.agg m.cs) w := by
  have hp' : tmps[p]?.getD undef = .pointer (some ⟨g, 0, none⟩) := by simpa using hp
  simp [results, h, hp', asAddr, run_loadVar_row w g 47 47 m.cs (0, 0) _ hg Tryd.underlying47 rfl (info_msg ok)]
/-- no message -/
def zm : Mv := ⟨0, 0, 0, 0, .slice none 0 0, zr 32, 0, 0, .slice none 0 0⟩
theorem zm_ok : zm.ok := ⟨zr_len 32, ⟨_, _, _, rfl⟩, ⟨_, _, _, rfl⟩⟩
theorem z40_eq : (#[Value.int .i64 0, Value.int .i64 0, Value.int .i64 0, Value.int .i64 0, Value.slice none 0 0, Value.int .u8 0, Value.int .u8 0, Value.int .u8 0, Value.int .u8 0, Value.int .u8 0, Value.int .u8 0, Value.int .u8 0, Value.int .u8 0, Value.int .u8 0, Value.int .u8 0, Value.int .u8 0, Value.int .u8 0, Value.int .u8 0, Value.int .u8 0, Value.int .u8 0, Value.int .u8 0, Value.int .u8 0, Value.int .u8 0, Value.int .u8 0, Value.int .u8 0, Value.int .u8 0, Value.int .u8 0, Value.int .u8 0, Value.int .u8 0, Value.int .u8 0, Value.int .u8 0, Value.int .u8 0, Value.int .u8 0, Value.int .u8 0, Value.int .u8 0, Value.int .u8 0, Value.int .u8 0, Value.int .i64 0, Value.int .i64 0, Value.slice none 0 0] : Array Value) = zm.cs := rfl
theorem MB.setRow {w : World} {g : Nat} {m m' : Mv} (h : MB w g m) : MB (w.setRow g m'.cs) g m' := heapSetRow _ _ _ _ _ h
set_option maxHeartbeats 1000000 in
set_option maxRecDepth 100000 in
theorem twinT (w : World) (m : Mv) (D hb : List UInt8) (hm : MM w m D hb) :
    Calls Tryd.prog 32 #[.agg m.cs] w fun e w' => ∃ d' h', e = .returned (.agg { m with d := d', h := h' }.cs) ∧ MM w' { m with d := d', h := h' } D hb ∧ Below w.heap.size w w' := by
  have C0 : ∃ X, (((w.alloc (.cells m.cs 47)).alloc (.cells zm.cs 47)).alloc (.cells zm.cs 47)).setRow (w.heap.size + 2) m.cs = X ∧ MB X w.heap.size m ∧ MB X (w.heap.size + 1) zm ∧ MB X (w.heap.size + 2) m ∧ Below w.heap.size w X ∧ X.heap.size = w.heap.size + 3 := by
    have g2 : MB (((w.alloc (.cells m.cs 47)).alloc (.cells zm.cs 47)).alloc (.cells zm.cs 47)) (w.heap.size + 2) zm := heapLast _ _ (by simp)
    refine ⟨_, rfl, ?_, ?_, g2.setRow, belowSetRow ((((Below.refl _ _).alloc (Nat.le_refl _) _).alloc (by simp) _).alloc (by simp; omega) _) (by omega) _, by simp [World.setRow]⟩
    · show (World.setRow _ _ _).heap[_]? = _
      rw [setRow_other _ _ _ _ (by omega), heapOld _ _ _ (by simp; omega), heapOld _ _ _ (by simp), heapNew]
    · show (World.setRow _ _ _).heap[_]? = _
      rw [setRow_other _ _ _ _ (by omega), heapOld _ _ _ (by simp)]; exact heapLast _ _ (by simp)
  have g2 : MB (((w.alloc (.cells m.cs 47)).alloc (.cells zm.cs 47)).alloc (.cells zm.cs 47)) (w.heap.size + 2) zm := heapLast _ _ (by simp)
  have hc2 : ((w.alloc (.cells m.cs 47)).alloc (.cells zm.cs 47)).heap[w.heap.size]? = some (.cells m.cs 47 (0, 0)) := by rw [heapOld _ _ _ (by simp), heapNew]
  have HM : Hid (MM w m D hb) := hm
  have ok := hm.ok
  have him := info_msg ok
  have hone := ok.one
  have hsz : zm.cs.size = m.cs.size := by rw [zm_ok.size, ok.size]
  have l2 := g2.cells
  clear g2 hm
  go_enter Tryd.func32, Tryd.ntmps32
  go_upto_region 2 with (first | (refine wpList_load_row rfl 47 _ rfl w.heap.size rfl 47 m.cs (0, 0) _ hc2 Tryd.underlying47 rfl him ?_) | (refine wpList_store_row rfl 47 _ _ rfl (w.heap.size + 2) m.cs rfl rfl 47 zm.cs l2 him hsz hone ?_))
  rw [z40_eq]
  obtain ⟨X, hX, C0⟩ := C0
  rw [hX]
  clear hX hc2 l2 hsz hone
  have HX : Hid (MB X w.heap.size m ∧ MB X (w.heap.size + 1) zm ∧ MB X (w.heap.size + 2) m ∧ Below w.heap.size w X ∧ X.heap.size = w.heap.size + 3) := C0
  have a4 := C0.2.2.1.c4
  have f4 := C0.2.2.1.free 4
  clear C0
  go_upto_region 3 with fail
  have HX1 : Hid (MB (X.setCell ⟨w.heap.size + 2, 4, none⟩ (.slice none 0 0)) w.heap.size m ∧ MB (X.setCell ⟨w.heap.size + 2, 4, none⟩ (.slice none 0 0)) (w.heap.size + 1) zm ∧ MB (X.setCell ⟨w.heap.size + 2, 4, none⟩ (.slice none 0 0)) (w.heap.size + 2) { m with d := .slice none 0 0 } ∧ Below w.heap.size w (X.setCell ⟨w.heap.size + 2, 4, none⟩ (.slice none 0 0)) ∧ (X.setCell ⟨w.heap.size + 2, 4, none⟩ (.slice none 0 0)).heap.size = w.heap.size + 3) :=
    ⟨HX.out.1.besides (Besides.setCell _ _ _ _) (by omega), HX.out.2.1.besides (Besides.setCell _ _ _ _) (by omega), HX.out.2.2.1.set 4 _ rfl, HX.out.2.2.2.1.setCell (by show _ ≤ _ + 2; omega) _, by simp; exact HX.out.2.2.2.2⟩
  clear a4 f4 HX
  generalize X.setCell ⟨w.heap.size + 2, 4, none⟩ (.slice none 0 0) = X1 at *
  have ok1 : Mv.ok { m with d := .slice none 0 0 } := ⟨ok.r, ⟨_, _, _, rfl⟩, ok.h⟩
  have a39 := HX1.out.2.2.1.c39 ok1
  have f39 := HX1.out.2.2.1.free 39
  go_upto_region 4 with fail
  have HX2 : Hid (MB (X1.setCell ⟨w.heap.size + 2, 39, none⟩ (.slice none 0 0)) w.heap.size m ∧ MB (X1.setCell ⟨w.heap.size + 2, 39, none⟩ (.slice none 0 0)) (w.heap.size + 1) zm ∧ MB (X1.setCell ⟨w.heap.size + 2, 39, none⟩ (.slice none 0 0)) (w.heap.size + 2) { m with d := .slice none 0 0, h := .slice none 0 0 } ∧ Below w.heap.size w (X1.setCell ⟨w.heap.size + 2, 39, none⟩ (.slice none 0 0)) ∧ (X1.setCell ⟨w.heap.size + 2, 39, none⟩ (.slice none 0 0)).heap.size = w.heap.size + 3) :=
    ⟨HX1.out.1.besides (Besides.setCell _ _ _ _) (by omega), HX1.out.2.1.besides (Besides.setCell _ _ _ _) (by omega), HX1.out.2.2.1.set 39 _ (Mv.set39 ok1 _), HX1.out.2.2.2.1.setCell (by show _ ≤ _ + 2; omega) _, by simp; exact HX1.out.2.2.2.2⟩
  clear a39 f39 HX1 ok1
  generalize X1.setCell ⟨w.heap.size + 2, 39, none⟩ (.slice none 0 0) = X2 at *
  have a4 : X2.cell? ⟨w.heap.size + 2, 4, none⟩ = some (.slice none 0 0) := HX2.out.2.2.1.c4
  have f4 := HX2.out.2.2.1.free 4
  have m4 := HX2.out.1.c4
  have hlt2 : w.heap.size + 2 < X2.heap.size := by rw [HX2.out.2.2.2.2]; omega
  have HD : Hid (RB X2 m.d D ∧ RH X2 m.h hb ∧ ([] : List UInt8).length + D.length ≤ 140737488351232 ∧ hb.length ≤ 140737488351232) := by
    have hb' := HX2.out.2.2.2.1
    exact ⟨HM.out.d.keep hb', HM.out.h.keep hb', by have := HM.out.dl; simpa using this, HM.out.hl⟩
  have HO : Hid (OW X2.heap.size X2 (.slice none 0 0) []) := World.ownsRow_nil _ _ _ _
  go_upto_region 5 with (first | (at_builtin; refine append_bytes rfl _ _ rfl rfl HO.out rfl HD.out.1 (Nat.le_refl _) HD.out.2.2.1 ?_; intro d' X3 o3 b3; simp only [List.nil_append] at o3; obtain ⟨da, dc, rfl⟩ := o3.form; have t4 := (b3.cell (p := ⟨w.heap.size + 2, 4, none⟩) hlt2).trans a4; have t5 := (b3.frozen (p := ⟨w.heap.size + 2, 4, none⟩) hlt2).trans f4))
  have H4 : Hid (MB (X3.setCell ⟨w.heap.size + 2, 4, none⟩ (.slice da D.length dc)) w.heap.size m ∧ MB (X3.setCell ⟨w.heap.size + 2, 4, none⟩ (.slice da D.length dc)) (w.heap.size + 1) zm ∧ MB (X3.setCell ⟨w.heap.size + 2, 4, none⟩ (.slice da D.length dc)) (w.heap.size + 2) { m with d := .slice da D.length dc, h := .slice none 0 0 } ∧ Below w.heap.size w (X3.setCell ⟨w.heap.size + 2, 4, none⟩ (.slice da D.length dc)) ∧ w.heap.size + 2 < (X3.setCell ⟨w.heap.size + 2, 4, none⟩ (.slice da D.length dc)).heap.size ∧ OW (w.heap.size + 3) (X3.setCell ⟨w.heap.size + 2, 4, none⟩ (.slice da D.length dc)) (.slice da D.length dc) D ∧ RH (X3.setCell ⟨w.heap.size + 2, 4, none⟩ (.slice da D.length dc)) m.h hb) := by
    have hs2 := HX2.out.2.2.2.2
    have bb : Below X2.heap.size X2 X3 := b3
    have b4 : Below w.heap.size w X3 := HX2.out.2.2.2.1.trans (bb.mono (by omega))
    have hs3 := bb.size
    have g0 := HX2.out.1.below bb
    have g1 := HX2.out.2.1.below bb
    have g2 := HX2.out.2.2.1.below bb
    exact ⟨g0.besides (Besides.setCell _ _ _ _) (by omega), g1.besides (Besides.setCell _ _ _ _) (by omega), g2.set 4 _ rfl, b4.setCell (by show _ ≤ _ + 2; omega) _, by simp; omega, ownsRow_setCell_below (ownsRow_mono o3 (by omega)) (by show w.heap.size + 2 < _; omega) _, HM.out.h.keep (b4.setCell (by show _ ≤ _ + 2; omega) _)⟩
  clear t4 t5 o3 b3 HO HD hlt2 m4 f4 a4 HX2
  generalize X3.setCell ⟨w.heap.size + 2, 4, none⟩ (.slice da D.length dc) = X4 at *
  have ok4 : Mv.ok { m with d := .slice da D.length dc, h := .slice none 0 0 } := ⟨ok.r, ⟨_, _, _, rfl⟩, ⟨_, _, _, rfl⟩⟩
  have a39 : X4.cell? ⟨w.heap.size + 2, 39, none⟩ = some (.slice none 0 0) := H4.out.2.2.1.c39 ok4
  have f39 := H4.out.2.2.1.free 39
  have m39 := H4.out.1.c39 ok
  have hlt2 : w.heap.size + 2 < X4.heap.size := H4.out.2.2.2.2.1
  have HH : Hid (RH X4 m.h hb ∧ hb.length ≤ 140737488351232) := ⟨H4.out.2.2.2.2.2.2, HM.out.hl⟩
  go_upto_region 6 with (first | (at_builtin; refine append_hashes rfl _ _ rfl rfl rfl HH.out.1 HH.out.2 ?_; intro h' X5 o5 b5; obtain ⟨ha, hn, hc, rfl, _⟩ := o5.rh; have t4 := (b5.cell (p := ⟨w.heap.size + 2, 39, none⟩) hlt2).trans a39; have t5 := (b5.frozen (p := ⟨w.heap.size + 2, 39, none⟩) hlt2).trans f39))
  have H5 : Hid (MB (X5.setCell ⟨w.heap.size + 2, 39, none⟩ (.slice ha hn hc)) (w.heap.size + 1) zm ∧ MB (X5.setCell ⟨w.heap.size + 2, 39, none⟩ (.slice ha hn hc)) (w.heap.size + 2) { m with d := .slice da D.length dc, h := .slice ha hn hc } ∧ Below w.heap.size w (X5.setCell ⟨w.heap.size + 2, 39, none⟩ (.slice ha hn hc)) ∧ OW (w.heap.size + 3) (X5.setCell ⟨w.heap.size + 2, 39, none⟩ (.slice ha hn hc)) (.slice da D.length dc) D ∧ OH (w.heap.size + 3) (X5.setCell ⟨w.heap.size + 2, 39, none⟩ (.slice ha hn hc)) (.slice ha hn hc) hb) := by
    have b6 : Below w.heap.size w X5 := H4.out.2.2.2.1.trans (b5.mono (by omega))
    have g1 := H4.out.2.1.below b5
    have g2 := H4.out.2.2.1.below b5
    obtain ⟨n, hn', hown⟩ := o5
    exact ⟨g1.besides (Besides.setCell _ _ _ _) (by omega), g2.set 39 _ (Mv.set39 ok4 _), b6.setCell (by show _ ≤ _ + 2; omega) _, ownsRow_setCell_below (OW.grow H4.out.2.2.2.2.2.1 b5) (by show w.heap.size + 2 < _; omega) _, ⟨n, hn', ownsRow_setCell_below (ownsRow_mono hown (by omega)) (by show w.heap.size + 2 < _; omega) _⟩⟩
  clear t4 t5 o5 b5 HH hlt2 m39 f39 a39 H4 ok4
  generalize X5.setCell ⟨w.heap.size + 2, 39, none⟩ (.slice ha hn hc) = X6 at *
  have ok5 : Mv.ok { m with d := .slice da D.length dc, h := .slice ha hn hc } := ⟨ok.r, ⟨_, _, _, rfl⟩, ⟨_, _, _, rfl⟩⟩
  have l2 := H5.out.2.1.cells
  have l1 := H5.out.1.cells
  have him5 := info_msg ok5
  have hone5 := ok5.one
  have hsz5 : zm.cs.size = Array.size (Mv.cs { m with d := .slice da D.length dc, h := .slice ha hn hc }) := by rw [zm_ok.size, ok5.size]
  have HE : Hid (MB (X6.setRow (w.heap.size + 1) (Mv.cs { m with d := .slice da D.length dc, h := .slice ha hn hc })) (w.heap.size + 1) { m with d := .slice da D.length dc, h := .slice ha hn hc } ∧ MM (X6.setRow (w.heap.size + 1) (Mv.cs { m with d := .slice da D.length dc, h := .slice ha hn hc })) { m with d := .slice da D.length dc, h := .slice ha hn hc } D hb ∧ Below w.heap.size w (X6.setRow (w.heap.size + 1) (Mv.cs { m with d := .slice da D.length dc, h := .slice ha hn hc }))) := by
    refine ⟨H5.out.1.setRow, ⟨ok5, ?_, ?_, HM.out.dl, HM.out.hl⟩, belowSetRow H5.out.2.2.1 (by omega) _⟩
    · exact OW.rb (ownsRow_keepB H5.out.2.2.2.1 (fun k hk _ => setRow_other _ _ _ _ (by omega)))
    · obtain ⟨n, e1, e2⟩ := H5.out.2.2.2.2
      exact OH.rh ⟨n, e1, ownsRow_keepB e2 (fun k hk _ => setRow_other _ _ _ _ (by omega))⟩
  have HK : Hid (Mv.ok { m with d := .slice da D.length dc, h := .slice ha hn hc }) := ok5
  clear ok5 H5
  generalize hmm : ({ m with d := .slice da D.length dc, h := .slice ha hn hc } : Mv) = M at *
  have HMM : Hid (({ m with d := .slice da D.length dc, h := .slice ha hn hc } : Mv) = M) := hmm
  clear hmm
  go_wp2_with (first | (refine wpList_load_row rfl 47 _ rfl (w.heap.size + 2) rfl 47 M.cs (0, 0) _ l2 Tryd.underlying47 rfl him5 ?_) | (refine wpList_store_row rfl 47 _ _ rfl (w.heap.size + 1) M.cs rfl rfl 47 zm.cs l1 him5 hsz5 hone5 ?_))
  exact bodyPost_ret (results_msg Tryd.results32 _ _ (w.heap.size + 1) M rfl HE.out.1 HK.out) rfl ⟨_, _, by rw [HMM.out], by rw [HMM.out]; exact HE.out.2.1, HE.out.2.2⟩
end Go.Proofs.YtbnnfpjgjieaeaaDoor
