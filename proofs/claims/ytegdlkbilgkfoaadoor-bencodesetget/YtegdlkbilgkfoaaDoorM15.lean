import Derived.Test.YtegdlkbilgkfoaaDoorM14
import Derived.Test.YtegdlkbilgkfoaaDoorM11
import Derived.Test.YtegdlkbilgkfoaaDoorM10
import Derived.Laws.OwnMore
import Derived.Laws.IdiomStrings
import Derived.Test.YtegdlkbilgkfoaaDoorM12
import Derived.Test.YtegdlkbilgkfoaaDoorM00
import Derived.Test.YtegdlkbilgkfoaaDoorM02
import Derived.Lib.Hide
namespace Go.Proofs.YtegdlkbilgkfoaaDoor
open Go.RowKit Go.Deep
def scP (b : List UInt8) (i : Nat) : Pc T := if byt b i = 105 then (match numb b i with | .bad p e => .bad p e | .ok n j => .ok (tNum n) j) else (match strg b i with | .bad p e => .bad p e | .ok s j => .ok (tStr s) j)
theorem scal_bad {b : List UInt8} {st : List Fr} {i p : Nat} {e : Int} (hx : byt b i = 105 ∨ dig (byt b i) = true) (h : scP b i = .bad p e) : scal b st i = .bad p e := by
  unfold scP at h
  by_cases h105 : byt b i = 105
  · rw [if_pos h105] at h
    cases hn : numb b i with
    | bad p' e' => rw [hn] at h; cases h; exact scal_nbad h105 hn
    | ok n j => rw [hn] at h; cases h
  · rw [if_neg h105] at h
    have hd : dig (byt b i) = true := by rcases hx with h | h; exact absurd h h105; exact h
    cases hn : strg b i with
    | bad p' e' => rw [hn] at h; cases h; exact scal_sbad hd hn
    | ok n j => rw [hn] at h; cases h
theorem scal_ok {b : List UInt8} {st : List Fr} {i j : Nat} {t : T} (hx : byt b i = 105 ∨ dig (byt b i) = true) (h : scP b i = .ok t j) : scal b st i = deliver st t j ∧ i < j := by
  unfold scP at h
  by_cases h105 : byt b i = 105
  · rw [if_pos h105] at h
    cases hn : numb b i with
    | bad p' e' => rw [hn] at h; cases h
    | ok n j => rw [hn] at h; cases h; exact ⟨scal_num h105 hn, numb_lt hn⟩
  · rw [if_neg h105] at h
    have hd : dig (byt b i) = true := by rcases hx with h | h; exact absurd h h105; exact h
    cases hn : strg b i with
    | bad p' e' => rw [hn] at h; cases h
    | ok n j => rw [hn] at h; cases h; exact ⟨scal_str hd hn, (strg_lt hn).1⟩
def zV : Value := .agg #[.int .i64 0, .int .i64 0, .string { data := #[] }, .slice none 0 0, .slice none 0 0]
theorem pcT.cases {α : Type} {r : Pc α} {val : α → Value} {zero : Value} {e : Ending} (h : pcT r val zero e) : (∃ x j, r = .ok x j ∧ e = .returned (.tuple #[val x, .int .i64 (j : Nat), .int .i64 0])) ∨ ∃ (p : Nat) (er : Int), r = .bad p er ∧ e = .returned (.tuple #[zero, .int .i64 (p : Nat), .int .i64 er]) := by
  cases r with
  | ok x j => exact .inl ⟨x, j, rfl, h⟩
  | bad p er => exact .inr ⟨p, er, rfl, h⟩
theorem results_cell3 {fn : Func} {p u v : Tmp} (h : fn.results = #[.cell p 27, .tmp u, .tmp v]) (tmps : Array Value) (w : World) (g : Nat) (cs : Array Value)
    (hp : tmps.getD p undef = .pointer (some ⟨g, 0, none⟩)) (hg : w.heap[g]? = some (.cells cs 27 (0, 0))) (hs : cs.size = 5) : (results fn tmps).run Tryd.prog w = .ok (.tuple #[.agg cs, tmps.getD u undef, tmps.getD v undef]) w := by
  have hp' : tmps[p]?.getD undef = .pointer (some ⟨g, 0, none⟩) := by simpa using hp
  have hi : (Tryd.prog.info? 27).map (·.size) = some cs.size := by rw [hs]; exact info25s
  simp [results, h, hp', asAddr, run_loadVar_row w g 27 27 cs (0, 0) _ hg Tryd.underlying27 rfl hi]
theorem below_set5 {B : Nat} {w w1 : World} {b0 b1 b2 b3 b4 : Value} (h : Below B w w1) : Below B w (((((w1.setCell ⟨B, 0, none⟩ b0).setCell ⟨B, 1, none⟩ b1).setCell ⟨B, 2, none⟩ b2).setCell ⟨B, 3, none⟩ b3).setCell ⟨B, 4, none⟩ b4) :=
  ((((h.setCell (Nat.le_refl _) _).setCell (Nat.le_refl _) _).setCell (Nat.le_refl _) _).setCell (Nat.le_refl _) _).setCell (Nat.le_refl _) _
theorem digs_er {b : List UInt8} {en : UInt8} {i p : Nat} {e : Int} (h : digs b en i = .bad p e) : e = 21 ∨ e = 22 := by
  unfold digs at h
  split at h
  · cases h; exact .inl rfl
  · split at h
    · cases h; exact .inr rfl
    · cases h
theorem numb_er {b : List UInt8} {i p : Nat} {e : Int} (h : numb b i = .bad p e) : e = 21 ∨ e = 22 ∨ e = 23 := by
  by_cases hl : i + 1 < b.length
  · rw [numb_sg hl] at h
    generalize (if byt b (i + 1) = 45 then [45] else [] : List UInt8) = sg at h
    cases hd : digs b 101 (i + 1 + sg.length) with
    | bad p' e' => rw [hd] at h; cases h; rcases digs_er hd with h | h <;> simp [h]
    | ok d k =>
      rw [hd] at h
      dsimp only at h
      cases ha : Lib.atoiAll (sg ++ d) with
      | ok v =>
        rw [ha] at h
        dsimp only at h
        by_cases hc : padd d = true ∨ sg ++ d = [45, 48]
        · rw [if_pos hc] at h; cases h; simp
        · rw [if_neg hc] at h; cases h
      | «syntax» => rw [ha] at h; cases h; simp
      | range => rw [ha] at h; cases h; simp
  · rw [numb, if_pos (by omega)] at h; cases h; simp
theorem strg_er {b : List UInt8} {i p : Nat} {e : Int} (h : strg b i = .bad p e) : e = 21 ∨ e = 22 ∨ e = 23 := by
  unfold strg at h
  cases hd : digs b 58 i with
  | bad p' e' => rw [hd] at h; cases h; rcases digs_er hd with h | h <;> simp [h]
  | ok d k =>
    rw [hd] at h
    dsimp only at h
    by_cases hp : padd d = true
    · rw [if_pos hp] at h; cases h; simp
    · rw [if_neg hp] at h
      cases ha : Lib.atoiAll d with
      | ok v =>
        rw [ha] at h
        dsimp only at h
        by_cases hc : (b.length : Int) - k < v
        · rw [if_pos hc] at h; cases h; simp
        · rw [if_neg hc] at h; cases h
      | «syntax» => rw [ha] at h; cases h; simp
      | range => rw [ha] at h; cases h; simp
set_option maxRecDepth 10000 in
set_option maxHeartbeats 1000000 in
theorem scalar38 (a : Option Addr) (c : Nat) (b : List UInt8) (i : Nat) (w : World) (h : TX w a c b) (hi : i < b.length) (hx : byt b i = 105 ∨ dig (byt b i) = true) :
    Calls Tryd.prog 57 #[.slice a b.length c, .int .i64 i] w fun e w' => Below w.heap.size w w' ∧ pcT (scP b i) (fun t => .agg #[.int .i64 t.k, .int .i64 t.n, .string t.s, .slice none 0 0, .slice none 0 0]) zV e := by
  have HT := Lib.hid h
  obtain ⟨g, o, rfl, hcell⟩ := h.byte hi
  have hc := hcell i hi
  have i0 : (0 : Int) ≤ (i : Int) := by omega
  have i1 : (i : Int) < (b.length : Int) := by omega
  clear h hcell
  by_cases h105 : byt b i = 105
  · rw [h105] at hc
    have hc' := fun ob => cell_alloc_old (o := ob) hc
    go_enter Tryd.func57, Tryd.ntmps57
    go_wp2_with fail
    clear hc hc'
    have HX : Hid (obj (w.alloc (Obj.cells #[.int .i64 0, .int .i64 0, .string { data := #[] }, .slice none 0 0, .slice none 0 0] 27)) w.heap.size (.int .i64 0) (.int .i64 0) (.string { data := #[] }) (.slice none 0 0) (.slice none 0 0) ∧ Below w.heap.size w (w.alloc (Obj.cells #[.int .i64 0, .int .i64 0, .string { data := #[] }, .slice none 0 0, .slice none 0 0] 27))) := ⟨heap_new _ _, (Below.refl _ _).alloc (Nat.le_refl _) _⟩
    generalize (w.alloc (Obj.cells #[.int .i64 0, .int .i64 0, .string { data := #[] }, .slice none 0 0, .slice none 0 0] 27)) = w1 at *
    generalize hH : w.heap.size = H at *
    refine (number50 _ c b i w1 (HT.out.keep (hH ▸ HX.out.2)) hi).mono ?_
    rintro e w2 ⟨rfl, hp⟩
    obtain ⟨c0, c1, c2, c3, c4⟩ := HX.out.1.cells
    have f0 := HX.out.1.frozen 0
    have f1 := HX.out.1.frozen 1
    have f2 := HX.out.1.frozen 2
    have f3 := HX.out.1.frozen 3
    have f4 := HX.out.1.frozen 4
    rcases hp.cases with ⟨n, j, hn, rfl⟩ | ⟨p, er, hn, rfl⟩
    · have HE : Hid (scP b i = .ok (tNum n) j) := Lib.hid (by rw [scP, if_pos h105, hn])
      clear hp hn
      go_wp2
      refine bodyPost_ret (v := .tuple #[.agg #[.int .i64 1, .int .i64 n, .string { data := #[] }, .slice none 0 0, .slice none 0 0], .int .i64 j, .int .i64 0]) (results_cell3 Tryd.results57 _ _ H _ rfl (((((HX.out.1.set0 _).set1 _).set2 _).set3 _).set4 _) rfl) rfl ?_
      exact ⟨by rw [hH]; exact below_set5 HX.out.2, pcT.ok HE.out⟩
    · have HE : Hid (scP b i = .bad p er) := Lib.hid (by rw [scP, if_pos h105, hn])
      have her : (er != 0) = true := by rcases numb_er hn with h | h | h <;> subst h <;> rfl
      clear hp hn
      go_wp2
      refine bodyPost_ret (v := .tuple #[zV, .int .i64 p, .int .i64 er]) (results_cell3 Tryd.results57 _ _ H _ rfl (((((HX.out.1.set0 _).set1 _).set2 _).set3 _).set4 _) rfl) rfl ?_
      exact ⟨by rw [hH]; exact below_set5 HX.out.2, pcT.bad HE.out⟩
  · have hd : dig (byt b i) = true := by rcases hx with h | h; exact absurd h h105; exact h
    have hz105 : (((byt b i).toNat : Int) == 105) = false := beq_eq_false_iff_ne.2 (u8_ne h105)
    have hc' := fun ob => cell_alloc_old (o := ob) hc
    go_enter Tryd.func57, Tryd.ntmps57
    go_wp2_with fail
    clear hc hc'
    have HX : Hid (obj (w.alloc (Obj.cells #[.int .i64 0, .int .i64 0, .string { data := #[] }, .slice none 0 0, .slice none 0 0] 27)) w.heap.size (.int .i64 0) (.int .i64 0) (.string { data := #[] }) (.slice none 0 0) (.slice none 0 0) ∧ Below w.heap.size w (w.alloc (Obj.cells #[.int .i64 0, .int .i64 0, .string { data := #[] }, .slice none 0 0, .slice none 0 0] 27))) := ⟨heap_new _ _, (Below.refl _ _).alloc (Nat.le_refl _) _⟩
    generalize (w.alloc (Obj.cells #[.int .i64 0, .int .i64 0, .string { data := #[] }, .slice none 0 0, .slice none 0 0] 27)) = w1 at *
    generalize hH : w.heap.size = H at *
    refine (str37 _ c b i w1 (HT.out.keep (hH ▸ HX.out.2)) hi hd).mono ?_
    rintro e w2 ⟨rfl, hp⟩
    obtain ⟨c0, c1, c2, c3, c4⟩ := HX.out.1.cells
    have f0 := HX.out.1.frozen 0
    have f1 := HX.out.1.frozen 1
    have f2 := HX.out.1.frozen 2
    have f3 := HX.out.1.frozen 3
    have f4 := HX.out.1.frozen 4
    rcases hp.cases with ⟨n, j, hn, rfl⟩ | ⟨p, er, hn, rfl⟩
    · have HE : Hid (scP b i = .ok (tStr n) j) := Lib.hid (by rw [scP, if_neg h105, hn])
      clear hp hn
      go_wp2
      refine bodyPost_ret (v := .tuple #[.agg #[.int .i64 2, .int .i64 0, .string n, .slice none 0 0, .slice none 0 0], .int .i64 j, .int .i64 0]) (results_cell3 Tryd.results57 _ _ H _ rfl (((((HX.out.1.set0 _).set1 _).set2 _).set3 _).set4 _) rfl) rfl ?_
      exact ⟨by rw [hH]; exact below_set5 HX.out.2, pcT.ok HE.out⟩
    · have HE : Hid (scP b i = .bad p er) := Lib.hid (by rw [scP, if_neg h105, hn])
      have her : (er != 0) = true := by rcases strg_er hn with h | h | h <;> subst h <;> rfl
      clear hp hn
      go_wp2
      refine bodyPost_ret (v := .tuple #[zV, .int .i64 p, .int .i64 er]) (results_cell3 Tryd.results57 _ _ H _ rfl (((((HX.out.1.set0 _).set1 _).set2 _).set3 _).set4 _) rfl) rfl ?_
      exact ⟨by rw [hH]; exact below_set5 HX.out.2, pcT.bad HE.out⟩
set_option maxHeartbeats 400000 in
theorem closed35 (d : Bool) (s : ByteArray) (m : Bool) (w : World) (la da : Option Addr) (ln lc dn dc : Nat) :
    Calls Tryd.prog 54 #[.agg #[.int .i64 (if d = true then 4 else 3), .slice la ln lc, .slice da dn dc, .string s, .bool m]] w fun e w' => Below w.heap.size w w' ∧ e = .returned (if d = true then .agg #[.int .i64 4, .int .i64 0, .string { data := #[] }, .slice none 0 0, .slice da dn dc] else .agg #[.int .i64 3, .int .i64 0, .string { data := #[] }, .slice la ln lc, .slice none 0 0]) := by
  cases d with
  | true =>
    simp only [if_true]
    go_enter Tryd.func54, Tryd.ntmps54
    go_wp2
    refine bodyPost_ret (v := .agg #[.int .i64 4, .int .i64 0, .string { data := #[] }, .slice none 0 0, .slice da dn dc]) (results_cell_row Tryd.results54 _ _ (w.heap.size + 1) 27 _ (0, 0) _ rfl ?_ Tryd.underlying27 rfl info25s) rfl ⟨((Below.refl _ _).alloc (Nat.le_refl _) _).alloc (by simp) _, rfl⟩
    have := heap_new (w.alloc (Obj.cells #[.int .i64 4, .slice la ln lc, .slice da dn dc, .string s, .bool m] 97)) (Obj.cells #[.int .i64 4, .int .i64 0, .string { data := #[] }, .slice none 0 0, .slice da dn dc] 27)
    simpa using this
  | false =>
    simp only [Bool.false_eq_true, if_false]
    go_enter Tryd.func54, Tryd.ntmps54
    go_wp2
    refine bodyPost_ret (v := .agg #[.int .i64 3, .int .i64 0, .string { data := #[] }, .slice la ln lc, .slice none 0 0]) (results_cell_row Tryd.results54 _ _ (w.heap.size + 1) 27 _ (0, 0) _ rfl ?_ Tryd.underlying27 rfl info25s) rfl ⟨((Below.refl _ _).alloc (Nat.le_refl _) _).alloc (by simp) _, rfl⟩
    have := heap_new (w.alloc (Obj.cells #[.int .i64 3, .slice la ln lc, .slice da dn dc, .string s, .bool m] 97)) (Obj.cells #[.int .i64 3, .int .i64 0, .string { data := #[] }, .slice la ln lc, .slice none 0 0] 27)
    simpa using this
end Go.Proofs.YtegdlkbilgkfoaaDoor
namespace Go.Proofs.YtegdlkbilgkfoaaDoor
open Go.RowKit Go.Deep
/-- the slice v of bytes reads as the list l -/
def RB (w : World) (v : Value) (l : List UInt8) : Prop :=
  ∃ a c, v = .slice a l.length c ∧ l.length ≤ c ∧ (l = [] ∨ ∃ g o, a = some ⟨g, o, none⟩ ∧ g < w.heap.size ∧ ∀ i, i < l.length → w.cell? ⟨g, o + i, none⟩ = some (.int .u8 ((byt l i).toNat : Int)))
theorem RB.keep {w w' : World} {v : Value} {l : List UInt8} (h : RB w v l) (hb : Below w.heap.size w w') : RB w' v l := by
  obtain ⟨a, c, rfl, hc, h⟩ := h
  refine ⟨a, c, rfl, hc, ?_⟩
  rcases h with h | ⟨g, o, h1, h2, h3⟩
  · exact .inl h
  · exact .inr ⟨g, o, h1, Nat.lt_of_lt_of_le h2 hb.size, fun i hi => (World.cell?_of_block (w := w) (hb.block g h2)).trans (h3 i hi)⟩
theorem OW.rb {B : Nat} {w : World} {v : Value} {l : List UInt8} (h : OW B w v l) : RB w v l := by
  have h' := h
  rcases h.2 with ⟨rfl, h0⟩ | ⟨g, cap, cur, rfl, _, hg, hc, _⟩
  · have : l = [] := List.length_eq_zero_iff.1 h0
    subst this; exact ⟨none, 0, rfl, Nat.le_refl _, .inl rfl⟩
  · refine ⟨_, cap, rfl, hc, .inr ⟨g, 0, rfl, (Array.getElem?_eq_some_iff.1 hg).1, fun i hi => ?_⟩⟩
    have := World.ownsRow.cellAt h' i (by omega)
    rw [Nat.zero_add, this]
    have e : byt l i = l[i] := by unfold byt; simp [List.getD, List.getElem?_eq_getElem hi]
    rw [e]
    simp [Lib.byteCells, List.getElem?_eq_getElem hi]
theorem OW.form' {B : Nat} {w : World} {v : Value} {l : List UInt8} (h : OW B w v l) : ∃ a c, v = .slice a l.length c := by
  obtain ⟨a, c, h, _⟩ := h.rb
  exact ⟨a, c, h⟩
theorem append_byteL {ops : Array Oper} {rest : List Oper} {o : Oper} {a : Act} {Q : Exit → Act → World → Prop} {w : World} {B : Nat} {sv : Value} {l : List UInt8} (hgd : o.guard = none) (s x : Operand)
    (ho : o.op = .call { callee := .builtin .append, args := #[s, x], argTypes := #[22, 22] }) (hs : a.eval s = sv) (hown : OW B w sv l) (b : Nat) (c : UInt8) (hx : a.eval x = .slice (some ⟨b, 0, none⟩) 1 1)
    (hc : w.cell? ⟨b, 0, none⟩ = some (.int .u8 c.toNat)) (hB : B ≤ w.heap.size) (hlim : l.length < 140737488351232)
    (h : ∀ v' w', OW B w' v' (l ++ [c]) → Below B w w' → wpList Tryd.prog ops Q rest (a.put o.dst v') w') : wpList Tryd.prog ops Q (o :: rest) a w := by
  obtain ⟨i0, hi, hz0, hz1, hz2⟩ := info_parts info5
  refine wpList_append_own w hgd s x 22 ho B 5 i0 _ 1 1 Tryd.underlying22 hi hz0 hz1 hz2 rfl (by omega) sv l.length (Lib.byteCells l) hs hown ⟨b, 0, none⟩ 1 1 [.int .u8 c.toNat] hx rfl (fun j u hu => ?_) (fun u hu => ?_) (by unfold maxLen; omega) (by omega) hB (fun v' w' h1 h2 _ => ?_)
  · match j, hu with
    | 0, hu => simp at hu; subst hu; simpa [Addr.add] using hc
  · simp at hu; subst hu; rfl
  · refine h v' w' ?_ ((Below.refl B w).grown h2 hB (fun k hk => (World.ownsRow.lt hown k hk).1))
    have e : Lib.byteCells l ++ [Value.int .u8 c.toNat] = Lib.byteCells (l ++ [c]) := by simp [Lib.byteCells]
    rw [e] at h1
    simpa [OW] using h1
theorem OW.growL {B : Nat} {w w' : World} {v : Value} {l : List UInt8} (h : OW B w v l) (hb : Below w.heap.size w w') : OW B w' v l := by
  refine ⟨h.1, ?_⟩
  rcases h.2 with h1 | ⟨g, cap, cur, h1, h2, h3, h4⟩
  · exact .inl h1
  · exact .inr ⟨g, cap, cur, h1, h2, (hb.block g (Array.getElem?_eq_some_iff.1 h3).1).trans h3, h4⟩
theorem OW.allocL {B : Nat} {w : World} {v : Value} {l : List UInt8} (h : OW B w v l) (o : Obj) : OW B (w.alloc o) v l := h.growL ((Below.refl _ _).alloc (Nat.le_refl _) _)
theorem take_snocB (l : List UInt8) (k : Nat) (h : k < l.length) : l.take (k + 1) = l.take k ++ [byt l k] := by
  rw [List.take_succ_eq_append_getElem h]
  unfold byt; simp [List.getD, List.getElem?_eq_getElem h]
set_option maxHeartbeats 1000000 in
theorem twin11 (v : Value) (l : List UInt8) (w : World) (hl : l.length ≤ 140737488351232) (hr : RB w v l) :
    Calls Tryd.prog 9 #[v] w fun e w' => ∃ v, e = .returned v ∧ OW w.heap.size w' v l ∧ Below w.heap.size w w' := by
  obtain ⟨va, vc, rfl, _, hr⟩ := hr
  generalize hN : l.length = N at *
  have HN : Hid (l.length = N) := hN
  clear hN
  have HR : Hid (l = [] ∨ ∃ g o, va = some (⟨g, o, none⟩ : Addr) ∧ g < w.heap.size ∧ ∀ i, i < N → w.cell? ⟨g, o + i, none⟩ = some (.int .u8 ((byt l i).toNat : Int))) := hr
  clear hr
  go_enter Tryd.func9, Tryd.ntmps9
  go_wp2
  go_loopw [3, 4] (fun v t wr => ∃ (k : Nat) (a : Option Addr) (cp : Nat), k ≤ N ∧ t = .int .i64 k ∧ v = .slice a k cp ∧ OW w.heap.size wr v (l.take k) ∧ Below w.heap.size w wr) (fun _ t _ => N - (intOf t).toNat)
  case atStart => exact ⟨0, none, 0, Nat.zero_le _, rfl, rfl, World.ownsRow_nil _ _ _ _, Below.refl _ _⟩
  case round =>
    obtain ⟨k, a, cp, hk, rfl, rfl, hown, hbel⟩ := hrel
    by_cases hlt : k < N
    · rcases HR.out with hnil | ⟨b, off, rfl, hb, hc⟩
      · have := HN.out; rw [hnil] at this; simp at this; omega
      have hkl : k < l.length := by have := HN.out; omega
      have hck : wr.cell? ⟨b, off + k, none⟩ = some (.int .u8 ((byt l k).toNat : Int)) := (hbel.cell (p := ⟨b, off + k, none⟩) hb).trans (hc k hlt)
      have HT : Hid (l.take (k + 1) = l.take k ++ [byt l k] ∧ (l.take k).length = k) := ⟨take_snocB l k hkl, by rw [List.length_take]; omega⟩
      clear hc HR HN hkl
      generalize byt l k = y at *
      go_wp2_with (at_builtin; refine append_byteL rfl _ _ rfl rfl (hown.allocL _) wr.heap.size y rfl (by go_simp) (by have := hbel.size; simp; omega) (by rw [HT.out.2]; omega) ?_; intro v' w1 hown' hb1)
      obtain ⟨a', c', rfl⟩ := hown'.form'
      have hbel' : Below w.heap.size w w1 := (hbel.alloc hbel.size _).trans hb1
      have hlen : (l.take k ++ [y]).length = k + 1 := by rw [List.length_append, HT.out.2]; rfl
      have hown2 : OW w.heap.size w1 (.slice a' (k + 1) c') (l.take (k + 1)) := by rw [hlen] at hown'; rw [HT.out.1]; exact hown'
      clear hown hbel hb1 hown'
      go_wp2
      go_roundw
      case rel => exact ⟨k + 1, a', c', by omega, by go_num, by rw [hlen], by rw [hlen]; exact hown2, hbel'⟩
      case measure => simp [intOf]; omega
    · obtain rfl : k = N := by omega
      have hn := HN.out
      rw [List.take_of_length_le (by omega)] at hown
      go_wp2
      go_ret
      exact ⟨_, rfl, hown, hbel⟩
set_option maxHeartbeats 400000 in
theorem same9 (v1 v2 : Value) (l : List UInt8) (w : World) (hl : l.length ≤ 140737488351232) (h1 : RB w v1 l) (h2 : RB w v2 l) :
    Calls Tryd.prog 13 #[v1, v2] w fun e w' => e = .returned (.bool true) ∧ ∃ n, w' = w.drewN n := by
  obtain ⟨a1, c1, rfl, _, h1⟩ := h1
  obtain ⟨a2, c2, rfl, _, h2⟩ := h2
  have HH : Hid ((l = [] ∨ ∃ g o, a1 = some ⟨g, o, none⟩ ∧ g < w.heap.size ∧ ∀ i, i < l.length → w.cell? ⟨g, o + i, none⟩ = some (.int .u8 ((byt l i).toNat : Int))) ∧
     (l = [] ∨ ∃ g o, a2 = some ⟨g, o, none⟩ ∧ g < w.heap.size ∧ ∀ i, i < l.length → w.cell? ⟨g, o + i, none⟩ = some (.int .u8 ((byt l i).toNat : Int)))) := ⟨h1, h2⟩
  clear h1 h2
  generalize hn : l.length = n at *
  have HN : Hid (l.length = n) := hn
  clear hn
  go_enter Tryd.func13, Tryd.ntmps13
  go_wp2
  go_loopw [5] (fun i wr => ∃ k nq : Nat, k ≤ n ∧ i = .int .i64 k ∧ wr = w.drewN nq) (fun i _ => n - (intOf i).toNat)
  case atStart => exact ⟨0, 0, Nat.zero_le _, rfl, rfl⟩
  case round =>
    obtain ⟨k, nq, hk, rfl, rfl⟩ := hrel
    by_cases hlt : k < n
    · rcases HH.out.1 with h | ⟨g1, o1, rfl, _, h1⟩
      · have := HN.out; rw [h] at this; simp at this; omega
      rcases HH.out.2 with h | ⟨g2, o2, rfl, _, h2⟩
      · have := HN.out; rw [h] at this; simp at this; omega
      have g1 := h1 k hlt
      have g2 := h2 k hlt
      generalize ((byt l k).toNat : Int) = x at g1 g2
      clear h1 h2 HH HN
      go_wp2
      go_quiet (fail)
      go_wp2
      exact ⟨⟨k + 1, _, by omega, by go_num, rfl⟩, by simp [intOf]; omega⟩
    · go_wp2
      go_ret
      exact ⟨rfl, nq, rfl⟩
end Go.Proofs.YtegdlkbilgkfoaaDoor
namespace Go.Proofs.YtegdlkbilgkfoaaDoor
open Go.RowKit Go.Deep
/-- the zero value's tree -/
def t0 : T := .mk 0 0 { data := #[] } 0 (fun _ => .no) 0 (fun _ => { data := #[] }) (fun _ => .no)
theorem t0_ok : t0.ok := ⟨by show ByteArray.size _ ≤ _; decide, Nat.zero_le _, Nat.zero_le _, fun i hi => absurd hi (Nat.not_lt_zero _), fun i hi => absurd hi (Nat.not_lt_zero _)⟩
/-- what a reader answers of a text: value, place, error -/
def OUT (b : List UInt8) (t : T) (k : Nat) (er : Int) : Prop :=
  (er = 0 ∧ Run b (.go [] 0) (.val t k) ∧ b.length ≤ 1048576) ∨ (t = t0 ∧ ((Run b (.go [] 0) (.bad k er) ∧ b.length ≤ 1048576) ∨ (1048576 < b.length ∧ k = 0 ∧ er = 20)))
theorem OUT.unique {b : List UInt8} {t t' : T} {k k' : Nat} {er er' : Int} (h : OUT b t k er) (h' : OUT b t' k' er') : t = t' ∧ k = k' ∧ er = er' := by
  rcases h with ⟨rfl, h1, h2⟩ | ⟨rfl, ⟨h1, h2⟩ | ⟨h1, rfl, rfl⟩⟩
  · rcases h' with ⟨rfl, g1, g2⟩ | ⟨rfl, ⟨g1, g2⟩ | ⟨g1, rfl, rfl⟩⟩
    · have := Run.unique h1 g1 trivial trivial
      injection this with e1 e2
      exact ⟨e1, e2, rfl⟩
    · have := Run.unique h1 g1 trivial trivial
      cases this
    · omega
  · rcases h' with ⟨rfl, g1, g2⟩ | ⟨rfl, ⟨g1, g2⟩ | ⟨g1, rfl, rfl⟩⟩
    · have := Run.unique h1 g1 trivial trivial
      cases this
    · have := Run.unique h1 g1 trivial trivial
      injection this with e1 e2
      exact ⟨rfl, e1, e2⟩
    · omega
  · rcases h' with ⟨rfl, g1, g2⟩ | ⟨rfl, ⟨g1, g2⟩ | ⟨g1, rfl, rfl⟩⟩
    · omega
    · omega
    · exact ⟨rfl, rfl, rfl⟩
theorem rv_t0 (S : Nat → Prop) (w : World) : RV S w t0 (.slice none 0 0) (.slice none 0 0) :=
  ⟨⟨none, 0, rfl, .inl rfl⟩, ⟨none, 0, rfl, .inl rfl⟩⟩
def EVw (w : World) : Prop := (∃ t p, w.cell? ⟨2, 0, none⟩ = some (.iface t p)) ∧ ∃ t p, w.cell? ⟨3, 0, none⟩ = some (.iface t p)
theorem EVw.keep {w w' : World} (h : EVw w) (hb : Below w.heap.size w w') : EVw w' := by
  obtain ⟨⟨t, p, h1⟩, ⟨t', p', h2⟩⟩ := h
  exact ⟨⟨t, p, (hb.cell (World.block_lt_of_cell? w _ h1)).trans h1⟩, ⟨t', p', (hb.cell (World.block_lt_of_cell? w _ h2)).trans h2⟩⟩
set_option maxRecDepth 10000 in
set_option maxHeartbeats 4000000 in
theorem prefix12 (v : Value) (b : List UInt8) (w : World) (hr : RB w v b) (hev : EVw w) :
    Calls Tryd.prog 20 #[v] w fun e w' => ∃ t x y k er, e = .returned (.tuple #[vv t x y, .int .i64 (k : Nat), .int .i64 er]) ∧ RV (fun _ => True) w' t x y ∧ t.ok ∧ OUT b t k er ∧ Below w.heap.size w w' := by
  have hb0 : Below w.heap.size w (w.alloc (Obj.cells #[.int .i64 0, .int .i64 0, .string { data := #[] }, .slice none 0 0, .slice none 0 0] 27)) := (Below.refl _ _).alloc (Nat.le_refl _) _
  have HX : Hid (obj (w.alloc (Obj.cells #[.int .i64 0, .int .i64 0, .string { data := #[] }, .slice none 0 0, .slice none 0 0] 27)) w.heap.size (.int .i64 0) (.int .i64 0) (.string { data := #[] }) (.slice none 0 0) (.slice none 0 0) ∧ Below w.heap.size w (w.alloc (Obj.cells #[.int .i64 0, .int .i64 0, .string { data := #[] }, .slice none 0 0, .slice none 0 0] 27)) ∧ (w.alloc (Obj.cells #[.int .i64 0, .int .i64 0, .string { data := #[] }, .slice none 0 0, .slice none 0 0] 27)).heap.size = w.heap.size + 1 ∧ RB (w.alloc (Obj.cells #[.int .i64 0, .int .i64 0, .string { data := #[] }, .slice none 0 0, .slice none 0 0] 27)) v b ∧ EVw (w.alloc (Obj.cells #[.int .i64 0, .int .i64 0, .string { data := #[] }, .slice none 0 0, .slice none 0 0] 27))) :=
    ⟨heap_new _ _, hb0, by simp, hr.keep hb0, hev.keep hb0⟩
  clear hb0 hev
  obtain ⟨a, c, rfl, _⟩ := hr
  go_enter Tryd.func20, Tryd.ntmps20
  go_wp2_with fail
  generalize (w.alloc (Obj.cells #[.int .i64 0, .int .i64 0, .string { data := #[] }, .slice none 0 0, .slice none 0 0] 27)) = w0 at *
  generalize hH : w.heap.size = H at *
  have HH := Lib.hid hH
  clear hH
  obtain ⟨a', c', hv', hcap, hx⟩ := HX.out.2.2.2.1
  injection hv' with e1 e2 e3
  subst e1 e3
  refine (read20 a c b w0 hcap HX.out.2.2.2.2 hx).mono ?_
  rintro e w2 ⟨hb2, hp⟩
  have OB : Hid (obj w2 H (.int .i64 0) (.int .i64 0) (.string { data := #[] }) (.slice none 0 0) (.slice none 0 0) ∧ Below H w w2) := by
    obtain ⟨q1, q2, q3, _⟩ := HX.out
    exact ⟨q1.keep (hb2.block _ q1.lt), q2.trans (hb2.mono (by omega))⟩
  obtain ⟨c0, c1, c2, c3, c4⟩ := OB.out.1.cells
  have cf0 := OB.out.1.frozen 0
  have cf1 := OB.out.1.frozen 1
  have cf2 := OB.out.1.frozen 2
  have cf3 := OB.out.1.frozen 3
  have cf4 := OB.out.1.frozen 4
  have hsz := HX.out.2.2.1
  clear HX hx hb2
  rcases hp with ⟨t, x, y, j, rfl, hrv, htok, hrun, hlen⟩ | ⟨p, er, rfl, hbad⟩
  · obtain ⟨⟨xa, xn, xc, rfl⟩, ⟨ya, yn, yc, rfl⟩⟩ := hrv.slices
    have HE : Hid (RV (fun x => w0.heap.size ≤ x) w2 t (.slice xa xn xc) (.slice ya yn yc) ∧ TOK t ∧ Run b (.go [] 0) (.val t j) ∧ b.length ≤ 1048576) := ⟨hrv, htok, hrun, hlen⟩
    clear hrv htok hrun hlen
    unfold vv
    go_wp2
    refine bodyPost_ret (v := .tuple #[vv t (.slice xa xn xc) (.slice ya yn yc), .int .i64 (j : Nat), .int .i64 0]) (results_cell3 Tryd.results20 _ _ H _ rfl (((((OB.out.1.set0 _).set1 _).set2 _).set3 _).set4 _) rfl) rfl ?_
    refine ⟨t, _, _, j, 0, rfl, ?_, HE.out.2.1.2.2, .inl ⟨rfl, HE.out.2.2⟩, by rw [HH.out]; exact below_set5 OB.out.2⟩
    refine RV.keep (w := w2) (fun _ _ => trivial) (by simp) (fun k hk hl => ?_) _ _ _ HE.out.1
    have hn : k ≠ H := by omega
    rw [Below.heap_setCell _ _ _ _ hn, Below.heap_setCell _ _ _ _ hn, Below.heap_setCell _ _ _ _ hn, Below.heap_setCell _ _ _ _ hn, Below.heap_setCell _ _ _ _ hn]
  · have HE : Hid ((Run b (.go [] 0) (.bad p er) ∧ b.length ≤ 1048576) ∨ (1048576 < b.length ∧ p = 0 ∧ er = 20)) := hbad
    clear hbad
    go_wp2
    refine bodyPost_ret (v := .tuple #[vv t0 (.slice none 0 0) (.slice none 0 0), .int .i64 (p : Nat), .int .i64 er]) (results_cell3 Tryd.results20 _ _ H _ rfl (((((OB.out.1.set0 _).set1 _).set2 _).set3 _).set4 _) rfl) rfl ?_
    exact ⟨t0, _, _, p, er, rfl, rv_t0 _ _, t0_ok, .inr ⟨rfl, HE.out⟩, by rw [HH.out]; exact below_set5 OB.out.2⟩
end Go.Proofs.YtegdlkbilgkfoaaDoor
namespace Go.Proofs.YtegdlkbilgkfoaaDoor
open Go.RowKit Go.Deep
/-- what Decode answers of a text: value, place, error -/
def DOUT (b : List UInt8) (t : T) (k : Nat) (er : Int) : Prop :=
  (er = 0 ∧ k = 0 ∧ b.length ≤ 1048576 ∧ ∃ n, Run b (.go [] 0) (.val t n) ∧ b.length ≤ n) ∨
  (t = t0 ∧ ((er = 26 ∧ k < b.length ∧ b.length ≤ 1048576 ∧ ∃ u, Run b (.go [] 0) (.val u k)) ∨ (Run b (.go [] 0) (.bad k er) ∧ b.length ≤ 1048576) ∨ (1048576 < b.length ∧ k = 0 ∧ er = 20)))
theorem DOUT.unique {b : List UInt8} {t t' : T} {k k' : Nat} {er er' : Int} (h : DOUT b t k er) (h' : DOUT b t' k' er') : t = t' ∧ k = k' ∧ er = er' := by
  rcases h with ⟨rfl, rfl, h2, n, h1, h3⟩ | ⟨rfl, ⟨rfl, h3, h2, u, h1⟩ | ⟨h1, h2⟩ | ⟨h1, rfl, rfl⟩⟩
  · rcases h' with ⟨rfl, rfl, g2, m, g1, g3⟩ | ⟨rfl, ⟨rfl, g3, g2, u', g1⟩ | ⟨g1, g2⟩ | ⟨g1, rfl, rfl⟩⟩
    · have := Run.unique h1 g1 trivial trivial
      injection this with e1 e2
      exact ⟨e1, rfl, rfl⟩
    · have := Run.unique h1 g1 trivial trivial
      injection this with e1 e2
      omega
    · have := Run.unique h1 g1 trivial trivial
      cases this
    · omega
  · rcases h' with ⟨rfl, rfl, g2, m, g1, g3⟩ | ⟨rfl, ⟨rfl, g3, g2, u', g1⟩ | ⟨g1, g2⟩ | ⟨g1, rfl, rfl⟩⟩
    · have := Run.unique h1 g1 trivial trivial
      injection this with e1 e2
      omega
    · have := Run.unique h1 g1 trivial trivial
      injection this with e1 e2
      exact ⟨rfl, e2, rfl⟩
    · have := Run.unique h1 g1 trivial trivial
      cases this
    · omega
  · rcases h' with ⟨rfl, rfl, g2, m, g1, g3⟩ | ⟨rfl, ⟨rfl, g3, g2, u', g1⟩ | ⟨g1, g2⟩ | ⟨g1, rfl, rfl⟩⟩
    · have := Run.unique h1 g1 trivial trivial
      cases this
    · have := Run.unique h1 g1 trivial trivial
      cases this
    · have := Run.unique h1 g1 trivial trivial
      injection this with e1 e2
      exact ⟨rfl, e1, e2⟩
    · omega
  · rcases h' with ⟨rfl, rfl, g2, m, g1, g3⟩ | ⟨rfl, ⟨rfl, g3, g2, u', g1⟩ | ⟨g1, g2⟩ | ⟨g1, rfl, rfl⟩⟩
    · omega
    · omega
    · omega
    · exact ⟨rfl, rfl, rfl⟩
theorem step_er {b : List UInt8} {st : List Fr} {i p : Nat} {e : Int} (h : step b st i = .bad p e) : 21 ≤ e ∧ e ≤ 25 := by
  have hscal : ∀ st, scal b st i = .bad p e → 21 ≤ e ∧ e ≤ 25 := by
    intro st h
    unfold scal at h
    split at h
    · cases hn : numb b i with
      | ok n j => rw [hn] at h; cases st <;> cases h
      | bad p' e' => rw [hn] at h; cases h; have := numb_er hn; omega
    · split at h
      · cases hn : strg b i with
        | ok n j => rw [hn] at h; cases st <;> cases h
        | bad p' e' => rw [hn] at h; cases h; have := strg_er hn; omega
      · cases h; omega
  have hopn : ∀ st, opn b st i = .bad p e → 21 ≤ e ∧ e ≤ 25 := by
    intro st h
    unfold opn at h
    split at h
    · split at h
      · cases h; omega
      · cases h
    · split at h
      · split at h
        · cases h; omega
        · cases h
      · exact hscal st h
  unfold step at h
  split at h
  · cases h; omega
  · match st with
    | [] => exact hopn _ h
    | f :: r =>
      dsimp only at h
      split at h
      · split at h
        · cases r <;> cases h
        · unfold keyy at h
          split at h
          · cases h; omega
          · cases hn : strg b i with
            | ok n j =>
              rw [hn] at h
              dsimp only at h
              split at h
              · cases h; omega
              · cases h
            | bad p' e' => rw [hn] at h; cases h; have := strg_er hn; omega
      · split at h
        · cases r <;> cases h
        · exact hopn _ h
theorem run_er0 {b : List UInt8} {o q : Out} (h : Run b o q) : (∀ k er, o = .bad k er → 21 ≤ er ∧ er ≤ 25) → ∀ k er, q = .bad k er → 21 ≤ er ∧ er ≤ 25 := by
  induction h with
  | refl o => exact fun h => h
  | more _ ih => exact fun _ => ih fun k er he => step_er he
theorem run_er {b : List UInt8} {st : List Fr} {i k : Nat} {er : Int} (h : Run b (.go st i) (.bad k er)) : 21 ≤ er ∧ er ≤ 25 :=
  run_er0 h (fun k er he => by cases he) k er rfl
theorem out_good {b : List UInt8} {t : T} {k : Nat} (h : OUT b t k 0) : Run b (.go [] 0) (.val t k) ∧ b.length ≤ 1048576 := by
  rcases h with ⟨_, h1, h2⟩ | ⟨_, ⟨h1, _⟩ | ⟨_, _, h3⟩⟩
  · exact ⟨h1, h2⟩
  · exact absurd (run_er h1).1 (by omega)
  · omega
theorem out_bad {b : List UInt8} {t : T} {k : Nat} {er : Int} (h : OUT b t k er) (he : er ≠ 0) : DOUT b t0 k er := by
  rcases h with ⟨h0, _⟩ | ⟨rfl, ⟨h1, h2⟩ | ⟨h1, h2, h3⟩⟩
  · exact absurd h0 he
  · exact .inr ⟨rfl, .inr (.inl ⟨h1, h2⟩)⟩
  · exact .inr ⟨rfl, .inr (.inr ⟨h1, h2, h3⟩)⟩
theorem objAlloc {w : World} {b : Nat} {c0 c1 c2 c3 c4 : Value} (h : obj w b c0 c1 c2 c3 c4) (o : Obj) : obj (w.alloc o) b c0 c1 c2 c3 c4 := h.keep (Below.heap_alloc _ _ _ h.lt)
theorem readO (v : Value) (b : List UInt8) (w : World) (hr : RB w v b) (hev : EVw w) :
    Calls Tryd.prog 23 #[v] w fun e w' => ∃ t x y k er, e = .returned (.tuple #[vv t x y, .int .i64 (k : Nat), .int .i64 er]) ∧ RV (fun x => w.heap.size ≤ x) w' t x y ∧ t.ok ∧ OUT b t k er ∧ Below w.heap.size w w' := by
  obtain ⟨a, c, rfl, hcap, hx⟩ := hr
  refine (read20 a c b w hcap hev hx).mono ?_
  rintro e w' ⟨hb, hp⟩
  rcases hp with ⟨t, x, y, j, rfl, hrv, htok, hrun, hlen⟩ | ⟨p, er, rfl, hbad⟩
  · exact ⟨t, x, y, j, 0, rfl, hrv, htok.2.2, .inl ⟨rfl, hrun, hlen⟩, hb⟩
  · exact ⟨t0, _, _, p, er, rfl, rv_t0 _ _, t0_ok, .inr ⟨rfl, hbad⟩, hb⟩
set_option maxRecDepth 10000 in
set_option maxHeartbeats 4000000 in
theorem decode10 (v : Value) (b : List UInt8) (w : World) (hr : RB w v b) (hev : EVw w) :
    Calls Tryd.prog 10 #[v] w fun e w' => ∃ t x y k er, e = .returned (.tuple #[vv t x y, .int .i64 (k : Nat), .int .i64 er]) ∧ RV (fun _ => True) w' t x y ∧ t.ok ∧ DOUT b t k er ∧ Below w.heap.size w w' := by
  have hb0 : Below w.heap.size w (w.alloc (Obj.cells #[.int .i64 0, .int .i64 0, .string { data := #[] }, .slice none 0 0, .slice none 0 0] 27)) := (Below.refl _ _).alloc (Nat.le_refl _) _
  have HX : Hid (obj (w.alloc (Obj.cells #[.int .i64 0, .int .i64 0, .string { data := #[] }, .slice none 0 0, .slice none 0 0] 27)) w.heap.size (.int .i64 0) (.int .i64 0) (.string { data := #[] }) (.slice none 0 0) (.slice none 0 0) ∧ Below w.heap.size w (w.alloc (Obj.cells #[.int .i64 0, .int .i64 0, .string { data := #[] }, .slice none 0 0, .slice none 0 0] 27)) ∧ (w.alloc (Obj.cells #[.int .i64 0, .int .i64 0, .string { data := #[] }, .slice none 0 0, .slice none 0 0] 27)).heap.size = w.heap.size + 1 ∧ RB (w.alloc (Obj.cells #[.int .i64 0, .int .i64 0, .string { data := #[] }, .slice none 0 0, .slice none 0 0] 27)) v b ∧ EVw (w.alloc (Obj.cells #[.int .i64 0, .int .i64 0, .string { data := #[] }, .slice none 0 0, .slice none 0 0] 27))) :=
    ⟨heap_new _ _, hb0, by simp, hr.keep hb0, hev.keep hb0⟩
  clear hb0 hev
  obtain ⟨a, c, rfl, _⟩ := hr
  go_enter Tryd.func10, Tryd.ntmps10
  go_wp2_with fail
  generalize (w.alloc (Obj.cells #[.int .i64 0, .int .i64 0, .string { data := #[] }, .slice none 0 0, .slice none 0 0] 27)) = w0 at *
  generalize hH : w.heap.size = H at *
  have HH := Lib.hid hH
  clear hH
  refine (readO _ b _ HX.out.2.2.2.1 HX.out.2.2.2.2).mono ?_
  rintro e w2 ⟨t, x, y, k, er, rfl, hrv, htok, hout, hb2⟩
  obtain ⟨⟨xa, xn, xc, rfl⟩, ⟨ya, yn, yc, rfl⟩⟩ := hrv.slices
  have O2 : Hid (obj w2 H (.int .i64 0) (.int .i64 0) (.string { data := #[] }) (.slice none 0 0) (.slice none 0 0) ∧ Below H w w2 ∧ H < w0.heap.size ∧ RV (fun x => w0.heap.size ≤ x) w2 t (.slice xa xn xc) (.slice ya yn yc)) := by
    obtain ⟨q1, q2, q3, _⟩ := HX.out
    exact ⟨q1.keep (hb2.block _ q1.lt), q2.trans (hb2.mono (by omega)), q1.lt, hrv⟩
  have HO := Lib.hid hout
  have HT := Lib.hid htok
  obtain ⟨c0, c1, c2, c3, c4⟩ := O2.out.1.cells
  have cf0 := O2.out.1.frozen 0
  have cf1 := O2.out.1.frozen 1
  have cf2 := O2.out.1.frozen 2
  have cf3 := O2.out.1.frozen 3
  have cf4 := O2.out.1.frozen 4
  have hlt : H < w2.heap.size := O2.out.1.lt
  clear HX hrv hout hb2 htok
  unfold vv
  by_cases he : er = 0
  · subst he
    have HG := Lib.hid (out_good HO.out)
    by_cases hk : k < b.length
    · have hki : (k : Int) < (b.length : Int) := by omega
      go_wp2
      refine bodyPost_ret (v := .tuple #[vv t0 (.slice none 0 0) (.slice none 0 0), .int .i64 (k : Nat), .int .i64 26]) (results_cell3 Tryd.results10 _ _ H _ rfl (objAlloc (((((O2.out.1.set0 _).set1 _).set2 _).set3 _).set4 _) _) rfl) rfl ?_
      exact ⟨t0, _, _, k, 26, rfl, rv_t0 _ _, t0_ok, .inr ⟨rfl, .inl ⟨rfl, hk, HG.out.2, t, HG.out.1⟩⟩, by rw [HH.out]; exact (below_set5 O2.out.2.1).alloc (by simp [World.setCell]; omega) _⟩
    · have hki : ¬ (k : Int) < (b.length : Int) := by omega
      go_wp2
      refine bodyPost_ret (v := .tuple #[vv t (.slice xa xn xc) (.slice ya yn yc), .int .i64 ((0 : Nat) : Int), .int .i64 0]) (results_cell3 Tryd.results10 _ _ H _ rfl (objAlloc (((((O2.out.1.set0 _).set1 _).set2 _).set3 _).set4 _) _) rfl) rfl ?_
      refine ⟨t, _, _, 0, 0, rfl, ?_, HT.out, .inl ⟨rfl, rfl, HG.out.2, k, HG.out.1, by omega⟩, by rw [HH.out]; exact (below_set5 O2.out.2.1).alloc (by simp [World.setCell]; omega) _⟩
      refine RV.keep (w := w2) (fun _ _ => trivial) (by simp [World.setCell]) (fun k hk hl => ?_) _ _ _ O2.out.2.2.2
      have hn : k ≠ H := by have h1 := O2.out.2.2.1; have h2 : w0.heap.size ≤ k := hk; omega
      rw [Below.heap_alloc _ _ _ (by simp [World.setCell]; exact hl), Below.heap_setCell _ _ _ _ hn, Below.heap_setCell _ _ _ _ hn, Below.heap_setCell _ _ _ _ hn, Below.heap_setCell _ _ _ _ hn, Below.heap_setCell _ _ _ _ hn]
  · have he' : (er == 0) = false := beq_eq_false_iff_ne.2 he
    have HG := Lib.hid (out_bad HO.out he)
    go_wp2
    refine bodyPost_ret (v := .tuple #[vv t0 (.slice none 0 0) (.slice none 0 0), .int .i64 (k : Nat), .int .i64 er]) (results_cell3 Tryd.results10 _ _ H _ rfl (objAlloc (((((O2.out.1.set0 _).set1 _).set2 _).set3 _).set4 _) _) rfl) rfl ?_
    exact ⟨t0, _, _, k, er, rfl, rv_t0 _ _, t0_ok, HG.out, by rw [HH.out]; exact (below_set5 O2.out.2.1).alloc (by simp [World.setCell]; omega) _⟩
end Go.Proofs.YtegdlkbilgkfoaaDoor
namespace Go.Proofs.YtegdlkbilgkfoaaDoor
open Go.RowKit Go.Deep
/-! ### A text and what follows it -/
theorem byt_app {b m : List UInt8} {i : Nat} (h : i < b.length) : byt (b ++ m) i = byt b i := by
  simp [byt, List.getD, List.getElem?_append_left h]
theorem run_app {b m : List UInt8} {i : Nat} (h : i + run b i < b.length) : run (b ++ m) i = run b i := by
  unfold run at h ⊢
  rw [List.drop_append_of_le_length (by omega), List.takeWhile_append, if_neg (by rw [List.length_drop]; omega)]
theorem cut_app {b m : List UInt8} {i j : Nat} (hj : j ≤ b.length) : cut (b ++ m) i j = cut b i j := by
  unfold cut
  by_cases hi : i ≤ b.length
  · rw [List.drop_append_of_le_length hi, List.take_append_of_le_length (by rw [List.length_drop]; omega)]
  · rw [show j - i = 0 by omega]; simp
theorem digs_ext {b m : List UInt8} {en : UInt8} {i : Nat} (h : ∀ p, digs b en i ≠ .bad p 21) : digs (b ++ m) en i = digs b en i := by
  have hl : ¬ b.length ≤ i + run b i := fun e => h b.length (by unfold digs; rw [if_pos e])
  have hr := run_app (m := m) (show i + run b i < b.length by omega)
  unfold digs
  rw [hr, if_neg hl, if_neg (by rw [List.length_append]; omega), byt_app (by omega), cut_app (by omega)]
theorem digs_okx {b : List UInt8} {en : UInt8} {i j : Nat} {d : List UInt8} (h : digs b en i = .ok d j) : i < j ∧ j ≤ b.length := by
  unfold digs at h
  split at h
  · cases h
  · split at h
    · cases h
    · injection h with _ h2; omega
theorem strg_ext {b m : List UInt8} {i : Nat} (h : ∀ p, strg b i ≠ .bad p 21) : strg (b ++ m) i = strg b i := by
  have hd : ∀ p, digs b 58 i ≠ .bad p 21 := fun p e => h p (by unfold strg; rw [e])
  have e := digs_ext (m := m) hd
  unfold strg at h ⊢
  rw [e]
  cases hd2 : digs b 58 i with
  | bad p e => rfl
  | ok d j =>
    rw [hd2] at h
    dsimp only at h ⊢
    have hj := (digs_okx hd2).2
    by_cases hp : padd d = true
    · rw [if_pos hp, if_pos hp]
    · rw [if_neg hp] at h
      rw [if_neg hp, if_neg hp]
      cases ha : Lib.atoiAll d with
      | ok n =>
        rw [ha] at h
        dsimp only at h ⊢
        have hn : ¬ (b.length : Int) - j < n := fun e => h b.length (by rw [if_pos e])
        rw [if_neg hn, if_neg (by rw [List.length_append]; omega), cut_app (by omega)]
      | «syntax» => rw [ha] at h; exact absurd rfl (h b.length)
      | range => rw [ha] at h; exact absurd rfl (h b.length)
theorem numb_ext {b m : List UInt8} {i : Nat} (h : ∀ p, numb b i ≠ .bad p 21) : numb (b ++ m) i = numb b i := by
  have hl : ¬ b.length ≤ i + 1 := fun e => h b.length (by rw [numb, if_pos e])
  have hl2 : i + 1 < b.length := by omega
  rw [numb_sg hl2] at h ⊢
  rw [numb_sg (by rw [List.length_append]; omega), byt_app hl2]
  generalize (if byt b (i + 1) = 45 then [45] else [] : List UInt8) = sg at h ⊢
  rw [digs_ext (fun p e => h p (by rw [e]))]
theorem scal_ext {b m : List UInt8} {st : List Fr} {i : Nat} (hi : i < b.length) (h : ∀ p, scal b st i ≠ .bad p 21) : scal (b ++ m) st i = scal b st i := by
  unfold scal at h ⊢
  rw [byt_app hi]
  by_cases h1 : byt b i = 105
  · rw [if_pos h1] at h
    rw [if_pos h1, if_pos h1, numb_ext (fun p e => h p (by rw [e]))]
  · rw [if_neg h1] at h
    rw [if_neg h1, if_neg h1]
    by_cases h2 : dig (byt b i) = true
    · rw [if_pos h2] at h
      rw [if_pos h2, if_pos h2, strg_ext (fun p e => h p (by rw [e]))]
    · rw [if_neg h2, if_neg h2]
theorem opn_ext {b m : List UInt8} {st : List Fr} {i : Nat} (hi : i < b.length) (h : ∀ p, opn b st i ≠ .bad p 21) : opn (b ++ m) st i = opn b st i := by
  unfold opn at h ⊢
  rw [byt_app hi]
  by_cases h1 : byt b i = 108
  · rw [if_pos h1, if_pos h1]
  · rw [if_neg h1] at h
    rw [if_neg h1, if_neg h1]
    by_cases h2 : byt b i = 100
    · rw [if_pos h2, if_pos h2]
    · rw [if_neg h2] at h
      rw [if_neg h2, if_neg h2]
      exact scal_ext hi h
theorem keyy_ext {b m : List UInt8} {f : Fr} {r : List Fr} {i : Nat} (hi : i < b.length) (h : ∀ p, keyy b f r i ≠ .bad p 21) : keyy (b ++ m) f r i = keyy b f r i := by
  unfold keyy at h ⊢
  rw [byt_app hi]
  by_cases h1 : dig (byt b i) = false
  · rw [if_pos h1, if_pos h1]
  · rw [if_neg h1] at h
    rw [if_neg h1, if_neg h1, strg_ext (fun p e => h p (by rw [e]))]
theorem step_ext {b m : List UInt8} {st : List Fr} {i : Nat} (h : ∀ p, step b st i ≠ .bad p 21) : step (b ++ m) st i = step b st i := by
  have hl : ¬ b.length ≤ i := fun e => h b.length (by unfold step; rw [if_pos e])
  have hi : i < b.length := by omega
  unfold step at h ⊢
  rw [if_neg hl] at h
  rw [if_neg hl, if_neg (by rw [List.length_append]; omega)]
  match st with
  | [] => exact opn_ext hi h
  | f :: r =>
    dsimp only at h ⊢
    rw [byt_app hi]
    by_cases h1 : f.d = true ∧ f.has = false
    · rw [if_pos h1] at h
      rw [if_pos h1, if_pos h1]
      by_cases h2 : byt b i = 101
      · rw [if_pos h2, if_pos h2]
      · rw [if_neg h2] at h
        rw [if_neg h2, if_neg h2]
        exact keyy_ext hi h
    · rw [if_neg h1] at h
      rw [if_neg h1, if_neg h1]
      by_cases h2 : f.d = false ∧ byt b i = 101
      · rw [if_pos h2, if_pos h2]
      · rw [if_neg h2] at h
        rw [if_neg h2, if_neg h2]
        exact opn_ext hi h
theorem run_ext {b m : List UInt8} {o q : Out} (h : Run b o q) (hq : ∀ p, q ≠ .bad p 21) : Run (b ++ m) o q := by
  induction h with
  | refl o => exact .refl o
  | @more st i o h ih =>
    refine .more ?_
    rw [step_ext]
    · exact ih hq
    · intro p e
      rw [e] at h
      cases h with
      | refl => exact hq p rfl
/-- the place of a fault -/
def Fp (b : List UInt8) (p : Nat) (e : Int) : Prop := (e = 21 ∧ p = b.length) ∨ (e ≠ 21 ∧ p < b.length)
theorem digs_fp {b : List UInt8} {en : UInt8} {i p : Nat} {e : Int} (h : digs b en i = .bad p e) : Fp b p e := by
  unfold digs at h
  split at h
  · injection h with h1 h2; exact .inl ⟨h2.symm, h1.symm⟩
  · split at h
    · injection h with h1 h2; exact .inr ⟨by omega, by omega⟩
    · cases h
theorem strg_fp {b : List UInt8} {i p : Nat} {e : Int} (hi : i < b.length) (h : strg b i = .bad p e) : Fp b p e := by
  unfold strg at h
  cases hd : digs b 58 i with
  | bad p' e' => rw [hd] at h; injection h with h1 h2; subst h1 h2; exact digs_fp hd
  | ok d j =>
    rw [hd] at h
    dsimp only at h
    split at h
    · injection h with h1 h2; exact .inr ⟨by omega, by omega⟩
    · split at h
      · split at h
        · injection h with h1 h2; exact .inl ⟨h2.symm, h1.symm⟩
        · cases h
      · injection h with h1 h2; exact .inl ⟨h2.symm, h1.symm⟩
theorem numb_fp {b : List UInt8} {i p : Nat} {e : Int} (hi : i < b.length) (h : numb b i = .bad p e) : Fp b p e := by
  by_cases hl : i + 1 < b.length
  · rw [numb_sg hl] at h
    generalize (if byt b (i + 1) = 45 then [45] else [] : List UInt8) = sg at h
    cases hd : digs b 101 (i + 1 + sg.length) with
    | bad p' e' => rw [hd] at h; injection h with h1 h2; subst h1 h2; exact digs_fp hd
    | ok d k =>
      rw [hd] at h
      dsimp only at h
      split at h
      · split at h
        · injection h with h1 h2; exact .inr ⟨by omega, by omega⟩
        · cases h
      · injection h with h1 h2; exact .inr ⟨by omega, by omega⟩
  · rw [numb, if_pos (by omega)] at h; injection h with h1 h2; exact .inl ⟨h2.symm, h1.symm⟩
theorem opn_fp {b : List UInt8} {st : List Fr} {i p : Nat} {e : Int} (hi : i < b.length) (h : opn b st i = .bad p e) : Fp b p e := by
  unfold opn at h
  split at h
  · split at h
    · injection h with h1 h2; exact .inr ⟨by omega, by omega⟩
    · cases h
  · split at h
    · split at h
      · injection h with h1 h2; exact .inr ⟨by omega, by omega⟩
      · cases h
    · unfold scal at h
      split at h
      · cases hn : numb b i with
        | ok n j => rw [hn] at h; cases st <;> cases h
        | bad p' e' => rw [hn] at h; injection h with h1 h2; subst h1 h2; exact numb_fp hi hn
      · split at h
        · cases hn : strg b i with
          | ok n j => rw [hn] at h; cases st <;> cases h
          | bad p' e' => rw [hn] at h; injection h with h1 h2; subst h1 h2; exact strg_fp hi hn
        · injection h with h1 h2; exact .inr ⟨by omega, by omega⟩
theorem step_fp {b : List UInt8} {st : List Fr} {i p : Nat} {e : Int} (h : step b st i = .bad p e) : Fp b p e := by
  unfold step at h
  split at h
  · injection h with h1 h2; exact .inl ⟨h2.symm, h1.symm⟩
  · have hi : i < b.length := by omega
    match st with
    | [] => exact opn_fp hi h
    | f :: r =>
      dsimp only at h
      split at h
      · split at h
        · cases r <;> cases h
        · unfold keyy at h
          split at h
          · injection h with h1 h2; exact .inr ⟨by omega, by omega⟩
          · cases hn : strg b i with
            | ok n j =>
              rw [hn] at h
              dsimp only at h
              split at h
              · injection h with h1 h2; exact .inr ⟨by omega, by omega⟩
              · cases h
            | bad p' e' => rw [hn] at h; injection h with h1 h2; subst h1 h2; exact strg_fp hi hn
      · split at h
        · cases r <;> cases h
        · exact opn_fp hi h
theorem run_fp0 {b : List UInt8} {o q : Out} (h : Run b o q) : (∀ k er, o = .bad k er → Fp b k er) → ∀ k er, q = .bad k er → Fp b k er := by
  induction h with
  | refl o => exact fun h => h
  | more _ ih => exact fun _ => ih fun k er he => step_fp he
theorem run_fp {b : List UInt8} {st : List Fr} {i k : Nat} {er : Int} (h : Run b (.go st i) (.bad k er)) : Fp b k er :=
  run_fp0 h (fun k er he => by cases he) k er rfl
/-- what the law says of a decoding -/
theorem dout_cases {b : List UInt8} {t : T} {k : Nat} {er : Int} (h : DOUT b t k er) :
    (er = 0 ∧ k = 0) ∨ (er = 20 ∧ k = 0 ∧ 1048576 < b.length) ∨ (er = 21 ∧ k = b.length ∧ b.length ≤ 1048576) ∨
    (22 ≤ er ∧ er ≤ 26 ∧ k < b.length ∧ b.length ≤ 1048576 ∧ ∀ m, (b ++ m).length ≤ 1048576 → DOUT (b ++ m) t0 k er) := by
  rcases h with ⟨rfl, rfl, _⟩ | ⟨rfl, ⟨rfl, h3, h2, u, h1⟩ | ⟨h1, h2⟩ | ⟨h1, rfl, rfl⟩⟩
  · exact .inl ⟨rfl, rfl⟩
  · exact .inr (.inr (.inr ⟨by omega, by omega, h3, h2, fun m hm => .inr ⟨rfl, .inl ⟨rfl, by rw [List.length_append]; omega, hm, u, run_ext h1 (fun p e => by cases e)⟩⟩⟩))
  · have hr := run_er h1
    rcases run_fp h1 with ⟨rfl, hk⟩ | ⟨h21, hk⟩
    · exact .inr (.inr (.inl ⟨rfl, hk, h2⟩))
    · exact .inr (.inr (.inr ⟨by omega, by omega, hk, h2, fun m hm => .inr ⟨rfl, .inr (.inl ⟨run_ext h1 (fun p e => by injection e with _ e2; exact h21 e2), hm⟩)⟩⟩))
  · exact .inr (.inl ⟨rfl, rfl, h1⟩)
end Go.Proofs.YtegdlkbilgkfoaaDoor
namespace Go.Proofs.YtegdlkbilgkfoaaDoor
open Go.RowKit Go.Deep
def catN (f : Nat → List UInt8) : Nat → List UInt8
  | 0 => []
  | n + 1 => catN f n ++ f n
/-- the text of a string -/
def wtx (s : ByteArray) : List UInt8 := Lib.itoa s.size ++ 58 :: s.data.toList
/-- the text of a value -/
def txt : T → List UInt8
  | .no => []
  | .mk k n s ln l dn ky dv => if k = 1 then 105 :: (Lib.itoa n ++ [101]) else if k = 2 then wtx s else if k = 3 then 108 :: (catN (fun i => txt (l i)) ln ++ [101]) else 100 :: (catN (fun i => wtx (ky i) ++ txt (dv i)) dn ++ [101])
/-- the numbers are ints, the lists are not too long -/
def T.rng : T → Prop
  | .no => True
  | .mk _ n _ ln l dn _ dv => -9223372036854775808 ≤ n ∧ n ≤ 9223372036854775807 ∧ ln ≤ 2147483647 ∧ dn ≤ 2147483647 ∧ (∀ i, i < ln → (l i).rng) ∧ (∀ i, i < dn → (dv i).rng)
theorem OW.alloc {B : Nat} {w : World} {v : Value} {l : List UInt8} (h : OW B w v l) (o : Obj) : OW B (w.alloc o) v l := World.ownsRow.alloc h o
theorem TB.on {B : Nat} {w w' : World} (h : TB B w) (hb : Below B w w') : TB B w' := Lib.TabBelow.on h hb
set_option maxHeartbeats 1000000 in
theorem number96 (B : Nat) (n : Int) (h0 : -9223372036854775808 ≤ n) (h1 : n ≤ 9223372036854775807) (sv : Value) (l : List UInt8) (w : World) (hown : OW B w sv l) (hB : B ≤ w.heap.size) (hT : TB B w) (hlim : l.length ≤ 100000000000000) :
    Calls Tryd.prog 115 #[.int .i64 n, sv] w fun e w' => ∃ v', e = .returned v' ∧ OW B w' v' (l ++ 105 :: (Lib.itoa n ++ [101])) ∧ BW B w w' := by
  have hlen := Lib.itoa_length_le n h0 h1
  go_enter Tryd.func115, Tryd.ntmps115
  go_wp2_with (at_builtin; refine append_byte rfl _ _ rfl rfl (hown.alloc _) w.heap.size 105 rfl (by go_simp) (by simp; omega) (by omega) ?_)
  intro v1 w1 ho1 hb1
  have hb1' : BW B w w1 := ((BW.refl B w).alloc hB _).trans hb1
  have hB1 : B ≤ w1.heap.size := Nat.le_trans hB hb1'.1.size
  clear hb1
  go_wp2_with fail
  refine (appendInt97 B n h0 h1 v1 _ w1 ho1 hB1 (by simp; omega) (hT.on hb1'.1)).mono ?_
  rintro e w2 ⟨v2, rfl, ho2, hb2⟩
  have hb2' : BW B w w2 := hb1'.trans hb2
  have hB2 : B ≤ w2.heap.size := Nat.le_trans hB hb2'.1.size
  clear hb2 ho1
  go_wp2_with (at_builtin; refine append_byte rfl _ _ rfl rfl (ho2.alloc _) w2.heap.size 101 rfl (by go_simp) (by simp; omega) (by simp; omega) ?_)
  intro v3 w3 ho3 hb3
  go_wp2
  go_ret
  exact ⟨v3, rfl, by simpa using ho3, (hb2'.alloc hB2 _).trans hb3⟩
set_option maxHeartbeats 1000000 in
theorem word100 (B : Nat) (s : ByteArray) (sv : Value) (l : List UInt8) (w : World) (hown : OW B w sv l) (hB : B ≤ w.heap.size) (hT : TB B w) (hlim : l.length + s.size ≤ 100000000000000) :
    Calls Tryd.prog 111 #[.string s, sv] w fun e w' => ∃ v', e = .returned v' ∧ OW B w' v' (l ++ wtx s) ∧ BW B w w' := by
  have hlen := Lib.itoa_length_le s.size (by omega) (by omega)
  go_enter Tryd.func111, Tryd.ntmps111
  go_wp2_with fail
  refine (appendInt97 B s.size (by omega) (by omega) sv _ w hown hB (by omega) hT).mono ?_
  rintro e w2 ⟨v2, rfl, ho2, hb2⟩
  have hB2 : B ≤ w2.heap.size := Nat.le_trans hB hb2.1.size
  go_wp2_with (at_builtin; first | refine append_byte rfl _ _ rfl rfl (ho2.alloc _) w2.heap.size 58 rfl (by go_simp) (by simp; omega) (by simp; omega) ?_)
  intro v3 w3 ho3 hb3
  have hb3' : BW B w w3 := (hb2.alloc hB2 _).trans hb3
  have hB3 : B ≤ w3.heap.size := Nat.le_trans hB hb3'.1.size
  clear hb2 hb3 ho2
  go_wp2_with (at_builtin; refine append_str rfl _ _ rfl rfl ho3 s rfl hB3 (by simp; omega) ?_)
  intro v4 w4 ho4 hb4
  go_wp2
  go_ret
  exact ⟨v4, rfl, by simpa [wtx] using ho4, hb3'.trans hb4⟩
end Go.Proofs.YtegdlkbilgkfoaaDoor
