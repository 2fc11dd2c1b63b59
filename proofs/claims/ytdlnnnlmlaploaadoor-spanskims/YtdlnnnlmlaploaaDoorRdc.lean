import Derived.Test.YtdlnnnlmlaploaaDoorRdb
import Derived.Test.YtdlnnnlmlaploaaDoorRde
namespace Go.Proofs.YtdlnnnlmlaploaaDoor
open Go.RowKit Go.Deep
def scP (b : List UInt8) (i : Nat) : Pc T := if byt b i = 105 then (match numb b i with | .bad p e => .bad p e | .ok n j => .ok (tNum n) j) else (match strg b i with | .bad p e => .bad p e | .ok s j => .ok (tStr s) j)
theorem scal_bad {b : List UInt8} {st : List Fr} {i p : Nat} {e : Int} (hx : byt b i = 105 ∨ dig (byt b i) = true) (h : scP b i = .bad p e) : scal b st i = .bad p e := by
  unfold scP at h
  by_cases h105 : byt b i = 105
  · rw [if_pos h105] at h
    cases hn : numb b i with
    | bad p' e' => rw [hn] at h; cases h; exact scal_nbad h105 hn
    | ok n j => rw [hn] at h; cases h
  · rw [if_neg h105] at h
    have hd : dig (byt b i) = true := by rcases hx with h | h; exact absurd h h105; exact h
    cases hn : strg b i with
    | bad p' e' => rw [hn] at h; cases h; exact scal_sbad hd hn
    | ok n j => rw [hn] at h; cases h
theorem scal_ok {b : List UInt8} {st : List Fr} {i j : Nat} {t : T} (hx : byt b i = 105 ∨ dig (byt b i) = true) (h : scP b i = .ok t j) : scal b st i = deliver st t j ∧ i < j := by
  unfold scP at h
  by_cases h105 : byt b i = 105
  · rw [if_pos h105] at h
    cases hn : numb b i with
    | bad p' e' => rw [hn] at h; cases h
    | ok n j => rw [hn] at h; cases h; exact ⟨scal_num h105 hn, numb_lt hn⟩
  · rw [if_neg h105] at h
    have hd : dig (byt b i) = true := by rcases hx with h | h; exact absurd h h105; exact h
    cases hn : strg b i with
    | bad p' e' => rw [hn] at h; cases h
    | ok n j => rw [hn] at h; cases h; exact ⟨scal_str hd hn, (strg_lt hn).1⟩
def zV : Value := .agg #[.int .i64 0, .int .i64 0, .string { data := #[] }, .slice none 0 0, .slice none 0 0]
theorem pcT.cases {α : Type} {r : Pc α} {val : α → Value} {zero : Value} {e : Ending} (h : pcT r val zero e) : (∃ x j, r = .ok x j ∧ e = .returned (.tuple #[val x, .int .i64 (j : Nat), .int .i64 0])) ∨ ∃ (p : Nat) (er : Int), r = .bad p er ∧ e = .returned (.tuple #[zero, .int .i64 (p : Nat), .int .i64 er]) := by
  cases r with
  | ok x j => exact .inl ⟨x, j, rfl, h⟩
  | bad p er => exact .inr ⟨p, er, rfl, h⟩
theorem results_cell3 {fn : Func} {p u v : Tmp} (h : fn.results = #[.cell p 60, .tmp u, .tmp v]) (tmps : Array Value) (w : World) (g : Nat) (cs : Array Value)
    (hp : tmps.getD p undef = .pointer (some ⟨g, 0, none⟩)) (hg : w.heap[g]? = some (.cells cs 60 (0, 0))) (hs : cs.size = 5) : (results fn tmps).run Tryd.prog w = .ok (.tuple #[.agg cs, tmps.getD u undef, tmps.getD v undef]) w := by
  have hp' : tmps[p]?.getD undef = .pointer (some ⟨g, 0, none⟩) := by simpa using hp
  have hi : (Tryd.prog.info? 60).map (·.size) = some cs.size := by rw [hs]; exact info25s
  simp [results, h, hp', asAddr, run_loadVar_row w g 60 60 cs (0, 0) _ hg Tryd.underlying60 rfl hi]
theorem below_set5 {B : Nat} {w w1 : World} {b0 b1 b2 b3 b4 : Value} (h : Below B w w1) : Below B w (((((w1.setCell ⟨B, 0, none⟩ b0).setCell ⟨B, 1, none⟩ b1).setCell ⟨B, 2, none⟩ b2).setCell ⟨B, 3, none⟩ b3).setCell ⟨B, 4, none⟩ b4) :=
  ((((h.setCell (Nat.le_refl _) _).setCell (Nat.le_refl _) _).setCell (Nat.le_refl _) _).setCell (Nat.le_refl _) _).setCell (Nat.le_refl _) _
theorem digs_er {b : List UInt8} {en : UInt8} {i p : Nat} {e : Int} (h : digs b en i = .bad p e) : e = 21 ∨ e = 22 := by
  unfold digs at h
  split at h
  · cases h; exact .inl rfl
  · split at h
    · cases h; exact .inr rfl
    · cases h
theorem numb_er {b : List UInt8} {i p : Nat} {e : Int} (h : numb b i = .bad p e) : e = 21 ∨ e = 22 ∨ e = 23 := by
  by_cases hl : i + 1 < b.length
  · rw [numb_sg hl] at h
    generalize (if byt b (i + 1) = 45 then [45] else [] : List UInt8) = sg at h
    cases hd : digs b 101 (i + 1 + sg.length) with
    | bad p' e' => rw [hd] at h; cases h; rcases digs_er hd with h | h <;> simp [h]
    | ok d k =>
      rw [hd] at h
      dsimp only at h
      cases ha : Lib.atoiAll (sg ++ d) with
      | ok v =>
        rw [ha] at h
        dsimp only at h
        by_cases hc : padd d = true ∨ sg ++ d = [45, 48]
        · rw [if_pos hc] at h; cases h; simp
        · rw [if_neg hc] at h; cases h
      | «syntax» => rw [ha] at h; cases h; simp
      | range => rw [ha] at h; cases h; simp
  · rw [numb, if_pos (by omega)] at h; cases h; simp
theorem strg_er {b : List UInt8} {i p : Nat} {e : Int} (h : strg b i = .bad p e) : e = 21 ∨ e = 22 ∨ e = 23 := by
  unfold strg at h
  cases hd : digs b 58 i with
  | bad p' e' => rw [hd] at h; cases h; rcases digs_er hd with h | h <;> simp [h]
  | ok d k =>
    rw [hd] at h
    dsimp only at h
    by_cases hp : padd d = true
    · rw [if_pos hp] at h; cases h; simp
    · rw [if_neg hp] at h
      cases ha : Lib.atoiAll d with
      | ok v =>
        rw [ha] at h
        dsimp only at h
        by_cases hc : (b.length : Int) - k < v
        · rw [if_pos hc] at h; cases h; simp
        · rw [if_neg hc] at h; cases h
      | «syntax» => rw [ha] at h; cases h; simp
      | range => rw [ha] at h; cases h; simp
set_option maxRecDepth 10000 in
set_option maxHeartbeats 1000000 in
theorem scalar38 (a : Option Addr) (c : Nat) (b : List UInt8) (i : Nat) (w : World) (h : TX w a c b) (hi : i < b.length) (hx : byt b i = 105 ∨ dig (byt b i) = true) :
    Calls Tryd.prog 68 #[.slice a b.length c, .int .i64 i] w fun e w' => Below w.heap.size w w' ∧ pcT (scP b i) (fun t => .agg #[.int .i64 t.k, .int .i64 t.n, .string t.s, .slice none 0 0, .slice none 0 0]) zV e := by
  have HT := Lib.hid h
  obtain ⟨g, o, rfl, hcell⟩ := h.byte hi
  have hc := hcell i hi
  have i0 : (0 : Int) ≤ (i : Int) := by omega
  have i1 : (i : Int) < (b.length : Int) := by omega
  clear h hcell
  by_cases h105 : byt b i = 105
  · rw [h105] at hc
    have hc' := fun ob => cell_alloc_old (o := ob) hc
    go_enter Tryd.func68, Tryd.ntmps68
    go_wp2_with fail
    clear hc hc'
    have HX : Hid (obj (w.alloc (Obj.cells #[.int .i64 0, .int .i64 0, .string { data := #[] }, .slice none 0 0, .slice none 0 0] 60)) w.heap.size (.int .i64 0) (.int .i64 0) (.string { data := #[] }) (.slice none 0 0) (.slice none 0 0) ∧ Below w.heap.size w (w.alloc (Obj.cells #[.int .i64 0, .int .i64 0, .string { data := #[] }, .slice none 0 0, .slice none 0 0] 60))) := ⟨heap_new _ _, (Below.refl _ _).alloc (Nat.le_refl _) _⟩
    generalize (w.alloc (Obj.cells #[.int .i64 0, .int .i64 0, .string { data := #[] }, .slice none 0 0, .slice none 0 0] 60)) = w1 at *
    generalize hH : w.heap.size = H at *
    refine (number50 _ c b i w1 (HT.out.keep (hH ▸ HX.out.2)) hi).mono ?_
    rintro e w2 ⟨rfl, hp⟩
    obtain ⟨c0, c1, c2, c3, c4⟩ := HX.out.1.cells
    have f0 := HX.out.1.frozen 0
    have f1 := HX.out.1.frozen 1
    have f2 := HX.out.1.frozen 2
    have f3 := HX.out.1.frozen 3
    have f4 := HX.out.1.frozen 4
    rcases hp.cases with ⟨n, j, hn, rfl⟩ | ⟨p, er, hn, rfl⟩
    · have HE : Hid (scP b i = .ok (tNum n) j) := Lib.hid (by rw [scP, if_pos h105, hn])
      clear hp hn
      go_wp2
      refine bodyPost_ret (v := .tuple #[.agg #[.int .i64 1, .int .i64 n, .string { data := #[] }, .slice none 0 0, .slice none 0 0], .int .i64 j, .int .i64 0]) (results_cell3 Tryd.results68 _ _ H _ rfl (((((HX.out.1.set0 _).set1 _).set2 _).set3 _).set4 _) rfl) rfl ?_
      exact ⟨by rw [hH]; exact below_set5 HX.out.2, pcT.ok HE.out⟩
    · have HE : Hid (scP b i = .bad p er) := Lib.hid (by rw [scP, if_pos h105, hn])
      have her : (er != 0) = true := by rcases numb_er hn with h | h | h <;> subst h <;> rfl
      clear hp hn
      go_wp2
      refine bodyPost_ret (v := .tuple #[zV, .int .i64 p, .int .i64 er]) (results_cell3 Tryd.results68 _ _ H _ rfl (((((HX.out.1.set0 _).set1 _).set2 _).set3 _).set4 _) rfl) rfl ?_
      exact ⟨by rw [hH]; exact below_set5 HX.out.2, pcT.bad HE.out⟩
  · have hd : dig (byt b i) = true := by rcases hx with h | h; exact absurd h h105; exact h
    have hz105 : (((byt b i).toNat : Int) == 105) = false := beq_eq_false_iff_ne.2 (u8_ne h105)
    have hc' := fun ob => cell_alloc_old (o := ob) hc
    go_enter Tryd.func68, Tryd.ntmps68
    go_wp2_with fail
    clear hc hc'
    have HX : Hid (obj (w.alloc (Obj.cells #[.int .i64 0, .int .i64 0, .string { data := #[] }, .slice none 0 0, .slice none 0 0] 60)) w.heap.size (.int .i64 0) (.int .i64 0) (.string { data := #[] }) (.slice none 0 0) (.slice none 0 0) ∧ Below w.heap.size w (w.alloc (Obj.cells #[.int .i64 0, .int .i64 0, .string { data := #[] }, .slice none 0 0, .slice none 0 0] 60))) := ⟨heap_new _ _, (Below.refl _ _).alloc (Nat.le_refl _) _⟩
    generalize (w.alloc (Obj.cells #[.int .i64 0, .int .i64 0, .string { data := #[] }, .slice none 0 0, .slice none 0 0] 60)) = w1 at *
    generalize hH : w.heap.size = H at *
    refine (str37 _ c b i w1 (HT.out.keep (hH ▸ HX.out.2)) hi hd).mono ?_
    rintro e w2 ⟨rfl, hp⟩
    obtain ⟨c0, c1, c2, c3, c4⟩ := HX.out.1.cells
    have f0 := HX.out.1.frozen 0
    have f1 := HX.out.1.frozen 1
    have f2 := HX.out.1.frozen 2
    have f3 := HX.out.1.frozen 3
    have f4 := HX.out.1.frozen 4
    rcases hp.cases with ⟨n, j, hn, rfl⟩ | ⟨p, er, hn, rfl⟩
    · have HE : Hid (scP b i = .ok (tStr n) j) := Lib.hid (by rw [scP, if_neg h105, hn])
      clear hp hn
      go_wp2
      refine bodyPost_ret (v := .tuple #[.agg #[.int .i64 2, .int .i64 0, .string n, .slice none 0 0, .slice none 0 0], .int .i64 j, .int .i64 0]) (results_cell3 Tryd.results68 _ _ H _ rfl (((((HX.out.1.set0 _).set1 _).set2 _).set3 _).set4 _) rfl) rfl ?_
      exact ⟨by rw [hH]; exact below_set5 HX.out.2, pcT.ok HE.out⟩
    · have HE : Hid (scP b i = .bad p er) := Lib.hid (by rw [scP, if_neg h105, hn])
      have her : (er != 0) = true := by rcases strg_er hn with h | h | h <;> subst h <;> rfl
      clear hp hn
      go_wp2
      refine bodyPost_ret (v := .tuple #[zV, .int .i64 p, .int .i64 er]) (results_cell3 Tryd.results68 _ _ H _ rfl (((((HX.out.1.set0 _).set1 _).set2 _).set3 _).set4 _) rfl) rfl ?_
      exact ⟨by rw [hH]; exact below_set5 HX.out.2, pcT.bad HE.out⟩
set_option maxHeartbeats 400000 in
theorem closed35 (d : Bool) (s : ByteArray) (m : Bool) (w : World) (la da : Option Addr) (ln lc dn dc : Nat) :
    Calls Tryd.prog 65 #[.agg #[.int .i64 (if d = true then 4 else 3), .slice la ln lc, .slice da dn dc, .string s, .bool m]] w fun e w' => Below w.heap.size w w' ∧ e = .returned (if d = true then .agg #[.int .i64 4, .int .i64 0, .string { data := #[] }, .slice none 0 0, .slice da dn dc] else .agg #[.int .i64 3, .int .i64 0, .string { data := #[] }, .slice la ln lc, .slice none 0 0]) := by
  cases d with
  | true =>
    simp only [if_true]
    go_enter Tryd.func65, Tryd.ntmps65
    go_wp2
    refine bodyPost_ret (v := .agg #[.int .i64 4, .int .i64 0, .string { data := #[] }, .slice none 0 0, .slice da dn dc]) (results_cell_row Tryd.results65 _ _ (w.heap.size + 1) 60 _ (0, 0) _ rfl ?_ Tryd.underlying60 rfl info25s) rfl ⟨((Below.refl _ _).alloc (Nat.le_refl _) _).alloc (by simp) _, rfl⟩
    have := heap_new (w.alloc (Obj.cells #[.int .i64 4, .slice la ln lc, .slice da dn dc, .string s, .bool m] 109)) (Obj.cells #[.int .i64 4, .int .i64 0, .string { data := #[] }, .slice none 0 0, .slice da dn dc] 60)
    simpa using this
  | false =>
    simp only [Bool.false_eq_true, if_false]
    go_enter Tryd.func65, Tryd.ntmps65
    go_wp2
    refine bodyPost_ret (v := .agg #[.int .i64 3, .int .i64 0, .string { data := #[] }, .slice la ln lc, .slice none 0 0]) (results_cell_row Tryd.results65 _ _ (w.heap.size + 1) 60 _ (0, 0) _ rfl ?_ Tryd.underlying60 rfl info25s) rfl ⟨((Below.refl _ _).alloc (Nat.le_refl _) _).alloc (by simp) _, rfl⟩
    have := heap_new (w.alloc (Obj.cells #[.int .i64 3, .slice la ln lc, .slice da dn dc, .string s, .bool m] 109)) (Obj.cells #[.int .i64 3, .int .i64 0, .string { data := #[] }, .slice la ln lc, .slice none 0 0] 60)
    simpa using this
end Go.Proofs.YtdlnnnlmlaploaaDoor
