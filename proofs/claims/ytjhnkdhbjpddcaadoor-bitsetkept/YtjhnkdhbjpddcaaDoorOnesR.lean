import Derived.Test.YtjhnkdhbjpddcaaDoorOnes
namespace Go.Proofs.YtjhnkdhbjpddcaaDoor
open Go.RowKit Go.Shelf
theorem on1_ext (l : List UInt8) (n d : Nat) (h : ∀ i, n ≤ i → bit l i = false) : on1 l (n + d) = on1 l n := by
  induction d with
  | zero => rfl
  | succ d ih => rw [← Nat.add_assoc, on1_no (h _ (by omega)), ih]
theorem OZ.form {B : Nat} {w : World} {v : Value} {zs : List Int} (h : OZ B w v zs) : ∃ a c, v = .slice a zs.length c := by
  obtain ⟨a, c, h, _⟩ := h.rz.form
  exact ⟨a, c, h⟩
theorem OZ.grow {B : Nat} {w w' : World} {v : Value} {zs : List Int} (h : OZ B w v zs) (hb : Below w.heap.size w w') : OZ B w' v zs := by
  refine ⟨h.1, ?_⟩
  rcases h.2 with h1 | ⟨g, cap, cur, h1, h2, h3, h4⟩
  · exact .inl h1
  · exact .inr ⟨g, cap, cur, h1, h2, (hb.block g (Array.getElem?_eq_some_iff.1 h3).1).trans h3, h4⟩
theorem OZ.alloc {B : Nat} {w : World} {v : Value} {zs : List Int} (h : OZ B w v zs) (o : Obj) : OZ B (w.alloc o) v zs := h.grow ((Below.refl _ _).alloc (Nat.le_refl _) _)
theorem append_int {ops : Array Oper} {rest : List Oper} {o : Oper} {a : Act} {Q : Exit → Act → World → Prop} {w : World} {B : Nat} {sv : Value} {zs : List Int} (hgd : o.guard = none) (s x : Operand)
    (ho : o.op = .call { callee := .builtin .append, args := #[s, x], argTypes := #[26, 26] }) (hs : a.eval s = sv) (hown : OZ B w sv zs) (b : Nat) (c : Int) (hx : a.eval x = .slice (some ⟨b, 0, none⟩) 1 1)
    (hc : w.cell? ⟨b, 0, none⟩ = some (.int .i64 c)) (hB : B ≤ w.heap.size) (hlim : zs.length < 17592186043904)
    (h : ∀ v' w', OZ B w' v' (zs ++ [c]) → Below B w w' → wpList Tryd.prog ops Q rest (a.put o.dst v') w') : wpList Tryd.prog ops Q (o :: rest) a w := by
  obtain ⟨i0, hi, hz0, hz1, hz2⟩ := info_parts info3
  refine wpList_append_own w hgd s x 26 ho B 3 i0 _ 1 8 Tryd.underlying26 hi hz0 hz1 hz2 rfl (by omega) sv zs.length (zs.map (Value.int .i64)) hs hown ⟨b, 0, none⟩ 1 1 [.int .i64 c] hx rfl (fun j u hu => ?_) (fun u hu => ?_) (by unfold maxLen; omega) (by omega) hB (fun v' w' h1 h2 _ => ?_)
  · match j, hu with
    | 0, hu => simp at hu; subst hu; simpa [Addr.add] using hc
  · simp at hu; subst hu; rfl
  · refine h v' w' ?_ ((Below.refl B w).grown h2 hB (fun k hk => (World.ownsRow.lt hown k hk).1))
    have e : zs.map (Value.int .i64) ++ [Value.int .i64 c] = (zs ++ [c]).map (Value.int .i64) := by simp
    rw [e] at h1
    simpa [OZ] using h1
/-- the set places below k, as numbers -/
def onK (l : List UInt8) (k : Nat) : List Int := (on1 l k).map (fun x => (x.1 : Int))
theorem onK_yes {l : List UInt8} {k : Nat} (h : k < 65536) (hb : bit l k = true) : onK l (k + 1) = onK l k ++ [(k : Int)] := by unfold onK; rw [on1_yes h hb]; simp
theorem onK_no {l : List UInt8} {k : Nat} (hb : bit l k = false) : onK l (k + 1) = onK l k := by unfold onK; rw [on1_no hb]
theorem onK_len (l : List UInt8) (k : Nat) : (onK l k).length ≤ k := by unfold onK; rw [List.length_map]; exact on1_len l k
set_option maxHeartbeats 1000000 in
theorem count14_no (n : Int) (h0 : -9223372036854775808 ≤ n) (h1 : n ≤ 9223372036854775807) (v : Value) (l : List UInt8) (w : World) (hr : RB w v l) (hm : MT w) (hl : l.length ≤ 140737488351232) (hck : ck n l ≠ 0) :
    Calls Tryd.prog 28 #[.int .i64 n, v] w fun e w' => e = .returned (.tuple #[.int .i64 0, .int .i64 (ck n l)]) ∧ Below w.heap.size w w' := by
  have HC : Hid (Calls Tryd.prog 8 #[.int .i64 n, v] w fun e w' => e = .returned (.int .i64 (ck n l)) ∧ ∃ nq, w' = w.drewN nq) := check10 n h0 h1 v l w hr hm hl
  obtain ⟨a, c, rfl, _⟩ := hr
  have hz : (ck n l != 0) = true := by simpa using hck
  clear hck hm
  generalize ck n l = z at *
  go_enter Tryd.func28, Tryd.ntmps28
  go_wp2_with (go_at_call 8; refine HC.out.mono ?_; rintro e w1 ⟨rfl, nq, rfl⟩)
  go_ret2
  exact ⟨rfl, belowDrew _ _⟩
set_option maxHeartbeats 1000000 in
theorem ones13_no (n : Int) (h0 : -9223372036854775808 ≤ n) (h1 : n ≤ 9223372036854775807) (v : Value) (l : List UInt8) (w : World) (hr : RB w v l) (hm : MT w) (hl : l.length ≤ 140737488351232) (hck : ck n l ≠ 0) :
    Calls Tryd.prog 5 #[.int .i64 n, v] w fun e w' => e = .returned (.tuple #[.slice none 0 0, .int .i64 (ck n l)]) ∧ Below w.heap.size w w' := by
  have HC : Hid (Calls Tryd.prog 8 #[.int .i64 n, v] w fun e w' => e = .returned (.int .i64 (ck n l)) ∧ ∃ nq, w' = w.drewN nq) := check10 n h0 h1 v l w hr hm hl
  obtain ⟨a, c, rfl, _⟩ := hr
  have hz : (ck n l != 0) = true := by simpa using hck
  clear hck hm
  generalize ck n l = z at *
  go_enter Tryd.func5, Tryd.ntmps5
  go_wp2_with (go_at_call 8; refine HC.out.mono ?_; rintro e w1 ⟨rfl, nq, rfl⟩)
  go_ret2
  exact ⟨rfl, belowDrew _ _⟩
/-- what Ones answers -/
def ON (n : Int) (l : List UInt8) (zs : List Int) (er : Int) : Prop := (ck n l ≠ 0 ∧ zs = [] ∧ er = ck n l) ∨ (ck n l = 0 ∧ zs = onZ l ∧ er = 0)
theorem ON.unique {n : Int} {l : List UInt8} {zs zs' : List Int} {er er' : Int} (h : ON n l zs er) (h' : ON n l zs' er') : zs = zs' ∧ er = er' := by
  rcases h with ⟨h1, rfl, rfl⟩ | ⟨h1, rfl, rfl⟩
  · rcases h' with ⟨g1, rfl, rfl⟩ | ⟨g1, rfl, rfl⟩
    · exact ⟨rfl, rfl⟩
    · exact absurd g1 h1
  · rcases h' with ⟨g1, rfl, rfl⟩ | ⟨g1, rfl, rfl⟩
    · exact absurd h1 g1
    · exact ⟨rfl, rfl⟩
theorem onZ_len (l : List UInt8) (h : l.length ≤ 8192) : (onZ l).length ≤ 65536 := by
  unfold onZ; rw [List.length_map]; exact Nat.le_trans (on1_len _ _) (by omega)
end Go.Proofs.YtjhnkdhbjpddcaaDoor
