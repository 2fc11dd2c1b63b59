import Derived.Test.YtmfeelkjbpjhdaaCu
namespace Go.Proofs.Ytmfeelkjbpjhdaa
open Go.RowKit
/-- the bodies that can be sent -/
def gd (L : List (List UInt8)) : List (List UInt8) := L.filter (fun b => decide (b.length ≤ 32768))
/-- their frames, one behind the other -/
def fms (L : List (List UInt8)) : List UInt8 := (L.map frm).flatten
theorem fms_nil : fms [] = [] := rfl
theorem fms_snoc (L : List (List UInt8)) (b : List UInt8) : fms (L ++ [b]) = fms L ++ frm b := by simp [fms]
theorem frm_len (b : List UInt8) : (frm b).length = 4 + b.length := by unfold frm; rw [List.length_append, be4_len]
theorem fms_len : ∀ L : List (List UInt8), (fms L).length = sz L
  | [] => rfl
  | b :: L => by
    have ih := fms_len L
    rw [sz_cons, show fms (b :: L) = frm b ++ fms L by simp [fms], List.length_append, frm_len, ih]
theorem gd_yes (L : List (List UInt8)) (i : Nat) (h : i < L.length) (hb : (L.getD i []).length ≤ 32768) : gd (L.take (i + 1)) = gd (L.take i) ++ [L.getD i []] := by
  have : L[i] = L.getD i [] := by simp [List.getD, h]
  rw [List.take_succ_eq_append_getElem h, this]
  generalize L.getD i [] = b at *
  unfold gd
  rw [List.filter_append]
  simp [hb]
theorem gd_no (L : List (List UInt8)) (i : Nat) (h : i < L.length) (hb : ¬ (L.getD i []).length ≤ 32768) : gd (L.take (i + 1)) = gd (L.take i) := by
  have : L[i] = L.getD i [] := by simp [List.getD, h]
  rw [List.take_succ_eq_append_getElem h, this]
  generalize L.getD i [] = b at *
  unfold gd
  rw [List.filter_append]
  simp; omega
theorem gd_small (L : List (List UInt8)) : ∀ b ∈ gd L, b.length ≤ 32768 := fun b hb => by
  have := (List.mem_filter.1 hb).2
  simpa using this
theorem sz_gd : ∀ L : List (List UInt8), sz (gd L) ≤ 4 * L.length + (L.map List.length).sum
  | [] => by simp [gd, sz]
  | b :: L => by
    have ih := sz_gd L
    by_cases hb : b.length ≤ 32768
    · rw [show gd (b :: L) = b :: gd L by simp [gd, hb], sz_cons]; simp only [List.length_cons, List.map_cons, List.sum_cons]; omega
    · rw [show gd (b :: L) = gd L by simp [gd, hb]]; simp only [List.length_cons, List.map_cons, List.sum_cons]; omega
theorem gd_len (L : List (List UInt8)) : (gd L).length ≤ L.length := List.length_filter_le _ _
theorem sz_gd_take (L : List (List UInt8)) (i : Nat) : sz (gd (L.take i)) ≤ 4 * L.length + (L.map List.length).sum := by
  have h := sz_gd (L.take i)
  have h2 : ((L.take i).map List.length).sum ≤ (L.map List.length).sum := by
    conv => rhs; rw [← List.take_append_drop i L, List.map_append, List.sum_append]
    omega
  have h3 : (L.take i).length ≤ L.length := by rw [List.length_take]; omega
  omega
theorem mem_le : ∀ (L : List (List UInt8)) (i : Nat) (_ : i < L.length), (L.getD i []).length ≤ (L.map List.length).sum
  | [], _, h => by simp at h
  | b :: L, 0, _ => by simp
  | b :: L, i + 1, h => by
    have := mem_le L i (by simpa using h)
    simp only [List.getD_cons_succ, List.map_cons, List.sum_cons]
    omega
theorem rd_frm (b x : List UInt8) (hb : b.length ≤ 32768) {bs : List (List UInt8)} {r : List UInt8} {e : Int} (h : Rd false x [] bs false r e) : Rd false (frm b ++ x) [] (b :: bs) false r e := by
  have hn : nm (frm b ++ x) = b.length := by unfold frm; rw [List.append_assoc]; exact nm_be4 _ _ (by omega)
  have h4 : (frm b ++ x).drop 4 = b ++ x := by unfold frm; rw [List.append_assoc, List.drop_left' (be4_len _)]
  have y := Rd.body (frm b ++ x) [] bs false r e (by rw [List.length_append, frm_len]; omega) (by rw [hn]; exact hb) (by rw [hn, List.length_append, frm_len]; omega) (by rw [hn, ← List.drop_drop, h4, List.drop_left' rfl]; exact h)
  rw [hn, h4, List.take_left' rfl] at y
  exact y
theorem rd_fms : ∀ (L : List (List UInt8)) (_ : ∀ b ∈ L, b.length ≤ 32768) (x : List UInt8) {bs : List (List UInt8)} {r : List UInt8} {e : Int} (_ : Rd false x [] bs false r e), Rd false (fms L ++ x) [] (L ++ bs) false r e
  | [], _, x, _, _, _, h => h
  | b :: L, hL, x, bs, r, e, h => by
    have ih := rd_fms L (fun c hc => hL c (List.mem_cons_of_mem _ hc)) x h
    rw [show fms (b :: L) = frm b ++ fms L by simp [fms], List.append_assoc]
    exact rd_frm b _ (hL b List.mem_cons_self) ih
theorem rd_breaks (L : List (List UInt8)) (hL : ∀ b ∈ L, b.length ≤ 32768) (s : Nat) (h1 : 32768 < s) (h2 : s < 4294967296) (m : List UInt8) : Rd false (fms L ++ (be4 s ++ m)) [] L false (be4 s ++ m) 102 := by
  have := rd_fms L hL (be4 s ++ m) (Rd.big (be4 s ++ m) (by rw [List.length_append, be4_len]; omega) (by rw [nm_be4 s m h2]; exact h1))
  rwa [List.append_nil] at this
/-- a row of lists that were there before -/
def RR (w0 w : World) (v : Value) (bs : List (List UInt8)) : Prop := ∃ us : List Value, us.length = bs.length ∧ w.ownsRow w0.heap.size 28 1 v bs.length us ∧ ∀ i, i < bs.length → RB w0 (us.getD i undef) (bs.getD i [])
theorem RR.rbs {w0 w : World} {v : Value} {bs : List (List UInt8)} (h : RR w0 w v bs) (hb : Below w0.heap.size w0 w) : RBS w v bs := by
  obtain ⟨us, h1, h2, h3⟩ := h
  exact row_rbs h2 h1 (fun i hi => (h3 i hi).keep hb)
theorem RR.nil (w0 w : World) : RR w0 w (.slice none 0 0) [] := ⟨[], rfl, World.ownsRow_nil _ _ _ _, fun i h => by simp at h⟩
theorem RR.form {w0 w : World} {v : Value} {bs : List (List UInt8)} (h : RR w0 w v bs) : ∃ a c, v = .slice a bs.length c := by
  obtain ⟨us, h1, h2, h3⟩ := h
  rcases h2.2 with ⟨rfl, e⟩ | ⟨g, cap, cur, rfl, _⟩
  · exact ⟨none, 0, by simp_all⟩
  · exact ⟨_, _, rfl⟩
theorem RR.keep {w0 w w' : World} {v : Value} {bs : List (List UInt8)} (h : RR w0 w v bs) (hb : Below w.heap.size w w') : RR w0 w' v bs := by
  obtain ⟨us, h1, h2, h3⟩ := h
  exact ⟨us, h1, ownsRow_keep h2 (fun k _ hk => hb.block k hk), h3⟩
/-- append(sent, body) where the body was there before -/
theorem append_ref {ops : Array Oper} {rest : List Oper} {o : Oper} {a : Act} {Q : Exit → Act → World → Prop} {w0 w : World} {sv : Value} {bs : List (List UInt8)} (hgd : o.guard = none) (s x : Operand)
    (ho : o.op = .call { callee := .builtin .append, args := #[s, x], argTypes := #[26, 26] }) (hs : a.eval s = sv) (hown : RR w0 w sv bs) (b : Nat) (u : Value) (l : List UInt8) (hx : a.eval x = .slice (some ⟨b, 0, none⟩) 1 1)
    (hc : w.cell? ⟨b, 0, none⟩ = some u) (hu : RB w0 u l) (hB : w0.heap.size ≤ w.heap.size) (hlim : bs.length < 1073741824)
    (h : ∀ v' w', RR w0 w' v' (bs ++ [l]) → Below w0.heap.size w w' → (∀ (B n : Nat) (v : Value) (xs : List Value), w.ownsRow B 5 1 v n xs → w'.ownsRow B 5 1 v n xs) → wpList Try.prog ops Q rest (a.put o.dst v') w') : wpList Try.prog ops Q (o :: rest) a w := by
  obtain ⟨i0, hi, hz0, hz1, hz2⟩ := info_parts infoB
  obtain ⟨us, h1, h2, h3⟩ := hown
  refine wpList_append_own w hgd s x 26 ho w0.heap.size 28 i0 _ 1 24 Try.underlying26 hi hz0 hz1 hz2 rfl (by omega) sv bs.length us hs h2 ⟨b, 0, none⟩ 1 1 [u] hx rfl (fun j y hy => ?_) (fun y hy => ?_) (by unfold maxLen; omega) (by omega) hB (fun v' w' k1 k2 _ => ?_)
  · match j, hy with
    | 0, hy => simp at hy; subst hy; simpa [Addr.add] using hc
  · simp at hy; subst hy
    obtain ⟨a, c, e, _⟩ := hu
    rw [e]; rfl
  · refine h v' w' ⟨us ++ [u], by simp [h1], by simpa using k1, fun i hi => ?_⟩ ((Below.refl _ w).grown k2 hB (fun k hk => (World.ownsRow.lt h2 k hk).1)) (fun B n v xs hx => ownsRow_keep2 (e2 := 28) hx k2 (row_of h2) (by decide))
    rw [List.length_append, List.length_singleton] at hi
    by_cases hlt : i < bs.length
    · have := h3 i hlt
      rw [List.getD_eq_getElem?_getD, List.getD_eq_getElem?_getD, List.getElem?_append_left (by omega), List.getElem?_append_left (by omega), ← List.getD_eq_getElem?_getD, ← List.getD_eq_getElem?_getD]
      exact this
    · have hi' : i = bs.length := by omega
      subst hi'
      rw [List.getD_eq_getElem?_getD, List.getD_eq_getElem?_getD, List.getElem?_append_right (by omega), List.getElem?_append_right (by omega)]
      simpa [h1] using hu
theorem RR.keep5 {w0 w w' : World} {v bv : Value} {bs : List (List UInt8)} {l : List UInt8} {B : Nat} (h : RR w0 w v bs) (hb : OW B w bv l) (hg : w.grownBy w' bv.ownBlock) : RR w0 w' v bs := by
  obtain ⟨us, h1, h2, h3⟩ := h
  exact ⟨us, h1, ownsRow_keep2 (e2 := 5) h2 hg (row_of hb) (by decide), h3⟩
end Go.Proofs.Ytmfeelkjbpjhdaa
