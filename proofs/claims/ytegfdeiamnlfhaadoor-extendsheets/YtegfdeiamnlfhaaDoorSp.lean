import Derived.Test.YtegfdeiamnlfhaaDoorCopyA
import Derived.Test.YtegfdeiamnlfhaaDoorSearch
import Derived.Test.YtegfdeiamnlfhaaDoorEb
import Derived.Deep.Cut
import Derived.Deep.RegionHeld3
namespace Go.Proofs.YtegfdeiamnlfhaaDoor
open Go.RowKit Go.Deep
/-- a number's tree -/
def tn (n : Int) : T := .mk 1 n ⟨#[]⟩ 0 (fun _ => .no) 0 (fun _ => ⟨#[]⟩) (fun _ => .no)
def kyL (ps : List (ByteArray × Int)) (i : Nat) : ByteArray := (ps.getD i (⟨#[]⟩, 0)).1
def dvL (ps : List (ByteArray × Int)) (i : Nat) : T := tn (ps.getD i (⟨#[]⟩, 0)).2
/-- the tree of a dictionary of numbers -/
def tD (ps : List (ByteArray × Int)) : T := .mk 4 0 ⟨#[]⟩ 0 (fun _ => .no) ps.length (kyL ps) (dvL ps)
def pC (x : ByteArray × Int) : List Value := [.string x.1, .int .i64 1, .int .i64 x.2, .string ⟨#[]⟩, .slice none 0 0, .slice none 0 0]
def npC (ps : List (ByteArray × Int)) : List Value := ps.flatMap pC
theorem npC_len (ps : List (ByteArray × Int)) : (npC ps).length = ps.length * 6 := by
  induction ps with
  | nil => rfl
  | cons x ps ih =>
    have : npC (x :: ps) = pC x ++ npC ps := by simp [npC]
    rw [this, List.length_append, ih]
    simp [pC]
    omega
theorem npC_get : ∀ (ps : List (ByteArray × Int)) (i : Nat) (x : ByteArray × Int) (r : Nat), r < 6 → ps[i]? = some x → (npC ps)[i * 6 + r]? = (pC x)[r]?
  | [], i, x, r, _, h => by simp at h
  | y :: ps, 0, x, r, hr, h => by
    simp at h
    subst h
    have e : npC (y :: ps) = pC y ++ npC ps := by simp [npC]
    rw [e, List.getElem?_append_left (by simp [pC]; omega), Nat.zero_mul, Nat.zero_add]
  | y :: ps, i + 1, x, r, hr, h => by
    have e : npC (y :: ps) = pC y ++ npC ps := by simp [npC]
    rw [e, List.getElem?_append_right (by simp [pC]; omega)]
    have e1 : (i + 1) * 6 + r - (pC y).length = i * 6 + r := by simp [pC]; omega
    rw [e1]
    exact npC_get ps i x r hr (by simpa using h)
theorem rv_tn (S : Nat → Prop) (w : World) (n : Int) : RV S w (tn n) (.slice none 0 0) (.slice none 0 0) := ⟨⟨none, 0, rfl, .inl rfl⟩, ⟨none, 0, rfl, .inl rfl⟩⟩
/-- a row of numbers under their keys, of the call's own -/
def NR (B : Nat) (w : World) (v : Value) (ps : List (ByteArray × Int)) : Prop := w.ownsRow B 42 6 v ps.length (npC ps)
theorem NR.rd {B : Nat} {w : World} {v : Value} {ps : List (ByteArray × Int)} (h : NR B w v ps) : RD (fun _ => True) w ps.length (kyL ps) (dvL ps) v := by
  rcases h.2 with ⟨rfl, h0⟩ | ⟨g, cap, cur, rfl, _, hg, _, _, hsz, hx⟩
  · rw [h0]; exact ⟨none, 0, rfl, .inl rfl⟩
  · refine ⟨_, _, rfl, .inr ⟨g, 0, rfl, trivial, (Array.getElem?_eq_some_iff.1 hg).1, fun i hi => ⟨.slice none 0 0, .slice none 0 0, rv_tn _ _ _, ?_⟩⟩⟩
    obtain ⟨x, hxi⟩ : ∃ x, ps[i]? = some x := ⟨_, List.getElem?_eq_getElem hi⟩
    have hgd : ps.getD i (⟨#[]⟩, 0) = x := by simp [List.getD, hxi]
    have c : ∀ r, r < 6 → w.cell? ⟨g, i * 6 + r, none⟩ = (pC x)[r]? := fun r hr => by
      have h2 := npC_get ps i x r hr hxi
      rw [← hx, List.getElem?_take_of_lt (by omega), Array.getElem?_toList] at h2
      simp only [World.cell?, hg]
      simpa using h2
    have e1 : kyL ps i = x.1 := by unfold kyL; rw [hgd]
    have e2 : dvL ps i = tn x.2 := by unfold dvL; rw [hgd]
    rw [e1, e2]
    have c0 := c 0 (by omega)
    have c1 := c 1 (by omega)
    have c2 := c 2 (by omega)
    have c3 := c 3 (by omega)
    have c4 := c 4 (by omega)
    have c5 := c 5 (by omega)
    simp only [Nat.zero_add]
    exact ⟨c0, c1, c2, c3, c4, c5⟩
theorem NR.nil (B : Nat) (w : World) : NR B w (.slice none 0 0) [] := World.ownsRow_nil _ _ _ _
theorem NR.keep {B : Nat} {w w' : World} {v : Value} {ps : List (ByteArray × Int)} (h : NR B w v ps) (hb : Below w.heap.size w w') : NR B w' v ps :=
  h.kept (grown_of_below hb) (by cases hv : v.ownBlock with | none => exact .inl rfl | some q => exact .inr (by simp))
theorem NR.form {B : Nat} {w : World} {v : Value} {ps : List (ByteArray × Int)} (h : NR B w v ps) : ∃ a c, v = .slice a ps.length c := ownForm h
/-- append(own, one pair) -/
theorem append_pair {ops : Array Oper} {rest : List Oper} {o : Oper} {a : Act} {Q : Exit → Act → World → Prop} {w : World} {B : Nat} {sv : Value} {ps : List (ByteArray × Int)} (hgd : o.guard = none) (s x : Operand)
    (ho : o.op = .call { callee := .builtin .append, args := #[s, x], argTypes := #[33, 33] }) (hs : a.eval s = sv) (hown : NR B w sv ps) (b : Nat) (y : ByteArray × Int) (hx : a.eval x = .slice (some ⟨b, 0, none⟩) 1 1)
    (hc : w.heap[b]? = some (.cells (pC y).toArray 42 (0, 0))) (hB : B ≤ w.heap.size) (hlim : ps.length < 1000000)
    (h : ∀ v' w', NR B w' v' (ps ++ [y]) → Below B w w' → wpList Tryd.prog ops Q rest (a.put o.dst v') w') : wpList Tryd.prog ops Q (o :: rest) a w := by
  obtain ⟨i0, hi, hz0, hz1, hz2⟩ := info_parts info42
  refine wpList_append_own w hgd s x 33 ho B 42 i0 _ 6 96 Tryd.underlying33 hi hz0 hz1 hz2 rfl (by omega) sv ps.length (npC ps) hs hown ⟨b, 0, none⟩ 1 1 (pC y) hx rfl (fun j u hu => ?_) (fun u hu => ?_) (by unfold maxLen; omega) (by omega) hB (fun v' w' h1 h2 _ => ?_)
  · have hadd : (⟨b, 0, none⟩ : Addr).add j = ⟨b, j, none⟩ := by unfold Addr.add; split <;> simp_all
    rw [hadd]
    simp only [World.cell?, hc]
    simpa using hu
  · simp [pC] at hu
    rcases hu with rfl | rfl | rfl | rfl | rfl <;> rfl
  · refine h v' w' ?_ ((Below.refl B w).grown h2 hB (fun k hk => (World.ownsRow.lt hown k hk).1))
    have e : npC ps ++ pC y = npC (ps ++ [y]) := by simp [npC]
    rw [e] at h1
    unfold NR
    rw [List.length_append]
    exact h1
end Go.Proofs.YtegfdeiamnlfhaaDoor
