import Derived.Test.YtldkecjfjcnkfaaPlain
import Derived.Laws.ResultCell
import Derived.Test.YtldkecjfjcnkfaaValids
namespace Go.Proofs.Ytldkecjfjcnkfaa
open Go.RowKit Go.Deep
theorem results_cell2 {fn : Func} {p u : Tmp} (h : fn.results = #[.cell p 56, .tmp u]) (tmps : Array Value) (w : World) (g : Nat) (cs : Array Value)
    (hp : tmps.getD p undef = .pointer (some ⟨g, 0, none⟩)) (hg : w.heap[g]? = some (.cells cs 56 (0, 0))) (hc : cs.size = 5) :
    (results fn tmps).run Try.prog w = .ok (.tuple #[.agg cs, tmps.getD u undef]) w := by
  rw [results_cell_tmp h, hp]
  have h1 : (asAddr (.pointer (some ⟨g, 0, none⟩))).run Try.prog w = .ok ⟨g, 0, none⟩ w := rfl
  rw [h1]
  simp only [Result.andThen]
  rw [run_loadVar_row w g 56 56 cs (0, 0) _ hg Try.underlying56 rfl (by rw [info25s, hc])]
/-- the first place with this key -/
def findK (ky : Nat → ByteArray) (key : ByteArray) : Nat → Option Nat
  | 0 => none
  | n + 1 => match findK ky key n with
    | some i => some i
    | none => if (ky n).toList = key.toList then some n else none
theorem findK_some {ky : Nat → ByteArray} {key : ByteArray} : ∀ {n i : Nat}, findK ky key n = some i → i < n ∧ (ky i).toList = key.toList := by
  intro n
  induction n with
  | zero => intro i h; cases h
  | succ n ih =>
    intro i h
    unfold findK at h
    cases hf : findK ky key n with
    | some q =>
      rw [hf] at h
      have e : q = i := by simpa using h
      subst e
      obtain ⟨h1, h2⟩ := ih hf
      exact ⟨by omega, h2⟩
    | none =>
      rw [hf] at h
      by_cases hk : (ky n).toList = key.toList
      · simp only [hk, if_true] at h
        have e : n = i := by simpa using h
        subst e
        exact ⟨by omega, hk⟩
      · simp only [hk, if_false] at h
        cases h
theorem findK_none {ky : Nat → ByteArray} {key : ByteArray} : ∀ {n : Nat}, (∀ i, i < n → ¬ (ky i).toList = key.toList) → findK ky key n = none := by
  intro n
  induction n with
  | zero => intro _; rfl
  | succ n ih =>
    intro h
    unfold findK
    rw [ih (fun i hi => h i (by omega))]
    simp only [h n (by omega), if_false]
theorem findK_stop {ky : Nat → ByteArray} {key : ByteArray} {i : Nat} : ∀ {n : Nat}, i < n → (∀ q, q < i → ¬ (ky q).toList = key.toList) → (ky i).toList = key.toList → findK ky key n = some i := by
  intro n
  induction n with
  | zero => intro h; omega
  | succ n ih =>
    intro h h1 h2
    unfold findK
    by_cases e : i = n
    · subst e
      rw [findK_none h1]
      simp only [h2, if_true]
    · rw [ih (by omega) h1 h2]
def stepT : T → ByteArray → Option T
  | .no, _ => none
  | .mk _ _ _ _ _ dn ky dv, key => (findK ky key dn).map dv
def walkP (t : T) (p : Nat → ByteArray) : Nat → Option T
  | 0 => some t
  | j + 1 => (walkP t p j).bind fun u => stepT u (p j)
theorem walkP_none {t : T} {p : Nat → ByteArray} {j n : Nat} (h : walkP t p j = none) (hj : j ≤ n) : walkP t p n = none := by
  induction n with
  | zero => have : j = 0 := by omega
            subst this; exact h
  | succ n ih =>
    by_cases e : j = n + 1
    · subst e; exact h
    · unfold walkP; rw [ih (by omega)]; rfl
def zeroT : T := .mk 0 0 { data := #[] } 0 (fun _ => .no) 0 (fun _ => ByteArray.empty) (fun _ => .no)
theorem zeroT_ok : zeroT.ok := ⟨Nat.zero_le _, Nat.zero_le _, Nat.zero_le _, fun _ hi => absurd hi (Nat.not_lt_zero _), fun _ hi => absurd hi (Nat.not_lt_zero _)⟩
/-- what Get answers -/
def getS (t : T) (p : Nat → ByteArray) (np : Nat) : T × Int :=
  if wk t 0 ≠ 0 then (zeroT, wk t 0) else match walkP t p np with | none => (zeroT, 28) | some u => (u, 0)
/-- a list of strings -/
def RP (w : World) (p : Nat → ByteArray) (np : Nat) (v : Value) : Prop :=
  ∃ a ca, v = .slice a np ca ∧ (np = 0 ∨ ∃ b o, a = some ⟨b, o, none⟩ ∧ b < w.heap.size ∧ ∀ i, i < np → w.cell? ⟨b, o + i, none⟩ = some (.string (p i)))
theorem RP.keep {w w' : World} {p : Nat → ByteArray} {np : Nat} {v : Value} (h : RP w p np v) (hb : Below w.heap.size w w') : RP w' p np v := by
  obtain ⟨a, ca, rfl, h⟩ := h
  refine ⟨a, ca, rfl, ?_⟩
  rcases h with h | ⟨b, o, rfl, hlt, h⟩
  · exact .inl h
  · exact .inr ⟨b, o, rfl, Nat.lt_of_lt_of_le hlt hb.size, fun i hi => (World.cell?_of_block (w := w) (hb.block b hlt)).trans (h i hi)⟩
/-- at a round's head of Get -/
def GInv (H : Nat) (w wr : World) (u : T) (x y : Value) : Prop :=
  Below H w wr ∧ obj wr H (.int .i64 u.k) (.int .i64 u.n) (.string u.s) x y ∧ obj wr (H + 1) (.int .i64 0) (.int .i64 0) (.string { data := #[] }) (.slice .none 0 0) (.slice .none 0 0) ∧ RV (fun b => b < H) wr u x y ∧ u.ok ∧ VT u
theorem GInv.step {H : Nat} {w wr wE : World} {u : T} {x y X Y : Value} {u' : T} (h : GInv H w wr u x y) (hE : wE = set5 wr H 0 (.int .i64 u'.k) (.int .i64 u'.n) (.string u'.s) X Y) (hr : RV (fun b => b < H) wr u' X Y) (hok : u'.ok) (hvt : VT u') : GInv H w wE u' X Y := by
  subst hE
  obtain ⟨h1, h2, h3, _⟩ := h
  have hb : ∀ b, b ≠ H → (set5 wr H 0 (.int .i64 u'.k) (.int .i64 u'.n) (.string u'.s) X Y).heap[b]? = wr.heap[b]? := fun b hb => set5_block _ _ _ _ _ _ _ _ _ hb
  refine ⟨set5_below h1 (Nat.le_refl _) _ _ _ _ _ _, ?_, h3.keep (hb _ (by omega)), RV.move (fun b hb _ => hb) (by rw [set5_size]; exact Nat.le_refl _) (fun b hbb _ => hb b (by omega)) _ _ _ hr, hok, hvt⟩
  exact ((((h2.set0 _).set1 _).set2 _).set3 _).set4 _
theorem ok_of {k n : Int} {s : ByteArray} {ln dn : Nat} {l dv : Nat → T} {ky : Nat → ByteArray} (h : (T.mk k n s ln l dn ky dv).ok) {i : Nat} (hi : i < dn) : (dv i).ok := (h.2.2.2.2 i hi).2
end Go.Proofs.Ytldkecjfjcnkfaa
