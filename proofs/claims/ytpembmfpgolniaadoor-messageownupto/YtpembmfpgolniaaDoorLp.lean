import Derived.Test.YtpembmfpgolniaaDoorRw
namespace Go.Proofs.YtpembmfpgolniaaDoor
open Go.RowKit
/-- a list of fields that is read -/
def FS (w : World) (v : Value) (cs : List Nat) : Prop :=
  ∃ a cap, v = .slice a cs.length cap ∧ (cs = [] ∨ ∃ g cur, a = some ⟨g, 0, none⟩ ∧ w.heap[g]? = some (.cells cur 64 (0, 0)) ∧ ∀ (i c : Nat), cs[i]? = some c → ∃ vs, FLD w c vs ∧ w.rangeAt g (i * 5) vs)
theorem flat5 (xss : List (List Value)) (h : ∀ x ∈ xss, x.length = 5) (i : Nat) (vs : List Value) (hi : xss[i]? = some vs) (j : Nat) (hj : j < 5) : xss.flatten[i * 5 + j]? = vs[j]? := by
  induction xss generalizing i with
  | nil => simp at hi
  | cons x l ih =>
    have hx : x.length = 5 := h x (by simp)
    cases i with
    | zero =>
      simp at hi; subst hi
      rw [List.flatten_cons, Nat.zero_mul, Nat.zero_add, List.getElem?_append_left (by omega)]
    | succ i =>
      rw [List.flatten_cons, List.getElem?_append_right (by omega), hx, show (i + 1) * 5 + j - 5 = i * 5 + j by omega]
      exact ih (fun y hy => h y (by simp [hy])) i (by simpa using hi)
theorem OFS.fs {B : Nat} {W w : World} {v : Value} {cs : List Nat} (h : OFS B W w v cs) (hb : Below W.heap.size W w) : FS w v cs := by
  obtain ⟨xss, ho, hlen, hf⟩ := h
  have h5 : ∀ x ∈ xss, x.length = 5 := by
    intro x hx
    obtain ⟨i, hi, e⟩ := List.getElem_of_mem hx
    obtain ⟨vs, e1, e2⟩ := hf i (cs[i]'(by omega)) (List.getElem?_eq_getElem _)
    rw [List.getElem?_eq_getElem hi, e] at e1
    cases e1
    exact e2.five
  have ho' := ho
  rcases ho.2 with ⟨rfl, h0⟩ | ⟨g, cap, cur, rfl, hB, hg, hle, hcap, hsz, hcur⟩
  · exact ⟨none, 0, by rw [h0], .inl (List.length_eq_zero_iff.1 h0)⟩
  · refine ⟨_, cap, rfl, .inr ⟨g, cur, rfl, hg, fun i c hc => ?_⟩⟩
    obtain ⟨vs, e1, e2⟩ := hf i c hc
    refine ⟨vs, e2.below hb, fun j v hv => ?_⟩
    have hj : j < 5 := by have := (List.getElem?_eq_some_iff.1 hv).1; rw [e2.five] at this; exact this
    have hi : i < cs.length := (List.getElem?_eq_some_iff.1 hc).1
    have := World.ownsRow.cellAt ho' (i * 5 + j) (by omega)
    rw [this, flat5 xss h5 i vs e1 j hj, hv]
theorem FS.below {w w' : World} {v : Value} {cs : List Nat} (h : FS w v cs) (hb : Below w.heap.size w w') : FS w' v cs := by
  obtain ⟨a, cap, rfl, h⟩ := h
  refine ⟨a, cap, rfl, ?_⟩
  rcases h with h | ⟨g, cur, rfl, hg, hf⟩
  · exact .inl h
  · have hlt := (Array.getElem?_eq_some_iff.1 hg).1
    refine .inr ⟨g, cur, rfl, (hb.block g hlt).trans hg, fun i c hc => ?_⟩
    obtain ⟨vs, h1, h2⟩ := hf i c hc
    exact ⟨vs, h1.below hb, fun j v hv => (hb.cell (p := ⟨g, i * 5 + j, none⟩) hlt).trans (h2 j v hv)⟩
theorem FS.keep {w w' : World} {v : Value} {cs : List Nat} {cb : Nat} {m : Mv} (h : FS w v cs) (hb : Besides cb w w') (hm : MB w cb m) : FS w' v cs := by
  obtain ⟨a, cap, rfl, h⟩ := h
  refine ⟨a, cap, rfl, ?_⟩
  rcases h with h | ⟨g, cur, rfl, hg, hf⟩
  · exact .inl h
  · have hlt := (Array.getElem?_eq_some_iff.1 hg).1
    have hne : g ≠ cb := by
      rintro rfl
      unfold MB at hm
      rw [hg] at hm
      simp at hm
    have hk := hb.block g hlt hne
    refine .inr ⟨g, cur, rfl, hk.trans hg, fun i c hc => ?_⟩
    obtain ⟨vs, h1, h2⟩ := hf i c hc
    exact ⟨vs, h1.keep hb hm (by decide), fun j v hv => (World.cell?_of_block (w := w) hk).trans (h2 j v hv)⟩
/-- a message without field c -/
def blk (c : Nat) (m : Mv) : Mv :=
  match c with
  | 2 => { m with i := 0 }
  | 3 => { m with i := 0 }
  | 4 => { m with b := 0 }
  | 5 => { m with l := 0 }
  | 6 => { m with l := 0 }
  | 7 => { m with r := zr 32 }
  | 8 => { m with ba := 0 }
  | 9 => { m with pr := 0 }
  | 10 => { m with d := .slice none 0 0 }
  | 11 => { m with h := .slice none 0 0 }
  | _ => m
def rng (lo hi x : Int) : Bool := decide (lo ≤ x ∧ x ≤ hi)
/-- field c's number is such as it may be -/
def lk (c : Nat) (m : Mv) : Bool :=
  match c with
  | 2 => rng 64 255 m.i
  | 3 => rng 0 4294967295 m.i
  | 4 => rng 0 4294967295 m.b
  | 5 => rng 0 4294967295 m.l
  | 6 => rng 1 16384 m.l
  | 8 => rng 0 4294967295 m.ba
  | 9 => rng 0 4294967295 m.pr
  | _ => true
def sln : Value → Nat
  | .slice _ n _ => n
  | _ => 0
/-- how many bytes field c takes -/
def sz (c : Nat) (m : Mv) : Nat :=
  match c with
  | 1 => 1
  | 2 => 1
  | 7 => 32
  | 10 => sln m.d
  | 11 => 32 * sln m.h
  | _ => 4
theorem blk_ok {m : Mv} (h : m.ok) (c : Nat) : (blk c m).ok := by
  unfold blk
  split
  all_goals first | exact h | exact ⟨h.r, h.d, h.h⟩ | exact ⟨zr_len 32, h.d, h.h⟩ | exact ⟨h.r, ⟨_, _, _, rfl⟩, h.h⟩ | exact ⟨h.r, h.d, ⟨_, _, _, rfl⟩⟩
end Go.Proofs.YtpembmfpgolniaaDoor
