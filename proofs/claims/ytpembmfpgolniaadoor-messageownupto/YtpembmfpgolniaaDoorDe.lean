import Derived.Test.YtpembmfpgolniaaDoorTd
namespace Go.Proofs.YtpembmfpgolniaaDoor
open Go.RowKit
/-- a message that is being read: its cells' values, its data, its hashes, what is left of the body -/
structure Ds where
  m : Mv
  D : List UInt8
  hb : List UInt8
  l : List UInt8
def Ds.tk (c : Nat) (s : Ds) : Ds := ⟨upd c s.m s.l, dD c s.l s.D, dH c s.l s.hb, rst c s.l⟩
def Ds.tks (cs : List Nat) (s : Ds) : Ds := cs.foldl (fun s c => Ds.tk c s) s
/-- all these fields can be taken off a body -/
def NDS : List Nat → List UInt8 → Prop
  | [], _ => True
  | c :: cs, l => nds c l ∧ NDS cs (rst c l)
theorem tks_l (cs : List Nat) (s : Ds) : (Ds.tks cs s).l = cs.foldl (fun l c => rst c l) s.l := by
  induction cs generalizing s with
  | nil => rfl
  | cons c cs ih => exact ih (Ds.tk c s)
theorem NDS.at {cs : List Nat} {l : List UInt8} (h : NDS cs l) (n c : Nat) (hc : cs[n]? = some c) : nds c ((cs.take n).foldl (fun l c => rst c l) l) := by
  induction cs generalizing l n with
  | nil => simp at hc
  | cons a cs ih =>
    cases n with
    | zero => simp at hc; subst hc; exact h.1
    | succ n => exact ih h.2 n (by simpa using hc)
theorem rst_le (c : Nat) (l : List UInt8) : (rst c l).length ≤ l.length := by
  unfold rst
  split <;> simp
theorem rsts_le (cs : List Nat) (l : List UInt8) : (cs.foldl (fun l c => rst c l) l).length ≤ l.length := by
  induction cs generalizing l with
  | nil => exact Nat.le_refl _
  | cons c cs ih => exact Nat.le_trans (ih (rst c l)) (rst_le c l)
theorem fit_NDS (r : Kr) (hr : r ∈ rws) (l : List UInt8) (h : r.fit (l.length : Int) = true) : NDS r.cs l := by
  unfold Kr.fit at h
  simp only [Bool.and_eq_true, decide_eq_true_eq, beq_iff_eq] at h
  obtain ⟨⟨h1, h2⟩, h3⟩ := h
  simp only [rws, List.mem_cons, List.not_mem_nil, or_false] at hr
  rcases hr with rfl | rfl | rfl | rfl | rfl | rfl | rfl | rfl | rfl | rfl | rfl | rfl | rfl | rfl
  all_goals simp only [Kr.cs] at *
  all_goals simp [NDS, nds, rst, List.takeWhile] at *
  all_goals first | omega | skip
  all_goals (refine ⟨by omega, by omega, by omega, by omega, by omega, by omega, (l.length - 49) / 32, by omega⟩)
end Go.Proofs.YtpembmfpgolniaaDoor
