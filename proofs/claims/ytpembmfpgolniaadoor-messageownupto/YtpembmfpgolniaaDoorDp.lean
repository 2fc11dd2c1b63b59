import Derived.Test.YtpembmfpgolniaaDoorDe
import Derived.Test.YtpembmfpgolniaaDoorEn
namespace Go.Proofs.YtpembmfpgolniaaDoor
open Go.RowKit
/-- a message of a kind, with nothing in it -/
def zmk (k : Int) : Mv := { zm with k := k }
/-- what is taken off a body by a row's fields -/
def decR (r : Kr) (l : List UInt8) : Ds := Ds.tks r.cs ⟨zmk r.k, [], [], l⟩
/-- what is wrong with a body -/
def decE (l : List UInt8) : Int :=
  if 32768 < l.length then 111 else
  match rowFor (kindB l) with
  | none => 110
  | some r => if r.fit (l.length : Int) then (if lks r.cs (decR r l).m then 0 else 112) else 111
/-- what a body reads as -/
def decS (l : List UInt8) : Ds :=
  if decE l = 0 then (match rowFor (kindB l) with | some r => decR r l | none => ⟨zm, [], [], []⟩) else ⟨zm, [], [], []⟩
theorem upd_r (c : Nat) (m : Mv) (l : List UInt8) (h : m.r.length = 32) (hn : nds c l) : (upd c m l).r.length = 32 := by
  unfold upd
  split <;> first | exact h | (unfold nds at hn; simp at hn ⊢; omega)
theorem tks_r (cs : List Nat) (s : Ds) (h : s.m.r.length = 32) (hn : NDS cs s.l) : (Ds.tks cs s).m.r.length = 32 := by
  induction cs generalizing s with
  | nil => exact h
  | cons c cs ih => exact ih (Ds.tk c s) (upd_r c s.m s.l h hn.1) hn.2
theorem tks_snoc (cs : List Nat) (c : Nat) (s : Ds) : Ds.tks (cs ++ [c]) s = Ds.tk c (Ds.tks cs s) := by
  unfold Ds.tks; rw [List.foldl_append]; rfl
theorem upd_dh (c : Nat) (m : Mv) (l : List UInt8) (d h d' h' : Value) : ({ upd c { m with d := d, h := h } l with d := d', h := h' } : Mv) = { upd c m l with d := d', h := h' } := by
  unfold upd
  split <;> rfl
theorem lks_same (cs : List Nat) (m : Mv) (d h : Value) : lks cs { m with d := d, h := h } = lks cs m := by
  simp only [lks, lk_same]
theorem be4_nm4 (l : List UInt8) (h : 4 ≤ l.length) : be4 (nm4 l) = l.take 4 := by
  match l, h with
  | a :: b :: c :: d :: l, _ =>
    have h0 := UInt8.toNat_lt a
    have h1 := UInt8.toNat_lt b
    have h2 := UInt8.toNat_lt c
    have h3 := UInt8.toNat_lt d
    have e : nm4 (a :: b :: c :: d :: l) = ((a.toNat * 256 + b.toNat) * 256 + c.toNat) * 256 + d.toNat := rfl
    rw [e]
    unfold be4
    simp only [List.take_succ_cons, List.take_zero, List.cons.injEq, and_true]
    refine ⟨?_, ?_, ?_, ?_⟩
    all_goals (apply UInt8.toNat_inj.1; rw [UInt8.toNat_ofNat']; omega)
theorem nm4_lt (l : List UInt8) : nm4 l ≤ 4294967295 := by
  have h0 := UInt8.toNat_lt (byt l 0)
  have h1 := UInt8.toNat_lt (byt l 1)
  have h2 := UInt8.toNat_lt (byt l 2)
  have h3 := UInt8.toNat_lt (byt l 3)
  unfold nm4
  omega
theorem nm4_be4 (n : Nat) (h : n ≤ 4294967295) (l : List UInt8) : nm4 (be4 n ++ l) = n := by
  have e : nm4 (be4 n ++ l) = (((UInt8.ofNat (n / 16777216)).toNat * 256 + (UInt8.ofNat (n / 65536)).toNat) * 256 + (UInt8.ofNat (n / 256)).toNat) * 256 + (UInt8.ofNat n).toNat := rfl
  rw [e]
  simp only [UInt8.toNat_ofNat']
  omega
theorem drop_be4 (n : Nat) (l : List UInt8) : (be4 n ++ l).drop 4 = l := rfl
theorem ub_byt (y : UInt8) : ub (y.toNat : Int) = y := by
  unfold ub
  apply UInt8.toNat_inj.1
  rw [UInt8.toNat_ofNat']
  have := UInt8.toNat_lt y
  omega
end Go.Proofs.YtpembmfpgolniaaDoor
