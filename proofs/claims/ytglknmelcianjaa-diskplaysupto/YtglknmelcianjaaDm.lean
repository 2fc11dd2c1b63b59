import Derived.Test.YtglknmelcianjaaPl
import Derived.Maps.RangeWalk
import Derived.Maps.Ext
import Derived.Maps.AppendAt
namespace Go.Proofs.Ytglknmelcianjaa
open Go.RowKit
/-- what the map holds of a sector -/
def secV (d : List UInt8) (v : Value) : Value := .agg (bc d ++ #[v])
/-- an element of the map reads as itself -/
def idR (v : Value) : Option (DataW Value × List MemPlace) := some (.held v, [])
/-- the cells of a write -/
def wc (x : Nat × List UInt8) : List Value := .int .i64 x.1 :: Lib.byteCells x.2
/-- a list of writes -/
def OL (w : World) (v : Value) (l : List (Nat × List UInt8)) : Prop := w.ownsRow 0 62 65 v l.length (l.flatMap wc)
/-- the key of a sector -/
def ky (s : Nat) : Lit := .int .i64 s
/-- a disk's parts in memory -/
structure DI (S : Nat → Prop) (w : World) (p lb cap mb : Nat) (ov : Value) (M : DataW Value) (L : Nat → Value) (D : Dk) : Prop where
  blk : w.heap[p]? = some (.cells #[.slice (some ⟨lb, 0, none⟩) D.last.length cap, .map (some mb), ov, .bool D.fu.isSome, .int .i64 (D.fu.getD 0)] 55 (0, 0))
  las : OW 0 w (.slice (some ⟨lb, 0, none⟩) D.last.length cap) D.last
  map : w.ownsMap Try.prog 3 idR mb D.ws.length M
  ord : w.ownsRow 0 3 1 ov D.ws.length (D.ws.map fun x => Value.int .i64 x.at_)
  key : ∀ kl, Maps.has M kl = true → ∃ s, kl = ky s ∧ (nw s D.ws).isSome = true
  got : ∀ s d, nw s D.ws = some d → Maps.has M (ky s) = true ∧ ∀ z, M.atKey (ky s) z = .held (secV d (L s))
  liv : ∀ s, OL w (L s) (lv s 0 D.ws)
  nol : ∀ s, lv s 0 D.ws = [] → L s = .slice none 0 0
  dis : ∀ s t g, s ≠ t → (L s).ownBlock = some g → (L t).ownBlock ≠ some g
  sp : S p
  sl : S lb
  sm : S mb
  so : ∀ g, ov.ownBlock = some g → S g
  sv : ∀ s g, (L s).ownBlock = some g → S g
  gd : Gd D
/-- a disk in memory, its blocks among some -/
def DK (S : Nat → Prop) (w : World) (p : Nat) (D : Dk) : Prop := ∃ lb cap mb ov M L, DI S w p lb cap mb ov M L D
section
variable {S T : Nat → Prop} {w w' : World} {p lb cap mb : Nat} {ov : Value} {M : DataW Value} {L : Nat → Value} {D : Dk}
theorem ownsMap_fr {n : Nat} (h : w.ownsMap Try.prog 3 idR mb n M) (hf : Fr S w w') (hs : S mb) : w'.ownsMap Try.prog 3 idR mb n M := by
  have hlt := h.lt
  obtain ⟨es, clock, hb, r⟩ := h
  exact ⟨es, clock, (hf.block mb hlt hs).trans hb, r⟩
theorem DI.fr (h : DI S w p lb cap mb ov M L D) (hf : Fr S w w') : DI S w' p lb cap mb ov M L D :=
  { h with
    blk := (hf.block p (Array.getElem?_eq_some_iff.1 h.blk).1 h.sp).trans h.blk
    las := ownsRow_fr h.las hf (fun g hg => by simp [Value.ownBlock] at hg; subst hg; exact h.sl)
    map := ownsMap_fr h.map hf h.sm
    ord := ownsRow_fr h.ord hf h.so
    liv := fun s => ownsRow_fr (h.liv s) hf (h.sv s) }
theorem DI.sub (h : DI S w p lb cap mb ov M L D) (hs : ∀ k, k < w.heap.size → S k → T k) : DI T w p lb cap mb ov M L D :=
  { h with
    sp := hs _ (Array.getElem?_eq_some_iff.1 h.blk).1 h.sp
    sl := hs _ (ownsRow_lt h.las lb rfl).1 h.sl
    sm := hs _ h.map.lt h.sm
    so := fun g hg => hs _ (ownsRow_lt h.ord g hg).1 (h.so g hg)
    sv := fun s g hg => hs _ (ownsRow_lt (h.liv s) g hg).1 (h.sv s g hg) }
theorem DK.fr (h : DK S w p D) (hf : Fr S w w') : DK S w' p D := by
  obtain ⟨lb, cap, mb, ov, M, L, h⟩ := h
  exact ⟨lb, cap, mb, ov, M, L, h.fr hf⟩
theorem DK.sub (h : DK S w p D) (hs : ∀ k, k < w.heap.size → S k → T k) : DK T w p D := by
  obtain ⟨lb, cap, mb, ov, M, L, h⟩ := h
  exact ⟨lb, cap, mb, ov, M, L, h.sub hs⟩
theorem DK.below (h : DK S w p D) (hb : Below w.heap.size w w') : DK S w' p D := h.fr (Fr.of_below hb)
theorem DK.gd (h : DK S w p D) : Gd D := by
  obtain ⟨lb, cap, mb, ov, M, L, h⟩ := h
  exact h.gd
theorem DK.lt (h : DK S w p D) : p < w.heap.size := by
  obtain ⟨lb, cap, mb, ov, M, L, h⟩ := h
  exact (Array.getElem?_eq_some_iff.1 h.blk).1
theorem DI.c0 (h : DI S w p lb cap mb ov M L D) : w.cell? ⟨p, 0, none⟩ = some (.slice (some ⟨lb, 0, none⟩) D.last.length cap) := by simp [World.cell?, h.blk]
theorem DI.c1 (h : DI S w p lb cap mb ov M L D) : w.cell? ⟨p, 1, none⟩ = some (.map (some mb)) := by simp [World.cell?, h.blk]
theorem DI.c2 (h : DI S w p lb cap mb ov M L D) : w.cell? ⟨p, 2, none⟩ = some ov := by simp [World.cell?, h.blk]
theorem DI.c3 (h : DI S w p lb cap mb ov M L D) : w.cell? ⟨p, 3, none⟩ = some (.bool D.fu.isSome) := by simp [World.cell?, h.blk]
theorem DI.c4 (h : DI S w p lb cap mb ov M L D) : w.cell? ⟨p, 4, none⟩ = some (.int .i64 (D.fu.getD 0)) := by simp [World.cell?, h.blk]
theorem DI.frz (h : DI S w p lb cap mb ov M L D) (i : Nat) : w.frozen? ⟨p, i, none⟩ = false := by simp [World.frozen?, h.blk]
theorem DI.ovf (h : DI S w p lb cap mb ov M L D) : ∃ a c, ov = .slice a D.ws.length c := ownsRow_form h.ord
theorem DI.rb (h : DI S w p lb cap mb ov M L D) : RB w (.slice (some ⟨lb, 0, none⟩) D.last.length cap) D.last := h.las.rb
end
theorem K3 : Maps.Keyed Try.prog 3 := Maps.int_keyed (q := .i64) (by kernel_rfl)
theorem key3 (s : Nat) (hs : (s : Int) ≤ 9223372036854775807) : keyOf Try.prog 3 (.int .i64 s) = some (ky s) := by
  refine Maps.keyOf_int_mk (q := .i64) (by kernel_rfl) ?_
  have h1 : IntKind.i64.min = -9223372036854775808 := rfl
  have h2 : IntKind.i64.max = 9223372036854775807 := rfl
  simp [Lit.wf, h1, h2]
  omega
end Go.Proofs.Ytglknmelcianjaa
