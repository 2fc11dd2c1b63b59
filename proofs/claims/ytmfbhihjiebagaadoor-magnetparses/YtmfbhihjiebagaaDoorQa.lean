import Derived.RangeFuncNested
import Derived.RangeFuncBound
import Derived.RangeFuncCalls
import Derived.RangeFuncLeaves
import Derived.RangeFuncFrom
import Derived.Shelf.Abstract
import Derived.Shelf.RegionOpen
import Derived.Stop.RegionWithIn
import Derived.Sort.QuietIn
import Derived.OwnWalkIn
import Derived.TacticsInMore
import Derived.LoopNIn
import Derived.LoopIn
import Derived.Test.YtmfbhihjiebagaaDoorPu
namespace Go.Proofs.YtmfbhihjiebagaaDoor
open Go.Shelf Go.RowKit Go.Deep
attribute [local go_sem] Oper.semAt_some
/-- a piece of a text, with its place -/
abbrev Pc := { x : Nat × ByteArray // x.1 ≤ 4096 ∧ x.2.size ≤ 4096 }
def pk (i : Nat) (t : ByteArray) : Pc := if h : i ≤ 4096 ∧ t.size ≤ 4096 then ⟨(i, t), h⟩ else ⟨(0, ⟨#[]⟩), Nat.zero_le _, Nat.zero_le _⟩
theorem pk_val {i : Nat} {t : ByteArray} (h1 : i ≤ 4096) (h2 : t.size ≤ 4096) : (pk i t).1 = (i, t) := by unfold pk; rw [dif_pos ⟨h1, h2⟩]
/-- what stands between the marks, from a place on -/
def pcs (s : ByteArray) (m : UInt8) : Nat → Nat → List Pc
  | 0, fr => [pk fr (s.extract fr s.size)]
  | f + 1, fr => if Lib.indexByte (s.data.toList.drop fr) m < 0 then [pk fr (s.extract fr s.size)] else pk fr (s.extract fr (fr + (Lib.indexByte (s.data.toList.drop fr) m).toNat)) :: pcs s m f (fr + (Lib.indexByte (s.data.toList.drop fr) m).toNat + 1)
def pieces (s : ByteArray) (m : UInt8) : List Pc := pcs s m (s.size + 1) 0
theorem pcs_end {s : ByteArray} {m : UInt8} {f fr : Nat} (h : Lib.indexByte (s.data.toList.drop fr) m < 0) : pcs s m (f + 1) fr = [pk fr (s.extract fr s.size)] := by rw [pcs, if_pos h]
theorem pcs_go {s : ByteArray} {m : UInt8} {f fr n : Nat} (h : Lib.indexByte (s.data.toList.drop fr) m = (n : Int)) : pcs s m (f + 1) fr = pk fr (s.extract fr (fr + n)) :: pcs s m f (fr + n + 1) := by
  rw [pcs, h, if_neg (by omega), Int.toNat_natCast]
/-- the two boxes of an iterator stay as they are -/
def KP (g : Nat) (W W' : World) : Prop := W.heap.size ≤ W'.heap.size ∧ ∀ k, (k = g ∨ k = g + 1) → k < W.heap.size → W'.heap[k]? = W.heap[k]?
theorem KP.refl (g : Nat) (W : World) : KP g W W := ⟨Nat.le_refl _, fun _ _ _ => rfl⟩
theorem KP.trans {g : Nat} {A B C : World} (h : KP g A B) (k : KP g B C) : KP g A C := ⟨Nat.le_trans h.1 k.1, fun x hx hl => (k.2 x hx (Nat.lt_of_lt_of_le hl h.1)).trans (h.2 x hx hl)⟩
theorem KP.cell {g : Nat} {A B : World} (h : KP g A B) {x o : Nat} {v : Value} (hx : x = g ∨ x = g + 1) (hc : A.cell? ⟨x, o, none⟩ = some v) : B.cell? ⟨x, o, none⟩ = some v :=
  (World.cell?_of_block (w := A) (h.2 x hx (World.block_lt_of_cell? A _ hc))).trans hc
theorem KP.put {g : Nat} {w : World} (hg : g + 1 < w.heap.size) (W : World) (l : Nat) (o o' : Obj) (hl : w.heap.size ≤ l) (_ : W.heap[l]? = some o) (_ : o.isCells = false) (_ : o.isWalk = false) : KP g W (W.putObj l o') :=
  ⟨by simp, fun k hk _ => World.putObj_heap_other (by rcases hk with rfl | rfl <;> omega)⟩
theorem slice2 (s : ByteArray) (fr j : Nat) (h1 : fr ≤ j) (h2 : j ≤ s.size) (w : World) : (Instr.slice 9 (.string s) (some (.int .i64 (fr : Int))) (some (.int .i64 (j : Int))) none).run Tryd.prog w = .ok (.string (s.extract fr j)) w := by
  have hh := Lib.size_eq s
  simp [go_sem, Tryd.underlying9]; rw [if_pos (by omega), if_pos (by omega)]
abbrev pcV (x : Pc) : Array Value := #[.int .i64 (x.1.1 : Int), .string x.1.2]
set_option maxRecDepth 100000 in
set_option maxHeartbeats 2000000 in
theorem iter15 (F : Fence) (n : Nat) (hF : F.fn 15) (hF2 : F.fn 16) (hFd : F = Fence.wide) (hro : F.round = none) (hn : 1 ≤ n) (lp g : Nat) (s : ByteArray) (m : UInt8) (hs : s.size ≤ 4096) (N : Nat) (hN : s.size < N) (J Jx : List Pc → World → Prop) (W : World) (hJa : AbidesFrom W.heap.size J)
    (hY : ∀ pre x W, J pre W → pre.length < N → YieldAt F (n - 1) Tryd.prog lp (pcV x) W fun e W' =>
      (e = .returned (.bool true) ∧ J (pre ++ [x]) W' ∧ KP g W W') ∨ (e = .returned (.bool false) ∧ Jx (pre ++ [x]) W'))
    (h1 : W.cell? ⟨g, 0, none⟩ = some (.string s)) (h2 : W.cell? ⟨g + 1, 0, none⟩ = some (.int .u8 (m.toNat : Int))) (h0 : J [] W) :
    CallsIn F n Tryd.prog 15 #[.func (.yield lp) #[] #[], .pointer (some ⟨g, 0, none⟩), .pointer (some ⟨g + 1, 0, none⟩)] W fun e W' => (∃ v, e = .returned v) ∧
      ((∃ ys, ys = pieces s m ∧ J ys W') ∨ (∃ pre, pre <+: pieces s m ∧ Jx pre W')) := by
  subst hFd
  refine callsIn_of_wp Tryd.func15 rfl hF ?_ hro
  simp only [Tryd.ntmps15, List.size_toArray, List.length_cons, List.length_nil, Nat.reduceAdd, Nat.reduceSub, Array.replicate_succ, Array.replicate_zero, List.push_toArray, List.append_toArray, List.nil_append, List.cons_append]
  have HC : Hid (W.cell? ⟨g, 0, none⟩ = some (.string s) ∧ W.cell? ⟨g + 1, 0, none⟩ = some (.int .u8 (m.toNat : Int))) := ⟨h1, h2⟩
  clear h1 h2
  gi_wp2
  gi_loopw [4] (fun i wr => ∃ fr : Nat, fr ≤ s.size ∧ i = .int .i64 fr ∧ Hid (∃ pre f, pieces s m = pre ++ pcs s m f fr ∧ s.size - fr < f ∧ pre.length ≤ fr ∧ J pre wr ∧ KP g W wr)) (fun i _ => s.size - (intOf i).toNat)
  case atStart => exact ⟨0, Nat.zero_le _, rfl, ⟨[], s.size + 1, rfl, by omega, Nat.le_refl _, h0, KP.refl _ _⟩⟩
  case round =>
    obtain ⟨fr, hfr, rfl, HI⟩ := hrel
    obtain ⟨pre, f0, hp, hf, hpl, hJ, hK⟩ := HI.out
    obtain ⟨f, rfl⟩ : ∃ f, f0 = f + 1 := ⟨f0 - 1, by omega⟩
    have hc1 := hK.cell (.inl rfl) HC.out.1
    have hc2 := hK.cell (.inr rfl) HC.out.2
    have hsl : ∀ w : World, (Instr.slice 9 (.string s) (some (.int .i64 (fr : Int))) none none).run Tryd.prog w = .ok (.string (s.extract fr s.size)) w := fun w => by
      have hh := Lib.size_eq s
      simp [go_sem, Tryd.underlying9]; omega
    have HX : Hid (∀ w, CallsIn Fence.wide (n - 1) Tryd.prog 16 #[.string (s.extract fr s.size), .int .u8 (m.toNat : Int)] w fun e w' => e = .returned (.int .i64 (Lib.indexByte (s.data.toList.drop fr) m)) ∧ w' = w) := fun w => callsIn_wide.2 (by
      have := indexByte (s.extract fr s.size) m w
      rw [extD] at this
      exact this)
    have hJd : ∀ k, J pre (wr.drewN k) := fun k => hJa pre wr _ none hJ ⟨rfl, rfl, rfl, Nat.le_refl _, fun _ _ _ => rfl⟩ (fun r e => by cases e)
    have hKd : ∀ k, KP g W (wr.drewN k) := fun k => hK.trans ⟨Nat.le_refl _, fun _ _ _ => rfl⟩
    have hcd : ∀ k, (wr.drewN k).cell? ⟨g, 0, none⟩ = some (.string s) := fun k => (hKd k).cell (.inl rfl) HC.out.1
    have HP : Hid (pieces s m = pre ++ pcs s m (f + 1) fr ∧ s.size - fr < f + 1 ∧ pre.length ≤ fr) := ⟨hp, hf, hpl⟩
    have HJ : Hid (∀ k, J pre (wr.drewN k) ∧ KP g W (wr.drewN k)) := fun k => ⟨hJd k, hKd k⟩
    have HB : Hid (∀ o : Nat, Lib.indexByte (s.data.toList.drop fr) m = (o : Int) → fr + o < s.size) := fun o h => by
      have h9 := (Lib.indexByte_some h).1
      have := (List.getElem?_eq_some_iff.1 h9).1
      rw [List.length_drop] at this
      have e8 := Lib.size_eq s
      omega
    have HE := Lib.hid (fun h : Lib.indexByte (s.data.toList.drop fr) m < 0 => pcs_end (f := f) h)
    have HG := Lib.hid (fun (o : Nat) (h : Lib.indexByte (s.data.toList.drop fr) m = (o : Int)) => pcs_go (f := f) h)
    clear hp hf hpl hJ hK HI hJd hKd
    generalize Lib.indexByte (s.data.toList.drop fr) m = E at *
    gi_wp2
    gi_quiet ((gi_at_call 16; exact CallsIn.quiet_of_same (HX.out _)))
    clear HX
    by_cases hE : E < 0
    · have hpk : (pk fr (s.extract fr s.size)).1 = (fr, s.extract fr s.size) := pk_val (by omega) (by rw [ByteArray.size_extract]; omega)
      obtain ⟨fn, tmps, assign, body, hy, hR⟩ := hY pre (pk fr (s.extract fr s.size)) (wr.drewN nq) (HJ.out nq).1 (by have := HP.out; omega)
      simp only [pcV, hpk] at hy
      have HL := Lib.hid (show pieces s m = pre ++ [pk fr (s.extract fr s.size)] by rw [HP.out.1, HE.out hE])
      generalize pk fr (s.extract fr s.size) = x at *
      clear hpk hY HG HB
      have hc0 := hcd nq
      gi_wp2
      refine hR.mono ?_
      rintro e W3 (⟨rfl, hJ3, hk3⟩ | ⟨rfl, hJx3⟩)
      · gi_wp2
        refine bodyPost_ret (results_none rfl _ _ _) rfl ?_
        exact ⟨⟨_, rfl⟩, .inl ⟨_, HL.out.symm, hJ3⟩⟩
      · gi_wp2
        refine bodyPost_ret (results_none rfl _ _ _) rfl ?_
        exact ⟨⟨_, rfl⟩, .inr ⟨_, by rw [HL.out]; exact List.prefix_rfl, hJx3⟩⟩
    · obtain ⟨o, rfl⟩ : ∃ o : Nat, E = (o : Int) := ⟨E.toNat, by omega⟩
      have hob := HB.out o rfl
      have hpk : (pk fr (s.extract fr (fr + o))).1 = (fr, s.extract fr (fr + o)) := pk_val (by omega) (by rw [ByteArray.size_extract]; omega)
      obtain ⟨fn, tmps, assign, body, hy, hR⟩ := hY pre (pk fr (s.extract fr (fr + o))) (wr.drewN nq) (HJ.out nq).1 (by have := HP.out; omega)
      simp only [pcV, hpk] at hy
      have HL := Lib.hid (show pieces s m = (pre ++ [pk fr (s.extract fr (fr + o))]) ++ pcs s m f (fr + o + 1) by rw [HP.out.1, HG.out o rfl]; simp)
      have hsl2 : ∀ w : World, (Instr.slice 9 (.string s) (some (.int .i64 (fr : Int))) (some (.int .i64 ((fr : Int) + (o : Int)))) none).run Tryd.prog w = .ok (.string (s.extract fr (fr + o))) w := fun w => by
        have h9 := slice2 s fr (fr + o) (by omega) (by omega) w
        rw [Int.natCast_add] at h9
        exact h9
      generalize pk fr (s.extract fr (fr + o)) = x at *
      clear hpk hE HE HG HB
      have hc0 := hcd nq
      gi_wp2
      refine hR.mono ?_
      rintro e W3 (⟨rfl, hJ3, hk3⟩ | ⟨rfl, hJx3⟩)
      · have HN : Hid (∃ pre f, pieces s m = pre ++ pcs s m f (fr + o + 1) ∧ s.size - (fr + o + 1) < f ∧ pre.length ≤ fr + o + 1 ∧ J pre W3 ∧ KP g W W3) :=
          (⟨_, f, HL.out, by have := HP.out; omega, by have := HP.out; rw [List.length_append]; simp; omega, hJ3, (HJ.out nq).2.trans hk3⟩ : ∃ pre f, pieces s m = pre ++ pcs s m f (fr + o + 1) ∧ s.size - (fr + o + 1) < f ∧ pre.length ≤ fr + o + 1 ∧ J pre W3 ∧ KP g W W3)
        clear HJ HP HL hJ3 hk3 hcd hc0 hY
        gi_wp2
        go_roundw
        case rel => exact ⟨fr + o + 1, by omega, by go_num, HN⟩
        case measure => simp [intOf]; omega
      · gi_wp2
        refine bodyPost_ret (results_none rfl _ _ _) rfl ?_
        exact ⟨⟨_, rfl⟩, .inr ⟨_, by rw [HL.out]; exact List.prefix_append _ _, hJx3⟩⟩
end Go.Proofs.YtmfbhihjiebagaaDoor
