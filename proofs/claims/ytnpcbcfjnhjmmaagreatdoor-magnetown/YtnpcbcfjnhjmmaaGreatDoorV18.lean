import Derived.RangeFuncNested
import Derived.RangeFuncBound
import Derived.RangeFuncCalls
import Derived.RangeFuncLeaves
import Derived.RangeFuncFrom
import Derived.Shelf.Abstract
import Derived.Shelf.RegionOpen
import Derived.Stop.RegionWithIn
import Derived.Sort.QuietIn
import Derived.OwnWalkIn
import Derived.TacticsInMore
import Derived.LoopNIn
import Derived.LoopIn
import Derived.Test.YtnpcbcfjnhjmmaaGreatDoorV17
namespace Go.Proofs.YtnpcbcfjnhjmmaaGreatDoor
open Go.Shelf Go.RowKit Go.Deep
attribute [local go_sem] Oper.semAt_some
/-- a piece of a text, with its place -/
abbrev Pc := { x : Nat × ByteArray // x.1 ≤ 4096 ∧ x.2.size ≤ 4096 }
def pk (i : Nat) (t : ByteArray) : Pc := if h : i ≤ 4096 ∧ t.size ≤ 4096 then ⟨(i, t), h⟩ else ⟨(0, ⟨#[]⟩), Nat.zero_le _, Nat.zero_le _⟩
theorem pk_val {i : Nat} {t : ByteArray} (h1 : i ≤ 4096) (h2 : t.size ≤ 4096) : (pk i t).1 = (i, t) := by unfold pk; rw [dif_pos ⟨h1, h2⟩]
/-- what stands between the marks, from a place on -/
def pcs (s : ByteArray) (m : UInt8) : Nat → Nat → List Pc
  | 0, fr => [pk fr (s.extract fr s.size)]
  | f + 1, fr => if Lib.indexByte (s.data.toList.drop fr) m < 0 then [pk fr (s.extract fr s.size)] else pk fr (s.extract fr (fr + (Lib.indexByte (s.data.toList.drop fr) m).toNat)) :: pcs s m f (fr + (Lib.indexByte (s.data.toList.drop fr) m).toNat + 1)
def pieces (s : ByteArray) (m : UInt8) : List Pc := pcs s m (s.size + 1) 0
theorem pcs_end {s : ByteArray} {m : UInt8} {f fr : Nat} (h : Lib.indexByte (s.data.toList.drop fr) m < 0) : pcs s m (f + 1) fr = [pk fr (s.extract fr s.size)] := by rw [pcs, if_pos h]
theorem pcs_go {s : ByteArray} {m : UInt8} {f fr n : Nat} (h : Lib.indexByte (s.data.toList.drop fr) m = (n : Int)) : pcs s m (f + 1) fr = pk fr (s.extract fr (fr + n)) :: pcs s m f (fr + n + 1) := by
  rw [pcs, h, if_neg (by omega), Int.toNat_natCast]
/-- the two boxes of an iterator stay as they are -/
def KP (g : Nat) (W W' : World) : Prop := W.heap.size ≤ W'.heap.size ∧ ∀ k, (k = g ∨ k = g + 1) → k < W.heap.size → W'.heap[k]? = W.heap[k]?
theorem KP.refl (g : Nat) (W : World) : KP g W W := ⟨Nat.le_refl _, fun _ _ _ => rfl⟩
theorem KP.trans {g : Nat} {A B C : World} (h : KP g A B) (k : KP g B C) : KP g A C := ⟨Nat.le_trans h.1 k.1, fun x hx hl => (k.2 x hx (Nat.lt_of_lt_of_le hl h.1)).trans (h.2 x hx hl)⟩
theorem KP.cell {g : Nat} {A B : World} (h : KP g A B) {x o : Nat} {v : Value} (hx : x = g ∨ x = g + 1) (hc : A.cell? ⟨x, o, none⟩ = some v) : B.cell? ⟨x, o, none⟩ = some v :=
  (World.cell?_of_block (w := A) (h.2 x hx (World.block_lt_of_cell? A _ hc))).trans hc
theorem KP.put {g : Nat} {w : World} (hg : g + 1 < w.heap.size) (W : World) (l : Nat) (o o' : Obj) (hl : w.heap.size ≤ l) (_ : W.heap[l]? = some o) (_ : o.isCells = false) (_ : o.isWalk = false) : KP g W (W.putObj l o') :=
  ⟨by simp, fun k hk _ => World.putObj_heap_other (by rcases hk with rfl | rfl <;> omega)⟩
theorem slice2 (s : ByteArray) (fr j : Nat) (h1 : fr ≤ j) (h2 : j ≤ s.size) (w : World) : (Instr.slice 9 (.string s) (some (.int .i64 (fr : Int))) (some (.int .i64 (j : Int))) none).run Tryz.prog w = .ok (.string (s.extract fr j)) w := by
  have hh := Lib.size_eq s
  simp [go_sem, Tryz.underlying9]; rw [if_pos (by omega), if_pos (by omega)]
abbrev pcV (x : Pc) : Array Value := #[.int .i64 (x.1.1 : Int), .string x.1.2]
set_option maxRecDepth 100000 in
set_option maxHeartbeats 2000000 in
theorem iter15 (F : Fence) (n : Nat) (hF : F.fn 35) (hF2 : F.fn 36) (hFd : F = Fence.wide) (hro : F.round = none) (hn : 1 ≤ n) (lp g : Nat) (s : ByteArray) (m : UInt8) (hs : s.size ≤ 4096) (N : Nat) (hN : s.size < N) (J Jx : List Pc → World → Prop) (W : World) (hJa : AbidesFrom W.heap.size J)
    (hY : ∀ pre x W, J pre W → pre.length < N → YieldAt F (n - 1) Tryz.prog lp (pcV x) W fun e W' =>
      (e = .returned (.bool true) ∧ J (pre ++ [x]) W' ∧ KP g W W') ∨ (e = .returned (.bool false) ∧ Jx (pre ++ [x]) W'))
    (h1 : W.cell? ⟨g, 0, none⟩ = some (.string s)) (h2 : W.cell? ⟨g + 1, 0, none⟩ = some (.int .u8 (m.toNat : Int))) (h0 : J [] W) :
    CallsIn F n Tryz.prog 35 #[.func (.yield lp) #[] #[], .pointer (some ⟨g, 0, none⟩), .pointer (some ⟨g + 1, 0, none⟩)] W fun e W' => (∃ v, e = .returned v) ∧
      ((∃ ys, ys = pieces s m ∧ J ys W') ∨ (∃ pre, pre <+: pieces s m ∧ Jx pre W')) := by
  subst hFd
  refine callsIn_of_wp Tryz.func35 rfl hF ?_ hro
  simp only [Tryz.ntmps35, List.size_toArray, List.length_cons, List.length_nil, Nat.reduceAdd, Nat.reduceSub, Array.replicate_succ, Array.replicate_zero, List.push_toArray, List.append_toArray, List.nil_append, List.cons_append]
  have HC : Hid (W.cell? ⟨g, 0, none⟩ = some (.string s) ∧ W.cell? ⟨g + 1, 0, none⟩ = some (.int .u8 (m.toNat : Int))) := ⟨h1, h2⟩
  clear h1 h2
  gi_wp2
  gi_loopw [4] (fun i wr => ∃ fr : Nat, fr ≤ s.size ∧ i = .int .i64 fr ∧ Hid (∃ pre f, pieces s m = pre ++ pcs s m f fr ∧ s.size - fr < f ∧ pre.length ≤ fr ∧ J pre wr ∧ KP g W wr)) (fun i _ => s.size - (intOf i).toNat)
  case atStart => exact ⟨0, Nat.zero_le _, rfl, ⟨[], s.size + 1, rfl, by omega, Nat.le_refl _, h0, KP.refl _ _⟩⟩
  case round =>
    obtain ⟨fr, hfr, rfl, HI⟩ := hrel
    obtain ⟨pre, f0, hp, hf, hpl, hJ, hK⟩ := HI.out
    obtain ⟨f, rfl⟩ : ∃ f, f0 = f + 1 := ⟨f0 - 1, by omega⟩
    have hc1 := hK.cell (.inl rfl) HC.out.1
    have hc2 := hK.cell (.inr rfl) HC.out.2
    have hsl : ∀ w : World, (Instr.slice 9 (.string s) (some (.int .i64 (fr : Int))) none none).run Tryz.prog w = .ok (.string (s.extract fr s.size)) w := fun w => by
      have hh := Lib.size_eq s
      simp [go_sem, Tryz.underlying9]; omega
    have HX : Hid (∀ w, CallsIn Fence.wide (n - 1) Tryz.prog 36 #[.string (s.extract fr s.size), .int .u8 (m.toNat : Int)] w fun e w' => e = .returned (.int .i64 (Lib.indexByte (s.data.toList.drop fr) m)) ∧ w' = w) := fun w => callsIn_wide.2 (by
      have := indexByte (s.extract fr s.size) m w
      rw [extD] at this
      exact this)
    have hJd : ∀ k, J pre (wr.drewN k) := fun k => hJa pre wr _ none hJ ⟨rfl, rfl, rfl, Nat.le_refl _, fun _ _ _ => rfl⟩ (fun r e => by cases e)
    have hKd : ∀ k, KP g W (wr.drewN k) := fun k => hK.trans ⟨Nat.le_refl _, fun _ _ _ => rfl⟩
    have hcd : ∀ k, (wr.drewN k).cell? ⟨g, 0, none⟩ = some (.string s) := fun k => (hKd k).cell (.inl rfl) HC.out.1
    have HP : Hid (pieces s m = pre ++ pcs s m (f + 1) fr ∧ s.size - fr < f + 1 ∧ pre.length ≤ fr) := ⟨hp, hf, hpl⟩
    have HJ : Hid (∀ k, J pre (wr.drewN k) ∧ KP g W (wr.drewN k)) := fun k => ⟨hJd k, hKd k⟩
    have HB : Hid (∀ o : Nat, Lib.indexByte (s.data.toList.drop fr) m = (o : Int) → fr + o < s.size) := fun o h => by
      have h9 := (Lib.indexByte_some h).1
      have := (List.getElem?_eq_some_iff.1 h9).1
      rw [List.length_drop] at this
      have e8 := Lib.size_eq s
      omega
    have HE := Lib.hid (fun h : Lib.indexByte (s.data.toList.drop fr) m < 0 => pcs_end (f := f) h)
    have HG := Lib.hid (fun (o : Nat) (h : Lib.indexByte (s.data.toList.drop fr) m = (o : Int)) => pcs_go (f := f) h)
    clear hp hf hpl hJ hK HI hJd hKd
    generalize Lib.indexByte (s.data.toList.drop fr) m = E at *
    gi_wp2
    gi_quiet ((gi_at_call 36; exact CallsIn.quiet_of_same (HX.out _)))
    clear HX
    by_cases hE : E < 0
    · have hpk : (pk fr (s.extract fr s.size)).1 = (fr, s.extract fr s.size) := pk_val (by omega) (by rw [ByteArray.size_extract]; omega)
      obtain ⟨fn, tmps, assign, body, hy, hR⟩ := hY pre (pk fr (s.extract fr s.size)) (wr.drewN nq) (HJ.out nq).1 (by have := HP.out; omega)
      simp only [pcV, hpk] at hy
      have HL := Lib.hid (show pieces s m = pre ++ [pk fr (s.extract fr s.size)] by rw [HP.out.1, HE.out hE])
      generalize pk fr (s.extract fr s.size) = x at *
      clear hpk hY HG HB
      have hc0 := hcd nq
      gi_wp2
      refine hR.mono ?_
      rintro e W3 (⟨rfl, hJ3, hk3⟩ | ⟨rfl, hJx3⟩)
      · gi_wp2
        refine bodyPost_ret (results_none rfl _ _ _) rfl ?_
        exact ⟨⟨_, rfl⟩, .inl ⟨_, HL.out.symm, hJ3⟩⟩
      · gi_wp2
        refine bodyPost_ret (results_none rfl _ _ _) rfl ?_
        exact ⟨⟨_, rfl⟩, .inr ⟨_, by rw [HL.out]; exact List.prefix_rfl, hJx3⟩⟩
    · obtain ⟨o, rfl⟩ : ∃ o : Nat, E = (o : Int) := ⟨E.toNat, by omega⟩
      have hob := HB.out o rfl
      have hpk : (pk fr (s.extract fr (fr + o))).1 = (fr, s.extract fr (fr + o)) := pk_val (by omega) (by rw [ByteArray.size_extract]; omega)
      obtain ⟨fn, tmps, assign, body, hy, hR⟩ := hY pre (pk fr (s.extract fr (fr + o))) (wr.drewN nq) (HJ.out nq).1 (by have := HP.out; omega)
      simp only [pcV, hpk] at hy
      have HL := Lib.hid (show pieces s m = (pre ++ [pk fr (s.extract fr (fr + o))]) ++ pcs s m f (fr + o + 1) by rw [HP.out.1, HG.out o rfl]; simp)
      have hsl2 : ∀ w : World, (Instr.slice 9 (.string s) (some (.int .i64 (fr : Int))) (some (.int .i64 ((fr : Int) + (o : Int)))) none).run Tryz.prog w = .ok (.string (s.extract fr (fr + o))) w := fun w => by
        have h9 := slice2 s fr (fr + o) (by omega) (by omega) w
        rw [Int.natCast_add] at h9
        exact h9
      generalize pk fr (s.extract fr (fr + o)) = x at *
      clear hpk hE HE HG HB
      have hc0 := hcd nq
      gi_wp2
      refine hR.mono ?_
      rintro e W3 (⟨rfl, hJ3, hk3⟩ | ⟨rfl, hJx3⟩)
      · have HN : Hid (∃ pre f, pieces s m = pre ++ pcs s m f (fr + o + 1) ∧ s.size - (fr + o + 1) < f ∧ pre.length ≤ fr + o + 1 ∧ J pre W3 ∧ KP g W W3) :=
          (⟨_, f, HL.out, by have := HP.out; omega, by have := HP.out; rw [List.length_append]; simp; omega, hJ3, (HJ.out nq).2.trans hk3⟩ : ∃ pre f, pieces s m = pre ++ pcs s m f (fr + o + 1) ∧ s.size - (fr + o + 1) < f ∧ pre.length ≤ fr + o + 1 ∧ J pre W3 ∧ KP g W W3)
        clear HJ HP HL hJ3 hk3 hcd hc0 hY
        gi_wp2
        go_roundw
        case rel => exact ⟨fr + o + 1, by omega, by go_num, HN⟩
        case measure => simp [intOf]; omega
      · gi_wp2
        refine bodyPost_ret (results_none rfl _ _ _) rfl ?_
        exact ⟨⟨_, rfl⟩, .inr ⟨_, by rw [HL.out]; exact List.prefix_append _ _, hJx3⟩⟩
end Go.Proofs.YtnpcbcfjnhjmmaaGreatDoor
namespace Go.Proofs.YtnpcbcfjnhjmmaaGreatDoor
open Go.Shelf Go.RowKit Go.Deep
attribute [local go_sem] Oper.semAt_some
/-- what parts answers: a function over two boxes -/
def PW (s : ByteArray) (m : UInt8) (B : Nat) (w : World) (r : Value) : Prop := ∃ g, r = .func (.func 35) #[] #[.pointer (some ⟨g, 0, none⟩), .pointer (some ⟨g + 1, 0, none⟩)] ∧ B ≤ g ∧ g + 1 < w.heap.size ∧ w.cell? ⟨g, 0, none⟩ = some (.string s) ∧ w.cell? ⟨g + 1, 0, none⟩ = some (.int .u8 (m.toNat : Int))
set_option maxHeartbeats 1000000 in
theorem parts8 (s : ByteArray) (m : UInt8) (w : World) :
    Calls Tryz.prog 22 #[.string s, .int .u8 (m.toNat : Int)] w fun e w' => ∃ r, e = .returned r ∧ PW s m w.heap.size w' r ∧ Below w.heap.size w w' := by
  have b1 := Boxed.new (w.alloc (.cells #[.string s] 9)) 5 (.int .u8 (m.toNat : Int))
  rw [World.size_alloc] at b1
  have HB : Hid (Boxed ((w.alloc (.cells #[.string s] 9)).alloc (.cells #[.int .u8 (m.toNat : Int)] 5)) w.heap.size 9 (.string s) ∧ Boxed ((w.alloc (.cells #[.string s] 9)).alloc (.cells #[.int .u8 (m.toNat : Int)] 5)) (w.heap.size + 1) 5 (.int .u8 (m.toNat : Int))) := ⟨(Boxed.new w 9 _).alloc _, b1⟩
  clear b1
  go_enter Tryz.func22, Tryz.ntmps22
  go_wp2
  go_ret
  exact ⟨_, rfl, ⟨w.heap.size, rfl, Nat.le_refl _, HB.out.2.lt, HB.out.1.cell, HB.out.2.cell⟩, ((Below.refl _ _).alloc (Nat.le_refl _) _).alloc (by simp) _⟩
theorem iter15_stops (n : Nat) (hn : 1 ≤ n) (g : Nat) (s : ByteArray) (m : UInt8) (hs : s.size ≤ 4096) (N : Nat) (hN : s.size < N) (w : World) (hg : g + 1 < w.heap.size) (h1 : w.cell? ⟨g, 0, none⟩ = some (.string s)) (h2 : w.cell? ⟨g + 1, 0, none⟩ = some (.int .u8 (m.toNat : Int))) :
    SeqStopsK Fence.wide n Tryz.prog 35 #[.pointer (some ⟨g, 0, none⟩), .pointer (some ⟨g + 1, 0, none⟩)] pcV (KP g) (fun ys => ys = pieces s m) (fun pre => pre <+: pieces s m) N w := fun lp J Jx W hW hJ _ hY h0 =>
  iter15 Fence.wide n trivial trivial rfl rfl hn lp g s m hs N hN J Jx W hJ hY ((hW.cell (p := ⟨g, 0, none⟩) (by show g < _; omega)).trans h1) ((hW.cell (p := ⟨g + 1, 0, none⟩) hg).trans h2) h0
/-- the runs of these pieces -/
def rdG (l : List Pc) : Option (List (Int × Int)) := l.foldl (fun acc x => match acc, rrO x.1.2 with | some rs, some r => some (rs ++ [r]) | _, _ => none) (some [])
theorem rdG_snoc (l : List Pc) (x : Pc) : rdG (l ++ [x]) = match rdG l, rrO x.1.2 with | some rs, some r => some (rs ++ [r]) | _, _ => none := by unfold rdG; rw [List.foldl_append]; rfl
theorem rdG_no {l : List Pc} (x : Pc) (h : rrO x.1.2 = none) : rdG (l ++ [x]) = none := by rw [rdG_snoc, h]; cases rdG l <;> rfl
theorem rdG_yes {l : List Pc} {rs : List (Int × Int)} {r : Int × Int} (x : Pc) (h0 : rdG l = some rs) (h : rrO x.1.2 = some r) : rdG (l ++ [x]) = some (rs ++ [r]) := by rw [rdG_snoc, h0, h]
theorem rdG_pre {l m : List Pc} (h : l <+: m) (h0 : rdG l = none) : rdG m = none := by
  obtain ⟨t, rfl⟩ := h
  have : ∀ (t : List Pc), t.foldl (fun (acc : Option (List (Int × Int))) (x : Pc) => match acc, rrO x.1.2 with | some rs, some r => some (rs ++ [r]) | _, _ => none) none = none := by
    intro t
    induction t with
    | nil => rfl
    | cons a t ih => exact ih
  unfold rdG at h0 ⊢
  rw [List.foldl_append, h0]
  exact this t
theorem rdG_len {l : List Pc} : ∀ {rs : List (Int × Int)}, rdG l = some rs → rs.length = l.length := by
  suffices h : ∀ (t : List Pc) (acc : List (Int × Int)) (rs : List (Int × Int)), t.foldl (fun (acc : Option (List (Int × Int))) (x : Pc) => match acc, rrO x.1.2 with | some rs, some r => some (rs ++ [r]) | _, _ => none) (some acc) = some rs → rs.length = acc.length + t.length by
    intro rs h0
    have := h l [] rs h0
    simpa using this
  intro t
  induction t with
  | nil => intro acc rs h; cases h; simp
  | cons a t ih =>
    intro acc rs h
    rw [List.foldl_cons] at h
    cases hr : rrO a.1.2 with
    | none =>
      rw [hr] at h
      have := @rdG_pre [a] (a :: t) ⟨t, rfl⟩ (by unfold rdG; simp [hr])
      exfalso
      have z : ∀ (t : List Pc), t.foldl (fun (acc : Option (List (Int × Int))) (x : Pc) => match acc, rrO x.1.2 with | some rs, some r => some (rs ++ [r]) | _, _ => none) none = none := by
        intro t
        induction t with
        | nil => rfl
        | cons a t ih => exact ih
      have h' : t.foldl (fun (acc : Option (List (Int × Int))) (x : Pc) => match acc, rrO x.1.2 with | some rs, some r => some (rs ++ [r]) | _, _ => none) none = some rs := h
      rw [z] at h'
      cases h'
    | some r =>
      rw [hr] at h
      have := ih (acc ++ [r]) rs h
      simp at this ⊢
      omega
/-- what readRuns leaves -/
def RSE (B : Nat) (q : Option (List (Int × Int))) (w : World) (e : Ending) (w' : World) : Prop := ((q = none ∧ e = .returned (.tuple #[.slice none 0 0, .bool false])) ∨ ∃ rs v, q = some rs ∧ e = .returned (.tuple #[v, .bool true]) ∧ OR B w' v rs ∧ rs.length ≤ 8192) ∧ Below B w w'
theorem cells_gr {W W' : World} {row : Option Nat} {k : Nat} {cs : Array Value} {t : TypeId} {f : Nat × Nat} (h : W.heap[k]? = some (.cells cs t f)) (hg : W.grownBy W' row) (hr : ∀ r, row = some r → ∃ o : Obj, W.heap[r]? = some o ∧ o.isCells = false) : W'.heap[k]? = W.heap[k]? :=
  hg.block k (Array.getElem?_eq_some_iff.1 h).1 (fun e => by
    obtain ⟨o, ho, hc⟩ := hr _ e.symm
    rw [h] at ho; cases ho; cases hc)
theorem boxed_gr {W W' : World} {row : Option Nat} {B : Nat} {t : TypeId} {v : Value} (h : Boxed W B t v) (hg : W.grownBy W' row) (hr : ∀ r, row = some r → ∃ o : Obj, W.heap[r]? = some o ∧ o.isCells = false) : Boxed W' B t v := (cells_gr h hg hr).trans h
theorem own_gr {W W' : World} {row : Option Nat} {B e sz n : Nat} {v : Value} {xs : List Value} (h : W.ownsRow B e sz v n xs) (hg : W.grownBy W' row) (hr : ∀ r, row = some r → ∃ o : Obj, W.heap[r]? = some o ∧ o.isCells = false) : W'.ownsRow B e sz v n xs :=
  own_keep h (fun g e => by
    rcases h.2 with ⟨rfl, _⟩ | ⟨b, cap, cur, rfl, _, h3, _⟩
    · simp [Value.ownBlock] at e
    · obtain rfl : b = g := by simpa [Value.ownBlock] using e
      exact cells_gr h3 hg hr)
theorem keepsO_below {W W' : World} (h : Below W.heap.size W W') : KeepsOthers W W' := ⟨h.size, fun k _ hk _ => (h.block k (Array.getElem?_eq_some_iff.1 hk).1).trans hk⟩
theorem rowMono {B B' e size : Nat} {w : World} {v : Value} {k : Nat} {xs : List Value} (h : w.ownsRow B e size v k xs) (hb : B' ≤ B) : w.ownsRow B' e size v k xs := by
  refine ⟨h.1, ?_⟩
  rcases h.2 with h1 | ⟨g, cap, cur, h1, h2, h3⟩
  · exact .inl h1
  · exact .inr ⟨g, cap, cur, h1, Nat.le_trans hb h2, h3⟩
theorem cells_two_new (W : World) (a b : Value) (t : TypeId) : ∀ j u, [a, b][j]? = some u → (W.alloc (.cells #[a, b] t)).cell? ((⟨W.heap.size, 0, none⟩ : Addr).add j) = some u := by
  intro j u hu
  have hn := World.alloc_heap_new W (.cells #[a, b] t)
  generalize W.alloc (.cells #[a, b] t) = W' at *
  generalize W.heap.size = B at *
  match j, hu with
  | 0, hu => simp at hu; subst hu; simp [World.cell?, Addr.add, hn]
  | 1, hu => simp at hu; subst hu; simp [World.cell?, Addr.add, hn]
theorem run_loadVar_one (w : World) (g : Nat) (ty : TypeId) (t : TypeId) (v : Value) (h : Boxed w g t v) (hA : ∀ u : World, (isAgg ty).run Tryz.prog u = .ok false u) : (loadVar ty ⟨g, 0, none⟩).run Tryz.prog w = .ok v w := by
  have hc := h.cell
  simp [loadVar, go_sem, hA, hc]
theorem results_cc {fn : Func} {p q : Tmp} {ty tz : TypeId} (h : fn.results = #[.cell p ty, .cell q tz]) (tmps : Array Value) (w : World) (g k : Nat) (t t' : TypeId) (v u : Value)
    (hp : tmps.getD p undef = .pointer (some ⟨g, 0, none⟩)) (hq : tmps.getD q undef = .pointer (some ⟨k, 0, none⟩)) (hg : Boxed w g t v) (hk : Boxed w k t' u) (hA : ∀ u : World, (isAgg ty).run Tryz.prog u = .ok false u) (hB : ∀ u : World, (isAgg tz).run Tryz.prog u = .ok false u) :
    (results fn tmps).run Tryz.prog w = .ok (.tuple #[v, u]) w := by
  have hp' : tmps[p]?.getD undef = .pointer (some ⟨g, 0, none⟩) := by simpa using hp
  have hq' : tmps[q]?.getD undef = .pointer (some ⟨k, 0, none⟩) := by simpa using hq
  have h9 := run_loadVar_one w g ty t v hg hA
  have h8 := run_loadVar_one w k tz t' u hk hB
  simp [results, h, hp', hq', asAddr, h9, h8]
theorem isAgg25 (u : World) : (isAgg 25).run Tryz.prog u = .ok false u := by kernel_rfl
theorem isAgg4 (u : World) : (isAgg 4).run Tryz.prog u = .ok false u := by kernel_rfl
theorem pcs_len (s : ByteArray) (m : UInt8) : ∀ (f fr : Nat), (pcs s m f fr).length ≤ f + 1
  | 0, fr => by simp [pcs]
  | f + 1, fr => by
    rw [pcs]
    split
    · simp
    · have := pcs_len s m f (fr + (Lib.indexByte (s.data.toList.drop fr) m).toNat + 1)
      simp only [List.length_cons]
      omega
theorem pieces_len (s : ByteArray) (m : UInt8) (hs : s.size ≤ 4096) : (pieces s m).length ≤ 8192 := by
  have := pcs_len s m (s.size + 1) 0
  unfold pieces
  omega
set_option maxRecDepth 100000 in
set_option maxHeartbeats 4000000 in
theorem readRuns51 (s : ByteArray) (w : World) (hs : s.size ≤ 4096) (hT : TG w) : Calls Tryz.prog 82 #[.string s] w fun e w' => RSE w.heap.size (rdG (pieces s 44)) w e w' := by
  refine (callsIn_wide (n := 6)).1 ?_
  obtain ⟨i0, hi, hz0, hz1, hz2⟩ := info_parts infoRng
  have HT : Hid (TG w) := hT
  clear hT
  have b1 := Boxed.new (w.alloc (.cells #[.slice none 0 0] 25)) 4 (.bool false)
  have b2 := Boxed.new ((w.alloc (.cells #[.slice none 0 0] 25)).alloc (.cells #[.bool false] 4)) 25 (.slice none 0 0)
  simp only [World.size_alloc] at b1 b2
  have HA : Hid (Below w.heap.size w (((w.alloc (Obj.cells #[Value.slice none 0 0] 25)).alloc (Obj.cells #[Value.bool false] 4)).alloc (Obj.cells #[Value.slice none 0 0] 25)) ∧ Boxed (((w.alloc (Obj.cells #[Value.slice none 0 0] 25)).alloc (Obj.cells #[Value.bool false] 4)).alloc (Obj.cells #[Value.slice none 0 0] 25)) w.heap.size 25 (.slice none 0 0) ∧ Boxed (((w.alloc (Obj.cells #[Value.slice none 0 0] 25)).alloc (Obj.cells #[Value.bool false] 4)).alloc (Obj.cells #[Value.slice none 0 0] 25)) (w.heap.size + 1) 4 (.bool false) ∧ Boxed (((w.alloc (Obj.cells #[Value.slice none 0 0] 25)).alloc (Obj.cells #[Value.bool false] 4)).alloc (Obj.cells #[Value.slice none 0 0] 25)) (w.heap.size + 1 + 1) 25 (.slice none 0 0)) :=
    ⟨(((Below.refl _ _).alloc (Nat.le_refl _) _).alloc (by simp only [World.size_alloc]; omega) _).alloc (by simp only [World.size_alloc]; omega) _, ((Boxed.new w _ _).alloc _).alloc _, b1.alloc _, b2⟩
  clear b1 b2
  refine callsIn_of_wp_marks Tryz.func82 rfl trivial ?_ rfl
  simp only [Tryz.ntmps82, List.size_toArray, List.length_cons, List.length_nil, Nat.reduceAdd, Nat.reduceSub, Array.replicate_succ, Array.replicate_zero, List.push_toArray, List.append_toArray, List.nil_append, List.cons_append]
  gi_wp2
  refine ⟨trivial, ?_⟩
  generalize (((w.alloc (Obj.cells #[Value.slice none 0 0] 25)).alloc (Obj.cells #[Value.bool false] 4)).alloc (Obj.cells #[Value.slice none 0 0] 25)) = wA at *
  obtain ⟨q1, q2, q3, q4⟩ := HA.out
  obtain ⟨H, hH⟩ : ∃ H, w.heap.size = H := ⟨_, rfl⟩
  rw [hH] at q1 q2 q3 q4 ⊢
  have HH : Hid (w.heap.size = H) := hH
  clear hH HA
  refine (callsIn_wide.2 (parts8 s 44 wA)).mono ?_
  rintro e w2 ⟨r, rfl, ⟨g, rfl, hg1, hg2, hc1, hc2⟩, hb2⟩
  have l4 := q4.lt
  have bx1 : Boxed w2 H 25 (.slice none 0 0) := (hb2.block H q2.lt).trans q2
  have bx2 : Boxed w2 (H + 1) 4 (.bool false) := (hb2.block (H + 1) q3.lt).trans q3
  have bx3 : Boxed w2 (H + 1 + 1) 25 (.slice none 0 0) := (hb2.block (H + 1 + 1) q4.lt).trans q4
  have hbw : Below H w w2 := q1.trans (hb2.mono (by have := q1.size; rw [HH.out] at this; omega))
  have hsz0 : H ≤ w2.heap.size := by have := hbw.size; rw [HH.out] at this; exact this
  clear q1 q2 q3 q4 hb2
  gi_wp2
  refine wpIn_rangeFunc_ownF rfl (by omega) (gf := 35) (lb := #[.pointer (some ⟨g, 0, none⟩), .pointer (some ⟨g + 1, 0, none⟩)]) rfl trivial (enters_of Tryz.func35 (by kernel_rfl) rfl)
    (iter15_stops 5 (by omega) g s 44 hs 8192 (by omega) w2 hg2 hc1 hc2) KP.trans (KP.put hg2) (Below.refl _ _) (fun _ => rfl)
    (fun pre W => (∃ v rs, rdG pre = some rs ∧ Boxed W (H + 1 + 1) 25 v ∧ OR w2.heap.size W v rs) ∧ Boxed W H 25 (.slice none 0 0) ∧ Boxed W (H + 1) 4 (.bool false) ∧ Below H w W ∧ w2.heap.size ≤ W.heap.size)
    (fun c pre W => c = .ret ∧ rdG pre = none ∧ Boxed W H 25 (.slice none 0 0) ∧ Boxed W (H + 1) 4 (.bool false) ∧ Below H w W)
    (fun pre X Y row hs hg hr => by
      obtain ⟨⟨v, rs, k1, k2, k3⟩, k4, k5, k6, k7⟩ := hs
      have hr' : ∀ r, row = some r → ∃ o : Obj, X.heap[r]? = some o ∧ o.isCells = false := fun r e => (hr r e).2
      exact ⟨⟨v, rs, k1, boxed_gr k2 hg hr', own_gr k3 hg hr'⟩, boxed_gr k4 hg hr', boxed_gr k5 hg hr', k6.grown hg (by omega) (fun k e => by have := (hr k e).1; omega), Nat.le_trans k7 hg.size⟩)
    (fun c pre X Y row hs hg hr => by
      obtain ⟨k0, k1, k4, k5, k6⟩ := hs
      have hr' : ∀ r, row = some r → ∃ o : Obj, X.heap[r]? = some o ∧ o.isCells = false := fun r e => (hr r e).2
      exact ⟨k0, k1, boxed_gr k4 hg hr', boxed_gr k5 hg hr', k6.grown hg (by have := k6.size; rw [HH.out] at this; exact this) (fun k e => by have := (hr k e).1; omega)⟩)
    ⟨⟨_, [], rfl, bx3, World.ownsRow_nil _ _ _ _⟩, bx1, bx2, hbw, Nat.le_refl _⟩
    (fun x => { tmps := #[.string s, undef, .pointer (some ⟨H, 0, none⟩), .pointer (some ⟨H + 1, 0, none⟩), .pointer (some ⟨H + 1 + 1, 0, none⟩), undef, .string x.1.2, undef, undef, .string s, .func (.func 35) #[] #[.pointer (some ⟨g, 0, none⟩), .pointer (some ⟨g + 1, 0, none⟩)], .int .i64 (x.1.1 : Int), .string x.1.2, undef, undef, undef, undef, undef, undef, undef, undef, undef, undef, undef, undef], defers := [] }) ?assign ?body ?done ?stop
  case assign =>
    intro lp x W K hK
    gi_wp2
    exact hK
  case body =>
    rintro lp pre x W ⟨⟨v, rs, hrd, hv, how⟩, hb1, hb2, hB, hsz⟩ hlt
    have HTW : Hid (TG W) := HT.out.below (by have h9 := hB; rw [← HH.out] at h9; exact h9)
    obtain ⟨av, cv, rfl⟩ := how.form
    have hrl : rs.length < 8192 := by rw [rdG_len hrd]; exact hlt
    have hPx := x.2
    have HR := Lib.hid (readRun61 x.1.2 W hPx.2 HTW.out)
    have HF : Hid (∀ w3 x0 y0, Below W.heap.size W w3 → Boxed (w3.alloc (Obj.cells #[.int .i64 x0, .int .i64 y0] 36)) H 25 (.slice none 0 0) ∧ Boxed (w3.alloc (Obj.cells #[.int .i64 x0, .int .i64 y0] 36)) (H + 1) 4 (.bool false) ∧ Boxed (w3.alloc (Obj.cells #[.int .i64 x0, .int .i64 y0] 36)) (H + 1 + 1) 25 (.slice av rs.length cv) ∧ OR w2.heap.size (w3.alloc (Obj.cells #[.int .i64 x0, .int .i64 y0] 36)) (.slice av rs.length cv) rs ∧ Below H w (w3.alloc (Obj.cells #[.int .i64 x0, .int .i64 y0] 36)) ∧ Below W.heap.size W (w3.alloc (Obj.cells #[.int .i64 x0, .int .i64 y0] 36))) := fun w3 x0 y0 hb3 => by
      have hk : Below W.heap.size W (w3.alloc (Obj.cells #[.int .i64 x0, .int .i64 y0] 36)) := hb3.alloc hb3.size _
      exact ⟨(hk.block _ hb1.lt).trans hb1, (hk.block _ hb2.lt).trans hb2, (hk.block _ hv.lt).trans hv, how.grow hk, hB.trans (hk.mono (by omega)), hk⟩
    cases hq0 : rrO x.1.2 with
    | none =>
      rw [hq0] at HR
      have HN := Lib.hid (rdG_no (l := pre) x hq0)
      clear hq0
      gi_wp2_with (refine ⟨trivial, ?_⟩; gi_at_call 94; refine (CallsIn.inRound lp (callsIn_wide.2 HR.out)).mono ?_; rintro e w3 ⟨⟨x0, y0, rfl, -⟩, hb3⟩; have hf0 := HF.out w3 x0 y0 hb3; have s1 := hf0.1.cell; have s2 := hf0.1.frozen; have s3 := (hf0.2.1.other (B' := H) (by omega) (.slice none 0 0)).cell; have s4 := (hf0.2.1.other (B' := H) (by omega) (.slice none 0 0)).frozen)
      refine ⟨((keepsO_below hf0.2.2.2.2.2).trans (KeepsOthers.setCell _ _ _)).trans (KeepsOthers.setCell _ _ _), rfl, HN.out, (hf0.1.set _).other (by omega) _, (hf0.2.1.other (by omega) _).set _, (hf0.2.2.2.2.1.setCell (p := ⟨H, 0, none⟩) (Nat.le_refl _) _).setCell (p := ⟨H + 1, 0, none⟩) (Nat.le_succ _) _⟩
    | some r =>
      rw [hq0] at HR
      have HN := Lib.hid (rdG_yes x hrd hq0)
      clear hq0
      gi_wp2_with (first
        | (refine ⟨trivial, ?_⟩; gi_at_call 94; refine (CallsIn.inRound lp (callsIn_wide.2 HR.out)).mono ?_; clear HR; rintro e w3 ⟨⟨x0, y0, rfl, hq⟩, hb3⟩; have hf0 := HF.out w3 x0 y0 hb3; have s1 := hf0.2.2.1.cell; have s2 := hf0.2.2.1.frozen; have hnw := cells_two_new (w3.alloc (Obj.cells #[.int .i64 x0, .int .i64 y0] 36)) (.int .i64 x0) (.int .i64 y0) 36; rw [World.size_alloc] at hnw)
        | (gi_at_builtin; refine wpListIn_append_own _ rfl _ _ 25 rfl w2.heap.size 36 i0 _ 2 16 Tryz.underlying25 hi hz0 hz1 hz2 rfl (by decide) _ rs.length (rsC rs) rfl (hf0.2.2.2.1.alloc _) ⟨w3.heap.size + 1, 0, none⟩ 1 1 [.int .i64 x0, .int .i64 y0] rfl rfl hnw (by simp [Value.oneCell']) (by unfold maxLen; omega) (by omega) (by have h8 := hf0.2.2.2.2.2.size; simp only [World.size_alloc] at h8 ⊢; omega) ?_; (
            intro v' w4 hown' hgrow _
            obtain ⟨g', cap', rfl⟩ := ownsRow_succ hown'
            obtain ⟨hv1, hv2, -, hk2, hbb⟩ := hf0.2.2.1.appended (n₀ := H) (by decide) (rowMono hf0.2.2.2.1 hsz0) (by have h8 := hf0.2.2.2.2.2.size; omega) (by omega) (rowMono hown' hsz0) hgrow
            have hc1 := hv1.cell
            have hf1 := hv1.frozen)))
      have hr2 := hown'.kept (grownBy_setCell' w4 (H + 1 + 1) (.slice (some ⟨g', 0, none⟩) (rs.length + 1) cap')) (.inr (hv1.not_row (by decide) hown').symm)
      have hz1 : Boxed w4 H 25 (.slice none 0 0) := (hf0.1.alloc _).kept hgrow (hf0.1.not_row (by decide) hf0.2.2.2.1)
      have hz2 : Boxed w4 (H + 1) 4 (.bool false) := (hf0.2.1.alloc _).kept hgrow (hf0.2.1.not_row (by decide) hf0.2.2.2.1)
      have hgm : ∀ q, (Value.slice av rs.length cv).ownBlock = some q → w2.heap.size ≤ q := fun q e => (World.ownsRow.lt hf0.2.2.2.1 q e).1
      have h8 := hf0.2.2.2.2.2.size
      have hs4 : W.heap.size ≤ w4.heap.size := by have := hgrow.size; rw [World.size_alloc] at this; omega
      refine ⟨(keepsO_below hf0.2.2.2.2.2).trans hk2, ⟨by simpa using hs4, fun k hk hkl => ?_⟩, ⟨_, _, HN.out, hv2, ?_⟩, hz1.other (by omega) _, hz2.other (by omega) _, hf0.2.2.2.2.1.trans hbb, by simp; omega⟩
      · have hkg : k < w2.heap.size := by rcases hk with rfl | rfl <;> omega
        have hkn : k ≠ H + 1 + 1 := by rcases hk with rfl | rfl <;> omega
        rw [Below.heap_setCell _ _ _ _ (by show k ≠ H + 1 + 1; exact hkn), hgrow.block k (by rw [World.size_alloc]; omega) (fun e => by have := hgm k e.symm; omega), Below.heap_alloc _ _ k (by omega)]
        exact hf0.2.2.2.2.2.block k hkl
      · have hxy : (x0, y0) = r := hq r rfl
        rw [← hxy]
        show World.ownsRow _ _ _ _ _ (rs ++ [(x0, y0)]).length _
        have e : rsC rs ++ [Value.int .i64 x0, Value.int .i64 y0] = rsC (rs ++ [(x0, y0)]) := by simp [rsC]
        rw [e] at hr2
        rw [List.length_append]
        exact hr2
  case done =>
    rintro D ys W hD rfl ⟨⟨v, rs, hrd, hv, how⟩, hb1, hb2, hB, hsz⟩ hK
    obtain ⟨av, cv, rfl⟩ := how.form
    have s1 := hv.cell
    have s2 := hb1.cell
    have s3 := hb1.frozen
    have s4 := (hb2.other (B' := H) (by omega) (.slice av rs.length cv)).cell
    have s5 := (hb2.other (B' := H) (by omega) (.slice av rs.length cv)).frozen
    gi_wp2
    have hw : Below H w ((W.setCell ⟨H, 0, none⟩ (.slice av rs.length cv)).setCell ⟨H + 1, 0, none⟩ (.bool true)) := (hB.setCell (p := ⟨H, 0, none⟩) (Nat.le_refl _) _).setCell (p := ⟨H + 1, 0, none⟩) (Nat.le_succ _) _
    have hK' := ((KeepsOthers.setCell W ⟨H, 0, none⟩ (.slice av rs.length cv)).trans (KeepsOthers.setCell _ ⟨H + 1, 0, none⟩ (.bool true))).same D _ hK rfl
    have z1 : Boxed ((W.setCell ⟨H, 0, none⟩ (.slice av rs.length cv)).setCell ⟨H + 1, 0, none⟩ (.bool true)) H 25 (.slice av rs.length cv) := (hb1.set _).other (by omega) _
    have z2 : Boxed ((W.setCell ⟨H, 0, none⟩ (.slice av rs.length cv)).setCell ⟨H + 1, 0, none⟩ (.bool true)) (H + 1) 4 (.bool true) := (hb2.other (by omega) _).set _
    have z3 : OR w2.heap.size ((W.setCell ⟨H, 0, none⟩ (.slice av rs.length cv)).setCell ⟨H + 1, 0, none⟩ (.bool true)) (.slice av rs.length cv) rs :=
      own_keep how (fun q e => by
        have := (World.ownsRow.lt how q e).1
        rw [Below.heap_setCell _ _ _ _ (by show q ≠ H + 1; have := bx3.lt; omega), Below.heap_setCell _ _ _ _ (by show q ≠ H; have := bx3.lt; omega)])
    generalize (W.setCell ⟨H, 0, none⟩ (.slice av rs.length cv)).setCell ⟨H + 1, 0, none⟩ (.bool true) = W9 at *
    have hgp := grownBy_putObj' W9 D (.deferred none)
    have hgr : ∀ r, some D = some r → ∃ o : Obj, W9.heap[r]? = some o ∧ o.isCells = false := fun r e => by cases e; exact ⟨_, hK', rfl⟩
    refine ⟨by simp, .inl ⟨_, _, rfl, run_takeDeferred hK', ?_⟩⟩
    refine ⟨_, results_cc Tryz.results82 _ _ H (H + 1) 25 4 _ _ rfl rfl (boxed_gr z1 hgp hgr) (boxed_gr z2 hgp hgr) isAgg25 isAgg4, ?_⟩
    rw [HH.out]
    exact ⟨.inr ⟨rs, _, hrd, rfl, own_gr (rowMono z3 hsz0) hgp hgr, by rw [rdG_len hrd]; exact pieces_len s 44 hs⟩, hw.grown hgp (by have := hw.size; rw [HH.out] at this; exact this) (fun k e => by cases e; omega)⟩
  case stop =>
    rintro D c pre W hD hpre ⟨rfl, hno, hb1, hb2, hB⟩ hK
    gi_wp2
    have hgp := grownBy_putObj' W D (.deferred none)
    have hgr : ∀ r, some D = some r → ∃ o : Obj, W.heap[r]? = some o ∧ o.isCells = false := fun r e => by cases e; exact ⟨_, hK, rfl⟩
    refine ⟨by simp, .inl ⟨_, _, rfl, run_takeDeferred hK, ?_⟩⟩
    refine ⟨_, results_cc Tryz.results82 _ _ H (H + 1) 25 4 _ _ rfl rfl (boxed_gr hb1 hgp hgr) (boxed_gr hb2 hgp hgr) isAgg25 isAgg4, ?_⟩
    rw [HH.out]
    exact ⟨.inl ⟨rdG_pre hpre hno, rfl⟩, hB.grown hgp (by have := hB.size; rw [HH.out] at this; exact this) (fun k e => by cases e; omega)⟩
end Go.Proofs.YtnpcbcfjnhjmmaaGreatDoor
