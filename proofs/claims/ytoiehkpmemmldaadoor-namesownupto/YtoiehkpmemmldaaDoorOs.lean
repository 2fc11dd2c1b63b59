import Derived.Test.YtoiehkpmemmldaaDoorOr
import Derived.Test.YtoiehkpmemmldaaDoorCp
import Derived.Shelf.SlSortCmp.NoneTotal
import Derived.Shelf.Lay
import Derived.Ground.SlsfProg
namespace Go.Proofs.YtoiehkpmemmldaaDoor
open Go.Shelf Go.RowKit Go.Lib Go.Sort
shelf_lay_g SlLaysF.n6 Slsf 6 at Tryd 22 as sort20
/-- the box of the paths -/
def B2 (w : World) (B : Nat) (x : Value) : Prop := w.heap[B]? = some (.cells #[x] 22 (0, 0))
theorem B2.cell {w : World} {B : Nat} {x : Value} (h : B2 w B x) : w.cell? ⟨B, 0, none⟩ = some x := by unfold B2 at h; simp [World.cell?, h]
theorem B2.keep {w w' : World} {B : Nat} {x : Value} (h : B2 w B x) (hb : Go.RowKit.Below w.heap.size w w') : B2 w' B x := (hb.block B (Array.getElem?_eq_some_iff.1 h).1).trans h
theorem B2.made (w : World) (x : Value) : B2 (w.alloc (.cells #[x] 22)) w.heap.size x := (MapKept.heap_alloc w _).1
set_option maxHeartbeats 1000000 in
theorem closure21 (v : Value) (L : List (List ByteArray)) (i j B : Nat) (w : World) (hf : PF L) (hi : i < L.length) (hj : j < L.length) (hB : B2 w B v) (hr : PR w L v) :
    Calls Tryd.prog 23 #[.int .i64 i, .int .i64 j, .pointer (some ⟨B, 0, none⟩)] w fun e w' => e = .returned (.int .i64 (cl (la L i) (la L j))) ∧ ∃ n, w' = w.drewN n := by
  have hc := hB.cell
  obtain ⟨a1, c1, rfl, hcap, _⟩ := id hr
  obtain ⟨b1, o1, rfl, _, x, k1, k2⟩ := hr.cellAt hi
  obtain ⟨b2, o2, he, _, y, g1, g2⟩ := hr.cellAt hj
  simp at he
  obtain ⟨rfl, rfl⟩ := he
  have HC : Hid (∀ nn, Calls Tryd.prog 24 #[x, y] (w.drewN nn) fun e w' => e = .returned (.int .i64 (cl (la L i) (la L j))) ∧ w' = w.drewN nn) := fun nn =>
    compare27 x y _ _ _ (hf.la hi).1 (hf.la hj).1 (k2.keep (drB _ _)) (g2.keep (drB _ _))
  have hl := hf.1
  clear hr k2 g2 hB hf
  generalize cl (la L i) (la L j) = z at *
  generalize hn : L.length = n at *
  clear hn
  go_enter Tryd.func23, Tryd.ntmps23
  go_wp2
  go_quiet ((go_at_call 24; exact Calls.quiet_of_same (HC.out _)))
  go_wp2
  go_ret
  exact ⟨rfl, _, rfl⟩
theorem sw_below {α : Type} [Inhabited α] (enc : α → Value) (w : World) (blk off m : Nat) (d : Array α) (os : Array Obj) (hb : blk < w.heap.size) : Go.RowKit.Below blk w (sortWorld enc w blk off m d os) := by
  refine ⟨rfl, rfl, rfl, by simp [sortWorld, grow, putRow, mapBlock], fun i hi => ?_⟩
  unfold sortWorld grow
  rw [Array.getElem?_append_left (by simp [putRow, mapBlock]; omega)]
  unfold putRow mapBlock
  simp only [heap_ahead]
  rw [Array.getElem?_modify]
  rw [if_neg (by omega)]
theorem swo (L : List (List ByteArray)) : SWO (ltOf (fun x y : Fin L.length => cl (la L x) (la L y))) where
  irrefl x := by show decide (cl (la L x) (la L x) < 0) = false; rw [cl_self]; rfl
  trans x y z h1 h2 := by unfold ltOf at *; simp only [decide_eq_true_eq] at *; exact cl_tr _ _ _ h1 h2
  ntrans x y z h1 h2 := by
    unfold ltOf at *
    simp only [decide_eq_false_iff_not] at *
    intro h3
    have e1 := cl_neg (la L x) (la L y)
    rcases Int.lt_or_le (cl (la L y) (la L x)) 0 with h4 | h4
    · exact h2 (cl_tr _ _ _ h4 h3)
    · have : cl (la L x) (la L y) = 0 := by omega
      rw [cl_eq0 _ _ this] at h3
      exact h2 h3
def enF (n : Nat) (x : Fin n) : Value := .int .i64 ((x.val : Nat) : Int)
theorem sp_of {L : List (List ByteArray)} [Inhabited (Fin L.length)] (hn : ND L) {d d' : Array (Fin L.length)} (hd : d.toList.map (·.val) = List.range L.length) (hp : PermIn 0 d.size d d') (hs : SortedIn (ltOf (fun x y : Fin L.length => cl (la L x) (la L y))) 0 d.size d') :
    SP L (d'.toList.map (·.val)) ∧ d'.size = L.length := by
  have hsz : d.size = L.length := by have := congrArg List.length hd; simpa using this
  have hsz' : d'.size = L.length := by rw [hp.1, hsz]
  have hperm : d'.toList.Perm d.toList := by
    have := hp.2.2
    simp only [Array.toList_extract] at this
    simpa [List.extract_eq_take_drop, hsz, hsz', List.take_of_length_le] using this
  have hnd : (d'.toList.map (·.val)).Nodup := by
    have h1 : (d'.toList.map (·.val)).Perm (List.range L.length) := by rw [← hd]; exact hperm.map _
    exact h1.nodup_iff.2 List.nodup_range
  refine ⟨⟨by rw [← hd]; exact hperm.map _, fun i j hij hj => ?_⟩, hsz'⟩
  have hi' : i < d'.size := by omega
  have hj' : j < d'.size := by omega
  have e1 : (d'.toList.map (·.val)).getD i 0 = (d'[i]).val := by simp [List.getD_eq_getElem?_getD, hi']
  have e2 : (d'.toList.map (·.val)).getD j 0 = (d'[j]).val := by simp [List.getD_eq_getElem?_getD, hj']
  rw [e1, e2]
  have h := hs i j (Nat.zero_le _) hij (by omega)
  rw [getElem!_pos d' i hi', getElem!_pos d' j hj'] at h
  refine lx_tri (fun e => ?_) h
  have hv := hn _ _ (d'[i]).isLt (d'[j]).isLt e
  have : i = j := by
    have h1 : i < (d'.toList.map (·.val)).length := by simpa using hi'
    have h2 : j < (d'.toList.map (·.val)).length := by simpa using hj'
    exact (List.getElem_inj (h₀ := h1) (h₁ := h2) hnd).1 (by simpa using hv)
  omega
end Go.Proofs.YtoiehkpmemmldaaDoor
