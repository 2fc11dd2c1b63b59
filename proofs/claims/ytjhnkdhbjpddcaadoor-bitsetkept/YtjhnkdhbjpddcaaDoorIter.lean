import Derived.RangeFuncNested
import Derived.RangeFuncBound
import Derived.RangeFuncCalls
import Derived.RangeFuncLeaves
import Derived.RangeFuncFrom
import Derived.Shelf.Abstract
import Derived.Shelf.RegionOpen
import Derived.OwnWalkIn
import Derived.TacticsInMore
import Derived.LoopNIn
import Derived.LoopIn
import Derived.Test.YtjhnkdhbjpddcaaDoorOwn
namespace Go.Proofs.YtjhnkdhbjpddcaaDoor
open Go.RowKit Go.Shelf
attribute [local go_sem] Oper.semAt_some
/-- a place of a bitfield -/
abbrev Pl := { x : Nat // x < 65536 }
/-- the set places below k, in their order -/
def on1 (l : List UInt8) (k : Nat) : List Pl := (List.range k).filterMap (fun i => if h : i < 65536 then (if bit l i then some ⟨i, h⟩ else none) else none)
theorem on1_yes {l : List UInt8} {k : Nat} (h : k < 65536) (hb : bit l k = true) : on1 l (k + 1) = on1 l k ++ [⟨k, h⟩] := by
  unfold on1
  rw [List.range_succ, List.filterMap_append]
  simp [h, hb]
theorem on1_no {l : List UInt8} {k : Nat} (hb : bit l k = false) : on1 l (k + 1) = on1 l k := by
  unfold on1
  rw [List.range_succ, List.filterMap_append]
  by_cases h : k < 65536 <;> simp [h, hb]
theorem on1_len (l : List UInt8) (k : Nat) : (on1 l k).length ≤ k := by
  unfold on1
  exact Nat.le_trans (List.length_filterMap_le _ _) (by simp)
theorem on1_prefix (l : List UInt8) (k m : Nat) (h : k ≤ m) : on1 l k <+: on1 l m := by
  obtain ⟨d, rfl⟩ := Nat.exists_eq_add_of_le h
  unfold on1
  rw [List.range_add, List.filterMap_append]
  exact List.prefix_append _ _
/-- the blocks 0 and g stay as they are -/
def KG (g : Nat) (W W' : World) : Prop := W.heap.size ≤ W'.heap.size ∧ ∀ k, (k = 0 ∨ k = g) → k < W.heap.size → W'.heap[k]? = W.heap[k]?
theorem KG.refl (g : Nat) (W : World) : KG g W W := ⟨Nat.le_refl _, fun _ _ _ => rfl⟩
theorem KG.trans {g : Nat} {A B C : World} (h : KG g A B) (k : KG g B C) : KG g A C := ⟨Nat.le_trans h.1 k.1, fun x hx hl => (k.2 x hx (Nat.lt_of_lt_of_le hl h.1)).trans (h.2 x hx hl)⟩
theorem KG.cell {g : Nat} {A B : World} (h : KG g A B) {x o : Nat} {v : Value} (hx : x = 0 ∨ x = g) (hc : A.cell? ⟨x, o, none⟩ = some v) : B.cell? ⟨x, o, none⟩ = some v :=
  (World.cell?_of_block (w := A) (h.2 x hx (World.block_lt_of_cell? A _ hc))).trans hc
theorem KG.put {g : Nat} {w : World} (_h0 : 0 < w.heap.size) (hg : g < w.heap.size) (W : World) (l : Nat) (o o' : Obj) (hl : w.heap.size ≤ l) (_ : W.heap[l]? = some o) (_ : o.isCells = false) (_ : o.isWalk = false) : KG g W (W.putObj l o') :=
  ⟨by simp, fun k hk _ => World.putObj_heap_other (by rcases hk with rfl | rfl <;> omega)⟩
theorem index8 (j : Nat) (hj : j < 8) (u : World) : (Instr.index 40 (.agg #[.int .u8 128, .int .u8 64, .int .u8 32, .int .u8 16, .int .u8 8, .int .u8 4, .int .u8 2, .int .u8 1]) (.int .i64 (j : Int))).run Tryd.prog u = .ok (.int .u8 (mk j : Int)) u := by
  rcases (by omega : j = 0 ∨ j = 1 ∨ j = 2 ∨ j = 3 ∨ j = 4 ∨ j = 5 ∨ j = 6 ∨ j = 7) with rfl | rfl | rfl | rfl | rfl | rfl | rfl | rfl <;> kernel_rfl
set_option maxRecDepth 100000 in
set_option maxHeartbeats 2000000 in
theorem iter35 (F : Fence) (n : Nat) (hF : F.fn 31) (hro : F.round = none) (hn : 1 ≤ n) (lp Bs g o len cap : Nat) (l : List UInt8) (hlen : l.length = len) (hl : len ≤ 8192) (J Jx : List Pl → World → Prop)
    (hY : ∀ pre x W, J pre W → pre.length < 65536 → YieldAt F (n - 1) Tryd.prog lp #[.int .i64 (x.1 : Int)] W fun e W' =>
      (e = .returned (.bool true) ∧ J (pre ++ [x]) W' ∧ KG g W W') ∨ (e = .returned (.bool false) ∧ Jx (pre ++ [x]) W'))
    (W : World) (hBs : W.cell? ⟨Bs, 0, none⟩ = some (.slice (some ⟨g, o, none⟩) len cap)) (hc : ∀ j, j < len → W.cell? ⟨g, o + j, none⟩ = some (.int .u8 ((byt l j).toNat : Int))) (hm : MT W) (h0 : J [] W) :
    CallsIn F n Tryd.prog 31 #[.func (.yield lp) #[] #[], .pointer (some ⟨Bs, 0, none⟩)] W fun e W' => (∃ v, e = .returned v) ∧
      ((∃ ys, ys = on1 l (8 * len) ∧ J ys W') ∨ (∃ pre, pre <+: on1 l (8 * len) ∧ Jx pre W')) := by
  refine callsIn_of_wp Tryd.func31 rfl hF ?_ hro
  simp only [Tryd.ntmps31, List.size_toArray, List.length_cons, List.length_nil, Nat.reduceAdd, Nat.reduceSub, Array.replicate_succ, Array.replicate_zero, List.push_toArray, List.append_toArray, List.nil_append, List.cons_append]
  have HC : Hid ((∀ j, j < len → W.cell? ⟨g, o + j, none⟩ = some (.int .u8 ((byt l j).toNat : Int))) ∧ MT W) := ⟨hc, hm⟩
  clear hc hm
  gi_wp2
  gi_loopw [9] (fun i wr => ∃ q : Nat, q ≤ len ∧ i = .int .i64 q ∧ J (on1 l (8 * q)) wr ∧ KG g W wr) (fun i _ => len - (intOf i).toNat)
  case atStart => exact ⟨0, Nat.zero_le _, rfl, h0, KG.refl _ _⟩
  case round =>
    obtain ⟨q, hq, rfl, hJs, hK⟩ := hrel
    by_cases hlt : q < len
    · have hcx := hK.cell (.inr rfl) (HC.out.1 q hlt)
      have m0 := hK.cell (.inl rfl) (HC.out.2.2 0 (by omega))
      have m1 := hK.cell (.inl rfl) (HC.out.2.2 1 (by omega))
      have m2 := hK.cell (.inl rfl) (HC.out.2.2 2 (by omega))
      have m3 := hK.cell (.inl rfl) (HC.out.2.2 3 (by omega))
      have m4 := hK.cell (.inl rfl) (HC.out.2.2 4 (by omega))
      have m5 := hK.cell (.inl rfl) (HC.out.2.2 5 (by omega))
      have m6 := hK.cell (.inl rfl) (HC.out.2.2 6 (by omega))
      have m7 := hK.cell (.inl rfl) (HC.out.2.2 7 (by omega))
      simp only [mk, Nat.reducePow, Nat.reduceSub, Int.cast_ofNat_Int] at m0 m1 m2 m3 m4 m5 m6 m7
      gi_wp2
      gi_loopw [15] (fun i w2 => ∃ j : Nat, j ≤ 8 ∧ i = .int .i64 j ∧ J (on1 l (8 * q + j)) w2 ∧ KG g W w2) (fun i _ => 8 - (intOf i).toNat)
      case atStart => exact ⟨0, Nat.zero_le _, rfl, hJs, hK⟩
      case round =>
        clear m0 m1 m2 m3 m4 m5 m6 m7 hcx hJs hK
        obtain ⟨j, hj, rfl, hJs, hK⟩ := hrel
        by_cases hj8 : j < 8
        · have hix := fun u : World => index8 j hj8 u
          have j0 : (0 : Int) ≤ (j : Int) := by omega
          have j1 : (j : Int) < 8 := by omega
          have h3 := u8_and_nat (byt l q).toNat (mk j) (UInt8.toNat_lt _) (mk_lt _)
          have hbt : bit l (8 * q + j) = (byt l q).toNat.testBit (7 - j) := by
            unfold bit; rw [show (8 * q + j) / 8 = q by omega, show (8 * q + j) % 8 = j by omega]
          have h4 := and_mk (byt l q) j hj8
          rw [← hbt] at h4
          have HK : Hid (on1 l (8 * q + j + 1) = if bit l (8 * q + j) then on1 l (8 * q + j) ++ [⟨8 * q + j, by omega⟩] else on1 l (8 * q + j)) := by
            show _ = _
            by_cases hb : bit l (8 * q + j) = true
            · rw [if_pos hb]; exact on1_yes (by omega) hb
            · rw [if_neg hb]; exact on1_no (by simpa using hb)
          by_cases hb : bit l (8 * q + j) = true
          · have hz : ((((byt l q).toNat &&& mk j : Nat) : Int) != 0) = true := by
              rw [hb] at h4; simp at h4 ⊢; omega
            obtain ⟨fn, tmps, assign, body, hy, hR⟩ := hY _ ⟨8 * q + j, by omega⟩ _ hJs (Nat.lt_of_le_of_lt (on1_len l (8 * q + j)) (by omega))
            simp only [Int.natCast_add, Int.natCast_mul, Int.cast_ofNat_Int] at hy
            have hke : on1 l (8 * q + j) ++ [⟨8 * q + j, by omega⟩] = on1 l (8 * q + (j + 1)) := by have := HK.out; rw [if_pos hb] at this; exact this.symm
            rw [hke] at hR
            clear h4 hbt HK hY hb
            gi_wp2
            refine hR.mono ?_
            rintro e W3 (⟨rfl, hJ3, hk3⟩ | ⟨rfl, hJx3⟩)
            · gi_wp2
              go_roundw
              case rel => exact ⟨j + 1, by omega, by go_num, hJ3, hK.trans hk3⟩
              case measure => simp [intOf]; omega
            · gi_wp2
              refine bodyPost_ret (results_none rfl _ _ _) rfl ?_
              exact ⟨⟨_, rfl⟩, .inr ⟨_, on1_prefix l _ _ (by omega), hJx3⟩⟩
          · have hbf : bit l (8 * q + j) = false := by simpa using hb
            have hz : ((((byt l q).toNat &&& mk j : Nat) : Int) != 0) = false := by
              rw [hbf] at h4; simp at h4 ⊢; omega
            have hke : on1 l (8 * q + j) = on1 l (8 * q + (j + 1)) := (on1_no hbf).symm
            rw [hke] at hJs
            clear h4 hbt HK hY hb hbf hke
            gi_wp2
            refine ⟨fun _ h => (by cases h), ?_⟩
            gi_wp2
            go_roundw
            case rel => exact ⟨j + 1, by omega, by go_num, hJs, hK⟩
            case measure => simp [intOf]; omega
        · obtain rfl : j = 8 := by omega
          gi_wp2
          go_roundw
          case rel => exact ⟨q + 1, by omega, by go_num, by rw [show 8 * (q + 1) = 8 * q + 8 by omega]; exact hJs, hK⟩
          case measure => simp [intOf]; omega
    · obtain rfl : q = len := by omega
      gi_wp2
      go_end0
      exact ⟨⟨_, rfl⟩, .inl ⟨_, rfl, hJs⟩⟩
set_option maxRecDepth 100000 in
set_option maxHeartbeats 2000000 in
/-- .. where there is no byte: no round -/
theorem iter35_nil (F : Fence) (n : Nat) (hF : F.fn 31) (hro : F.round = none) (lp Bs : Nat) (a : Option Addr) (cap : Nat) (J : List Pl → World → Prop) (W : World) (hBs : W.cell? ⟨Bs, 0, none⟩ = some (.slice a 0 cap)) (h0 : J [] W) :
    CallsIn F n Tryd.prog 31 #[.func (.yield lp) #[] #[], .pointer (some ⟨Bs, 0, none⟩)] W fun e W' => (∃ v, e = .returned v) ∧ J [] W' := by
  refine callsIn_of_wp Tryd.func31 rfl hF ?_ hro
  simp only [Tryd.ntmps31, List.size_toArray, List.length_cons, List.length_nil, Nat.reduceAdd, Nat.reduceSub, Array.replicate_succ, Array.replicate_zero, List.push_toArray, List.append_toArray, List.nil_append, List.cons_append]
  gi_wp2
  gi_loopw [9] (fun i wr => i = .int .i64 0 ∧ J [] wr) (fun _ _ => 0)
  case atStart => exact ⟨rfl, h0⟩
  case round =>
    obtain ⟨rfl, hJs⟩ := hrel
    gi_wp2
    go_end0
    exact ⟨⟨_, rfl⟩, hJs⟩
/-- what Walk's function gives: the set places, in their order -/
theorem iter35_stops (F : Fence) (n : Nat) (hF : F.fn 31) (hro : F.round = none) (hn : 1 ≤ n) (Bs g : Nat) (v : Value) (l : List UInt8) (hl : l.length ≤ 8192) (w : World) (hBs : Bs < w.heap.size)
    (hc : w.cell? ⟨Bs, 0, none⟩ = some v) (hv : ∃ a c, v = .slice a l.length c ∧ (l = [] ∨ a = some ⟨g, 0, none⟩ ∧ g < w.heap.size ∧ ∀ i, i < l.length → w.cell? ⟨g, i, none⟩ = some (.int .u8 ((byt l i).toNat : Int)))) (hm : MT w) :
    SeqStopsK F n Tryd.prog 31 #[.pointer (some ⟨Bs, 0, none⟩)] (fun x : Pl => #[Value.int .i64 (x.1 : Int)]) (KG g) (fun ys => ys = on1 l (8 * l.length)) (fun pre => pre <+: on1 l (8 * l.length)) 65536 w := fun lp J Jx W hW _ _ hY h0 => by
  have hc' := (hW.cell (p := ⟨Bs, 0, none⟩) hBs).trans hc
  obtain ⟨a, c, rfl, hv⟩ := hv
  rcases hv with rfl | ⟨rfl, hg, hcs⟩
  · exact (iter35_nil F n hF hro lp Bs a c J W hc' h0).mono fun e W' ⟨he, hj⟩ => ⟨he, .inl ⟨_, rfl, hj⟩⟩
  · exact iter35 F n hF hro hn lp Bs g 0 l.length c l rfl hl J Jx hY W hc' (fun j hj => by rw [Nat.zero_add]; exact (hW.cell (p := ⟨g, j, none⟩) hg).trans (hcs j hj)) (hm.keep hW) h0
end Go.Proofs.YtjhnkdhbjpddcaaDoor
