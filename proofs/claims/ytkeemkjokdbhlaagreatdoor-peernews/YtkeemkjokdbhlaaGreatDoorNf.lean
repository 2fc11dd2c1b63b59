import Derived.Test.YtkeemkjokdbhlaaGreatDoorNd
import Derived.Deep.Cut
import Derived.Deep.CutRange
namespace Go.Proofs.YtkeemkjokdbhlaaGreatDoor
open Go.RowKit
theorem OZ.mono {B B' : Nat} {w : World} {v : Value} {l : List Int} (h : OZ B w v l) (hb : B' ≤ B) : OZ B' w v l := by
  refine ⟨h.1, ?_⟩
  rcases h.2 with h1 | ⟨g, cap, cur, h1, h2, h3⟩
  · exact .inl h1
  · exact .inr ⟨g, cap, cur, h1, Nat.le_trans hb h2, h3⟩
def BY (hs : Array Value) : Prop := hs.size = 32 ∧ ∀ i, i < 32 → ∃ a : UInt8, hs[i]? = some (.int .u8 (a.toNat : Int))
theorem BY.one {hs : Array Value} (h : BY hs) : hs.all (·.oneCell') = true := Array.all_eq_true_iff_forall_mem.2 (fun v hv => by
  obtain ⟨i, hi, rfl⟩ := Array.mem_iff_getElem.1 hv
  obtain ⟨a, ha⟩ := h.2 i (by have := h.1; omega)
  rw [Array.getElem?_eq_getElem hi] at ha
  rw [Option.some.inj ha]
  rfl)
theorem new5B (b v : Int) (hs : Array Value) (lv : Value) (L : List Int) (w : World) (hl : L.length * 8 ≤ 140737488351232) (hr : RZ w lv L) (hb : BY hs) :
    Calls Tryz.prog 5 #[sc b v, .agg hs, lv] w fun e w' => ∃ p, e = .returned (.tuple #[p, .int .i64 (nwE b v L)]) ∧ PP p (nwE b v L) ∧ Below w.heap.size w w' := new5 b v hs lv L w hl hr hb.1 hb.one
theorem new6B (b v : Int) (hs : Array Value) (lv : Value) (L : List Int) (w : World) (hl : L.length * 8 ≤ 140737488351232) (hr : RZ w lv L) (hb : BY hs) :
    Calls Tryz.prog 6 #[sc b v, .agg hs, lv] w fun e w' => ∃ p, e = .returned (.tuple #[p, .int .i64 (nwE b v L)]) ∧ PP p (nwE b v L) ∧ Below w.heap.size w w' := new6 b v hs lv L w hl hr hb.1 hb.2
/-- the copy as it is written over -/
structure IL (w : World) (L : List Int) (k : Nat) (a : Option Addr) (c : Nat) (u : World) : Prop where
  own : ∃ zs, OZ w.heap.size u (.slice a L.length c) zs ∧ ∀ j, k ≤ j → iz zs j = iz L j
  bel : Below w.heap.size w u
theorem iz_set (zs : List Int) (k j : Nat) (y : Int) (h : j ≠ k) : iz (zs.set k y) j = iz zs j := by
  unfold iz
  simp [List.getD, Ne.symm h]
theorem IL.at {w : World} {L : List Int} {k : Nat} {a : Option Addr} {c : Nat} {u : World} (h : IL w L k a c u) (hk : k < L.length) :
    ∃ g, a = some ⟨g, 0, none⟩ ∧ w.heap.size ≤ g ∧ u.cell? ⟨g, k, none⟩ = some (.int .i64 (iz L k)) ∧ u.frozen? ⟨g, k, none⟩ = false ∧ ∀ n, IL w L (k + 1) a c ((u.drewN n).setCell ⟨g, k, none⟩ (.int .i64 1)) := by
  obtain ⟨⟨zs, ho, he⟩, hb⟩ := h
  obtain ⟨g, rfl, hg, _, hc, hf⟩ := ho.at k hk
  refine ⟨g, rfl, hg, by rw [hc, he k (Nat.le_refl _)], hf, fun n => ⟨⟨zs.set k 1, (ho.grow (belowDrew u n)).stored k 1, fun j hj => ?_⟩, (belowN hb n).setCell (p := ⟨g, k, none⟩) hg _⟩⟩
  rw [iz_set _ _ _ _ (by omega)]
  exact he j (by omega)
theorem load_hash {ops : Array Oper} {rest : List Oper} {o : Oper} {a : Act} {w : World} {Q : Exit → Act → World → Prop} (hw : Region.wanted o (yielded ops a.tmps) = true) (x : Operand) (ho : o.op = .load 25 x)
    (g : Nat) (hx : a.eval x = .pointer (some ⟨g, 0, none⟩)) (cs : Array Value) (hg : w.heap[g]? = some (.cells cs 25 (0, 0))) (hi : (Tryz.prog.info? 25).map (·.size) = some cs.size)
    (h : wpList Tryz.prog ops Q rest (a.put o.dst (.agg cs)) w) : wpList Tryz.prog ops Q (o :: rest) a w := by
  unfold wpList
  rw [if_pos hw]
  exact .inl (wp_load_row 25 x ho g hx 25 cs (0, 0) _ hg Tryz.underlying25 rfl hi h)
theorem info25 : (Tryz.prog.info? 25).map (·.size) = some 32 := by kernel_rfl
/-- the boxes of the law's walk -/
structure SP (w : World) (b v : Int) (hs : Array Value) (u : World) : Prop where
  bel : Below w.heap.size w u
  s : u.heap[w.heap.size]? = some (.cells #[.int .i64 b, .int .i64 v] 23 (0, 0))
  i : u.heap[w.heap.size + 1]? = some (.cells hs 25 (0, 0))
  j : u.heap[w.heap.size + 2]? = some (.cells hs 25 (0, 0))
  sz : w.heap.size + 3 ≤ u.heap.size
theorem SP.next {w : World} {b v : Int} {hs : Array Value} {u u' : World} (h : SP w b v hs u) (hb : Below (w.heap.size + 3) u u') : SP w b v hs u' :=
  ⟨h.bel.trans (hb.mono (by omega)), (hb.block w.heap.size (by omega)).trans h.s, (hb.block (w.heap.size + 1) (by omega)).trans h.i, (hb.block (w.heap.size + 2) (by omega)).trans h.j, Nat.le_trans h.sz hb.size⟩
theorem SP.cells {w : World} {b v : Int} {hs : Array Value} {u : World} (h : SP w b v hs u) : u.cell? ⟨w.heap.size, 0, none⟩ = some (.int .i64 b) ∧ u.cell? ⟨w.heap.size, 1, none⟩ = some (.int .i64 v) := by
  have h1 := h.s
  exact ⟨by simp [World.cell?, h1], by simp [World.cell?, h1]⟩
theorem SP.start (b v : Int) (hs : Array Value) (w : World) : SP w b v hs (((w.alloc (.cells #[.int .i64 b, .int .i64 v] 23)).alloc (.cells hs 25)).alloc (.cells hs 25)) := by
  have e1 := allocSize w (.cells #[.int .i64 b, .int .i64 v] 23)
  have e2 := allocSize (w.alloc (.cells #[.int .i64 b, .int .i64 v] 23)) (.cells hs 25)
  have e3 := allocSize ((w.alloc (.cells #[.int .i64 b, .int .i64 v] 23)).alloc (.cells hs 25)) (.cells hs 25)
  refine ⟨(((Below.refl w.heap.size w).alloc (Nat.le_refl _) _).alloc (by omega) _).alloc (by omega) _, ?_, ?_, ?_, by omega⟩
  · rw [heapOld _ _ _ (by omega), heapOld _ _ _ (by omega), heapNew]
  · rw [heapOld _ _ _ (by omega)]
    have h := heapNew (w.alloc (.cells #[.int .i64 b, .int .i64 v] 23)) (.cells hs 25)
    rwa [e1] at h
  · have h := heapNew ((w.alloc (.cells #[.int .i64 b, .int .i64 v] 23)).alloc (.cells hs 25)) (.cells hs 25)
    rwa [e2, e1] at h
set_option maxHeartbeats 2000000 in
set_option maxRecDepth 100000 in
theorem play4 (b v : Int) (hs : Array Value) (lv : Value) (L : List Int) (w : World) (hl : L.length * 8 ≤ 140737488351232) (hr : RZ w lv L) (hb : BY hs) :
    Calls Tryz.prog 4 #[sc b v, .agg hs, lv, .agg hs, lv, .slice none 0 0, .int .i64 0, .int .i64 0] w fun e w' => e = .returned (.bool true) ∧ Below w.heap.size w w' := by
  have HR : Hid (RZ w lv L ∧ BY hs) := ⟨hr, hb⟩
  obtain ⟨a1, c1, rfl, _, _⟩ := hr
  have hi25 : (Tryz.prog.info? 25).map (·.size) = some hs.size := by rw [hb.1]; exact info25
  clear hb
  have HS0 := Lib.hid (SP.start b v hs w)
  have HO : Hid (OZ (w.heap.size + 3) (((w.alloc (.cells #[.int .i64 b, .int .i64 v] 23)).alloc (.cells hs 25)).alloc (.cells hs 25)) (.slice none 0 0) []) := World.ownsRow_nil _ _ _ _
  have HA : Hid (RZ (((w.alloc (.cells #[.int .i64 b, .int .i64 v] 23)).alloc (.cells hs 25)).alloc (.cells hs 25)) (.slice a1 L.length c1) L) := HR.out.1.keep HS0.out.bel
  go_enter Tryz.func4, Tryz.ntmps4
  go_upto_region 3 with (first | (at_builtin; refine append_ints rfl _ _ rfl rfl HO.out rfl HA.out HS0.out.sz (by simp; omega) ?_; intro v1 w1 o1 b1))
  rw [List.nil_append] at o1
  obtain ⟨a2, c2, rfl⟩ := o1.form
  have HS1 := Lib.hid (HS0.out.next b1)
  have HI1 : Hid (OZ (w.heap.size + 3) w1 (.slice a2 L.length c2) L) := o1
  clear HO HA HS0 b1 o1
  have hj := HS1.out.i
  obtain ⟨q0, q1⟩ := HS1.out.cells
  go_wp2_with (first | (refine load_hash rfl _ rfl (w.heap.size + 1) rfl hs hj hi25 ?_))
  refine (new5B b v hs _ L w1 hl HI1.out.rz HR.out.2).mono ?_
  rintro e w2 ⟨p1, rfl, pp1, b2⟩
  have HS2 := Lib.hid (HS1.out.next (b2.mono HS1.out.sz))
  have HI2 := Lib.hid (HI1.out.grow b2)
  have HP1 := Lib.hid pp1
  clear hj q0 q1 b2 pp1 HS1 HI1
  have hj := HS2.out.i
  obtain ⟨q0, q1⟩ := HS2.out.cells
  go_wp2_with (first | (refine load_hash rfl _ rfl (w.heap.size + 1) rfl hs hj hi25 ?_))
  refine (new6B b v hs _ L w2 hl (HR.out.1.keep HS2.out.bel) HR.out.2).mono ?_
  rintro e w3 ⟨p2, rfl, pp2, b3⟩
  have HS3 := Lib.hid (HS2.out.next (b3.mono HS2.out.sz))
  have HI3 := Lib.hid (HI2.out.grow b3)
  have HP2 := Lib.hid pp2
  clear hj q0 q1 b3 pp2 HS2 HI2
  have hj := HS3.out.j
  obtain ⟨q0, q1⟩ := HS3.out.cells
  go_wp2_with (first | (refine load_hash rfl _ rfl (w.heap.size + 2) rfl hs hj hi25 ?_))
  refine (new5B b v hs _ L w3 hl (HR.out.1.keep HS3.out.bel) HR.out.2).mono ?_
  rintro e w4 ⟨p3, rfl, pp3, b4⟩
  have HS4 := Lib.hid (HS3.out.next (b4.mono HS3.out.sz))
  have HI4 := Lib.hid (HI3.out.grow b4)
  have HP3 := Lib.hid pp3
  clear hj q0 q1 b4 pp3 HS3 HI3
  have hj := HS4.out.j
  obtain ⟨q0, q1⟩ := HS4.out.cells
  go_wp2_with (first | (refine load_hash rfl _ rfl (w.heap.size + 2) rfl hs hj hi25 ?_))
  refine (new6B b v hs _ L w4 hl (HR.out.1.keep HS4.out.bel) HR.out.2).mono ?_
  rintro e w5 ⟨p4, rfl, pp4, b5⟩
  have HS5 := Lib.hid (HS4.out.next (b5.mono HS4.out.sz))
  have HI5 := Lib.hid (HI4.out.grow b5)
  have HP4 := Lib.hid pp4
  clear hj q0 q1 b5 pp4 HS4 HI4
  generalize nwE b v L = E at *
  have HIL : Hid (IL w L 0 a2 c2 w5) := ⟨⟨L, HI5.out.mono (by omega), fun j _ => rfl⟩, HS5.out.bel⟩
  have HRL : Hid (∀ u, Below w.heap.size w u → RZ u (.slice a1 L.length c1) L) := fun u hu => HR.out.1.keep hu
  have hpp : (p1 = .pointer none ∧ p2 = .pointer none ∧ p3 = .pointer none ∧ p4 = .pointer none) ∨ ∃ x1 x2 x3 x4, p1 = .pointer (some x1) ∧ p2 = .pointer (some x2) ∧ p3 = .pointer (some x3) ∧ p4 = .pointer (some x4) := by
    by_cases hE : E = 0
    · obtain ⟨x1, h1⟩ := HP1.out.1 hE
      obtain ⟨x2, h2⟩ := HP2.out.1 hE
      obtain ⟨x3, h3⟩ := HP3.out.1 hE
      obtain ⟨x4, h4⟩ := HP4.out.1 hE
      exact .inr ⟨x1, x2, x3, x4, h1, h2, h3, h4⟩
    · exact .inl ⟨HP1.out.2 hE, HP2.out.2 hE, HP3.out.2 hE, HP4.out.2 hE⟩
  clear HP1 HP2 HP3 HP4 HI5 HS5 hi25
  rcases hpp with ⟨rfl, rfl, rfl, rfl⟩ | ⟨x1, x2, x3, x4, rfl, rfl, rfl, rfl⟩
  · go_wp2_with fail
    go_loopw [26] (fun t wr => ∃ k : Nat, k ≤ L.length ∧ t = .int .i64 k ∧ Hid (IL w L k a2 c2 wr)) (fun t _ => L.length - (intOf t).toNat)
    case atStart => exact ⟨0, Nat.zero_le _, rfl, HIL⟩
    case round =>
      obtain ⟨k, hk, rfl, H⟩ := hrel
      clear HIL
      by_cases hlt : k < L.length
      · obtain ⟨g2, rfl, _, k1, k2, k3⟩ := H.out.at hlt
        obtain ⟨_, _, hv0, _, hr0⟩ := HRL.out wr H.out.bel
        simp only [Value.slice.injEq] at hv0
        obtain ⟨rfl, _, rfl⟩ := hv0
        rcases hr0 with hnil | ⟨gl, ol, rfl, _, hcl⟩
        · rw [hnil] at hlt; simp at hlt
        have k4 := hcl k hlt
        have K3 := Lib.hid k3
        clear hcl k3 H HRL HR
        generalize iz L k = x at *
        go_wp2_with fail
        go_quiet (fail)
        go_wp2
        exact ⟨⟨k + 1, by omega, by go_num, K3.out _⟩, by simp [intOf]; omega⟩
      · have HBel := Lib.hid H.out.bel
        clear H
        obtain ⟨w6, hw6⟩ : ∃ x, x = wr := ⟨_, rfl⟩
        subst hw6
        go_wp2_with fail
        go_loopw [27] (fun t wr => t = .int .i64 0 ∧ w6 = wr) (fun _ _ => 0)
        case atStart => exact ⟨rfl, rfl⟩
        case round =>
          obtain ⟨rfl, rfl⟩ := hrel
          go_wp2
          go_ret
          exact ⟨rfl, HBel.out⟩
  · go_wp2_with fail
    go_loopw [26] (fun t wr => ∃ k : Nat, k ≤ L.length ∧ t = .int .i64 k ∧ Hid (IL w L k a2 c2 wr)) (fun t _ => L.length - (intOf t).toNat)
    case atStart => exact ⟨0, Nat.zero_le _, rfl, HIL⟩
    case round =>
      obtain ⟨k, hk, rfl, H⟩ := hrel
      clear HIL
      by_cases hlt : k < L.length
      · obtain ⟨g2, rfl, _, k1, k2, k3⟩ := H.out.at hlt
        obtain ⟨_, _, hv0, _, hr0⟩ := HRL.out wr H.out.bel
        simp only [Value.slice.injEq] at hv0
        obtain ⟨rfl, _, rfl⟩ := hv0
        rcases hr0 with hnil | ⟨gl, ol, rfl, _, hcl⟩
        · rw [hnil] at hlt; simp at hlt
        have k4 := hcl k hlt
        have K3 := Lib.hid k3
        clear hcl k3 H HRL HR
        generalize iz L k = x at *
        go_wp2_with fail
        go_quiet (fail)
        go_wp2
        exact ⟨⟨k + 1, by omega, by go_num, K3.out _⟩, by simp [intOf]; omega⟩
      · have HBel := Lib.hid H.out.bel
        clear H
        obtain ⟨w6, hw6⟩ : ∃ x, x = wr := ⟨_, rfl⟩
        subst hw6
        go_wp2_with fail
        go_loopw [27] (fun t wr => t = .int .i64 0 ∧ w6 = wr) (fun _ _ => 0)
        case atStart => exact ⟨rfl, rfl⟩
        case round =>
          obtain ⟨rfl, rfl⟩ := hrel
          go_wp2
          go_ret
          exact ⟨rfl, HBel.out⟩
set_option maxHeartbeats 1000000 in
theorem law3 (b v : Int) (hs : Array Value) (lv : Value) (L : List Int) (w : World) (hl : L.length * 8 ≤ 140737488351232) (hr : RZ w lv L) (hb : BY hs) :
    Calls Tryz.prog 3 #[sc b v, .agg hs, lv] w fun e w' => e = .returned (.bool true) ∧ Below w.heap.size w w' := by
  have HR : Hid (RZ w lv L ∧ BY hs) := ⟨hr, hb⟩
  obtain ⟨a1, c1, rfl, _, _⟩ := hr
  have hi25 : (Tryz.prog.info? 25).map (·.size) = some hs.size := by rw [hb.1]; exact info25
  clear hb
  have HB := Lib.hid (SB.start b v hs w)
  have hj := HB.out.inf
  have h1 : ((w.alloc (.cells #[.int .i64 b, .int .i64 v] 23)).alloc (.cells hs 25)).heap[w.heap.size]? = some (.cells #[.int .i64 b, .int .i64 v] 23) := by
    rw [heapOld _ _ _ (by rw [allocSize]; omega), heapNew]
  have q0 : ((w.alloc (.cells #[.int .i64 b, .int .i64 v] 23)).alloc (.cells hs 25)).cell? ⟨w.heap.size, 0, none⟩ = some (.int .i64 b) := by simp [World.cell?, h1]
  have q1 : ((w.alloc (.cells #[.int .i64 b, .int .i64 v] 23)).alloc (.cells hs 25)).cell? ⟨w.heap.size, 1, none⟩ = some (.int .i64 v) := by simp [World.cell?, h1]
  clear h1
  go_enter Tryz.func3, Tryz.ntmps3
  go_wp2_with (first | (refine load_hash rfl _ rfl (w.heap.size + 1) rfl hs hj hi25 ?_))
  refine (play4 b v hs _ L _ hl (HR.out.1.keep HB.out.bel) HR.out.2).mono ?_
  rintro e w2 ⟨rfl, b2⟩
  have HE := Lib.hid (HB.out.bel.trans (b2.mono HB.out.bel.size))
  clear b2 q0 q1 hj HB
  go_wp2
  go_ret
  exact ⟨rfl, HE.out⟩
end Go.Proofs.YtkeemkjokdbhlaaGreatDoor
