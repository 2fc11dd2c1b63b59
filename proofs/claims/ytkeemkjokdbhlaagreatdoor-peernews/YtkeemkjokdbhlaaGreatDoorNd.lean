import Derived.Test.YtkeemkjokdbhlaaGreatDoorNc
import Derived.Deep.RegionLaw
namespace Go.Proofs.YtkeemkjokdbhlaaGreatDoor
open Go.RowKit
theorem t63_built (b v : Int) : Tryz.prog.built 63 [(0, .agg #[.int .i64 b, .int .i64 v])] = some (([Value.int .i64 b, .int .i64 v] ++ List.replicate 20 (Value.int .u8 0) ++ ([.slice none 0 0, .pointer none, .bool false, .bool false, .int .i64 0, .bool false, .bool false, .bool false, .bool false, .slice none 0 0, .bool false, .bool false] : List Value)).toArray) := by kernel_rfl
/-- the reference's connection while it is made -/
structure LP (w : World) (b : Int) (hs : Array Value) (g : Nat) (L : List Int) (k : Nat) (va : Option Addr) (vc : Nat) (u : World) : Prop where
  sb : SB w b hs u
  hg : w.heap.size + 2 ≤ g
  blk : ∃ cs : Array Value, u.heap[g]? = some (.cells cs 63 (0, 0)) ∧ cs.size = 34 ∧ cs[22]? = some (.slice va k vc)
  own : OZ (g + 1) u (.slice va k vc) (L.take k)
  no : ∀ a, a < k → bad b (iz L a) = false
def QB (w : World) (b : Int) (hs : Array Value) (g : Nat) (u : World) : Prop := SB w b hs u ∧ w.heap.size + 2 ≤ g ∧ ∃ cs : Array Value, u.heap[g]? = some (.cells cs 63 (0, 0)) ∧ cs.size = 34
theorem QB.next {w : World} {b : Int} {hs : Array Value} {g : Nat} {u u' : World} (h : QB w b hs g u) (hb : Below u.heap.size u u') : QB w b hs g u' := by
  obtain ⟨h1, h2, cs, h3, h4⟩ := h
  exact ⟨h1.next hb, h2, cs, (hb.block g (blk_lt h3)).trans h3, h4⟩
theorem QB.set {w : World} {b : Int} {hs : Array Value} {g : Nat} {u : World} (h : QB w b hs g u) (m : Nat) (x : Value) : QB w b hs g (u.setCell ⟨g, m, none⟩ x) := by
  obtain ⟨h1, h2, cs, h3, h4⟩ := h
  rw [setCell_eq_setRow u g m cs 63 (0, 0) x h3]
  exact ⟨h1.next2 (below_setRow (Below.refl _ _) h2 _), h2, _, setRow_heap u g cs _ 63 _ h3, by simp [h4]⟩
theorem LP.q {w : World} {b : Int} {hs : Array Value} {g : Nat} {L : List Int} {k : Nat} {va : Option Addr} {vc : Nat} {u : World} (h : LP w b hs g L k va vc u) : QB w b hs g u := by
  obtain ⟨cs, h1, h2, _⟩ := h.blk
  exact ⟨h.sb, h.hg, cs, h1, h2⟩
theorem step_append_int {ops : Array Oper} {o : Oper} {a : Act} {Q : Exit → Act → World → Prop} {K : Act → World → Prop} {E : Prop} {w : World} {B : Nat} {sv : Value} {l : List Int} (hgd : o.guard = none) (s x : Operand)
    (ho : o.op = .call { callee := .builtin .append, args := #[s, x], argTypes := #[26, 26] }) (hs : a.eval s = sv) (hown : OZ B w sv l) (b : Nat) (c : Int) (hx : a.eval x = .slice (some ⟨b, 0, none⟩) 1 1)
    (hc : w.cell? ⟨b, 0, none⟩ = some (.int .i64 c)) (hB : B ≤ w.heap.size) (hlim : (l.length + 1) * 8 ≤ 140737488351232)
    (h : ∀ v' w', OZ B w' v' (l ++ [c]) → Below B w w' → K (a.put o.dst v') w') : if Region.wanted o (yielded ops a.tmps) = true then Oper.wp Tryz.prog o a w K Q else E := by
  have hw : Region.wanted o (yielded ops a.tmps) = true := by simp [Region.wanted, hgd]
  rw [if_pos hw]
  obtain ⟨i0, hi, hz0, hz1, hz2⟩ := info_parts info3
  refine wp_append_own w s x 26 ho B 3 i0 _ 1 8 Tryz.underlying26 hi hz0 hz1 hz2 rfl (by omega) sv l.length (l.map (Value.int .i64)) hs hown ⟨b, 0, none⟩ 1 1 [.int .i64 c] hx rfl (fun j u hu => ?_) (fun u hu => ?_) (by unfold maxLen; omega) (by omega) hB (fun v' w' h1 h2 _ => ?_)
  · match j, hu with
    | 0, hu => simp at hu; subst hu; simpa [Addr.add] using hc
  · simp at hu; subst hu; rfl
  · refine h v' w' ?_ ((Below.refl B w).grown h2 hB (fun k hk => (World.ownsRow.lt hown k hk).1))
    have e : l.map (Value.int .i64) ++ [Value.int .i64 c] = (l ++ [c]).map (Value.int .i64) := by simp
    rw [e] at h1
    simpa [OZ] using h1
theorem take_iz {L : List Int} {k : Nat} (hk : k < L.length) : L.take (k + 1) = L.take k ++ [iz L k] := by
  rw [List.take_succ_eq_append_getElem hk]
  simp [iz, List.getD, List.getElem?_eq_getElem hk]
theorem LP.start {w : World} {b : Int} {hs : Array Value} {L : List Int} {u : World} {cs : Array Value} (h : SB w b hs u) (hz : cs.size = 34) (h22 : cs[22]? = some (.slice none 0 0)) : LP w b hs u.heap.size L 0 none 0 (u.alloc (.cells cs 63)) :=
  ⟨h.next ((Below.refl _ _).alloc (Nat.le_refl _) _), h.sz, ⟨cs, heapNew _ _, hz, h22⟩, World.ownsRow_nil _ _ _ _, fun a ha => by omega⟩
theorem cellNew (w : World) (x : Value) (t : TypeId) : (w.alloc (.cells #[x] t)).cell? ⟨w.heap.size, 0, none⟩ = some x := by
  have h := heapNew w (.cells #[x] t)
  simp only [World.cell?, h]
  rfl
theorem LP.drew {w : World} {b : Int} {hs : Array Value} {g : Nat} {L : List Int} {k : Nat} {va : Option Addr} {vc : Nat} {u : World} (h : LP w b hs g L k va vc u) (n : Nat) : LP w b hs g L k va vc (u.drewN n) :=
  ⟨h.sb.next (belowDrew u n), h.hg, h.blk, h.own.grow (belowDrew u n), h.no⟩
theorem LP.step {w : World} {b : Int} {hs : Array Value} {g : Nat} {L : List Int} {k : Nat} {va : Option Addr} {vc : Nat} {u w3 : World} {x : Int} {cs : Array Value} {a' : Option Addr} {c' : Nat} (h : LP w b hs g L k va vc u)
    (hcs : u.heap[g]? = some (.cells cs 63 (0, 0))) (hcz : cs.size = 34) (hc22 : cs[22]? = some (.slice va k vc)) (hno : ∀ a, a < k + 1 → bad b (iz L a) = false)
    (o3 : OZ (g + 1) w3 (.slice a' (k + 1) c') (L.take (k + 1))) (b3 : Below (g + 1) (u.drew.alloc (Obj.cells #[.int .i64 x] 3)) w3) :
    w3.cell? ⟨g, 22, none⟩ = some (.slice va k vc) ∧ w3.frozen? ⟨g, 22, none⟩ = false ∧ LP w b hs g L (k + 1) a' c' (w3.setCell ⟨g, 22, none⟩ (.slice a' (k + 1) c')) := by
  have hgu := blk_lt hcs
  have hg3 : w3.heap[g]? = some (.cells cs 63 (0, 0)) := by
    rw [b3.block g (by omega), heapOld _ _ _ (by show g < u.heap.size; exact hgu)]
    exact hcs
  have hcell : w3.cell? ⟨g, 22, none⟩ = some (.slice va k vc) := by simp [World.cell?, hg3, hc22]
  have hset : w3.setCell ⟨g, 22, none⟩ (.slice a' (k + 1) c') = w3.setRow g (cs.setIfInBounds 22 (.slice a' (k + 1) c')) := setCell_eq_setRow w3 g 22 cs 63 (0, 0) _ hg3
  have bA : Below u.heap.size u (u.drew.alloc (Obj.cells #[.int .i64 x] 3)) := (belowDrew u 1).alloc (Nat.le_refl _) _
  have s3 : SB w b hs w3 := (h.sb.next bA).next2 (b3.mono (by have := h.hg; omega))
  have bS : Below g w3 (w3.setRow g (cs.setIfInBounds 22 (.slice a' (k + 1) c'))) := below_setRow (Below.refl _ _) (Nat.le_refl _) _
  refine ⟨hcell, by simp [World.frozen?, hg3], ?_⟩
  rw [hset]
  refine ⟨s3.next2 (bS.mono h.hg), h.hg, ⟨_, setRow_heap w3 g cs _ 63 _ hg3, by simp [hcz], by simp [hcz]⟩, ?_, hno⟩
  refine ⟨o3.1, ?_⟩
  rcases o3.2 with h1 | ⟨q, cap, cur, h1, h2, h3, h4⟩
  · exact .inl h1
  · refine .inr ⟨q, cap, cur, h1, h2, ?_, h4⟩
    rw [setRow_other w3 g q _ (by omega)]
    exact h3
set_option maxHeartbeats 2000000 in
set_option maxRecDepth 100000 in
theorem new6 (b v : Int) (hs : Array Value) (lv : Value) (L : List Int) (w : World) (hl : L.length * 8 ≤ 140737488351232) (hr : RZ w lv L) (h32 : hs.size = 32) (h1c : ∀ i, i < 32 → ∃ a : UInt8, hs[i]? = some (.int .u8 (a.toNat : Int))) :
    Calls Tryz.prog 6 #[sc b v, .agg hs, lv] w fun e w' => ∃ p, e = .returned (.tuple #[p, .int .i64 (nwE b v L)]) ∧ PP p (nwE b v L) ∧ Below w.heap.size w w' := by
  have HG : Hid (∀ u, Calls Tryz.prog 14 #[sc b v] u fun e w' => e = .returned (.int .i64 (gd b v)) ∧ Below u.heap.size u w') := fun u => good12 b v u
  have HR : Hid (RZ w lv L ∧ hs.size = 32 ∧ ∀ i, i < 32 → ∃ a : UInt8, hs[i]? = some (.int .u8 (a.toNat : Int))) := ⟨hr, h32, h1c⟩
  obtain ⟨a1, c1, rfl, _, _⟩ := hr
  clear h32 h1c
  by_cases hg : gd b v = 0
  · obtain ⟨b0, b1⟩ := gd_zero hg
    have HGz : Hid (gd b v = 0) := hg
    rw [hg] at HG
    clear hg
    by_cases hlen : 65536 < L.length
    · have hE : nwE b v L = 2 := by unfold nwE; rw [HGz.out, if_pos rfl, if_pos (.inl hlen)]
      rw [hE]
      clear hE
      go_enter Tryz.func6, Tryz.ntmps6
      go_wp2_with fail
      refine (HG.out _).mono ?_
      rintro e w1 ⟨rfl, hb1⟩
      have HB := Lib.hid ((SB.start b v hs w).next hb1)
      clear hb1
      go_wp2
      go_ret2
      exact ⟨_, rfl, ⟨fun h => by omega, fun _ => rfl⟩, HB.out.bel⟩
    · have HE2 : Hid (L.any (bad b) = true → nwE b v L = 2) := fun h => by unfold nwE; rw [HGz.out, if_pos rfl, if_pos (.inr h)]
      have HE0 : Hid (L.any (bad b) = false → nwE b v L = 0) := fun h => by unfold nwE; rw [HGz.out, if_pos rfl, if_neg (by rw [h]; simp; omega)]
      generalize nwE b v L = E at *
      go_enter Tryz.func6, Tryz.ntmps6
      go_wp2_with fail
      refine (HG.out _).mono ?_
      rintro e w1 ⟨rfl, hb1⟩
      have HB := Lib.hid ((SB.start b v hs w).next hb1)
      have h1 : w1.heap[w.heap.size]? = some (.cells #[.int .i64 b, .int .i64 v] 23 (0, 0)) := by
        rw [hb1.block w.heap.size (by rw [allocSize, allocSize]; omega), heapOld _ _ _ (by rw [allocSize]; omega), heapNew]
      have q0 : w1.cell? ⟨w.heap.size, 0, none⟩ = some (.int .i64 b) := by simp [World.cell?, h1]
      have q1 : w1.cell? ⟨w.heap.size, 1, none⟩ = some (.int .i64 v) := by simp [World.cell?, h1]
      have hbt := t63_built b v
      clear hb1 h1 HGz
      go_wp2_with fail
      have HL0 := Lib.hid (LP.start (L := L) (cs := (([Value.int .i64 b, .int .i64 v] ++ List.replicate 20 (Value.int .u8 0) ++ ([.slice none 0 0, .pointer none, .bool false, .bool false, .int .i64 0, .bool false, .bool false, .bool false, .bool false, .slice none 0 0, .bool false, .bool false] : List Value)).toArray)) HB.out rfl rfl)
      have hgs := HB.out.sz
      clear HB hbt q0 q1
      generalize w1.heap.size = g at *
      go_loopw [10] (fun t wr => ∃ (k : Nat) (va : Option Addr) (vc : Nat), k ≤ L.length ∧ t = .int .i64 k ∧ Hid (LP w b hs g L k va vc wr)) (fun t _ => L.length - (intOf t).toNat)
      case atStart => exact ⟨0, none, 0, Nat.zero_le _, rfl, HL0⟩
      case round =>
        obtain ⟨k, va, vc, hk, rfl, H⟩ := hrel
        clear HL0
        by_cases hlt : k < L.length
        · obtain ⟨_, _, hv0, _, hr0⟩ := HR.out.1
          simp only [Value.slice.injEq] at hv0
          obtain ⟨rfl, _, rfl⟩ := hv0
          rcases hr0 with hnil | ⟨gl, ol, rfl, hgl, hcl⟩
          · rw [hnil] at hlt; simp at hlt
          have k1 : wr.cell? ⟨gl, ol + k, none⟩ = some (.int .i64 (iz L k)) := (H.out.sb.bel.cell (p := ⟨gl, ol + k, none⟩) hgl).trans (hcl k hlt)
          have k2 := H.out.sb.blk
          have HX : Hid (∀ hb : bad b (iz L k) = true, E = 2) := fun hb => HE2.out (any_yes hlt hb)
          have HN : Hid (bad b (iz L k) = false → ∀ a, a < k + 1 → bad b (iz L a) = false) := fun hz => any_step H.out.no hz
          have HT : Hid (L.take (k + 1) = L.take k ++ [iz L k] ∧ (L.take k).length = k) := ⟨take_iz hlt, by rw [List.length_take]; omega⟩
          clear hcl
          generalize iz L k = x at *
          have hwr : IntKind.i64.wrap (1024 * b) = 1024 * b := IntWalk.i64_in _ (by omega)
          by_cases x1 : x < 1
          · have hE := HX.out (by unfold bad; simp [x1])
            subst hE
            have HBel := Lib.hid H.out.sb.bel
            clear HN HX HT H HE2 HE0
            go_wp2_with fail
            go_quiet (fail)
            go_wp2
            go_ret2
            exact ⟨_, rfl, ⟨fun h => by omega, fun _ => rfl⟩, belowN HBel.out _⟩
          · by_cases x2 : 1024 * b < x
            · have hE := HX.out (by unfold bad; simp [x2])
              subst hE
              have HBel := Lib.hid H.out.sb.bel
              clear HN HX HT H HE2 HE0
              go_wp2_with fail
              go_quiet (fail)
              go_wp2
              go_ret2
              exact ⟨_, rfl, ⟨fun h => by omega, fun _ => rfl⟩, belowN HBel.out _⟩
            · have hbf : bad b x = false := by unfold bad; simp [x1, x2]
              have HN' := Lib.hid (HN.out hbf)
              clear HN HX hbf
              go_wp2_with fail
              go_quiet (fail)
              go_wp2_with fail
              have HLn := Lib.hid (H.out.drew nq)
              have hn1 : (wr.drewN nq).cell? ⟨gl, ol + k, none⟩ = some (.int .i64 x) := k1
              obtain ⟨w2, hw2⟩ : ∃ u, u = wr.drewN nq := ⟨_, rfl⟩
              rw [← hw2] at HLn hn1 ⊢
              obtain ⟨cs, hcs, hcz, hc22⟩ := HLn.out.blk
              have c22 : w2.cell? ⟨g, 22, none⟩ = some (.slice va k vc) := by simp [World.cell?, hcs, hc22]
              have h13 : OZ (g + 1) (w2.drew.alloc (Obj.cells #[.int .i64 x] 3)) (.slice va k vc) (L.take k) := HLn.out.own.grow ((belowDrew w2 1).alloc (Nat.le_refl _) _)
              have h14 : (w2.drew.alloc (Obj.cells #[.int .i64 x] 3)).cell? ⟨w2.heap.size, 0, none⟩ = some (.int .i64 x) := cellNew w2.drew _ 3
              have hgw := blk_lt hcs
              have H15 : Hid (g + 1 ≤ (w2.drew.alloc (Obj.cells #[.int .i64 x] 3)).heap.size) := by show _ ≤ _; rw [allocSize]; show g + 1 ≤ w2.heap.size + 1; omega
              have HST : Hid (∀ w3 a' c', OZ (g + 1) w3 (.slice a' (k + 1) c') (L.take k ++ [x]) → Below (g + 1) (w2.drew.alloc (Obj.cells #[.int .i64 x] 3)) w3 → w3.cell? ⟨g, 22, none⟩ = some (.slice va k vc) ∧ w3.frozen? ⟨g, 22, none⟩ = false ∧ LP w b hs g L (k + 1) a' c' (w3.setCell ⟨g, 22, none⟩ (.slice a' (k + 1) c'))) := fun w3 a' c' o3 b3 => by
                rw [← HT.out.1] at o3
                exact LP.step HLn.out hcs hcz hc22 HN'.out o3 b3
              clear hw2 k1 k2 H HLn hcs hcz hc22
              go_region_law (first
                | (refine step_append_int (w := w2.drew.alloc (Obj.cells #[.int .i64 x] 3)) (sv := .slice va k vc) (l := L.take k) (B := g + 1) rfl (.tmp 49) (.tmp 54) rfl rfl h13 w2.heap.size x rfl h14 H15.out (by rw [HT.out.2]; omega) ?_; intro v' w3 ho' hb3; obtain ⟨a', c', rfl⟩ := ho'.form; rw [List.length_append, HT.out.2] at ho' ⊢; obtain ⟨y1, y2, y3⟩ := HST.out w3 a' c' ho' hb3; clear ho' hb3; have HY := Lib.hid y3; clear y3))
              all_goals go_wp2
              all_goals exact ⟨⟨k + 1, a', c', by omega, by go_num, HY⟩, by simp [intOf]; omega⟩
        · have hno : L.any (bad b) = false := any_no (fun a ha => H.out.no a (by omega))
          have hE := HE0.out hno
          subst hE
          have HQ := Lib.hid H.out.q
          clear H HE2 HE0 hno
          obtain ⟨w2, hw2⟩ : ∃ x, x = wr := ⟨_, rfl⟩
          subst hw2
          go_wp2_with fail
          go_loopw [11] (fun t wr => ∃ j : Nat, j ≤ 20 ∧ t = .int .i64 j ∧ Hid (QB w b hs g wr)) (fun t _ => 20 - (intOf t).toNat)
          case atStart => exact ⟨0, Nat.zero_le _, rfl, HQ⟩
          case round =>
            obtain ⟨j, hj, rfl, H2⟩ := hrel
            clear HQ
            by_cases hlj : j < 20
            · obtain ⟨ps, hps, hpz⟩ := H2.out.2.2
              obtain ⟨xj, hxj⟩ := HR.out.2.2 j (by omega)
              have k1 : wr.cell? ⟨w.heap.size + 1, j, none⟩ = some (.int .u8 (xj.toNat : Int)) := by simp only [World.cell?, H2.out.1.inf]; exact hxj
              obtain ⟨yj, k2, k3⟩ := cell_of hps (k := 2 + j) (by omega)
              have hq1 : w.heap.size + 1 ≠ g := by omega
              have HS2 : Hid (∀ n, QB w b hs g ((wr.drewN n).setCell ⟨g, 2 + j, none⟩ (.int .u8 (xj.toNat : Int)))) := fun n => (H2.out.next (belowDrew wr n)).set _ _
              clear hps hpz H2 hxj
              go_wp2_with fail
              go_region
              go_wp2
              exact ⟨⟨j + 1, by omega, by go_num, HS2.out 1⟩, by simp [intOf]; omega⟩
            · have h20 : (j : Int) = 20 := by omega
              rw [h20]
              clear h20 hlj
              obtain ⟨w4, hw4⟩ : ∃ x, x = wr := ⟨_, rfl⟩
              subst hw4
              go_wp2_with fail
              refine (rnew15 w4).mono ?_
              rintro e w5 ⟨p5, rfl, b5⟩
              have HQ5 := Lib.hid (H2.out.next b5)
              obtain ⟨ps, hps, hpz⟩ := HQ5.out.2.2
              obtain ⟨y23, c23, f23⟩ := cell_of hps (k := 23) (by omega)
              obtain ⟨y27, c27, f27⟩ := cell_of hps (k := 27) (by omega)
              obtain ⟨y29, c29, f29⟩ := cell_of hps (k := 29) (by omega)
              have HQ6 : Hid (QB w b hs g (((w5.setCell ⟨g, 23, none⟩ (.pointer (some p5))).setCell ⟨g, 27, none⟩ (.bool true)).setCell ⟨g, 29, none⟩ (.bool true))) := ((HQ5.out.set _ _).set _ _).set _ _
              obtain ⟨w6, hw6⟩ : ∃ x, x = ((w5.setCell ⟨g, 23, none⟩ (.pointer (some p5))).setCell ⟨g, 27, none⟩ (.bool true)).setCell ⟨g, 29, none⟩ (.bool true) := ⟨_, rfl⟩
              clear hps hpz b5 H2 HQ5
              go_wp2_with fail
              rw [← hw6] at HQ6 ⊢
              have HM : Hid (Calls Tryz.prog 16 #[.int .i64 (L.length : Int)] w6 fun e w' => ∃ v l, e = .returned (.tuple #[v, .int .i64 0]) ∧ OW w6.heap.size w' v l ∧ BF L.length (fun _ => false) l ∧ Below w6.heap.size w6 w') := make14 L.length (by omega) w6
              clear hw6 c23 f23 c27 f27 c29 f29
              refine HM.out.mono ?_
              rintro e w7 ⟨v7, l7, rfl, o7, _, b7⟩
              obtain ⟨a7, c7, rfl⟩ := o7.form
              have HQ7 := Lib.hid (HQ6.out.next b7)
              obtain ⟨ps, hps, hpz⟩ := HQ7.out.2.2
              obtain ⟨y31, c31, f31⟩ := cell_of hps (k := 31) (by omega)
              have HEnd : Hid (∀ x, QB w b hs g (w7.setCell ⟨g, 31, none⟩ x)) := fun x => HQ7.out.set _ _
              clear hps hpz b7 o7 HQ6 HQ7 HM
              go_wp2
              go_ret2
              exact ⟨_, rfl, ⟨fun _ => ⟨_, rfl⟩, fun h => absurd rfl h⟩, (HEnd.out _).1.bel⟩
  · have ht := gd_ten hg
    have hE : nwE b v L = 10 := by unfold nwE; rw [if_neg hg]
    rw [ht] at HG
    rw [hE]
    clear hg ht hE
    go_enter Tryz.func6, Tryz.ntmps6
    go_wp2_with fail
    refine (HG.out _).mono ?_
    rintro e w1 ⟨rfl, hb1⟩
    have HB := Lib.hid ((SB.start b v hs w).next hb1)
    clear hb1
    go_wp2
    go_ret2
    exact ⟨_, rfl, ⟨fun h => by omega, fun _ => rfl⟩, HB.out.bel⟩
end Go.Proofs.YtkeemkjokdbhlaaGreatDoor
