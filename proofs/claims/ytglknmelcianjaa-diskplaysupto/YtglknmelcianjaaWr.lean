import Derived.Test.YtglknmelcianjaaWq
import Derived.Deep.RegionHeld3
namespace Go.Proofs.Ytglknmelcianjaa
open Go.RowKit
theorem range_row {w : World} {b : Nat} {cs : Array Value} {t : TypeId} (hg : w.heap[b]? = some (.cells cs t (0, 0))) : w.rangeAt b 0 cs.toList := fun j v hj => by
  simp only [World.cell?, hg, Nat.zero_add]
  simpa using hj
section
variable {S : Nat → Prop} {w : World} {p lb cap mb : Nat} {ov : Value} {M : DataW Value} {L : Nat → Value} {D : Dk}
theorem stage_g {w1 wE wG : World} {d : List UInt8} {v : Value} {o : Obj} (hg : wE.heap[w1.heap.size + 1]? = some (.cells (bc d ++ #[v]) 59 (0, 0))) (hs : w1.heap.size + 2 ≤ wE.heap.size) (hv : ∀ g, v.ownBlock = some g → g < w1.heap.size) (hr : (wE.alloc o).grownBy wG v.ownBlock) (hd : d.length = 64) :
    wG.cell? ⟨w1.heap.size + 1, 64, none⟩ = some v ∧ wG.frozen? ⟨w1.heap.size + 1, 64, none⟩ = false ∧ wG.heap[w1.heap.size + 1]? = some (.cells (bc d ++ #[v]) 59 (0, 0)) := by
  have hb : wG.heap[w1.heap.size + 1]? = some (.cells (bc d ++ #[v]) 59 (0, 0)) := by
    rw [hr.block _ (by simp; omega) (fun e => by have := hv _ e.symm; omega), heapOld _ _ _ (by omega)]
    exact hg
  refine ⟨?_, by simp [World.frozen?, hb], hb⟩
  simp only [World.cell?, hb]
  rw [Array.getElem?_append_right (by rw [bc_size, hd]; exact Nat.le_refl _), bc_size, hd]
  rfl
theorem stage_h {w1 wE wG wH : World} {d : List UInt8} {v u : Value} {o : Obj} {nm : Nat} {op : Value} {F : Nat → List (Nat × List UInt8)} {last : List UInt8} {ats : List Nat} {fu : Option Nat} (h1 : Below w1.heap.size w1 wE) (hs : w1.heap.size + 2 ≤ wE.heap.size)
    (hvS : ∀ g, v.ownBlock = some g → S g) (hr : (wE.alloc o).grownBy wG v.ownBlock) (hd : d.length = 64)
    (hp : DP (fun k => (S k ∧ k < w1.heap.size) ∨ (wE.alloc o).heap.size ≤ k) wG p lb cap mb nm op ov M L F last ats fu) (hH : wH = wG.setCell ⟨w1.heap.size + 1, 64, none⟩ u) (hg : wG.heap[w1.heap.size + 1]? = some (.cells (bc d ++ #[v]) 59 (0, 0))) :
    DP (fun k => (S k ∧ k < w1.heap.size) ∨ w1.heap.size + 2 ≤ k) wH p lb cap mb nm op ov M L F last ats fu ∧ wH.heap[w1.heap.size + 1]? = some (.cells (bc d ++ #[u]) 59 (0, 0)) ∧ Fr (fun k => ¬ (S k ∧ k < w1.heap.size)) w1 wH ∧ w1.heap.size + 2 ≤ wH.heap.size := by
  subst hH
  have hsz : wE.heap.size + 1 = (wE.alloc o).heap.size := by simp
  have hgs := hr.size
  have hp2 := hp.sub (T := fun k => (S k ∧ k < w1.heap.size) ∨ w1.heap.size + 2 ≤ k) (fun k _ h => h.elim .inl (fun h => .inr (by omega)))
  refine ⟨hp2.fr ((Fr.refl _ wG).setCell _ _ _ (fun _ h => by rcases h with h | h <;> omega)), ?_, ?_, by simp; omega⟩
  · rw [setCell_eq_setRow wG _ _ _ _ _ _ hg]
    rw [heapSetRow _ _ _ _ _ hg]
    congr 2
    have e : 64 = (bc d).size := by rw [bc_size, hd]
    apply Array.ext'
    simp [e]
  · have f1 : Fr (fun k => ¬ (S k ∧ k < w1.heap.size)) w1 (wE.alloc o) := (Fr.of_below h1).alloc o
    refine (f1.grown hr (fun k hk hlt hns => ?_)).setCell _ _ _ (fun h => by omega)
    exact hns ⟨hvS k hk, hlt⟩
theorem stage_i {w1 wH wI : World} {cx : Array Value} {nm nm' : Nat} {op : Value} {M' : DataW Value} {F : Nat → List (Nat × List UInt8)} {last : List UInt8} {ats : List Nat} {fu : Option Nat} (hp : DP (fun k => (S k ∧ k < w1.heap.size) ∨ w1.heap.size + 2 ≤ k) wH p lb cap mb nm op ov M L F last ats fu) (hg : wH.heap[w1.heap.size + 1]? = some (.cells cx 59 (0, 0)))
    (hf : Fr (fun k => ¬ (S k ∧ k < w1.heap.size)) w1 wH) (hs : w1.heap.size + 2 ≤ wH.heap.size) (hm : wI.ownsMap Try.prog 3 idR mb nm' M') (hgr : wH.drew.grownBy wI (some mb)) :
    (wI.cell? ⟨p, 1, none⟩ = some (.map (some mb)) ∧ wI.rangeAt (w1.heap.size + 1) 0 cx.toList) ∧ DP (fun k => (S k ∧ k < w1.heap.size) ∨ w1.heap.size + 2 ≤ k) wI p lb cap mb nm' op ov M' L F last ats fu ∧ Fr (fun k => ¬ (S k ∧ k < w1.heap.size)) w1 wI ∧ w1.heap.size + 2 ≤ wI.heap.size := by
  have hgr' : wH.grownBy wI (some mb) := ⟨hgr.os, hgr.tape, hgr.output, hgr.size, hgr.block⟩
  have hp2 := hp.put hm hgr'
  have hb : wI.heap[w1.heap.size + 1]? = some (.cells cx 59 (0, 0)) := by
    rw [hgr'.block _ (by omega) (fun e => by
      injection e with e
      obtain ⟨es, c, hc⟩ := hp.mapB
      rw [← e, hg] at hc
      simp at hc)]
    exact hg
  refine ⟨⟨hp2.c1, range_row hb⟩, hp2, hf.grown hgr' (fun k hk hlt hn => ?_), Nat.le_trans hs hgr'.size⟩
  injection hk with hk
  subst hk
  rcases hp.sm with h | h
  · exact hn h
  · omega
theorem cell_new1 (w : World) (v : Value) (t : TypeId) : (w.alloc (.cells #[v] t)).cell? ((⟨w.heap.size, 0, none⟩ : Addr).add 0) = some v := by
  have e : (⟨w.heap.size, 0, none⟩ : Addr).add 0 = ⟨w.heap.size, 0, none⟩ := by unfold Addr.add; split <;> simp_all
  rw [e]
  simp only [World.cell?, heapNew]
  rfl
theorem burnt_some (f : Option Nat) : (burnt f).isSome = f.isSome := by
  cases f with
  | none => rfl
  | some k => cases k <;> rfl
theorem stage_j {w1 wI wJ : World} {s nm : Nat} {v' op : Value} {F : Nat → List (Nat × List UInt8)} {last : List UInt8} {ats : List Nat} {fu : Option Nat} {o : Obj} (hp : DP (fun k => (S k ∧ k < w1.heap.size) ∨ w1.heap.size + 2 ≤ k) wI p lb cap mb nm op ov M L F last ats fu)
    (hf : Fr (fun k => ¬ (S k ∧ k < w1.heap.size)) w1 wI) (hs : w1.heap.size + 2 ≤ wI.heap.size) (k1 : wJ.ownsRow 0 3 1 v' (ats.length + 1) (ats.map (fun x : Nat => Value.int .i64 (x : Int)) ++ [.int .i64 s])) (k2 : (wI.alloc o).grownBy wJ ov.ownBlock) (k3 : v'.ownBlock = ov.ownBlock ∨ v'.ownBlock = some (wI.alloc o).heap.size) :
    ∃ va vn vc, v' = .slice va vn vc ∧ wJ.cell? ⟨p, 2, none⟩ = some op ∧ wJ.frozen? ⟨p, 2, none⟩ = false ∧
      Hid (DP (fun k => (S k ∧ k < w1.heap.size) ∨ w1.heap.size + 2 ≤ k) (wJ.setCell ⟨p, 2, none⟩ (.slice va vn vc)) p lb cap mb nm (.slice va vn vc) (.slice va vn vc) M L F last (ats ++ [s]) fu ∧ Fr (fun k => ¬ (S k ∧ k < w1.heap.size)) w1 (wJ.setCell ⟨p, 2, none⟩ (.slice va vn vc))) := by
  have hp1 := hp.fr (Fr.of_below ((Below.refl wI.heap.size wI).alloc (Nat.le_refl _) o))
  have hsz : (wI.alloc o).heap.size = wI.heap.size + 1 := by simp
  have hp2 := hp1.goes (ats' := ats ++ [s]) v' (by simpa using k1) k2 k3
  have hp3 := hp2.sub (T := fun k => (S k ∧ k < w1.heap.size) ∨ w1.heap.size + 2 ≤ k) (fun k _ h => h.elim id (fun h => .inr (by omega)))
  obtain ⟨va, vc, e⟩ := ownsRow_form k1
  refine ⟨va, _, vc, e, hp3.c2, hp3.frz 2, ?_⟩
  rw [← e]
  refine ⟨hp3.set2, ((hf.alloc o).grown k2 (fun k hk hlt hn => ?_)).setCell _ _ _ (fun hlt hn => ?_)⟩
  · rcases hp.so k hk with h | h
    · exact hn h
    · omega
  · rcases hp.sp with h | h
    · exact hn h
    · omega
theorem stage_k {w1 wK wL : World} {s : Nat} {d : List UInt8} {dead : Bool} {cx : Array Value} {V v' : Value} {L' : Nat → Value} {F' : Nat → List (Nat × List UInt8)} (h : DI S w1 p lb cap mb ov M L D) (hs : 64 * s + 64 ≤ D.last.length) (hd : d.length = 64)
    (hF : ∀ t, F' t = lv t 0 (D.ws ++ [⟨s, d, dead⟩])) (hL : ∀ t, t ≠ s → L' t = L t) (hV : L' s = V) (hN : lv s 0 (D.ws ++ [⟨s, d, dead⟩]) = [] → L' s = .slice none 0 0) (hcx : bc d ++ #[V] = cx)
    (hp : DP (fun k => (S k ∧ k < w1.heap.size) ∨ w1.heap.size + 2 ≤ k) wK p lb cap mb (D.ws.length + 1) v' v' (M.put (ky s) (.held (.agg cx))) L' F' D.last (D.ws.map (·.at_) ++ [s]) D.fu) (hf : Fr (fun k => ¬ (S k ∧ k < w1.heap.size)) w1 wK)
    (hw : wL = wK ∧ burnt D.fu = D.fu ∨ wL = wK.setCell ⟨p, 4, none⟩ (.int .i64 ((burnt D.fu).getD 0))) :
    DK (fun k => S k ∨ w1.heap.size ≤ k) wL p ⟨D.last, D.ws ++ [⟨s, d, dead⟩], burnt D.fu⟩ ∧ Fr (fun k => ¬ S k) w1 wL := by
  have hsec : Value.agg cx = secV d (L' s) := by rw [hV, ← hcx]; rfl
  rw [hsec] at hp
  have hp2 : DP (fun k => (S k ∧ k < w1.heap.size) ∨ w1.heap.size + 2 ≤ k) wL p lb cap mb (D.ws.length + 1) v' v' (M.put (ky s) (.held (secV d (L' s)))) L' F' D.last (D.ws.map (·.at_) ++ [s]) (burnt D.fu) ∧ Fr (fun k => ¬ (S k ∧ k < w1.heap.size)) w1 wL := by
    rcases hw with ⟨rfl, e⟩ | rfl
    · rw [e]; exact ⟨hp, hf⟩
    · refine ⟨hp.set4 (burnt_some _), hf.setCell _ _ _ (fun hlt hn => ?_)⟩
      rcases hp.sp with h | h
      · exact hn h
      · omega
  refine ⟨(dk_written h s d dead hs hd hF hL hN hp2.1).sub (fun k _ hk => ?_), hp2.2.mono (fun k hk hn h => hn h.1)⟩
  rcases hk with h | h
  · exact .inl h.1
  · exact .inr (by omega)
theorem stage_live {w1 wE wG : World} {s n : Nat} {d : List UInt8} {v' : Value} {cw : Array Value} (h : DI (fun k => S k ∧ k < w1.heap.size) wE p lb cap mb ov M L D) (h1 : Below w1.heap.size w1 wE) (hg : wE.heap[w1.heap.size + 1]? = some (.cells (bc d ++ #[L s]) 59 (0, 0))) (hs : w1.heap.size + 2 ≤ wE.heap.size) (hd : d.length = 64)
    (k1 : OL wG v' (lv s 0 D.ws ++ [(n, d)])) (k2 : (wE.alloc (.cells cw 62)).grownBy wG (L s).ownBlock) (k3 : v'.ownBlock = (L s).ownBlock ∨ v'.ownBlock = some (wE.alloc (.cells cw 62)).heap.size) :
    ∃ va vn vc, v' = .slice va vn vc ∧ wG.cell? ⟨w1.heap.size + 1, 64, none⟩ = some (L s) ∧ wG.frozen? ⟨w1.heap.size + 1, 64, none⟩ = false ∧
      Hid (DP (fun k => (S k ∧ k < w1.heap.size) ∨ w1.heap.size + 2 ≤ k) (wG.setCell ⟨w1.heap.size + 1, 64, none⟩ (.slice va vn vc)) p lb cap mb D.ws.length ov ov M (fun t => if t = s then .slice va vn vc else L t) (fun t => if t = s then lv s 0 D.ws ++ [(n, d)] else lv t 0 D.ws) D.last (D.ws.map (·.at_)) D.fu ∧
        (wG.setCell ⟨w1.heap.size + 1, 64, none⟩ (.slice va vn vc)).heap[w1.heap.size + 1]? = some (.cells (bc d ++ #[.slice va vn vc]) 59 (0, 0)) ∧ Fr (fun k => ¬ (S k ∧ k < w1.heap.size)) w1 (wG.setCell ⟨w1.heap.size + 1, 64, none⟩ (.slice va vn vc)) ∧ w1.heap.size + 2 ≤ (wG.setCell ⟨w1.heap.size + 1, 64, none⟩ (.slice va vn vc)).heap.size) := by
  have hp := h.dp.fr (Fr.of_below ((Below.refl wE.heap.size wE).alloc (Nat.le_refl _) (.cells cw 62)))
  obtain ⟨va, vc, e⟩ := ownsRow_form k1
  have hL : ∀ g, (L s).ownBlock = some g → g < w1.heap.size := fun g hg => (h.sv s g hg).2
  obtain ⟨q1, q2, q3⟩ := stage_g hg hs hL k2 hd
  have hl := hp.live s v' (n, d) k1 k2 k3
  refine ⟨va, _, vc, e, q1, q2, ?_⟩
  rw [← e]
  exact stage_h h1 hs (fun g hg => (h.sv s g hg).1) k2 hd hl rfl q3
set_option maxHeartbeats 2000000 in
set_option maxRecDepth 100000 in
theorem write_live (h : DI S w p lb cap mb ov M L D) (s : Nat) (hs : 64 * s + 64 ≤ D.last.length) (v : Value) (d : List UInt8) (hr : RB w v d) (hd : d.length = 64) (hn : D.ws.length < 1073741824) (hb : blownF D.fu = false) :
    Calls Try.prog 29 #[.pointer (some ⟨p, 0, none⟩), .int .i64 s, v] w fun e w' => e = .returned (.int .i64 0) ∧ DK (fun k => S k ∨ w.heap.size ≤ k) w' p ⟨D.last, D.ws ++ [⟨s, d, false⟩], burnt D.fu⟩ ∧ Fr (fun k => ¬ S k) w w' := by
  have HDI : Hid (DI S w p lb cap mb ov M L D) := h
  replace h := h.sub (T := fun k => S k ∧ k < w.heap.size) (fun k hk hs => ⟨hs, hk⟩)
  have hx := h.gd.max
  have HH := Lib.hid (has_yes ⟨_, _, _, _, _, _, h⟩ s hs)
  have HI := Lib.hid h
  have HR : Hid (RB w v d) := hr
  have c2 := h.c2
  have hzW : ∀ u : World, (zeroValue 62).run Try.prog u = .ok (.agg (#[.int .i64 0] ++ bc (zr 64))) u := zeroW
  obtain ⟨oa, oc, rfl⟩ := h.ovf
  obtain ⟨da, dc, rfl, _, _⟩ := hr
  rw [hd]
  have HD : Hid (d.length = 64 ∧ blownF D.fu = false) := ⟨hd, hb⟩
  have HX : Hid (RB w (.slice da 64 dc) d) := by have := HR.out; rwa [hd] at this
  have HB : Hid (Below w.heap.size w ((w.alloc (.cells (#[.int .i64 0] ++ bc (zr 64)) 62)).setRow w.heap.size (#[.int .i64 D.ws.length] ++ bc (zr 64)))) := belowSetRow ((Below.refl _ _).alloc (Nat.le_refl _) _) (Nat.le_refl _) _
  have HG : Hid (((w.alloc (.cells (#[.int .i64 0] ++ bc (zr 64)) 62)).setRow w.heap.size (#[.int .i64 D.ws.length] ++ bc (zr 64))).heap[w.heap.size]? = some (.cells (#[.int .i64 D.ws.length] ++ bc (zr 64)) 62 (0, 0)) ∧ ((w.alloc (.cells (#[.int .i64 0] ++ bc (zr 64)) 62)).setRow w.heap.size (#[.int .i64 D.ws.length] ++ bc (zr 64))).heap.size = w.heap.size + 1) := ⟨heapSetRow _ _ _ _ _ (heapNew w _), by simp⟩
  have HBB : Hid (Below w.heap.size w (((w.alloc (.cells (#[.int .i64 0] ++ bc (zr 64)) 62)).setRow w.heap.size (#[.int .i64 D.ws.length] ++ bc (zr 64))).setRow w.heap.size (wx D.ws.length d)) ∧ (((w.alloc (.cells (#[.int .i64 0] ++ bc (zr 64)) 62)).setRow w.heap.size (#[.int .i64 D.ws.length] ++ bc (zr 64))).setRow w.heap.size (wx D.ws.length d)).heap[w.heap.size]? = some (.cells (wx D.ws.length d) 62 (0, 0)) ∧ (((w.alloc (.cells (#[.int .i64 0] ++ bc (zr 64)) 62)).setRow w.heap.size (#[.int .i64 D.ws.length] ++ bc (zr 64))).setRow w.heap.size (wx D.ws.length d)).heap.size = w.heap.size + 1) :=
    ⟨belowSetRow HB.out (Nat.le_refl _) _, heapSetRow _ _ _ _ _ HG.out.1, by simp⟩
  have hone : (#[Value.int .i64 D.ws.length] ++ bc (zr 64)).all (·.oneCell') = true := wx_one D.ws.length (zr 64)
  have hwz : (#[Value.int .i64 D.ws.length] ++ bc (zr 64)).size = 65 := wx_size D.ws.length (zr 64) rfl
  have hzz : (#[Value.int .i64 0] ++ bc (zr 64)).size = 65 := rfl
  have HC : Hid (∀ (u : World) (ty : TypeId) (b : Nat), u.heap[b]? = some (.cells (#[.int .i64 D.ws.length] ++ bc (zr 64)) 62 (0, 0)) → RB u (.slice da 64 dc) d → (Builtin.copy_ #[27, 27] ty #[.slice (some ⟨b, 1, none⟩) 64 64, .slice da 64 dc]).run Try.prog u = .ok (goInt 64) (u.setRow b (wx D.ws.length d))) := fun u ty b h1 h2 => copy_box u ty b D.ws.length da dc d (zr 64) hd rfl h1 h2
  clear h hd hb HR
  generalize bc (zr 64) = bz at *
  generalize hnn : D.ws.length = n at *
  have HN : Hid (D.ws.length = n) := hnn
  clear hnn
  go_enter Try.func29, Try.ntmps29
  go_wp2_with fail
  refine HH.out.mono ?_
  rintro e w1 ⟨rfl, rfl⟩
  go_wp2_with (first | (refine wpList_store_row rfl 62 _ _ rfl w1.heap.size (#[.int .i64 n] ++ bz) rfl rfl 62 (#[.int .i64 0] ++ bz) (heapNew w1 _) (by rw [hwz]; exact sizeW) (by rw [hwz, hzz]) hone ?_))
  rw [HC.out _ _ _ HG.out.1 (HX.out.keep HB.out)]
  generalize World.setRow (World.setRow _ _ _) _ (wx n d) = wB at *
  have HI2 := Lib.hid (HI.out.fr (Fr.of_below HBB.out.1))
  clear HG HC hwz hzz hone hzW HB
  have c1 := HI2.out.c1
  have hzS := zeroS
  have hL1 := HI2.out.one s
  have hd0 : ((nw s D.ws).getD (zr 64)).length = 64 := by
    cases hq : nw s D.ws with
    | none => rfl
    | some d' => exact (HI2.out.gd.nw hq).2
  have hlk : (Instr.lookup 51 (.map (some mb)) (.int .i64 s) false).run Try.prog wB = .ok (.agg (bc ((nw s D.ws).getD (zr 64)) ++ #[L s])) wB := HI2.out.look1 s (by omega)
  generalize (nw s D.ws).getD (zr 64) = d0 at *
  have hs0 := sc_size d0 (L s) hd0
  have ho0 := sc_one d0 (L s) hL1
  have hz65 : zs.size = 65 := rfl
  have HE : Hid (∀ u : World, u = (wB.alloc (.cells zs 59)).setRow wB.heap.size (bc d0 ++ #[L s]) → Below wB.heap.size wB u ∧ u.heap[wB.heap.size]? = some (.cells (bc d0 ++ #[L s]) 59 (0, 0)) ∧ u.heap.size = wB.heap.size + 1) :=
    fun u e => by subst e; exact ⟨belowSetRow ((Below.refl _ _).alloc (Nat.le_refl _) _) (Nat.le_refl _) _, heapSetRow _ _ _ _ _ (heapNew wB _), by simp⟩
  generalize zs = z at *
  generalize hcs0 : bc d0 ++ #[L s] = cs0 at *
  have HCS : Hid (bc d0 ++ #[L s] = cs0 ∧ d0.length = 64) := ⟨hcs0, hd0⟩
  clear hcs0 hd0
  have hbs : (bc d).size = 64 := by rw [bc_size]; exact HD.out.1
  have hbl : (Lib.byteCells d).length = 64 := by rw [bcl_len]; exact HD.out.1
  have hbo := bc_one d
  have hsA : (Try.prog.info? 56).map (·.size) = some 64 := sizeA
  go_wp2_with (first
    | (refine wpList_store_row rfl 59 _ _ rfl wB.heap.size cs0 rfl rfl 59 z (heapNew wB _) (by rw [hs0]; exact sizeS) (by rw [hz65, hs0]) ho0 ?_; generalize hwC : World.setRow (World.alloc _ _) _ cs0 = wC; have E := Lib.hid (HE.out wC hwC.symm); clear hwC; have RA : Hid (wC.heap[w1.heap.size]? = some (.cells (wx n d) 62 (0, 0))) := (E.out.1.block _ (by have := HBB.out.2.2; omega)).trans HBB.out.2.1)
    | (refine wpList_load_mid rfl 56 _ rfl w1.heap.size 1 rfl (Lib.byteCells d) _ (range_wx RA.out) Try.underlying56 rfl (by rw [hbl]; exact hsA) ?_)
    | (refine wpList_store_mid rfl 56 _ _ rfl wB.heap.size 0 (bc d) rfl rfl (there_row E.out.2.1 (by rw [hs0, hbs]; omega)) (by rw [hbs]; exact hsA) hbo ?_; have E4 := Lib.hid (stage_d HBB.out.1 HBB.out.2.2 E.out.1 (by rw [HCS.out.1]; exact E.out.2.1) E.out.2.2 HCS.out.2 HD.out.1 RA.out); have hBs := HBB.out.2.2; clear HBB E RA; generalize World.setCells _ _ _ (Array.toList (bc d)) = wD at *; have HI3 := Lib.hid (HI.out.fr (Fr.of_below E4.out.1)); clear HI2 c1 hlk; have c3 := HI3.out.c3; have c4 := HI3.out.c4))
  refine (blown D.fu wD).mono ?_
  rintro e wE ⟨rfl, hbE⟩
  have E5 : Hid (Below w1.heap.size w1 wE ∧ wE.heap[w1.heap.size]? = some (.cells (wx n d) 62 (0, 0)) ∧ wE.heap[w1.heap.size + 1]? = some (.cells (bc d ++ #[L s]) 59 (0, 0)) ∧ w1.heap.size + 2 ≤ wE.heap.size) := by
    obtain ⟨e1, e2, e3, e4⟩ := E4.out
    have := hbE.size
    exact ⟨e1.trans (hbE.mono (by omega)), (hbE.block _ (by omega)).trans e2, (hbE.block _ (by omega)).trans e3, by omega⟩
  have HI4 := Lib.hid (HI.out.fr (Fr.of_below E5.out.1))
  clear HI3 E4 hbE c3 c4 HE
  rw [HD.out.2]
  have q64 : wE.cell? ⟨w1.heap.size + 1, 64, none⟩ = some (L s) := by
    simp only [World.cell?, E5.out.2.2.1]
    rw [Array.getElem?_append_right (by rw [bc_size, HD.out.1]; exact Nat.le_refl _), bc_size, HD.out.1]
    rfl
  have hsW : (Try.prog.info? 62).map (·.size) = some (wx n d).size := by rw [wx_size n d HD.out.1]; exact sizeW
  have hwx := wx_size n d HD.out.1
  have HA : Hid (OL (wE.alloc (.cells (wx n d) 62)) (L s) (lv s 0 D.ws)) := ownsRow_fr (HI4.out.liv s) (Fr.of_below ((Below.refl _ _).alloc (Nat.le_refl _) _)) (HI4.out.sv s)
  have HLL : Hid ((lv s 0 D.ws).length < 1073741824) := by have h1 := lv_len s D.ws 0; have h2 := HN.out; show _ < _; omega
  have HLB : Hid (∀ g, (L s).ownBlock = some g → g < w1.heap.size) := fun g hg => (HI4.out.sv s g hg).2
  have HP := Lib.hid (HI4.out.dp.fr (Fr.of_below ((Below.refl wE.heap.size wE).alloc (Nat.le_refl _) (.cells (wx n d) 62))))
  have HAW : Hid (∀ {ops : Array Oper} {rest : List Oper} {o : Oper} {a : Act} {Q : Exit → Act → World → Prop} (s' x : Operand), o.guard = none → o.op = .call { callee := .builtin .append, args := #[s', x], argTypes := #[57, 57] } → a.eval s' = L s → a.eval x = .slice (some ⟨wE.heap.size, 0, none⟩) 1 1 →
      (∀ v' w', OL w' v' (lv s 0 D.ws ++ [(n, d)]) → (wE.alloc (.cells (wx n d) 62)).grownBy w' (L s).ownBlock → (v'.ownBlock = (L s).ownBlock ∨ v'.ownBlock = some (wE.alloc (.cells (wx n d) 62)).heap.size) → wpList Try.prog ops Q rest (a.put o.dst v') w') → wpList Try.prog ops Q (o :: rest) a (wE.alloc (.cells (wx n d) 62))) :=
    fun s' x h1 h2 h3 h4 h5 => append_w h1 s' x h2 h3 HA.out wE.heap.size n d h4 (heapNew wE _) HD.out.1 HLL.out h5
  generalize wx n d = cw at *
  go_wp2_with (first
    | (refine wpList_load_row rfl 62 _ rfl w1.heap.size rfl 62 cw (0, 0) _ E5.out.2.1 Try.underlying62 rfl hsW ?_)
    | (refine build_w rfl _ rfl cw rfl hwx ?_)
    | (at_builtin; refine HAW.out _ _ rfl rfl rfl rfl ?_; intro v' wG k1 k2 k3; obtain ⟨va, vn, vc, rfl, g64, f64, H7⟩ := stage_live HI4.out E5.out.1 E5.out.2.2.1 E5.out.2.2.2 HD.out.1 k1 k2 k3; clear k1 k2 k3 HA HP HAW))
  generalize World.setCell wG ⟨w1.heap.size + 1, 64, none⟩ (.slice va vn vc) = wH at *
  clear g64 f64
  have HQ := Lib.hid H7.out.1
  have hsz : (bc d ++ #[Value.slice va vn vc]).size = 65 := sc_size d _ HD.out.1
  generalize hcx : bc d ++ #[Value.slice va vn vc] = cx at *
  have HCX : Hid (bc d ++ #[Value.slice va vn vc] = cx) := hcx
  clear hcx
  refine wp_region_held_drew (S := fun u => u.cell? ⟨p, 1, none⟩ = some (.map (some mb)) ∧ u.rangeAt (w1.heap.size + 1) 0 cx.toList) (by kernel_rfl) (⟨HQ.out.c1, range_row H7.out.2.1⟩) (fun hHeld => ?_)
  refine wpAnyH_take (i := 0) (v := .pointer (some ⟨p, 0, none⟩)) rfl (by kernel_rfl) (by kernel_rfl) (by kernel_rfl) (fun _ _ _ h => h) (Or.inl ⟨by rfl, fun w hw => by go_simp⟩) hHeld ?_
  simp only [Act.put, List.getElem_toArray, List.getElem_cons_zero, List.setIfInBounds_toArray, List.set_cons_zero, List.set_cons_succ]
  refine wpAnyH_take (i := 1) (v := .pointer (some ⟨p, 0, none⟩)) rfl (by kernel_rfl) (by kernel_rfl) (by kernel_rfl) (fun _ _ _ h => h) (Or.inl ⟨by rfl, fun w hw => by go_simp⟩) hHeld ?_
  simp only [Act.put, List.getElem_toArray, List.getElem_cons_zero, List.getElem_cons_succ, List.setIfInBounds_toArray, List.set_cons_zero, List.set_cons_succ]
  refine wpAnyH_take (i := 2) (v := .pointer (some ⟨p, 1, none⟩)) rfl (by kernel_rfl) (by kernel_rfl) (by kernel_rfl) (fun _ _ _ h => h) (Or.inl ⟨by rfl, fun w hw => by go_simp⟩) hHeld ?_
  simp only [Act.put, List.getElem_toArray, List.getElem_cons_zero, List.getElem_cons_succ, List.setIfInBounds_toArray, List.set_cons_zero, List.set_cons_succ]
  refine wpAnyH_take (i := 3) (v := .map (some mb)) rfl (by kernel_rfl) (by kernel_rfl) (by kernel_rfl) (fun _ _ _ h => h) (Or.inl ⟨by rfl, fun w hw => by have hw2 : w.cell? ⟨p, 1, none⟩ = _ := hw.1; go_simp⟩) hHeld ?_
  simp only [Act.put, List.getElem_toArray, List.getElem_cons_zero, List.getElem_cons_succ, List.setIfInBounds_toArray, List.set_cons_zero, List.set_cons_succ]
  refine wpAnyH_take (i := 4) (v := .int .i64 s) rfl (by kernel_rfl) (by kernel_rfl) (by kernel_rfl) (fun _ _ _ h => h) (Or.inl ⟨by rfl, fun w hw => by go_simp⟩) hHeld ?_
  simp only [Act.put, List.getElem_toArray, List.getElem_cons_zero, List.getElem_cons_succ, List.setIfInBounds_toArray, List.set_cons_zero, List.set_cons_succ]
  refine wpAnyH_take (i := 5) (v := _) rfl (by kernel_rfl) (by kernel_rfl) (by kernel_rfl) (fun _ _ _ h => h) (yieldsIf_load_mid (by rfl) _ _ rfl _ _ rfl _ _ (fun _ h => h.2) Try.underlying59 rfl (by rw [Array.length_toList, hsz]; exact sizeS)) hHeld ?_
  simp only [Act.put, List.getElem_toArray, List.getElem_cons_zero, List.getElem_cons_succ, List.setIfInBounds_toArray, List.set_cons_zero, List.set_cons_succ, Array.toArray_toList]
  refine wpAnyH_ready (rs := [6]) (by kernel_rfl) (by simp) ?_
  refine AllReadyH.cons (o := _) rfl (fun K hK => ?_) AllReadyH.nil
  obtain ⟨wI, hrun, hmI, hgI⟩ := (show wH.drew.ownsMap Try.prog 3 idR mb D.ws.length M from HQ.out.map.drew).update K3 underMap (by have := HN.out; unfold maxLen; omega) (key3 s (by omega)) (val := .agg cx) (d := .held (.agg cx)) (ps := []) rfl
  go_simp
  have HR8 := Lib.hid (stage_i HQ.out H7.out.2.1 H7.out.2.2.1 H7.out.2.2.2 hmI hgI)
  clear hmI hgI hrun
  refine hK.out _ _ HR8.out.1 (fun hHeld => ?_)
  clear hK K
  refine wpAnyH_done (by kernel_rfl) ?_ _
  have HP8 := Lib.hid HR8.out.2.1
  have d2 := HP8.out.c2
  have d2f := HP8.out.frz 2
  have HF8 := Lib.hid HR8.out.2.2
  clear HR8 H7 HQ hHeld c2
  obtain ⟨i0, hi, hz0, hz1, hz2⟩ := info_parts info3
  have HAI : Hid (∀ {ops : Array Oper} {rest : List Oper} {o : Oper} {a : Act} {Q : Exit → Act → World → Prop} (s' x : Operand), o.guard = none → o.op = .call { callee := .builtin .append, args := #[s', x], argTypes := #[49, 49] } → a.eval s' = .slice oa n oc → a.eval x = .slice (some ⟨wI.heap.size, 0, none⟩) 1 1 →
      (∀ v' w', w'.ownsRow 0 3 1 v' ((D.ws.map (·.at_)).length + 1) ((D.ws.map (·.at_)).map (fun x : Nat => Value.int .i64 (x : Int)) ++ [.int .i64 s]) → (wI.alloc (.cells #[.int .i64 s] 3)).grownBy w' (Value.slice oa n oc).ownBlock → (v'.ownBlock = (Value.slice oa n oc).ownBlock ∨ v'.ownBlock = some (wI.alloc (.cells #[.int .i64 s] 3)).heap.size) → wpList Try.prog ops Q rest (a.put o.dst v') w') → wpList Try.prog ops Q (o :: rest) a (wI.alloc (.cells #[.int .i64 s] 3))) :=
    fun s' x h1 h2 h3 h4 h5 => wpList_append_own_at _ h1 s' x 49 h2 0 3 i0 _ 1 8 Try.underlying49 hi hz0 hz1 hz2 rfl (by omega) _ (D.ws.map (·.at_)).length _ h3 (HP8.out.fr (Fr.of_below ((Below.refl wI.heap.size wI).alloc (Nat.le_refl _) _))).ord ⟨wI.heap.size, 0, none⟩ 1 1 [.int .i64 s] h4 rfl (fun j u hu => by
      match j, hu with
      | 0, hu => simp at hu; subst hu; exact cell_new1 _ _ _) (fun u hu => by simp at hu; subst hu; rfl) (by have := HN.out; rw [List.length_map]; unfold maxLen; omega) (by have := HN.out; rw [List.length_map]; omega) (Nat.zero_le _) (fun v' w' k1 k2 _ k4 => h5 v' w' k1 k2 k4)
  clear hi hz0 hz1 hz2
  go_wp2_with (first | (at_builtin; refine HAI.out _ _ rfl rfl rfl rfl ?_; intro v' wJ k1 k2 k3; obtain ⟨va', vn', vc', rfl, e2, e2f, H9⟩ := stage_j HP8.out HF8.out.1 HF8.out.2 k1 k2 k3; clear k1 k2 k3 HAI d2 d2f))
  generalize World.setCell wJ ⟨p, 2, none⟩ (.slice va' vn' vc') = wK at *
  clear e2 e2f
  refine (burn D.fu p wK H9.out.1.c4 (H9.out.1.frz 4) HI.out.gd.fu).mono ?_
  rintro e wL ⟨rfl, hwL⟩
  have HFin := Lib.hid (stage_k (dead := false) HDI.out hs HD.out.1 (fun t => by rw [lv_snoc]; by_cases ht : t = s; (subst ht; simp [HN.out]); (have ht2 : ¬ s = t := fun e => ht e.symm; simp [ht, ht2])) (fun t ht => by simp [ht]) (by simp) (fun h0 => by rw [lv_snoc] at h0; simp at h0) HCX.out H9.out.1 H9.out.2 hwL)
  clear hwL H9
  go_wp2_with fail
  go_ret
  exact ⟨rfl, HFin.out.1, HFin.out.2⟩
set_option maxHeartbeats 2000000 in
set_option maxRecDepth 100000 in
theorem write_dead (h : DI S w p lb cap mb ov M L D) (s : Nat) (hs : 64 * s + 64 ≤ D.last.length) (v : Value) (d : List UInt8) (hr : RB w v d) (hd : d.length = 64) (hn : D.ws.length < 1073741824) (hb : blownF D.fu = true) :
    Calls Try.prog 29 #[.pointer (some ⟨p, 0, none⟩), .int .i64 s, v] w fun e w' => e = .returned (.int .i64 0) ∧ DK (fun k => S k ∨ w.heap.size ≤ k) w' p ⟨D.last, D.ws ++ [⟨s, d, true⟩], burnt D.fu⟩ ∧ Fr (fun k => ¬ S k) w w' := by
  have HDI : Hid (DI S w p lb cap mb ov M L D) := h
  replace h := h.sub (T := fun k => S k ∧ k < w.heap.size) (fun k hk hs => ⟨hs, hk⟩)
  have hx := h.gd.max
  have HH := Lib.hid (has_yes ⟨_, _, _, _, _, _, h⟩ s hs)
  have HI := Lib.hid h
  have HR : Hid (RB w v d) := hr
  have c2 := h.c2
  have hzW : ∀ u : World, (zeroValue 62).run Try.prog u = .ok (.agg (#[.int .i64 0] ++ bc (zr 64))) u := zeroW
  obtain ⟨oa, oc, rfl⟩ := h.ovf
  obtain ⟨da, dc, rfl, _, _⟩ := hr
  rw [hd]
  have HD : Hid (d.length = 64 ∧ blownF D.fu = true) := ⟨hd, hb⟩
  have HX : Hid (RB w (.slice da 64 dc) d) := by have := HR.out; rwa [hd] at this
  have HB : Hid (Below w.heap.size w ((w.alloc (.cells (#[.int .i64 0] ++ bc (zr 64)) 62)).setRow w.heap.size (#[.int .i64 D.ws.length] ++ bc (zr 64)))) := belowSetRow ((Below.refl _ _).alloc (Nat.le_refl _) _) (Nat.le_refl _) _
  have HG : Hid (((w.alloc (.cells (#[.int .i64 0] ++ bc (zr 64)) 62)).setRow w.heap.size (#[.int .i64 D.ws.length] ++ bc (zr 64))).heap[w.heap.size]? = some (.cells (#[.int .i64 D.ws.length] ++ bc (zr 64)) 62 (0, 0)) ∧ ((w.alloc (.cells (#[.int .i64 0] ++ bc (zr 64)) 62)).setRow w.heap.size (#[.int .i64 D.ws.length] ++ bc (zr 64))).heap.size = w.heap.size + 1) := ⟨heapSetRow _ _ _ _ _ (heapNew w _), by simp⟩
  have HBB : Hid (Below w.heap.size w (((w.alloc (.cells (#[.int .i64 0] ++ bc (zr 64)) 62)).setRow w.heap.size (#[.int .i64 D.ws.length] ++ bc (zr 64))).setRow w.heap.size (wx D.ws.length d)) ∧ (((w.alloc (.cells (#[.int .i64 0] ++ bc (zr 64)) 62)).setRow w.heap.size (#[.int .i64 D.ws.length] ++ bc (zr 64))).setRow w.heap.size (wx D.ws.length d)).heap[w.heap.size]? = some (.cells (wx D.ws.length d) 62 (0, 0)) ∧ (((w.alloc (.cells (#[.int .i64 0] ++ bc (zr 64)) 62)).setRow w.heap.size (#[.int .i64 D.ws.length] ++ bc (zr 64))).setRow w.heap.size (wx D.ws.length d)).heap.size = w.heap.size + 1) :=
    ⟨belowSetRow HB.out (Nat.le_refl _) _, heapSetRow _ _ _ _ _ HG.out.1, by simp⟩
  have hone : (#[Value.int .i64 D.ws.length] ++ bc (zr 64)).all (·.oneCell') = true := wx_one D.ws.length (zr 64)
  have hwz : (#[Value.int .i64 D.ws.length] ++ bc (zr 64)).size = 65 := wx_size D.ws.length (zr 64) rfl
  have hzz : (#[Value.int .i64 0] ++ bc (zr 64)).size = 65 := rfl
  have HC : Hid (∀ (u : World) (ty : TypeId) (b : Nat), u.heap[b]? = some (.cells (#[.int .i64 D.ws.length] ++ bc (zr 64)) 62 (0, 0)) → RB u (.slice da 64 dc) d → (Builtin.copy_ #[27, 27] ty #[.slice (some ⟨b, 1, none⟩) 64 64, .slice da 64 dc]).run Try.prog u = .ok (goInt 64) (u.setRow b (wx D.ws.length d))) := fun u ty b h1 h2 => copy_box u ty b D.ws.length da dc d (zr 64) hd rfl h1 h2
  clear h hd hb HR
  generalize bc (zr 64) = bz at *
  generalize hnn : D.ws.length = n at *
  have HN : Hid (D.ws.length = n) := hnn
  clear hnn
  go_enter Try.func29, Try.ntmps29
  go_wp2_with fail
  refine HH.out.mono ?_
  rintro e w1 ⟨rfl, rfl⟩
  go_wp2_with (first | (refine wpList_store_row rfl 62 _ _ rfl w1.heap.size (#[.int .i64 n] ++ bz) rfl rfl 62 (#[.int .i64 0] ++ bz) (heapNew w1 _) (by rw [hwz]; exact sizeW) (by rw [hwz, hzz]) hone ?_))
  rw [HC.out _ _ _ HG.out.1 (HX.out.keep HB.out)]
  generalize World.setRow (World.setRow _ _ _) _ (wx n d) = wB at *
  have HI2 := Lib.hid (HI.out.fr (Fr.of_below HBB.out.1))
  clear HG HC hwz hzz hone hzW HB
  have c1 := HI2.out.c1
  have hzS := zeroS
  have hL1 := HI2.out.one s
  have hd0 : ((nw s D.ws).getD (zr 64)).length = 64 := by
    cases hq : nw s D.ws with
    | none => rfl
    | some d' => exact (HI2.out.gd.nw hq).2
  have hlk : (Instr.lookup 51 (.map (some mb)) (.int .i64 s) false).run Try.prog wB = .ok (.agg (bc ((nw s D.ws).getD (zr 64)) ++ #[L s])) wB := HI2.out.look1 s (by omega)
  generalize (nw s D.ws).getD (zr 64) = d0 at *
  have hs0 := sc_size d0 (L s) hd0
  have ho0 := sc_one d0 (L s) hL1
  have hz65 : zs.size = 65 := rfl
  have HE : Hid (∀ u : World, u = (wB.alloc (.cells zs 59)).setRow wB.heap.size (bc d0 ++ #[L s]) → Below wB.heap.size wB u ∧ u.heap[wB.heap.size]? = some (.cells (bc d0 ++ #[L s]) 59 (0, 0)) ∧ u.heap.size = wB.heap.size + 1) :=
    fun u e => by subst e; exact ⟨belowSetRow ((Below.refl _ _).alloc (Nat.le_refl _) _) (Nat.le_refl _) _, heapSetRow _ _ _ _ _ (heapNew wB _), by simp⟩
  generalize zs = z at *
  generalize hcs0 : bc d0 ++ #[L s] = cs0 at *
  have HCS : Hid (bc d0 ++ #[L s] = cs0 ∧ d0.length = 64) := ⟨hcs0, hd0⟩
  clear hcs0 hd0
  have hbs : (bc d).size = 64 := by rw [bc_size]; exact HD.out.1
  have hbl : (Lib.byteCells d).length = 64 := by rw [bcl_len]; exact HD.out.1
  have hbo := bc_one d
  have hsA : (Try.prog.info? 56).map (·.size) = some 64 := sizeA
  go_wp2_with (first
    | (refine wpList_store_row rfl 59 _ _ rfl wB.heap.size cs0 rfl rfl 59 z (heapNew wB _) (by rw [hs0]; exact sizeS) (by rw [hz65, hs0]) ho0 ?_; generalize hwC : World.setRow (World.alloc _ _) _ cs0 = wC; have E := Lib.hid (HE.out wC hwC.symm); clear hwC; have RA : Hid (wC.heap[w1.heap.size]? = some (.cells (wx n d) 62 (0, 0))) := (E.out.1.block _ (by have := HBB.out.2.2; omega)).trans HBB.out.2.1)
    | (refine wpList_load_mid rfl 56 _ rfl w1.heap.size 1 rfl (Lib.byteCells d) _ (range_wx RA.out) Try.underlying56 rfl (by rw [hbl]; exact hsA) ?_)
    | (refine wpList_store_mid rfl 56 _ _ rfl wB.heap.size 0 (bc d) rfl rfl (there_row E.out.2.1 (by rw [hs0, hbs]; omega)) (by rw [hbs]; exact hsA) hbo ?_; have E4 := Lib.hid (stage_d HBB.out.1 HBB.out.2.2 E.out.1 (by rw [HCS.out.1]; exact E.out.2.1) E.out.2.2 HCS.out.2 HD.out.1 RA.out); have hBs := HBB.out.2.2; clear HBB E RA; generalize World.setCells _ _ _ (Array.toList (bc d)) = wD at *; have HI3 := Lib.hid (HI.out.fr (Fr.of_below E4.out.1)); clear HI2 c1 hlk; have c3 := HI3.out.c3; have c4 := HI3.out.c4))
  refine (blown D.fu wD).mono ?_
  rintro e wE ⟨rfl, hbE⟩
  have E5 : Hid (Below w1.heap.size w1 wE ∧ wE.heap[w1.heap.size]? = some (.cells (wx n d) 62 (0, 0)) ∧ wE.heap[w1.heap.size + 1]? = some (.cells (bc d ++ #[L s]) 59 (0, 0)) ∧ w1.heap.size + 2 ≤ wE.heap.size) := by
    obtain ⟨e1, e2, e3, e4⟩ := E4.out
    have := hbE.size
    exact ⟨e1.trans (hbE.mono (by omega)), (hbE.block _ (by omega)).trans e2, (hbE.block _ (by omega)).trans e3, by omega⟩
  have HI4 := Lib.hid (HI.out.fr (Fr.of_below E5.out.1))
  clear HI3 E4 hbE c3 c4 HE
  rw [HD.out.2]
  have H7 : Hid (DP (fun k => (S k ∧ k < w1.heap.size) ∨ w1.heap.size + 2 ≤ k) wE p lb cap mb D.ws.length (.slice oa n oc) (.slice oa n oc) M L (fun t => lv t 0 D.ws) D.last (D.ws.map (·.at_)) D.fu ∧ wE.heap[w1.heap.size + 1]? = some (.cells (bc d ++ #[L s]) 59 (0, 0)) ∧ Fr (fun k => ¬ (S k ∧ k < w1.heap.size)) w1 wE ∧ w1.heap.size + 2 ≤ wE.heap.size) :=
    ⟨HI4.out.dp.sub (fun k _ h => .inl h), E5.out.2.2.1, Fr.of_below E5.out.1, E5.out.2.2.2⟩
  clear E5 HI4
  go_wp2_with fail
  generalize wE = wH at *
  have HQ := Lib.hid H7.out.1
  have hsz : (bc d ++ #[L s]).size = 65 := sc_size d _ HD.out.1
  generalize hcx : bc d ++ #[L s] = cx at *
  have HCX : Hid (bc d ++ #[L s] = cx) := hcx
  clear hcx
  refine wp_region_held_drew (S := fun u => u.cell? ⟨p, 1, none⟩ = some (.map (some mb)) ∧ u.rangeAt (w1.heap.size + 1) 0 cx.toList) (by kernel_rfl) (⟨HQ.out.c1, range_row H7.out.2.1⟩) (fun hHeld => ?_)
  refine wpAnyH_take (i := 0) (v := .pointer (some ⟨p, 0, none⟩)) rfl (by kernel_rfl) (by kernel_rfl) (by kernel_rfl) (fun _ _ _ h => h) (Or.inl ⟨by rfl, fun w hw => by go_simp⟩) hHeld ?_
  simp only [Act.put, List.getElem_toArray, List.getElem_cons_zero, List.setIfInBounds_toArray, List.set_cons_zero, List.set_cons_succ]
  refine wpAnyH_take (i := 1) (v := .pointer (some ⟨p, 0, none⟩)) rfl (by kernel_rfl) (by kernel_rfl) (by kernel_rfl) (fun _ _ _ h => h) (Or.inl ⟨by rfl, fun w hw => by go_simp⟩) hHeld ?_
  simp only [Act.put, List.getElem_toArray, List.getElem_cons_zero, List.getElem_cons_succ, List.setIfInBounds_toArray, List.set_cons_zero, List.set_cons_succ]
  refine wpAnyH_take (i := 2) (v := .pointer (some ⟨p, 1, none⟩)) rfl (by kernel_rfl) (by kernel_rfl) (by kernel_rfl) (fun _ _ _ h => h) (Or.inl ⟨by rfl, fun w hw => by go_simp⟩) hHeld ?_
  simp only [Act.put, List.getElem_toArray, List.getElem_cons_zero, List.getElem_cons_succ, List.setIfInBounds_toArray, List.set_cons_zero, List.set_cons_succ]
  refine wpAnyH_take (i := 3) (v := .map (some mb)) rfl (by kernel_rfl) (by kernel_rfl) (by kernel_rfl) (fun _ _ _ h => h) (Or.inl ⟨by rfl, fun w hw => by have hw2 : w.cell? ⟨p, 1, none⟩ = _ := hw.1; go_simp⟩) hHeld ?_
  simp only [Act.put, List.getElem_toArray, List.getElem_cons_zero, List.getElem_cons_succ, List.setIfInBounds_toArray, List.set_cons_zero, List.set_cons_succ]
  refine wpAnyH_take (i := 4) (v := .int .i64 s) rfl (by kernel_rfl) (by kernel_rfl) (by kernel_rfl) (fun _ _ _ h => h) (Or.inl ⟨by rfl, fun w hw => by go_simp⟩) hHeld ?_
  simp only [Act.put, List.getElem_toArray, List.getElem_cons_zero, List.getElem_cons_succ, List.setIfInBounds_toArray, List.set_cons_zero, List.set_cons_succ]
  refine wpAnyH_take (i := 5) (v := _) rfl (by kernel_rfl) (by kernel_rfl) (by kernel_rfl) (fun _ _ _ h => h) (yieldsIf_load_mid (by rfl) _ _ rfl _ _ rfl _ _ (fun _ h => h.2) Try.underlying59 rfl (by rw [Array.length_toList, hsz]; exact sizeS)) hHeld ?_
  simp only [Act.put, List.getElem_toArray, List.getElem_cons_zero, List.getElem_cons_succ, List.setIfInBounds_toArray, List.set_cons_zero, List.set_cons_succ, Array.toArray_toList]
  refine wpAnyH_ready (rs := [6]) (by kernel_rfl) (by simp) ?_
  refine AllReadyH.cons (o := _) rfl (fun K hK => ?_) AllReadyH.nil
  obtain ⟨wI, hrun, hmI, hgI⟩ := (show wH.drew.ownsMap Try.prog 3 idR mb D.ws.length M from HQ.out.map.drew).update K3 underMap (by have := HN.out; unfold maxLen; omega) (key3 s (by omega)) (val := .agg cx) (d := .held (.agg cx)) (ps := []) rfl
  go_simp
  have HR8 := Lib.hid (stage_i HQ.out H7.out.2.1 H7.out.2.2.1 H7.out.2.2.2 hmI hgI)
  clear hmI hgI hrun
  refine hK.out _ _ HR8.out.1 (fun hHeld => ?_)
  clear hK K
  refine wpAnyH_done (by kernel_rfl) ?_ _
  have HP8 := Lib.hid HR8.out.2.1
  have d2 := HP8.out.c2
  have d2f := HP8.out.frz 2
  have HF8 := Lib.hid HR8.out.2.2
  clear HR8 H7 HQ hHeld c2
  obtain ⟨i0, hi, hz0, hz1, hz2⟩ := info_parts info3
  have HAI : Hid (∀ {ops : Array Oper} {rest : List Oper} {o : Oper} {a : Act} {Q : Exit → Act → World → Prop} (s' x : Operand), o.guard = none → o.op = .call { callee := .builtin .append, args := #[s', x], argTypes := #[49, 49] } → a.eval s' = .slice oa n oc → a.eval x = .slice (some ⟨wI.heap.size, 0, none⟩) 1 1 →
      (∀ v' w', w'.ownsRow 0 3 1 v' ((D.ws.map (·.at_)).length + 1) ((D.ws.map (·.at_)).map (fun x : Nat => Value.int .i64 (x : Int)) ++ [.int .i64 s]) → (wI.alloc (.cells #[.int .i64 s] 3)).grownBy w' (Value.slice oa n oc).ownBlock → (v'.ownBlock = (Value.slice oa n oc).ownBlock ∨ v'.ownBlock = some (wI.alloc (.cells #[.int .i64 s] 3)).heap.size) → wpList Try.prog ops Q rest (a.put o.dst v') w') → wpList Try.prog ops Q (o :: rest) a (wI.alloc (.cells #[.int .i64 s] 3))) :=
    fun s' x h1 h2 h3 h4 h5 => wpList_append_own_at _ h1 s' x 49 h2 0 3 i0 _ 1 8 Try.underlying49 hi hz0 hz1 hz2 rfl (by omega) _ (D.ws.map (·.at_)).length _ h3 (HP8.out.fr (Fr.of_below ((Below.refl wI.heap.size wI).alloc (Nat.le_refl _) _))).ord ⟨wI.heap.size, 0, none⟩ 1 1 [.int .i64 s] h4 rfl (fun j u hu => by
      match j, hu with
      | 0, hu => simp at hu; subst hu; exact cell_new1 _ _ _) (fun u hu => by simp at hu; subst hu; rfl) (by have := HN.out; rw [List.length_map]; unfold maxLen; omega) (by have := HN.out; rw [List.length_map]; omega) (Nat.zero_le _) (fun v' w' k1 k2 _ k4 => h5 v' w' k1 k2 k4)
  clear hi hz0 hz1 hz2
  go_wp2_with (first | (at_builtin; refine HAI.out _ _ rfl rfl rfl rfl ?_; intro v' wJ k1 k2 k3; obtain ⟨va', vn', vc', rfl, e2, e2f, H9⟩ := stage_j HP8.out HF8.out.1 HF8.out.2 k1 k2 k3; clear k1 k2 k3 HAI d2 d2f))
  generalize World.setCell wJ ⟨p, 2, none⟩ (.slice va' vn' vc') = wK at *
  clear e2 e2f
  refine (burn D.fu p wK H9.out.1.c4 (H9.out.1.frz 4) HI.out.gd.fu).mono ?_
  rintro e wL ⟨rfl, hwL⟩
  have HFin := Lib.hid (stage_k (dead := true) HDI.out hs HD.out.1 (fun t => by rw [lv_snoc]; simp) (fun t _ => rfl) rfl (fun h0 => HDI.out.nol s (by rw [lv_snoc] at h0; simpa using h0)) HCX.out H9.out.1 H9.out.2 hwL)
  clear hwL H9
  go_wp2_with fail
  go_ret
  exact ⟨rfl, HFin.out.1, HFin.out.2⟩
/-- Write -/
theorem write (h : DK S w p D) (s : Nat) (hs : 64 * s + 64 ≤ D.last.length) (v : Value) (d : List UInt8) (hr : RB w v d) (hd : d.length = 64) (hn : D.ws.length < 1073741824) :
    Calls Try.prog 29 #[.pointer (some ⟨p, 0, none⟩), .int .i64 s, v] w fun e w' => e = .returned (.int .i64 0) ∧ DK (fun k => S k ∨ w.heap.size ≤ k) w' p ⟨D.last, D.ws ++ [⟨s, d, blownF D.fu⟩], burnt D.fu⟩ ∧ Fr (fun k => ¬ S k) w w' := by
  obtain ⟨lb, cap, mb, ov, M, L, h⟩ := h
  cases hb : blownF D.fu with
  | false => exact write_live h s hs v d hr hd hn hb
  | true => exact write_dead h s hs v d hr hd hn hb
end
end Go.Proofs.Ytglknmelcianjaa
