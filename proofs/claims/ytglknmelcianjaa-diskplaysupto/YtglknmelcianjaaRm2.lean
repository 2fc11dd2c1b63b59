import Derived.Test.YtglknmelcianjaaRl2
import Derived.Maps.AppendAt
import Derived.OrdersHeld
import Derived.Deep.RegionHeld3
namespace Go.Proofs.Ytglknmelcianjaa
open Go.RowKit
theorem infoU : (Try.prog.info? 64).map (fun i => (i.zero, i.size, i.bytes)) = some (some (.agg #[.int .i64 0, .slice none 0 0, .bool false]), 3, 40) := by kernel_rfl
/-- what an append of one write answers -/
theorem append_u {w : World} {sv : Value} {ps : List (Wt × Value)} {b : Nat} {x : Wt × Value} (ty : TypeId) (hown : w.ownsRow 0 64 3 sv ps.length (ps.flatMap uc)) (hb : w.heap[b]? = some (.cells #[.int .i64 (x.1.at_ : Int), x.2, .bool x.1.dead] 64 (0, 0))) (hx : x.2.oneCell' = true) (hn : ps.length ≤ 1073741824) :
    ∃ v' w', (Builtin.append_ #[45, 45] ty #[sv, .slice (some ⟨b, 0, none⟩) 1 1]).run Try.prog w = .ok v' w' ∧ w'.ownsRow 0 64 3 v' (ps ++ [x]).length ((ps ++ [x]).flatMap uc) ∧ w.grownBy w' sv.ownBlock ∧ (v'.ownBlock = sv.ownBlock ∨ v'.ownBlock = some w.heap.size) := by
  obtain ⟨i0, hi, hz0, hz1, hz2⟩ := info_parts infoU
  obtain ⟨v', w', h1, h2, h3, _, h5⟩ := run_append_own_at (P := Try.prog) w 0 45 ty 64 i0 _ 3 40 Try.underlying45 hi hz0 hz1 hz2 rfl (by omega) sv ps.length (ps.flatMap uc) hown ⟨b, 0, none⟩ 1 1 (uc x) rfl (fun j u hu => by
    rw [Addr.add_mid, Nat.zero_add]
    simp only [World.cell?, hb]
    simpa [uc] using hu) (fun u hu => by
    simp [uc] at hu
    rcases hu with rfl | rfl | rfl
    · rfl
    · exact hx
    · rfl) (by unfold maxLen; omega) (by omega) (Nat.zero_le _)
  refine ⟨v', w', h1, ?_, h3, h5⟩
  simpa using h2
theorem append_u2 {w : World} {sv : Value} {ps : List (Wt × Value)} {b : Nat} {x : Wt × Value} (hown : w.ownsRow 0 64 3 sv ps.length (ps.flatMap uc)) (hb : w.heap[b]? = some (.cells #[.int .i64 (x.1.at_ : Int), x.2, .bool x.1.dead] 64 (0, 0))) (hx : x.2.oneCell' = true) (hn : ps.length ≤ 1073741824) :
    ∃ v' w', (∀ ty, (Builtin.append_ #[45, 45] ty #[sv, .slice (some ⟨b, 0, none⟩) 1 1]).run Try.prog w = .ok v' w') ∧ w'.ownsRow 0 64 3 v' (ps ++ [x]).length ((ps ++ [x]).flatMap uc) ∧ w.grownBy w' sv.ownBlock ∧ (v'.ownBlock = sv.ownBlock ∨ v'.ownBlock = some w.heap.size) := by
  obtain ⟨v', w', h1, h2⟩ := append_u (x := x) 45 hown hb hx hn
  refine ⟨v', w', fun ty => ?_, h2⟩
  exact h1
section
variable {S : Nat → Prop} {w w' : World} {q lb cap : Nat} {wv : Value} {ps : List (Wt × Value)} {lf : Int} {D : Dk}
theorem RI.dw (h : RI S w q lb cap wv ps lf D) {v : Value} {d : List UInt8} (ho : OW 0 w v d) {g : Nat} (hg : v.ownBlock = some g) : wv.ownBlock ≠ some g := fun e => by
  obtain ⟨_, cs, hc⟩ := ownsRow_lt h.row g e
  obtain ⟨_, cs', hc'⟩ := ownsRow_lt ho g hg
  rw [hc'] at hc
  simp at hc
/-- one more write -/
theorem RI.more (h : RI S w q lb cap wv ps lf D) {x : Wt × Value} {v' : Value} (hx : 64 * x.1.at_ + 64 ≤ D.last.length) (hxd : x.1.data.length = 64) (hrow : w'.ownsRow 0 64 3 v' (ps ++ [x]).length ((ps ++ [x]).flatMap uc)) (hg : w.grownBy w' wv.ownBlock) (hb : v'.ownBlock = wv.ownBlock ∨ v'.ownBlock = some w.heap.size)
    (hd : OW 0 w x.2 x.1.data) (hdl : ∀ g, x.2.ownBlock = some g → g ≠ lb ∧ S g) :
    RI (fun k => S k ∨ w.heap.size ≤ k) (w'.setCell ⟨q, 1, none⟩ v') q lb cap v' (ps ++ [x]) lf ⟨D.last, D.ws ++ [x.1], D.fu⟩ ∧ Fr (fun k => ¬ S k) w (w'.setCell ⟨q, 1, none⟩ v') ∧ w'.cell? ⟨q, 1, none⟩ = some wv ∧ w'.frozen? ⟨q, 1, none⟩ = false := by
  have hfr : Fr (fun k => wv.ownBlock ≠ some k) w w' := ⟨hg.os, hg.tape, hg.output, hg.size, fun k hk hne => hg.block k hk (fun e => hne e.symm)⟩
  have hbq : w'.heap[q]? = _ := (hfr.block q h.lt h.wq).trans h.blk
  have hset : Fr (fun k => k ≠ q) w' (w'.setCell ⟨q, 1, none⟩ v') := (Fr.refl _ w').setCell q 1 _ (fun _ e => e rfl)
  have hall : Fr (fun k => wv.ownBlock ≠ some k ∧ k ≠ q) w (w'.setCell ⟨q, 1, none⟩ v') := ((Fr.refl _ w).trans hfr (fun k _ hk => hk.1)).trans hset (fun k _ hk => hk.2)
  have hvq : v'.ownBlock ≠ some q := fun e => by
    rcases hb with e1 | e1
    · exact h.wq (by rw [← e1]; exact e)
    · rw [e1] at e
      have := h.lt
      simp at e
      omega
  refine ⟨⟨?_, h.left, ownsRow_fr h.las hall (fun g hg => by simp [Value.ownBlock] at hg; subst hg; exact ⟨h.wl, h.lbq⟩), by rw [List.map_append, h.ws]; rfl, ownsRow_fr hrow hset (fun g hg e => hvq (by rw [← e]; exact hg)), fun p hp => ?_, .inl h.sq, .inl h.sl, fun g hg => ?_, ⟨h.gd.mul, h.gd.pos, h.gd.max, fun y hy => ?_, h.gd.fu⟩⟩, ?_, ?_, ?_⟩
  · rw [setCell_eq_setRow w' q 1 _ _ _ _ hbq]
    exact heapSetRow _ _ _ _ _ hbq
  · rcases List.mem_append.1 hp with hp | hp
    · exact ⟨ownsRow_fr (h.dat p hp).1 hall (fun g hg => ⟨h.dw (h.dat p hp).1 hg, fun e => h.dq hp (by rw [← e]; exact hg)⟩), fun g hg => ⟨((h.dat p hp).2 g hg).1, .inl ((h.dat p hp).2 g hg).2⟩⟩
    · simp at hp
      subst hp
      refine ⟨ownsRow_fr hd hall (fun g hg => ⟨h.dw hd hg, fun e => ?_⟩), fun g hg => ⟨(hdl g hg).1, .inl (hdl g hg).2⟩⟩
      subst e
      obtain ⟨_, cs, hc⟩ := ownsRow_lt hd g hg
      rw [h.blk] at hc
      simp at hc
  · rcases hb with e | e
    · exact .inl (h.sw g (by rw [← e]; exact hg))
    · rw [e] at hg
      simp at hg
      exact .inr (by omega)
  · rcases List.mem_append.1 hy with hy | hy
    · exact h.gd.ws y hy
    · simp at hy
      subst hy
      exact ⟨hx, hxd⟩
  · exact (Fr.refl _ w).trans hall (fun k _ hk => ⟨fun e => hk (h.sw k e), fun e => hk (by rw [e]; exact h.sq)⟩)
  · simp [World.cell?, hbq]
  · simp [World.frozen?, hbq]
end
end Go.Proofs.Ytglknmelcianjaa
