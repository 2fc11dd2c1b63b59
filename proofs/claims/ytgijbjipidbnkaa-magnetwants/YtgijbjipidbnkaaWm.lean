import Derived.Test.YtgijbjipidbnkaaWl
import Derived.Laws.CopyOwn
namespace Go.Proofs.Ytgijbjipidbnkaa
open Go.RowKit Go.Deep
theorem load_link_if {ops : Array Oper} {rest : List Oper} {o : Oper} {a : Act} {w : World} {Q : Exit → Act → World → Prop} (hw : Region.wanted o (yielded ops a.tmps) = true) (x : Operand) (ho : o.op = .load 28 x)
    (g : Nat) (hx : a.eval x = .pointer (some ⟨g, 0, none⟩)) {l : List UInt8} {nm : ByteArray} {tr pe on mo : Value} (hg : LB w g l nm tr pe on mo) (hl : l.length = 32)
    (h : wpList Try.prog ops Q rest (a.put o.dst (.agg (lkC l nm tr pe on mo))) w) : wpList Try.prog ops Q (o :: rest) a w := by
  unfold wpList
  rw [if_pos hw]
  exact .inl (wp_load_row 28 x ho g hx 28 _ (0, 0) _ hg Try.underlying28 rfl (infoLk hl) h)
set_option maxHeartbeats 4000000 in
set_option maxRecDepth 100000 in
theorem wantsLaw (k : Lk) (tr pe on mo : Value) (f : Int) (w : World) (hk : k.ok) (hi : ∀ x ∈ k.rs, I64 x.1 ∧ I64 x.2) (hf : I64 f) (hr : RL4 (fun _ => True) w k tr pe on mo) :
    Calls Try.prog 3 #[.agg (lkC k.l k.nm tr pe on mo), .int .i64 f] w fun e w' => e = .returned (.bool true) ∧ Below w.heap.size w w' := by
  have hl := hk.l
  have B0 : Hid (Below w.heap.size w (w.alloc (Obj.cells (lkC k.l k.nm tr pe on mo) 28))) := (Below.refl _ _).alloc (Nat.le_refl _) _
  have L0 : Hid (LB (w.alloc (Obj.cells (lkC k.l k.nm tr pe on mo) 28)) w.heap.size k.l k.nm tr pe on mo) := heap_new _ _
  have HA : Hid (k.ok ∧ (∀ x ∈ k.rs, I64 x.1 ∧ I64 x.2) ∧ I64 f ∧ ∀ w', Below w.heap.size w w' → RL4 (fun _ => True) w' k tr pe on mo) := ⟨hk, hi, hf, fun w' hb => hr.move (fun _ h _ => h) hb.size (fun b _ hl => hb.block b hl)⟩
  clear hk hi hf hr
  go_enter Try.func3, Try.ntmps3
  go_upto_region 1 with fail
  generalize (w.alloc (Obj.cells (lkC k.l k.nm tr pe on mo) 28)) = w0 at *
  generalize hvb : w.heap.size = H at *
  have HS : Hid (w.heap.size = H) := hvb
  clear hvb
  go_wp2_with (first | (refine load_link_if rfl _ rfl H rfl L0.out hl ?_))
  refine (farLink k tr pe on mo w0 HA.out.1 (HA.out.2.2.2 w0 B0.out)).mono ?_
  rintro e w1 ⟨r, rfl, b1, hsm⟩
  have B1 : Hid (Below H w w1) := B0.out.trans (b1.mono (by have := L0.out.lt; omega))
  have L1 : Hid (LB w1 H k.l k.nm tr pe on mo) := L0.out.keep (b1.block H L0.out.lt)
  clear b1 B0 L0
  cases r with
  | true =>
    clear hsm
    go_wp2
    go_ret
    exact ⟨rfl, HS.out ▸ B1.out⟩
  | false =>
    have HSM : Hid k.small := hsm rfl
    clear hsm
    go_wp2_with (first | (refine load_link_if rfl _ rfl H rfl L1.out hl ?_))
    refine (linkTwin k tr pe on mo w1 HA.out.1 HSM.out (HA.out.2.2.2 w1 B1.out)).mono ?_
    rintro e w2 ⟨t2, p2, o2, m2, rfl, r2, b2⟩
    obtain ⟨ta, tc, rfl⟩ : ∃ a c, t2 = .slice a k.ts.length c := by obtain ⟨p, q, e, _⟩ := r2.1; exact ⟨p, q, e⟩
    obtain ⟨pa, pc, rfl⟩ : ∃ a c, p2 = .slice a k.ps.length c := by obtain ⟨p, q, e, _⟩ := r2.2.1; exact ⟨p, q, e⟩
    obtain ⟨oa, oc, rfl⟩ : ∃ a c, o2 = .slice a k.rs.length c := by obtain ⟨p, q, e, _⟩ := r2.2.2.1; exact ⟨p, q, e⟩
    obtain ⟨ma, mc, rfl⟩ : ∃ a c, m2 = .slice a k.dn c := by obtain ⟨p, q, e, _⟩ := r2.2.2.2; exact ⟨p, q, e⟩
    have hZ : LB (w2.alloc (Obj.cells #[.int .u8 0, .int .u8 0, .int .u8 0, .int .u8 0, .int .u8 0, .int .u8 0, .int .u8 0, .int .u8 0, .int .u8 0, .int .u8 0, .int .u8 0, .int .u8 0, .int .u8 0, .int .u8 0, .int .u8 0, .int .u8 0, .int .u8 0, .int .u8 0, .int .u8 0, .int .u8 0, .int .u8 0, .int .u8 0, .int .u8 0, .int .u8 0, .int .u8 0, .int .u8 0, .int .u8 0, .int .u8 0, .int .u8 0, .int .u8 0, .int .u8 0, .int .u8 0, .string { data := #[] }, .slice .none 0 0, .slice .none 0 0, .slice .none 0 0, .slice .none 0 0] 28)) w2.heap.size (List.replicate 32 (0 : UInt8)) ⟨#[]⟩ (.slice none 0 0) (.slice none 0 0) (.slice none 0 0) (.slice none 0 0) := heap_new _ _
    have HF : Hid (Below H w ((w2.alloc (Obj.cells #[.int .u8 0, .int .u8 0, .int .u8 0, .int .u8 0, .int .u8 0, .int .u8 0, .int .u8 0, .int .u8 0, .int .u8 0, .int .u8 0, .int .u8 0, .int .u8 0, .int .u8 0, .int .u8 0, .int .u8 0, .int .u8 0, .int .u8 0, .int .u8 0, .int .u8 0, .int .u8 0, .int .u8 0, .int .u8 0, .int .u8 0, .int .u8 0, .int .u8 0, .int .u8 0, .int .u8 0, .int .u8 0, .int .u8 0, .int .u8 0, .int .u8 0, .int .u8 0, .string { data := #[] }, .slice .none 0 0, .slice .none 0 0, .slice .none 0 0, .slice .none 0 0] 28)).setRow w2.heap.size (lkC k.l k.nm (.slice ta k.ts.length tc) (.slice pa k.ps.length pc) (.slice oa k.rs.length oc) (.slice ma k.dn mc))) ∧ LB ((w2.alloc (Obj.cells #[.int .u8 0, .int .u8 0, .int .u8 0, .int .u8 0, .int .u8 0, .int .u8 0, .int .u8 0, .int .u8 0, .int .u8 0, .int .u8 0, .int .u8 0, .int .u8 0, .int .u8 0, .int .u8 0, .int .u8 0, .int .u8 0, .int .u8 0, .int .u8 0, .int .u8 0, .int .u8 0, .int .u8 0, .int .u8 0, .int .u8 0, .int .u8 0, .int .u8 0, .int .u8 0, .int .u8 0, .int .u8 0, .int .u8 0, .int .u8 0, .int .u8 0, .int .u8 0, .string { data := #[] }, .slice .none 0 0, .slice .none 0 0, .slice .none 0 0, .slice .none 0 0] 28)).setRow w2.heap.size (lkC k.l k.nm (.slice ta k.ts.length tc) (.slice pa k.ps.length pc) (.slice oa k.rs.length oc) (.slice ma k.dn mc))) H k.l k.nm tr pe on mo ∧ LB ((w2.alloc (Obj.cells #[.int .u8 0, .int .u8 0, .int .u8 0, .int .u8 0, .int .u8 0, .int .u8 0, .int .u8 0, .int .u8 0, .int .u8 0, .int .u8 0, .int .u8 0, .int .u8 0, .int .u8 0, .int .u8 0, .int .u8 0, .int .u8 0, .int .u8 0, .int .u8 0, .int .u8 0, .int .u8 0, .int .u8 0, .int .u8 0, .int .u8 0, .int .u8 0, .int .u8 0, .int .u8 0, .int .u8 0, .int .u8 0, .int .u8 0, .int .u8 0, .int .u8 0, .int .u8 0, .string { data := #[] }, .slice .none 0 0, .slice .none 0 0, .slice .none 0 0, .slice .none 0 0] 28)).setRow w2.heap.size (lkC k.l k.nm (.slice ta k.ts.length tc) (.slice pa k.ps.length pc) (.slice oa k.rs.length oc) (.slice ma k.dn mc))) w2.heap.size k.l k.nm (.slice ta k.ts.length tc) (.slice pa k.ps.length pc) (.slice oa k.rs.length oc) (.slice ma k.dn mc) ∧ RL4 (fun _ => True) ((w2.alloc (Obj.cells #[.int .u8 0, .int .u8 0, .int .u8 0, .int .u8 0, .int .u8 0, .int .u8 0, .int .u8 0, .int .u8 0, .int .u8 0, .int .u8 0, .int .u8 0, .int .u8 0, .int .u8 0, .int .u8 0, .int .u8 0, .int .u8 0, .int .u8 0, .int .u8 0, .int .u8 0, .int .u8 0, .int .u8 0, .int .u8 0, .int .u8 0, .int .u8 0, .int .u8 0, .int .u8 0, .int .u8 0, .int .u8 0, .int .u8 0, .int .u8 0, .int .u8 0, .int .u8 0, .string { data := #[] }, .slice .none 0 0, .slice .none 0 0, .slice .none 0 0, .slice .none 0 0] 28)).setRow w2.heap.size (lkC k.l k.nm (.slice ta k.ts.length tc) (.slice pa k.ps.length pc) (.slice oa k.rs.length oc) (.slice ma k.dn mc))) k (.slice ta k.ts.length tc) (.slice pa k.ps.length pc) (.slice oa k.rs.length oc) (.slice ma k.dn mc)) := by
      have s2 := b2.size
      have l1 := L1.out.lt
      have BB : Below w2.heap.size w2 ((w2.alloc (Obj.cells #[.int .u8 0, .int .u8 0, .int .u8 0, .int .u8 0, .int .u8 0, .int .u8 0, .int .u8 0, .int .u8 0, .int .u8 0, .int .u8 0, .int .u8 0, .int .u8 0, .int .u8 0, .int .u8 0, .int .u8 0, .int .u8 0, .int .u8 0, .int .u8 0, .int .u8 0, .int .u8 0, .int .u8 0, .int .u8 0, .int .u8 0, .int .u8 0, .int .u8 0, .int .u8 0, .int .u8 0, .int .u8 0, .int .u8 0, .int .u8 0, .int .u8 0, .int .u8 0, .string { data := #[] }, .slice .none 0 0, .slice .none 0 0, .slice .none 0 0, .slice .none 0 0] 28)).setRow w2.heap.size (lkC k.l k.nm (.slice ta k.ts.length tc) (.slice pa k.ps.length pc) (.slice oa k.rs.length oc) (.slice ma k.dn mc))) := below_setRow ((Below.refl _ _).alloc (Nat.le_refl _) _) (Nat.le_refl _) _
      refine ⟨(B1.out.trans (b2.mono (by omega))).trans (BB.mono (by omega)), ?_, setRow_heap _ _ _ _ _ _ hZ, ?_⟩
      · exact (L1.out.keep (b2.block H l1)).keep (BB.block H (by omega))
      · exact r2.move (fun _ _ _ => trivial) BB.size (fun b _ hl => BB.block b hl)
    clear r2 b2
    go_upto_region 4 with (first | (refine wpList_store_row rfl 28 _ _ rfl w2.heap.size (lkC k.l k.nm (.slice ta k.ts.length tc) (.slice pa k.ps.length pc) (.slice oa k.rs.length oc) (.slice ma k.dn mc)) rfl rfl 28 _ hZ (infoLk hl) (by rw [lkC_size hl, lkC_size (by simp)]) lkC_one ?_))
    clear hZ B1 L1
    generalize ((w2.alloc (Obj.cells #[.int .u8 0, .int .u8 0, .int .u8 0, .int .u8 0, .int .u8 0, .int .u8 0, .int .u8 0, .int .u8 0, .int .u8 0, .int .u8 0, .int .u8 0, .int .u8 0, .int .u8 0, .int .u8 0, .int .u8 0, .int .u8 0, .int .u8 0, .int .u8 0, .int .u8 0, .int .u8 0, .int .u8 0, .int .u8 0, .int .u8 0, .int .u8 0, .int .u8 0, .int .u8 0, .int .u8 0, .int .u8 0, .int .u8 0, .int .u8 0, .int .u8 0, .int .u8 0, .string { data := #[] }, .slice .none 0 0, .slice .none 0 0, .slice .none 0 0, .slice .none 0 0] 28)).setRow w2.heap.size (lkC k.l k.nm (.slice ta k.ts.length tc) (.slice pa k.ps.length pc) (.slice oa k.rs.length oc) (.slice ma k.dn mc))) = w3 at *
    generalize w2.heap.size = G at *
    generalize Value.slice ta k.ts.length tc = t2 at *
    generalize Value.slice pa k.ps.length pc = p2 at *
    generalize Value.slice oa k.rs.length oc = o2 at *
    generalize Value.slice ma k.dn mc = m2 at *
    go_wp2_with (first | (refine load_link_if rfl _ rfl H rfl HF.out.2.1 hl ?_))
    refine (wanted k tr pe on mo f w3 HA.out.1 HA.out.2.1 HA.out.2.2.1 (HA.out.2.2.2 w3 HF.out.1)).mono ?_
    rintro e w4 ⟨rfl, b4⟩
    have HF4 : Hid (Below H w w4 ∧ LB w4 H k.l k.nm tr pe on mo ∧ LB w4 G k.l k.nm t2 p2 o2 m2 ∧ RL4 (fun _ => True) w4 k t2 p2 o2 m2) := ⟨HF.out.1.trans (b4.mono (by have := HF.out.2.1.lt; omega)), HF.out.2.1.keep (b4.block _ HF.out.2.1.lt), HF.out.2.2.1.keep (b4.block _ HF.out.2.2.1.lt), HF.out.2.2.2.move (fun _ h _ => h) b4.size (fun b _ hl => b4.block b hl)⟩
    clear b4 HF
    go_wp2_with (first | (refine load_link_if rfl _ rfl G rfl HF4.out.2.2.1 hl ?_))
    refine (rWanted k t2 p2 o2 m2 f w4 HA.out.1 HA.out.2.1 HA.out.2.2.1 HF4.out.2.2.2).mono ?_
    rintro e w5 ⟨rfl, b5⟩
    have HF5 : Hid (Below H w w5 ∧ LB w5 H k.l k.nm tr pe on mo ∧ LB w5 G k.l k.nm t2 p2 o2 m2 ∧ RL4 (fun _ => True) w5 k t2 p2 o2 m2) := ⟨HF4.out.1.trans (b5.mono (by have := HF4.out.2.1.lt; omega)), HF4.out.2.1.keep (b5.block _ HF4.out.2.1.lt), HF4.out.2.2.1.keep (b5.block _ HF4.out.2.2.1.lt), HF4.out.2.2.2.move (fun _ h _ => h) b5.size (fun b _ hl => b5.block b hl)⟩
    clear b5 HF4
    generalize wantB k.rs f = r at *
    go_wp2_with (first | (refine load_link_if rfl _ rfl H rfl HF5.out.2.1 hl ?_) | (refine load_link_if rfl _ rfl G rfl HF5.out.2.2.1 hl ?_))
    refine (linkSame k tr pe on mo t2 p2 o2 m2 w5 HA.out.1 (HA.out.2.2.2 w5 HF5.out.1) HF5.out.2.2.2).mono ?_
    rintro e w6 ⟨rfl, b6⟩
    have HB6 : Hid (Below w.heap.size w w6) := by
      have h9 : Below H w w6 := HF5.out.1.trans (b6.mono (by have := HF5.out.2.1.lt; omega))
      rw [HS.out]; exact h9
    clear b6 HF5
    go_wp2
    go_ret
    exact ⟨rfl, HB6.out⟩
end Go.Proofs.Ytgijbjipidbnkaa
