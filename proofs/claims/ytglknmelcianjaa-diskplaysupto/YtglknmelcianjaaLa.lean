import Derived.Test.YtglknmelcianjaaLy
import Derived.Deep.RegionHeld3
namespace Go.Proofs.Ytglknmelcianjaa
open Go.RowKit
/-- a range over the map under way, a list laid bit by bit -/
structure LR (w : World) (g icap mb : Nat) (M : DataW Value) (ws : List Wt) (base : List UInt8) (left : Lit → Bool) (cnt : Nat) (wr : World) : Prop where
  rg : wr.ranges Try.prog 3 idR mb w.heap.size ws.length M left cnt
  ow : OW 0 wr (.slice (some ⟨g, 0, none⟩) base.length icap) (ly base ws fun s => left (ky s))
  fr : Fr (fun k => k ≠ g) w wr
theorem left_strike (left : Lit → Bool) (s : Nat) : (fun t => (fun z : Lit => left z && !z.sameKey (ky s)) (ky t)) s = false ∧ ∀ t, t ≠ s → (fun t => (fun z : Lit => left z && !z.sameKey (ky s)) (ky t)) t = left (ky t) := by
  constructor
  · simp [WideAt.sameKey_self (isKey s)]
  · intro t ht
    have : (ky t).sameKey (ky s) = false := Maps.sameKey_ne (fun e => ht (ky_inj e))
    simp [this]
theorem lay_step {w wr w2 w4 : World} {g icap mb : Nat} {M : DataW Value} {ws : List Wt} {base : List UInt8} {left : Lit → Bool} {cnt cnt2 s : Nat} {d : List UInt8} {b : Nat} {v : Value} (h : LR w g icap mb M ws base left cnt wr) (hn : nw s ws = some d) (hd : d.length = 64) (hs : 64 * s + 64 ≤ base.length)
    (hrg : w2.ranges Try.prog 3 idR mb w.heap.size ws.length M (fun z => left z && !z.sameKey (ky s)) cnt2) (hg2 : wr.grownBy w2 (some w.heap.size)) (hsz : w2.heap.size = wr.heap.size) (b4 : Below w2.heap.size w2 w4) (hbox : w4.heap[w2.heap.size]? = some (.cells (bc d ++ #[v]) 59 (0, 0))) (hb : b = w2.heap.size) (hgw : g < w.heap.size) :
    ∃ cs, (∀ ty, (Builtin.copy_ #[27, 27] ty #[.slice (some ⟨g, s * 64, none⟩) (base.length - s * 64) (icap - s * 64), .slice (some ⟨b, 0, none⟩) 64 64]).run Try.prog w4 = .ok (goInt 64) (w4.setRow g cs)) ∧ LR w g icap mb M ws base (fun z => left z && !z.sameKey (ky s)) cnt2 (w4.setRow g cs) := by
  subst hb
  have hlt := h.rg.lt
  have hgne : g ≠ w2.heap.size := by have := h.fr.size; omega
  have b2 : Fr (fun k => k ≠ w.heap.size) wr w2 := ⟨hg2.os, hg2.tape, hg2.output, hg2.size, fun k hk hne => hg2.block k hk (fun e => hne (Option.some.inj e))⟩
  have ow2 := ownsRow_fr h.ow b2 (fun k hk e => by simp [Value.ownBlock] at hk; omega)
  have ow4 := ownsRow_fr (S := fun _ => True) ow2 (Fr.of_below b4) (fun _ _ => trivial)
  have hll : (ly base ws fun s => left (ky s)).length = base.length := ly_len _ _ _
  have ow4' : OW 0 w4 (.slice (some ⟨g, 0, none⟩) (ly base ws fun s => left (ky s)).length icap) (ly base ws fun s => left (ky s)) := by rw [hll]; exact ow4
  obtain ⟨cs, h1, h2⟩ := OW_copy ow4' (s * 64) w2.heap.size 0 d (box_rb hd hbox).cells (by rw [hll, hd]; omega)
  rw [hll, Nat.mul_comm s 64] at h2
  obtain ⟨l1, l2⟩ := left_strike left s
  rw [ly_step base ws _ _ s d hn hd hs l1 l2] at h2
  refine ⟨cs, fun ty => ?_, ?_, h2, ?_⟩
  · rw [h1 ty _ _ _ _ (by rw [hd]; exact (Nat.min_eq_left (by omega)).symm), hd]
    rfl
  · have hr2 := hrg.kept (w' := w4) (row := none) ⟨b4.os, b4.tape, b4.output, b4.size, fun k hk _ => b4.block k hk⟩ (by simp) (by simp)
    have hgc : ∃ c f, w4.heap[g]? = some (.cells c 5 f) := by
      obtain ⟨_, c, hc⟩ := ownsRow_lt ow4 g rfl
      exact ⟨c, _, hc⟩
    refine hr2.kept (row := some g) ⟨rfl, rfl, rfl, by simp, fun k hk hne => setRow_other _ _ _ _ (fun e => hne (by rw [e]))⟩ (fun e => ?_) (fun e => ?_)
    · injection e with e
      obtain ⟨es, c, hm, _⟩ := hr2.owns
      obtain ⟨c', f, hc⟩ := hgc
      rw [← e, hm] at hc
      cases hc
    · injection e with e
      omega
  · exact ((h.fr.trans (T := fun k => k ≠ w.heap.size) b2 (fun k hk _ => by show k ≠ w.heap.size; omega)).trans (T := fun _ => True) (Fr.of_below (b4)) (fun _ _ _ => trivial)).setRow g cs (fun _ h => h rfl)
section
variable {S : Nat → Prop} {w : World} {p lb cap mb : Nat} {ov : Value} {M : DataW Value} {L : Nat → Value} {D : Dk}
set_option maxHeartbeats 4000000 in
set_option maxRecDepth 100000 in
theorem lay (h : DI S w p lb cap mb ov M L D) (g icap : Nat) (base : List UInt8) (hi : OW 0 w (.slice (some ⟨g, 0, none⟩) base.length icap) base) (hl : base.length = D.last.length) :
    Calls Try.prog 41 #[.pointer (some ⟨p, 0, none⟩), .slice (some ⟨g, 0, none⟩) base.length icap] w fun e w' => e = .returned (.tuple #[]) ∧ OW 0 w' (.slice (some ⟨g, 0, none⟩) base.length icap) (img base D.ws) ∧ Fr (fun k => k ≠ g) w w' := by
  have hx := h.gd.max
  have c1 := h.c1
  have HM : Hid (MK M L D.ws) := h.mks
  have HG : Hid (∀ s d, nw s D.ws = some d → 64 * s + 64 ≤ base.length ∧ d.length = 64 ∧ (L s).oneCell' = true) := fun s d hn => by
    have := h.gd.nw hn
    exact ⟨by omega, this.2, h.one s⟩
  have HO : Hid (w.ownsMap Try.prog 3 idR mb D.ws.length M) := h.map
  have hgw : g < w.heap.size := (ownsRow_lt hi g rfl).1
  have hic : base.length ≤ icap := by
    rcases hi.2 with ⟨e, _⟩ | ⟨g', c, cur, e, _, _, h1, h2, _⟩
    · cases e
    · simp only [Value.slice.injEq] at e
      rw [e.2.2]; exact h1
  have hic2 : icap ≤ 9223372036854775807 := by
    rcases hi.2 with ⟨e, _⟩ | ⟨g', c, cur, e, _, _, h1, h2, _⟩
    · cases e
    · simp only [Value.slice.injEq] at e
      unfold maxLen at h2
      omega
  have HS : Hid (∀ w0 : World, w0.ranges Try.prog 3 idR mb w.heap.size D.ws.length M (Maps.has M) (Maps.size M) → w.grownBy w0 none → LR w g icap mb M D.ws base (Maps.has M) (Maps.size M) w0) := fun w0 h1 h2 =>
    ⟨h1, by
      rw [ly_start base D.ws _ (fun s hs => by
        obtain ⟨d, hd⟩ := Option.isSome_iff_exists.1 hs
        exact (h.got s d hd).1)]
      exact ownsRow_fr (S := fun _ => True) hi ⟨h2.os, h2.tape, h2.output, h2.size, fun k hk _ => h2.block k hk (by simp)⟩ (fun _ _ => trivial), ⟨h2.os, h2.tape, h2.output, h2.size, fun k hk _ => h2.block k hk (by simp)⟩⟩
  have hzS := zeroS
  have hz65 : zs.size = 65 := rfl
  rw [← hl] at hx
  clear h hi hl
  generalize zs = z at *
  generalize hln : base.length = ln at *
  have HLN : Hid (base.length = ln) := hln
  clear hln
  go_enter Try.func41, Try.ntmps41
  go_wp2_with (first | (at_range; refine wpList_range_own _ rfl _ 51 rfl 3 59 K3 underMap idR mb D.ws.length M rfl HO.out ?_; intro w0 hrg0 hg0 hs0))
  go_frame
  have H0 := Lib.hid (HS.out w0 hrg0 hg0)
  clear hrg0 hg0 hs0 HS HO c1
  go_loopw [11] (fun _ wr => ∃ left cnt, Hid (LR w g icap mb M D.ws base left cnt wr)) (fun _ wr => wr.rangeLeft mb w.heap.size)
  case atStart => exact ⟨_, _, H0⟩
  case round =>
    clear H0 w0
    obtain ⟨left, cnt, H⟩ := hrel
    go_wp2_with (first | (at_next; refine next_disk HM.out rfl _ rfl mb w.heap.size D.ws.length left cnt rfl H.out.rg ?_ ?_))
    · intro hl0
      have HE : Hid (OW 0 wr (.slice (some ⟨g, 0, none⟩) base.length icap) (img base D.ws) ∧ Fr (fun k => k ≠ g) w wr) := ⟨by have := H.out.ow; rwa [ly_end base D.ws _ (fun s => hl0 (ky s))] at this, H.out.fr⟩
      clear hl0 H
      go_wp2_with fail
      go_end0
      exact ⟨rfl, by rw [← HLN.out]; exact HE.out.1, HE.out.2⟩
    · intro s d cs0 w3 cnt2 hcs0 hn _ hrg hlt hg3 hsz3 hen
      obtain ⟨q1, q2, q3⟩ := HG.out s d hn
      have HT : Hid (∀ w4, w4 = (w3.alloc (.cells z 59)).setRow w3.heap.size (bc d ++ #[L s]) → ∃ cs, (∀ ty, (Builtin.copy_ #[27, 27] ty #[.slice (some ⟨g, s * 64, none⟩) (base.length - s * 64) (icap - s * 64), .slice (some ⟨w3.heap.size, 0, none⟩) 64 64]).run Try.prog w4.drew = .ok (goInt 64) (w4.drew.setRow g cs)) ∧ LR w g icap mb M D.ws base (fun z => left z && !z.sameKey (ky s)) cnt2 (w4.drew.setRow g cs)) := fun w4 h4 => by
        subst h4
        have b4 : Below w3.heap.size w3 ((w3.alloc (.cells z 59)).setRow w3.heap.size (bc d ++ #[L s])) := belowSetRow ((Below.refl _ _).alloc (Nat.le_refl _) _) (Nat.le_refl _) _
        exact lay_step H.out hn q2 (by rw [HLN.out]; exact q1) hrg hg3 hsz3 (w4 := ((w3.alloc (.cells z 59)).setRow w3.heap.size (bc d ++ #[L s])).drew) ⟨b4.os, b4.tape, b4.output, b4.size, b4.block⟩ (heapSetRow _ _ _ _ _ (heapNew w3 _)) rfl hgw
      have HLT : Hid (cnt2 < cnt) := hlt
      have hone := sc_one d (L s) q3
      have hsz := sc_size d (L s) q2
      have hcs1 : bc d ++ #[L s] = cs0 := by rw [hcs0]; simp
      rw [hcs1] at HT hone hsz
      clear hn hrg hg3 hsz3 hlt hcs0 hcs1
      go_wp2_with (first | (refine wpList_store_row rfl 59 _ _ rfl w3.heap.size cs0 rfl rfl 59 z (heapNew w3 _) (by rw [hsz]; exact sizeS) (by rw [hz65, hsz]) hone ?_))
      generalize hw4 : World.setRow (World.alloc _ _) _ cs0 = w4
      obtain ⟨cs, hcp, hLR⟩ := HT.out w4 hw4.symm
      have HLR := Lib.hid hLR
      clear HT hLR
      rw [HLN.out] at hcp
      have hw64 : IntKind.i64.wrap ((s : Int) * 64) = (s : Int) * 64 := by simp [IntKind.wrap, IntKind.signed, IntKind.bits]; omega
      have hin : 0 ≤ (s : Int) * 64 ∧ (s : Int) * 64 ≤ (ln : Int) := by omega
      have htn : ((s : Int) * 64).toNat = s * 64 := by omega
      have hne : ¬ icap = s * 64 := by omega
      refine wp_region_held_drew (S := fun _ => True) (by kernel_rfl) (trivial) (fun hHeld => ?_)
      refine wpAnyH_take (i := 0) (v := .slice (some ⟨g, 0, none⟩) ln icap) rfl (by kernel_rfl) (by kernel_rfl) (by kernel_rfl) (fun _ _ _ h => h) (Or.inl ⟨by rfl, fun w hw => by go_simp⟩) hHeld ?_
      simp only [Act.put, List.getElem_toArray, List.getElem_cons_zero, List.setIfInBounds_toArray, List.set_cons_zero, List.set_cons_succ]
      refine wpAnyH_take (i := 1) (v := .int .i64 s) rfl (by kernel_rfl) (by kernel_rfl) (by kernel_rfl) (fun _ _ _ h => h) (Or.inl ⟨by rfl, fun w hw => by go_simp⟩) hHeld ?_
      simp only [Act.put, List.getElem_toArray, List.getElem_cons_zero, List.getElem_cons_succ, List.setIfInBounds_toArray, List.set_cons_zero, List.set_cons_succ]
      refine wpAnyH_take (i := 2) (v := .int .i64 ((s : Int) * 64)) rfl (by kernel_rfl) (by kernel_rfl) (by kernel_rfl) (fun _ _ _ h => h) (Or.inl ⟨by rfl, fun w hw => by go_simp⟩) hHeld ?_
      simp only [Act.put, List.getElem_toArray, List.getElem_cons_zero, List.getElem_cons_succ, List.setIfInBounds_toArray, List.set_cons_zero, List.set_cons_succ]
      refine wpAnyH_take (i := 3) (v := .slice (some ⟨g, s * 64, none⟩) (ln - s * 64) (icap - s * 64)) rfl (by kernel_rfl) (by kernel_rfl) (by kernel_rfl) (fun _ _ _ h => h) (Or.inl ⟨by rfl, fun w hw => by go_simp⟩) hHeld ?_
      simp only [Act.put, List.getElem_toArray, List.getElem_cons_zero, List.getElem_cons_succ, List.setIfInBounds_toArray, List.set_cons_zero, List.set_cons_succ]
      refine wpAnyH_take (i := 4) (v := .pointer (some ⟨w3.heap.size, 0, none⟩)) rfl (by kernel_rfl) (by kernel_rfl) (by kernel_rfl) (fun _ _ _ h => h) (Or.inl ⟨by rfl, fun w hw => by go_simp⟩) hHeld ?_
      simp only [Act.put, List.getElem_toArray, List.getElem_cons_zero, List.getElem_cons_succ, List.setIfInBounds_toArray, List.set_cons_zero, List.set_cons_succ]
      refine wpAnyH_take (i := 5) (v := .slice (some ⟨w3.heap.size, 0, none⟩) 64 64) rfl (by kernel_rfl) (by kernel_rfl) (by kernel_rfl) (fun _ _ _ h => h) (Or.inl ⟨by rfl, fun w hw => by go_simp⟩) hHeld ?_
      simp only [Act.put, List.getElem_toArray, List.getElem_cons_zero, List.getElem_cons_succ, List.setIfInBounds_toArray, List.set_cons_zero, List.set_cons_succ]
      refine wpAnyH_ready (rs := [6]) (by kernel_rfl) (by simp) ?_
      refine AllReadyH.cons (o := _) rfl (fun K hK => ?_) AllReadyH.nil
      go_simp
      refine hK.out _ _ trivial (fun hHeld => ?_)
      clear hK K
      refine wpAnyH_done (by kernel_rfl) ?_ _
      generalize World.setRow w4.drew g cs = w5 at *
      clear hcp
      go_wp2_with fail
      go_roundw
      case rel => exact ⟨_, _, HLR⟩
      case measure => (rw [HLR.out.rg.left_eq, H.out.rg.left_eq]; exact HLT.out)
end
end Go.Proofs.Ytglknmelcianjaa
