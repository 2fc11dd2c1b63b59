import Derived.Test.YtglknmelcianjaaLa
namespace Go.Proofs.Ytglknmelcianjaa
open Go.RowKit
open Go.ChangeMaps (setBlock heap_setBlock_same heap_setBlock_other)
theorem clear_map {w : World} {b n : Nat} {M : DataW Value} (h : w.ownsMap Try.prog 3 idR b n M) : ∃ w', (∀ ty, (Builtin.clear_ #[51] ty #[.map (some b)]).run Try.prog w = .ok (.tuple #[]) w') ∧ w'.ownsMap Try.prog 3 idR b 0 (.map []) ∧ w.grownBy w' (some b) := by
  obtain ⟨es, clock, hb, F, hs, _⟩ := h
  refine ⟨setBlock w b (.map #[] clock), fun ty => ?_, ⟨#[], clock, heap_setBlock_same hb _, ⟨by simp, MapKept.stamped_empty clock, by simp⟩, Nat.le_refl _, rfl⟩, ⟨rfl, rfl, rfl, by simp [setBlock], fun i _ hi => heap_setBlock_other hb _ (fun e => hi (by rw [e]))⟩⟩
  simp [Builtin.clear_, run_underlying underMap, MapKept.run_getObj_map hb, MapKept.run_setObj_map _ hb, setBlock]
section
variable {S : Nat → Prop} {w : World} {p lb cap mb nm : Nat} {op ov : Value} {M : DataW Value} {L : Nat → Value} {F : Nat → List (Nat × List UInt8)} {last : List UInt8} {ats : List Nat} {fu : Option Nat} {D : Dk}
theorem dk_empty (h : DP S w p lb cap mb nm op ov M L F last ats fu) (hg : Gd ⟨last, [], fu⟩) {w' : World} (hm : w'.ownsMap Try.prog 3 idR mb 0 (.map [])) (hgr : w.grownBy w' (some mb)) : w'.cell? ⟨p, 2, none⟩ = some op ∧ w'.frozen? ⟨p, 2, none⟩ = false ∧ DK S (w'.setCell ⟨p, 2, none⟩ (.slice none 0 0)) p ⟨last, [], fu⟩ ∧ Fr (fun k => ¬ S k) w (w'.setCell ⟨p, 2, none⟩ (.slice none 0 0)) := by
  have hp := h.put hm hgr
  have hq : DP S (w'.setCell ⟨p, 2, none⟩ (.slice none 0 0)) p lb cap mb 0 (.slice none 0 0) ov (.map []) L F last ats fu := by
    refine hp.own rfl rfl ?_ (setCell_fr _ _ _ _)
    rw [setCell_eq_setRow w' p _ _ _ _ _ hp.blk]
    exact heapSetRow _ _ _ _ _ hp.blk
  refine ⟨hp.c2, hp.frz 2, ⟨lb, cap, mb, .slice none 0 0, .map [], fun _ => .slice none 0 0, hq.blk, hq.las, hq.map, World.ownsRow_nil _ _ _ _, fun kl hk => by simp [Maps.has] at hk, fun s d hn => by simp [nw] at hn, fun s => World.ownsRow_nil _ _ _ _, fun _ _ => rfl, fun s t g _ hh => by simp [Value.ownBlock] at hh, hq.sp, hq.sl, hq.sm, fun g hh => by simp [Value.ownBlock] at hh, fun s g hh => by simp [Value.ownBlock] at hh, hg⟩, ?_⟩
  exact ((Fr.refl _ w).grown hgr (fun k hk _ hn => by injection hk with hk; subst hk; exact hn h.sm)).setCell _ _ _ (fun _ hn => hn h.sp)
set_option maxHeartbeats 1000000 in
theorem settle (h : DP S w p lb cap mb nm op ov M L F last ats fu) (hg : Gd ⟨last, [], fu⟩) : Calls Try.prog 45 #[.pointer (some ⟨p, 0, none⟩)] w fun e w' => e = .returned (.tuple #[]) ∧ DK S w' p ⟨last, [], fu⟩ ∧ Fr (fun k => ¬ S k) w w' := by
  obtain ⟨w1, hcl, hm, hgr⟩ := clear_map h.map
  obtain ⟨e2, e2f, hd, hf⟩ := dk_empty h hg hm hgr
  have HE : Hid (DK S (w1.setCell ⟨p, 2, none⟩ (.slice none 0 0)) p ⟨last, [], fu⟩ ∧ Fr (fun k => ¬ S k) w (w1.setCell ⟨p, 2, none⟩ (.slice none 0 0))) := ⟨hd, hf⟩
  have c1 := h.c1
  clear h hg hm hgr hd hf
  go_enter Try.func45, Try.ntmps45
  go_wp2
  go_end0
  exact ⟨rfl, HE.out.1, HE.out.2⟩
/-- a list of bytes was answered -/
def LisE (w : World) (l : List UInt8) (e : Ending) (w' : World) : Prop := ∃ v, e = .returned v ∧ OW w.heap.size w' v l ∧ Below w.heap.size w w'
set_option maxHeartbeats 1000000 in
theorem durable (h : DK S w p D) : Calls Try.prog 17 #[.pointer (some ⟨p, 0, none⟩)] w (LisE w D.last) := by
  obtain ⟨lb, cap, mb, ov, M, L, h⟩ := h
  have HC := Lib.hid (clone _ _ w h.rb (by have := h.gd.max; omega))
  have c0 := h.c0
  clear h
  go_enter Try.func17, Try.ntmps17
  go_wp2_with fail
  refine HC.out.mono ?_
  rintro e w1 ⟨v, rfl, ho, hb⟩
  have HF : Hid (LisE w D.last (.returned v) w1) := ⟨v, rfl, ho, hb⟩
  obtain ⟨a', c', rfl⟩ := ho.form
  clear ho hb HC
  go_wp2
  go_ret
  exact HF.out
set_option maxHeartbeats 1000000 in
theorem image (h : DK S w p D) : Calls Try.prog 26 #[.pointer (some ⟨p, 0, none⟩)] w (LisE w (img D.last D.ws)) := by
  have HC := Lib.hid (durable h)
  obtain ⟨lb, cap, mb, ov, M, L, h⟩ := h
  have HI := Lib.hid h
  have hx := h.gd.pos
  clear h
  go_enter Try.func26, Try.ntmps26
  go_wp2_with fail
  refine HC.out.mono ?_
  rintro e w1 ⟨v, rfl, ho, hb⟩
  obtain ⟨g, c, hv, hgs⟩ : ∃ g c, v = .slice (some ⟨g, 0, none⟩) D.last.length c ∧ w.heap.size ≤ g := by
    rcases ho.2 with ⟨_, h0⟩ | ⟨g, c, _, h1, h2, _⟩
    · omega
    · exact ⟨g, c, h1, h2⟩
  subst hv
  have HL := Lib.hid (lay (HI.out.fr (Fr.of_below hb)) g c D.last (ho.mono (Nat.zero_le _)) rfl)
  have HB : Hid (Below w.heap.size w w1 ∧ w.heap.size ≤ g) := ⟨hb, hgs⟩
  clear ho hb HC hgs
  go_wp2_with fail
  refine HL.out.mono ?_
  rintro e w2 ⟨rfl, ho2, hf⟩
  have HF : Hid (LisE w (img D.last D.ws) (.returned (.slice (some ⟨g, 0, none⟩) D.last.length c)) w2) := by
    refine ⟨_, rfl, ?_, ?_⟩
    · refine ⟨ho2.1, ?_⟩
      rcases ho2.2 with ⟨e, _⟩ | ⟨g', c', cur, e, _, h3⟩
      · cases e
      · refine .inr ⟨g', c', cur, e, ?_, h3⟩
        simp only [Value.slice.injEq, Option.some.injEq, Addr.mk.injEq] at e
        rw [← e.1.1]; exact HB.out.2
    · have hs := HB.out.1.size
      exact ⟨hf.os.trans HB.out.1.os, hf.tape.trans HB.out.1.tape, hf.output.trans HB.out.1.output, Nat.le_trans hs hf.size, fun k hk => (hf.block k (by omega) (by have := HB.out.2; omega)).trans (HB.out.1.block k hk)⟩
  clear ho2 hf HL HB
  go_wp2_with fail
  go_ret
  exact HF.out
set_option maxHeartbeats 1000000 in
theorem sync_blown (h : DK S w p D) (hb : blownF D.fu = true) : Calls Try.prog 31 #[.pointer (some ⟨p, 0, none⟩)] w fun e w' => e = .returned (.int .i64 0) ∧ Below w.heap.size w w' := by
  have HB : Hid (blownF D.fu = true) := hb
  have HC := Lib.hid (blown D.fu w)
  obtain ⟨lb, cap, mb, ov, M, L, h⟩ := h
  have c3 := h.c3
  have c4 := h.c4
  clear h hb
  go_enter Try.func31, Try.ntmps31
  go_wp2_with fail
  refine HC.out.mono ?_
  rintro e w1 ⟨rfl, hb1⟩
  rw [HB.out]
  have HF : Hid (Below w.heap.size w w1) := hb1
  clear hb1 HC
  go_wp2_with fail
  go_ret
  exact ⟨rfl, HF.out⟩
theorem gd_img (h : Gd D) : Gd ⟨img D.last D.ws, [], D.fu⟩ := by
  have e := img_len D.last D.ws
  exact ⟨by show (img D.last D.ws).length % 64 = 0; rw [e]; exact h.mul, by show 64 ≤ (img D.last D.ws).length; rw [e]; exact h.pos, by show (img D.last D.ws).length ≤ 4194304; rw [e]; exact h.max, fun x hx => by simp at hx, h.fu⟩
theorem gd_burnt {l : List UInt8} {ws : List Wt} {f : Option Nat} (h : Gd ⟨l, ws, f⟩) : Gd ⟨l, ws, burnt f⟩ := ⟨h.mul, h.pos, h.max, h.ws, fun k hk => by
  have hk' : burnt f = some k := hk
  cases hf : f with
  | none => rw [hf] at hk'; cases hk'
  | some j =>
    have := h.fu j hf
    rw [hf] at hk'
    cases j with
    | zero => simp [burnt] at hk'; omega
    | succ j => simp [burnt] at hk'; omega⟩
/-- the fuse of a disk burns -/
theorem dk_burn {w' : World} (h : DK S w p D) (hw : w' = w ∧ burnt D.fu = D.fu ∨ w' = w.setCell ⟨p, 4, none⟩ (.int .i64 ((burnt D.fu).getD 0))) : DK S w' p ⟨D.last, D.ws, burnt D.fu⟩ ∧ Fr (fun k => ¬ S k) w w' := by
  obtain ⟨lb, cap, mb, ov, M, L, h⟩ := h
  rcases hw with ⟨rfl, e⟩ | rfl
  · rw [e]; exact ⟨⟨lb, cap, mb, ov, M, L, h⟩, Fr.refl _ _⟩
  · have hp := h.dp.set4 (fu' := burnt D.fu) (burnt_some _)
    refine ⟨⟨lb, cap, mb, ov, M, L, hp.blk, hp.las, hp.map, ?_, h.key, h.got, hp.liv, h.nol, hp.dis, hp.sp, hp.sl, hp.sm, hp.so, hp.sv, gd_burnt h.gd⟩, (Fr.refl _ w).setCell _ _ _ (fun _ hn => hn h.sp)⟩
    have := hp.ord
    rw [List.length_map, List.map_map] at this
    exact this
theorem DK.c4 (h : DK S w p D) : w.cell? ⟨p, 4, none⟩ = some (.int .i64 (D.fu.getD 0)) ∧ w.frozen? ⟨p, 4, none⟩ = false := by
  obtain ⟨lb, cap, mb, ov, M, L, h⟩ := h
  exact ⟨h.c4, h.frz 4⟩
set_option maxHeartbeats 1000000 in
theorem sync_live (h : DK S w p D) (hb : blownF D.fu = false) : Calls Try.prog 31 #[.pointer (some ⟨p, 0, none⟩)] w fun e w' => e = .returned (.int .i64 0) ∧ DK S w' p ⟨img D.last D.ws, [], burnt D.fu⟩ ∧ Fr (fun k => ¬ S k) w w' := by
  have HB : Hid (blownF D.fu = false) := hb
  have HC := Lib.hid (blown D.fu w)
  obtain ⟨lb, cap, mb, ov, M, L, h⟩ := h
  have HI := Lib.hid h
  have c3 := h.c3
  have c4 := h.c4
  clear h hb
  go_enter Try.func31, Try.ntmps31
  go_wp2_with fail
  refine HC.out.mono ?_
  rintro e w1 ⟨rfl, hb1⟩
  rw [HB.out]
  have HI1 := Lib.hid (HI.out.fr (Fr.of_below hb1))
  have c0 := HI1.out.c0
  have HB1 : Hid (Below w.heap.size w w1) := hb1
  have HL := Lib.hid (lay HI1.out lb cap D.last HI1.out.las rfl)
  clear hb1 HC c3 c4
  go_wp2_with fail
  refine HL.out.mono ?_
  rintro e w2 ⟨rfl, ho2, hf⟩
  have HP : Hid (DP S w2 p lb cap mb D.ws.length ov ov M L (fun s => lv s 0 D.ws) (img D.last D.ws) (D.ws.map (·.at_)) D.fu ∧ Fr (fun k => ¬ S k) w w2) := by
    have hh := HI1.out
    have hd := hh.dp
    have hl5 := ownsRow_lt hh.las lb rfl
    have hrow : ∀ {B e size n : Nat} {u : Value} {xs : List Value}, e ≠ 5 → w1.ownsRow B e size u n xs → w2.ownsRow B e size u n xs := fun {B e size n u xs} he hu =>
      ownsRow_fr hu hf (fun g hg e' => by
        subst e'
        obtain ⟨_, cs, hc⟩ := ownsRow_lt hu _ hg
        obtain ⟨_, cs', hc'⟩ := hl5
        rw [hc'] at hc
        simp at hc
        exact he hc.2.symm)
    refine ⟨{ hd with
      blk := by
        rw [img_len]
        refine (hf.block p (Array.getElem?_eq_some_iff.1 hh.blk).1 (fun e => ?_)).trans hh.blk
        obtain ⟨_, cs', hc'⟩ := hl5
        rw [← e, hh.blk] at hc'
        simp at hc'
      las := by rw [img_len]; exact ho2
      map := ownsMap_fr hh.map hf (fun e => by
        obtain ⟨es, c, hc⟩ := hd.mapB
        obtain ⟨_, cs', hc'⟩ := hl5
        rw [e, hc'] at hc
        simp at hc)
      ord := hrow (by decide) hd.ord
      liv := fun s => hrow (by decide) (hh.liv s) }, ?_⟩
    exact (Fr.of_below HB1.out).trans hf (fun k hk hn e => hn (by rw [e]; exact hh.sl))
  clear ho2 hf HL c0
  go_wp2_with fail
  refine (settle HP.out.1 (gd_img HI.out.gd)).mono ?_
  rintro e w3 ⟨rfl, hd3, hf3⟩
  have H3 : Hid (DK S w3 p ⟨img D.last D.ws, [], D.fu⟩ ∧ Fr (fun k => ¬ S k) w w3) := ⟨hd3, HP.out.2.trans hf3 (fun k _ h => h)⟩
  clear hd3 hf3 HP
  go_wp2_with fail
  refine (burn D.fu p w3 H3.out.1.c4.1 H3.out.1.c4.2 HI.out.gd.fu).mono ?_
  rintro e w4 ⟨rfl, hw⟩
  have H4 := Lib.hid (dk_burn H3.out.1 hw)
  have HF : Hid (DK S w4 p ⟨img D.last D.ws, [], burnt D.fu⟩ ∧ Fr (fun k => ¬ S k) w w4) := ⟨H4.out.1, H3.out.2.trans H4.out.2 (fun k _ h => h)⟩
  clear hw H4
  go_wp2_with fail
  go_ret
  exact ⟨rfl, HF.out.1, HF.out.2⟩
end
end Go.Proofs.Ytglknmelcianjaa
