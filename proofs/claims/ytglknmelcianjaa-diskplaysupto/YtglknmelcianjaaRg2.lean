import Derived.Test.YtglknmelcianjaaRf2
namespace Go.Proofs.Ytglknmelcianjaa
open Go.RowKit
section
variable {S : Nat → Prop} {w w' : World} {q lb cap : Nat} {wv : Value} {ps : List (Wt × Value)} {lf : Int} {D : Dk}
theorem RI.wl (h : RI S w q lb cap wv ps lf D) : wv.ownBlock ≠ some lb := fun e => by
  obtain ⟨_, cs, hc⟩ := ownsRow_lt h.row lb e
  obtain ⟨_, cs', hc'⟩ := ownsRow_lt h.las lb rfl
  rw [hc'] at hc
  simp at hc
/-- what lasts has changed, and nothing else -/
theorem RI.laid (h : RI S w q lb cap wv ps lf D) (hf : Fr (fun k => k ≠ lb) w w') {l' : List UInt8} (hl : l'.length = D.last.length) (ho : OW 0 w' (.slice (some ⟨lb, 0, none⟩) D.last.length cap) l') : RI S w' q lb cap wv ps lf ⟨l', D.ws, D.fu⟩ :=
  { blk := by
      show _ = some (Obj.cells #[.slice (some ⟨lb, 0, none⟩) l'.length cap, wv, .bool D.fu.isSome, .int .i64 lf] 47 (0, 0))
      rw [hl]
      exact (hf.block q h.lt (fun e => h.lbq e.symm)).trans h.blk
    left := h.left
    las := by
      show OW 0 w' (.slice (some ⟨lb, 0, none⟩) l'.length cap) l'
      rw [hl]
      exact ho
    ws := h.ws
    row := ownsRow_fr h.row hf (fun g hg e => h.wl (by rw [← e]; exact hg))
    dat := fun p hp => ⟨ownsRow_fr (h.dat p hp).1 hf (fun g hg => ((h.dat p hp).2 g hg).1), (h.dat p hp).2⟩
    sq := h.sq
    sl := h.sl
    sw := h.sw
    gd := ⟨by show l'.length % 64 = 0; rw [hl]; exact h.gd.mul, by show 64 ≤ l'.length; rw [hl]; exact h.gd.pos, by show l'.length ≤ _; rw [hl]; exact h.gd.max, fun x hx => by show 64 * x.at_ + 64 ≤ l'.length ∧ _; rw [hl]; exact h.gd.ws x hx, h.gd.fu⟩ }
/-- no writes are left -/
theorem RI.clear (h : RI S w q lb cap wv ps lf D) : RI S (w.setCell ⟨q, 1, none⟩ (.slice none 0 0)) q lb cap (.slice none 0 0) [] lf ⟨D.last, [], D.fu⟩ :=
  { blk := by
      rw [setCell_eq_setRow w q 1 _ _ _ _ h.blk, setRow_heap w q _ _ _ _ h.blk]
      rfl
    left := h.left
    las := ownsRow_fr (S := fun k => k ≠ q) h.las ((Fr.refl _ w).setCell q 1 _ (fun _ e => e rfl)) (fun g hg => by simp [Value.ownBlock] at hg; subst hg; exact h.lbq)
    ws := rfl
    row := World.ownsRow_nil _ _ _ _
    dat := fun p hp => by simp at hp
    sq := h.sq
    sl := h.sl
    sw := fun g hg => by simp [Value.ownBlock] at hg
    gd := ⟨h.gd.mul, h.gd.pos, h.gd.max, fun x hx => by simp at hx, h.gd.fu⟩ }
theorem RI.wat (h : RI S w q lb cap wv ps lf D) {i : Nat} {p : Wt × Value} (hp : ps[i]? = some p) : D.ws[i]? = some p.1 ∧ p ∈ ps ∧ 64 * p.1.at_ + 64 ≤ D.last.length ∧ p.1.data.length = 64 := by
  have hm := List.mem_of_getElem? hp
  have : p.1 ∈ D.ws := by rw [h.ws]; exact List.mem_map.2 ⟨p, hm, rfl⟩
  exact ⟨by rw [h.ws, List.getElem?_map, hp]; rfl, hm, (h.gd.ws _ this).1, (h.gd.ws _ this).2⟩
/-- the disk behind a Sync -/
def syD (D : Dk) : Dk := if blownF D.fu then D else ⟨img D.last D.ws, [], burnt D.fu⟩
theorem syD_t (h : blownF D.fu = true) : syD D = D := by unfold syD; rw [if_pos h]
theorem syD_f (h : blownF D.fu = false) : syD D = ⟨img D.last D.ws, [], burnt D.fu⟩ := by unfold syD; rw [if_neg (by rw [h]; decide)]
set_option maxHeartbeats 1000000 in
set_option maxRecDepth 100000 in
theorem rsyncT (h : RI S w q lb cap wv ps lf D) (hn : ps.length ≤ 1073741824) : Calls Try.prog 32 #[.pointer (some ⟨q, 0, none⟩)] w fun e w' => e = .returned (.int .i64 0) ∧ RK S w' q (syD D) ∧ Fr (fun k => ¬ S k) w w' := by
  have H : Hid (RI S w q lb cap wv ps lf D) := h
  have HP := Lib.hid (rpassT h)
  obtain ⟨wa, wc', hwv⟩ := h.wform
  have HWV := Lib.hid hwv
  generalize hpn : ps.length = n at *
  have HPN := Lib.hid hpn
  clear h hwv hpn
  go_enter Try.func32, Try.ntmps32
  go_wp2_with fail
  refine HP.out.mono ?_
  rintro e w1 ⟨rfl, lf1, h1, f1⟩
  rcases hb : blownF D.fu with _ | _
  rotate_left
  · have HB := Lib.hid hb
    have HE : Hid (RK S w1 q (syD D) ∧ Fr (fun k => ¬ S k) w w1) := by
      refine ⟨?_, (Fr.refl _ w).trans f1 (fun k _ hk e => hk (by rw [e]; exact H.out.sq))⟩
      have hbu : burnt D.fu = D.fu := by
        cases hf : D.fu with
        | none => rfl
        | some k => cases k with
          | zero => rfl
          | succ j => rw [hf] at hb; cases hb
      rw [hbu] at h1
      rw [syD_t hb]
      exact ⟨_, _, _, _, _, h1⟩
    clear h1 f1 hb
    go_wp2
    go_ret
    exact ⟨rfl, HE.out.1, HE.out.2⟩
  · have HB := Lib.hid hb
    have H1 : Hid (RI S w1 q lb cap wv ps lf1 ⟨D.last, D.ws, burnt D.fu⟩ ∧ Fr (fun k => ¬ S k) w w1) := ⟨h1, (Fr.refl _ w).trans f1 (fun k _ hk e => hk (by rw [e]; exact H.out.sq))⟩
    clear h1 f1 hb
    go_wp2_with fail
    go_loopw [4] (fun t wr => ∃ i : Nat, i ≤ n ∧ t = .int .i64 i ∧ Hid (RI S wr q lb cap wv ps lf1 ⟨img D.last (D.ws.take i), D.ws, burnt D.fu⟩ ∧ Fr (fun k => ¬ S k) w wr)) (fun t _ => n - (intOf t).toNat)
    case atStart => exact ⟨0, Nat.zero_le _, rfl, ⟨by rw [List.take_zero, img_nil]; exact H1.out.1, H1.out.2⟩⟩
    case round =>
      obtain ⟨i, hi, rfl, HI⟩ := hrel
      have c1 := HI.out.1.c1
      rw [HWV.out] at c1
      by_cases hlt : i < n
      · have hip : i < ps.length := by rw [HPN.out]; exact hlt
        obtain ⟨p, hp⟩ : ∃ p, ps[i]? = some p := ⟨_, List.getElem?_eq_getElem hip⟩
        obtain ⟨gw, c, hwv, hrg⟩ := HI.out.1.at hp
        have hwv2 := HWV.out
        rw [hwv] at hwv2
        simp only [Value.slice.injEq] at hwv2
        obtain ⟨rfl, -, rfl⟩ := hwv2
        obtain ⟨hwsi, hpm, hs, hd⟩ := HI.out.1.wat hp
        have hil := img_len D.last (D.ws.take i)
        have hcal := layT wr q lb cap p.1.at_ (img D.last (D.ws.take i)) p.1.data p.2 p.1.dead 64 HI.out.1.c0 (fun e => HI.out.1.lbq e.symm) HI.out.1.lt HI.out.1.las (HI.out.1.dat p hpm).1 hd (fun g hg => ((HI.out.1.dat p hpm).2 g hg).1) hs HI.out.1.gd.max (Nat.le_refl _)
        rw [List.take_of_length_le (Nat.le_of_eq hd), img_snoc D.last (D.ws.take i) p.1 (by rw [← hil]; exact hs) hd, hil] at hcal
        have htk : D.ws.take i ++ [p.1] = D.ws.take (i + 1) := by
          obtain ⟨e1, e2⟩ := List.getElem?_eq_some_iff.1 hwsi
          rw [List.take_succ_eq_append_getElem e1, e2]
        rw [htk] at hcal
        have HCal := Lib.hid hcal
        have HNx : Hid (∀ w2, OW 0 w2 (.slice (some ⟨lb, 0, none⟩) D.last.length cap) (img D.last (D.ws.take (i + 1))) → Fr (fun k => k ≠ lb) wr w2 → RI S w2 q lb cap wv ps lf1 ⟨img D.last (D.ws.take (i + 1)), D.ws, burnt D.fu⟩ ∧ Fr (fun k => ¬ S k) w w2) := fun w2 ho hf =>
          ⟨HI.out.1.laid hf (by show _ = (img D.last (D.ws.take i)).length; rw [img_len, img_len]) (by show OW 0 w2 (.slice (some ⟨lb, 0, none⟩) (img D.last (D.ws.take i)).length cap) _; rw [img_len]; exact ho), HI.out.2.trans hf (fun k _ hk e => hk (by rw [e]; exact HI.out.1.sl))⟩
        clear hcal htk hil hwsi hs hd hwv HI hpm
        obtain ⟨k0, k1, k2⟩ := rangeC hrg
        clear hrg
        generalize (p.1.at_ : Int) = pat at *
        generalize p.1.dead = pdead at *
        generalize p.2 = pv at *
        clear hp
        go_wp2_with fail
        refine HCal.out.mono ?_
        rintro e w2 ⟨rfl, ho2, hf2⟩
        have HN := Lib.hid (HNx.out w2 ho2 hf2)
        clear ho2 hf2 HNx HCal k0 k1 k2 c1
        go_wp2
        exact ⟨⟨i + 1, by omega, by go_num, HN⟩, by simp [intOf]; omega⟩
      · have hlen : D.ws.length = i := by
          have := H.out.ws
          rw [this, List.length_map, HPN.out]; omega
        have hin : n = i := by omega
        subst hin
        have HR : Hid (RI S (wr.setCell ⟨q, 1, none⟩ (.slice none 0 0)) q lb cap (.slice none 0 0) [] lf1 ⟨img D.last D.ws, [], burnt D.fu⟩ ∧ Fr (fun k => ¬ S k) w (wr.setCell ⟨q, 1, none⟩ (.slice none 0 0))) := by
          have h1 := HI.out
          rw [List.take_of_length_le (by omega)] at h1
          exact ⟨h1.1.clear, h1.2.setCell q 1 _ (fun _ hk => hk h1.1.sq)⟩
        have fz1 := HI.out.1.frz 1
        clear HI hlen
        go_wp2
        go_ret
        refine ⟨rfl, ?_, HR.out.2⟩
        rw [syD_f HB.out]
        exact ⟨_, _, _, _, _, HR.out.1⟩
end
end Go.Proofs.Ytglknmelcianjaa
