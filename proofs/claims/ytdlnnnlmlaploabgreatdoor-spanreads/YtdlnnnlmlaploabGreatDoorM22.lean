import Derived.Test.YtdlnnnlmlaploabGreatDoorM20
import Derived.Test.YtdlnnnlmlaploabGreatDoorM21
import Derived.Test.YtdlnnnlmlaploabGreatDoorM06
import Derived.Test.YtdlnnnlmlaploabGreatDoorM18
namespace Go.Proofs.YtdlnnnlmlaploabGreatDoor
open Go.RowKit Go.Deep
def SL (t : T) (er : Int) : List Vi := if er = 0 then (walkT t 0 (dueS [])).map Sp.v else []
theorem SKA.rsp {b : List UInt8} {B : Nat} {w : World} {v : Value} {k : Nat} {er : Int} (h : SKA b B w v k er) : ∃ t, DOUT b t k er ∧ RSp w v (SL t er) ∧ (SL t er).length ≤ 140737488351232 := by
  obtain ⟨t, hd, h⟩ := h
  refine ⟨t, hd, ?_⟩
  rcases h with ⟨he, rfl⟩ | ⟨rfl, h⟩
  · unfold SL
    rw [if_neg he]
    exact ⟨RSp.nil w, Nat.zero_le _⟩
  · have e : SL t 0 = (walkT t 0 (dueS [])).map Sp.v := if_pos rfl
    obtain ⟨h1, h2, h3⟩ := dout_txt hd
    have hw := walk_len t 0 (dueS []) (vt_of_wk t _ h2.1)
    rw [← h1] at hw
    rw [e]
    exact ⟨RSp.of_own (by rw [List.length_map]; rfl) rfl h, by rw [List.length_map]; omega⟩

end Go.Proofs.YtdlnnnlmlaploabGreatDoor
namespace Go.Proofs.YtdlnnnlmlaploabGreatDoor
open Go.RowKit Go.Deep
/-! ### The reference's seek, Find and Whole -/
theorem dout_mk {b : List UInt8} {t : T} {k : Nat} (h : DOUT b t k 0) : ∃ y, (SL t 0)[0]? = some y := by
  obtain ⟨h1, _, _⟩ := dout_txt h
  cases t with
  | no =>
    have hb : b = [] := h1
    subst hb
    rcases h with ⟨_, _, _, n, hr, _⟩ | ⟨_, ⟨e, _⟩ | ⟨hr, _⟩ | ⟨_, _, e⟩⟩
    · have hr2 : Run [] (.go [] 0) (.bad 0 21) := Run.one rfl
      have := hr.unique hr2 trivial trivial
      cases this
    · cases e
    · have := run_er hr; omega
    · cases e
  | mk k n s ln l dn ky dv => exact ⟨_, rfl⟩
def nestI (k : Int) : Prop := k = 3 ∨ k = 4
/-- the path leads no further than d steps, to r; that is told by er -/
def Stuck (p : List (Int × ByteArray)) (L : List Vi) (er : Int) : Prop :=
  ∃ d r y n k, Led p L d r ∧ p[d]? = some (n, k) ∧ L[r]? = some y ∧ ((er = 31 ∧ ¬ nestI y.kd) ∨ (er = 30 ∧ nestI y.kd ∧ ∀ (j : Nat) (x : Vi), r < j → L[j]? = some x → ¬ stM y.kd r n k x))
theorem SL_len {b : List UInt8} {t : T} {k : Nat} (hd : DOUT b t k 0) : (SL t 0).length ≤ 1048576 := by
  obtain ⟨h1, h2, h3⟩ := dout_txt hd
  have hw := walk_len t 0 (dueS []) (vt_of_wk t _ h2.1)
  rw [← h1] at hw
  have e : SL t 0 = (walkT t 0 (dueS [])).map Sp.v := if_pos rfl
  rw [e, List.length_map]
  omega
def SEEK (b : List UInt8) (p : List (Int × ByteArray)) (w : World) (lv : Value) (r : Nat) (er : Int) : Prop :=
  ∃ t k e0, DOUT b t k e0 ∧ ((e0 ≠ 0 ∧ lv = .slice none 0 0 ∧ r = 0 ∧ er = e0) ∨ (e0 = 0 ∧ ((er = 0 ∧ RSp w lv (SL t 0) ∧ Led p (SL t 0) p.length r ∧ r < (SL t 0).length) ∨ (er ≠ 0 ∧ lv = .slice none 0 0 ∧ r = 0 ∧ Stuck p (SL t 0) er))))
set_option maxRecDepth 10000 in
set_option maxHeartbeats 2000000 in
theorem seek33 (v pv : Value) (b : List UInt8) (p : List (Int × ByteArray)) (w : World) (hr : RB w v b) (hl0 : b.length ≤ 140737488351232) (hT : TB w.heap.size w) (hP : PSA w.heap.size w pv p) (hp : p.length ≤ 140737488351232) :
    Calls Tryz.prog 80 #[v, pv] w fun e w' => ∃ lv r er, e = .returned (.tuple #[lv, .int .i64 (r : Nat), .int .i64 er]) ∧ SEEK b p w' lv r er ∧ Below w.heap.size w w' := by
  have HR := Lib.hid (And.intro hr (And.intro hT hP))
  obtain ⟨a, c, rfl, _⟩ := hr
  obtain ⟨pa, pc, rfl, _⟩ := hP
  clear hT
  go_enter Tryz.func80, Tryz.ntmps80

  go_wp2_with fail
  refine (skim15 _ b _ HR.out.1 hl0 HR.out.2.1).mono ?_
  rintro e w2 ⟨sv, k, er, rfl, hsk, hb2⟩
  obtain ⟨t, hd, hrs, hlen⟩ := hsk.rsp
  have HD := Lib.hid (And.intro hd hb2)
  by_cases he : er = 0
  · subst he
    obtain ⟨y, hy⟩ := dout_mk hd
    have hlen2 := SL_len hd
    have hpos : 0 < (SL t 0).length := (List.getElem?_eq_some_iff.1 hy).1
    have HI : Hid (RSp w2 sv (SL t 0) ∧ PSA w2.heap.size w2 (.slice pa p.length pc) p ∧ Below w.heap.size w w2 ∧ DOUT b t k 0) := ⟨hrs, HR.out.2.2.on hb2, hb2, hd⟩
    obtain ⟨sa, sc, rfl, _⟩ := hrs
    have HL := Lib.hid hlen2
    have HLP : Hid ((SL t 0).length = (SL t 0).length) := rfl
    clear hsk hb2 HR hd hlen hy HD
    go_wp2
    go_loopw [10, 11] (fun hv iv wr => ∃ d r : Nat, d ≤ p.length ∧ r < (SL t 0).length ∧ hv = .int .i64 r ∧ iv = .int .i64 d ∧ Hid (Led p (SL t 0) d r ∧ Below w.heap.size w wr ∧ RSp wr (.slice sa (SL t 0).length sc) (SL t 0) ∧ PSA wr.heap.size wr (.slice pa p.length pc) p)) (fun _ iv _ => p.length - (intOf iv).toNat)
    case atStart => exact ⟨0, 0, Nat.zero_le _, hpos, rfl, rfl, Lib.hid ⟨.root, HI.out.2.2.1, HI.out.1, HI.out.2.1⟩⟩
    case round =>
      obtain ⟨d, r, hdp, hrl, rfl, rfl, HJ⟩ := hrel
      by_cases hlt : d < p.length
      · obtain ⟨_, _, h3, h4⟩ := HJ.out
        obtain ⟨pa', pc', e', h4⟩ := h4
        cases e'
        rcases h4 with h0 | ⟨g, o, rfl, hg, hc⟩
        · rw [h0] at hlt; simp at hlt
        obtain ⟨⟨nm, ky⟩, hx⟩ : ∃ x, p[d]? = some x := ⟨_, List.getElem?_eq_getElem hlt⟩
        obtain ⟨x1, x2⟩ := hc d nm ky hx
        have HX := Lib.hid hx
        have d0 : (0 : Int) ≤ (d : Int) := by omega
        have d1 : (d : Int) < (p.length : Int) := by omega
        have hlt' : (d : Int) < (p.length : Int) := by omega
        clear h3 hc hg hx hpos
        go_wp2_with fail
        refine (step31 _ (SL t 0) wr r nm ky (by have := HL.out; omega) hrl HJ.out.2.2.1).mono ?_
        rintro e w3 ⟨r', er, rfl, ⟨y', hy', hst⟩, hb3⟩
        have HJ3 : Hid (Below w.heap.size w w3 ∧ RSp w3 (.slice sa (SL t 0).length sc) (SL t 0) ∧ PSA w3.heap.size w3 (.slice (some ⟨g, o, none⟩) p.length pc) p) := by
          obtain ⟨q1, q2, q3, q4⟩ := HJ.out
          exact ⟨q2.trans (hb3.mono q2.size), q3.keep hb3, q4.on hb3⟩
        have HY := Lib.hid hy'
        have HLD := Lib.hid HJ.out.1
        clear hb3 x1 x2 hy' HJ
        by_cases hz : er = 0
        · subst hz
          rcases hst with ⟨_, _, h31⟩ | ⟨hn, ⟨_, hr1, ⟨x, hx, hm⟩, hf⟩ | ⟨_, h30, _⟩⟩
          · cases h31
          · have hrl' : r' < (SL t 0).length := (List.getElem?_eq_some_iff.1 hx).1
            have HLD2 : Hid (Led p (SL t 0) (d + 1) r') := .next HLD.out HX.out HY.out hn hr1 hx hm hf
            clear hx hm hf hn
            go_wp2
            exact ⟨⟨d + 1, r', by omega, hrl', rfl, by go_num, Lib.hid ⟨HLD2.out, HJ3.out.1, HJ3.out.2.1, HJ3.out.2.2⟩⟩, by simp [intOf]; omega⟩
          · cases h30
        · have hz' : (er != 0) = true := by simpa using hz
          have HST : Hid (Stuck p (SL t 0) er) := by
            rcases hst with ⟨hn, _, h31⟩ | ⟨hn, ⟨h0, _⟩ | ⟨_, h30, hno⟩⟩
            · exact ⟨d, r, y', nm, ky, HLD.out, HX.out, HY.out, .inl ⟨h31, hn⟩⟩
            · exact absurd h0 hz
            · exact ⟨d, r, y', nm, ky, HLD.out, HX.out, HY.out, .inr ⟨h30, hn, hno⟩⟩
          clear hst
          go_wp2
          go_ret3
          exact ⟨_, 0, er, rfl, ⟨t, k, 0, HI.out.2.2.2, .inr ⟨rfl, .inr ⟨hz, rfl, rfl, HST.out⟩⟩⟩, HJ3.out.1⟩
      · go_wp2
        go_ret3
        obtain rfl : d = p.length := by omega
        exact ⟨_, r, 0, rfl, ⟨t, k, 0, HI.out.2.2.2, .inr ⟨rfl, .inl ⟨rfl, HJ.out.2.2.1, HJ.out.1, hrl⟩⟩⟩, HJ.out.2.1⟩
  · have he' : (er != 0) = true := by simpa using he
    clear hd hrs hlen
    go_wp2
    go_ret3
    exact ⟨_, 0, er, rfl, ⟨t, k, er, HD.out.1, .inl ⟨he, rfl, rfl, rfl⟩⟩, HD.out.2⟩
end Go.Proofs.YtdlnnnlmlaploabGreatDoor
namespace Go.Proofs.YtdlnnnlmlaploabGreatDoor
open Go.RowKit Go.Deep
def vz : Vi := ⟨0, 0, 0, 0, 0, 0, ByteArray.empty, 0, 0⟩
/-- what Find answers -/
def FND (b : List UInt8) (p : List (Int × ByteArray)) (x : Vi) (er : Int) : Prop :=
  ∃ t k e0, DOUT b t k e0 ∧ ((e0 ≠ 0 ∧ x = vz ∧ er = e0) ∨ (e0 = 0 ∧ ((er = 0 ∧ ∃ r, Led p (SL t 0) p.length r ∧ (SL t 0)[r]? = some x) ∨ (er ≠ 0 ∧ x = vz ∧ Stuck p (SL t 0) er))))
abbrev zero7 : Obj := Obj.cells #[.int .i64 0, .int .i64 0, .int .i64 0, .int .i64 0, .int .i64 0, .int .i64 0, .string { data := #[] }] 43
theorem info37s : (Tryz.prog.info? 43).map (·.size) = some 7 := by kernel_rfl
theorem results_cell37t {fn : Func} {p u : Tmp} (h : fn.results = #[.cell p 43, .tmp u]) (tmps : Array Value) (w : World) (g : Nat) (cs : Array Value)
    (hp : tmps.getD p undef = .pointer (some ⟨g, 0, none⟩)) (hg : w.heap[g]? = some (.cells cs 43 (0, 0))) (hs : cs.size = 7) : (results fn tmps).run Tryz.prog w = .ok (.tuple #[.agg cs, tmps.getD u undef]) w := by
  have hp' : tmps[p]?.getD undef = .pointer (some ⟨g, 0, none⟩) := by simpa using hp
  have hi : (Tryz.prog.info? 43).map (·.size) = some cs.size := by rw [hs]; exact info37s
  simp [results, h, hp', asAddr, run_loadVar_row w g 43 43 cs (0, 0) _ hg Tryz.underlying43 rfl hi]
theorem sp_one (v : Vi) : (Vi.sp v).toArray.all (·.oneCell') = true := by kernel_rfl
theorem sp_info (v : Vi) : (Tryz.prog.info? 43).map (·.size) = some (Vi.sp v).toArray.size := info37s
/-- the box of the answer is written, and read when the call ends -/
theorem ret7 {w w1 : World} {Rb : Nat} {cs : Array Value} (hb : Below Rb w w1) (hk : blk w1 Rb 43 cs) (x : Vi) : blk (w1.setRow Rb (Vi.sp x).toArray) Rb 43 (Vi.sp x).toArray ∧ Below Rb w (w1.setRow Rb (Vi.sp x).toArray) := by
  have y1 := besides_row w1 Rb (Vi.sp x).toArray
  exact ⟨blk_row hk _, ⟨y1.os.trans hb.os, y1.tape.trans hb.tape, y1.output.trans hb.output, Nat.le_trans hb.size y1.size, fun k hk2 => (y1.block k (Nat.lt_trans hk2 hk.lt) (by omega)).trans (hb.block k hk2)⟩⟩
set_option maxRecDepth 10000 in
set_option maxHeartbeats 2000000 in
theorem find16 (v pv : Value) (b : List UInt8) (p : List (Int × ByteArray)) (w : World) (hr : RB w v b) (hl0 : b.length ≤ 140737488351232) (hT : TB w.heap.size w) (hP : PSA w.heap.size w pv p) (hp : p.length ≤ 140737488351232) :
    Calls Tryz.prog 62 #[v, pv] w fun e w' => ∃ x er, e = .returned (.tuple #[.agg (Vi.sp x).toArray, .int .i64 er]) ∧ FND b p x er ∧ Below w.heap.size w w' := by
  have b0 : Below w.heap.size w (w.alloc zero7) := (Below.refl _ _).alloc (Nat.le_refl _) _
  have o0 : blk (w.alloc zero7) w.heap.size 43 #[.int .i64 0, .int .i64 0, .int .i64 0, .int .i64 0, .int .i64 0, .int .i64 0, .string { data := #[] }] := heap_new _ _
  have HC := Lib.hid (seek33 v pv b p (w.alloc zero7) (hr.keep b0) hl0 (tb_up (hT.on b0) b0.size) (hP.on b0) hp)
  have H0 := Lib.hid (And.intro b0 o0)
  obtain ⟨a, c, rfl, _⟩ := hr
  obtain ⟨pa, pc, rfl, _⟩ := hP
  clear hT b0 o0
  go_enter Tryz.func62, Tryz.ntmps62
  go_wp2_with fail
  refine HC.out.mono ?_
  rintro e w1 ⟨lv, r, er, rfl, hsk, hb1⟩
  have H1 : Hid (Below w.heap.size w w1 ∧ blk w1 w.heap.size 43 #[.int .i64 0, .int .i64 0, .int .i64 0, .int .i64 0, .int .i64 0, .int .i64 0, .string { data := #[] }]) := by
    obtain ⟨q1, q2⟩ := H0.out
    exact ⟨q1.trans (hb1.mono q1.size), q2.keep (hb1.block _ q2.lt)⟩
  have HS := Lib.hid hsk
  clear hb1 H0 HC
  generalize hRb : w.heap.size = Rb at *
  have HZ : Hid (Rb = w.heap.size) := hRb.symm
  clear hRb
  by_cases he : er = 0
  · subst he
    obtain ⟨t, k, e0, hd, h⟩ := hsk
    rcases h with ⟨hne, _, _, h⟩ | ⟨rfl, ⟨_, hrs, hled, hrl⟩ | ⟨hne, _⟩⟩
    · exact absurd h.symm hne
    · obtain ⟨x, hx⟩ : ∃ x, (SL t 0)[r]? = some x := ⟨_, List.getElem?_eq_getElem hrl⟩
      obtain ⟨sa, sc, rfl, h⟩ := hrs
      rcases h with h0 | ⟨g, rfl, hg, hc⟩
      · rw [h0] at hrl; simp at hrl
      obtain ⟨c0, c1, c2, c3, c4, c5, c6⟩ := hc r x hx
      have r0 : (0 : Int) ≤ (r : Int) := by omega
      have r1 : (r : Int) < ((SL t 0).length : Int) := by omega
      have HX : Hid (FND b p x 0) := ⟨t, k, 0, hd, .inr ⟨rfl, .inl ⟨rfl, r, hled, hx⟩⟩⟩
      clear hd hled hc hx HS hrl hg
      go_wp2_with (first | (refine wpList_store_row rfl 43 _ _ rfl Rb (Vi.sp x).toArray rfl rfl 43 _ H1.out.2 (sp_info x) rfl (sp_one x) ?_))
      go_wp2
      obtain ⟨y1, y2⟩ := ret7 H1.out.1 H1.out.2 x
      refine bodyPost_ret (v := .tuple #[.agg (Vi.sp x).toArray, .int .i64 0]) (results_cell37t Tryz.results62 _ _ Rb _ rfl y1 rfl) rfl ?_
      exact ⟨x, 0, rfl, HX.out, HZ.out ▸ y2⟩
    · exact absurd rfl hne
  · have he' : (er != 0) = true := by simpa using he
    obtain ⟨t, k, e0, hd, h⟩ := hsk
    have HX : Hid (FND b p vz er) := by
      rcases h with ⟨hne, _, _, h⟩ | ⟨rfl, ⟨h, _⟩ | ⟨hne, _, _, h⟩⟩
      · exact ⟨t, k, e0, hd, .inl ⟨hne, rfl, h⟩⟩
      · exact absurd h he
      · exact ⟨t, k, 0, hd, .inr ⟨rfl, .inr ⟨hne, rfl, h⟩⟩⟩
    clear hd h HS
    go_wp2_with (first | (refine wpList_store_row rfl 43 _ _ rfl Rb (Vi.sp vz).toArray rfl rfl 43 _ H1.out.2 (sp_info vz) rfl (sp_one vz) ?_))
    go_wp2
    obtain ⟨y1, y2⟩ := ret7 H1.out.1 H1.out.2 vz
    refine bodyPost_ret (v := .tuple #[.agg (Vi.sp vz).toArray, .int .i64 er]) (results_cell37t Tryz.results62 _ _ Rb _ rfl y1 rfl) rfl ?_
    exact ⟨vz, er, rfl, HX.out, HZ.out ▸ y2⟩
end Go.Proofs.YtdlnnnlmlaploabGreatDoor
namespace Go.Proofs.YtdlnnnlmlaploabGreatDoor
open Go.RowKit Go.Deep
/-! ### Where spans lie; what Find answers is one thing: plain -/
theorem kids_in {g : Nat → Nat → List Sp} {Q : Sp → Prop} : ∀ {n : Nat}, (∀ i m, i < n → ∀ s ∈ g i m, Q s) → ∀ s ∈ kids g n, Q s
  | 0, _, s, h => by cases h
  | n + 1, hq, s, h => by
    have h' : s ∈ kids g n ++ g n (kids g n).length := h
    rcases List.mem_append.1 h' with h | h
    · exact kids_in (fun i m hi => hq i m (by omega)) s h
    · exact hq n _ (by omega) s h
theorem catN_lt {c : Nat → List UInt8} : ∀ {n i : Nat}, i < n → (catN c i).length + (c i).length ≤ (catN c n).length
  | 0, _, h => by omega
  | n + 1, i, h => by
    have e : (catN c (n + 1)).length = (catN c n).length + (c n).length := by show (catN c n ++ c n).length = _; rw [List.length_append]
    rw [e]
    by_cases hi : i = n
    · subst hi; exact Nat.le_refl _
    · have := catN_lt (c := c) (n := n) (i := i) (by omega)
      omega
theorem walk_in : ∀ (t : T) (here : Nat) (sp : Sp), VT t → ∀ s ∈ walkT t here sp, sp.fr ≤ s.fr ∧ s.fr < s.to ∧ s.to ≤ sp.fr + (txt t).length := by
  intro t
  induction t with
  | no => intro _ _ _ s h; cases h
  | mk k n s ln l dn ky dv il id =>
    intro here sp h x hx
    have hg := txt_ge h
    unfold walkT at hx
    rcases List.mem_cons.1 hx with rfl | hx
    · exact ⟨Nat.le_refl _, by show sp.fr < sp.fr + _; omega, Nat.le_refl _⟩
    · rcases List.mem_append.1 hx with hx | hx
      · refine kids_in (Q := fun x => sp.fr ≤ x.fr ∧ x.fr < x.to ∧ x.to ≤ sp.fr + (txt (.mk k n s ln l dn ky dv)).length) (fun i m hi y hy => ?_) x hx
        obtain ⟨h1, h2, h3⟩ := il i _ _ (h.2.1 i hi) y hy
        have h4 := catN_lt (c := fun i => txt (l i)) hi
        dsimp only at h1 h3 h4
        omega
      · refine kids_in (Q := fun x => sp.fr ≤ x.fr ∧ x.fr < x.to ∧ x.to ≤ sp.fr + (txt (.mk k n s ln l dn ky dv)).length) (fun i m hi y hy => ?_) x hx
        obtain ⟨h1, h2, h3⟩ := id i _ _ (h.2.2 i hi).2 y hy
        have h4 := catN_lt (c := fun i => wtx (ky i) ++ txt (dv i)) hi
        dsimp only at h1 h3 h4
        rw [List.length_append] at h4
        omega
/-- a span of the whole lies in the text -/
theorem SL_in {b : List UInt8} {t : T} {k : Nat} (hd : DOUT b t k 0) {r : Nat} {x : Vi} (hx : (SL t 0)[r]? = some x) : ∃ F U : Nat, x.fr = (F : Int) ∧ x.to = (U : Int) ∧ F < U ∧ U ≤ b.length := by
  obtain ⟨h1, h2, h3⟩ := dout_txt hd
  have e : SL t 0 = (walkT t 0 (dueS [])).map Sp.v := if_pos rfl
  rw [e, List.getElem?_map, Option.map_eq_some_iff] at hx
  obtain ⟨s, hs, rfl⟩ := hx
  obtain ⟨_, g2, g3⟩ := walk_in t 0 (dueS []) (vt_of_wk t _ h2.1) s (List.mem_of_getElem? hs)
  refine ⟨s.fr, s.to, rfl, rfl, g2, ?_⟩
  rw [← h1] at g3
  have : (dueS []).fr = 0 := rfl
  omega
theorem Led.unique {p : List (Int × ByteArray)} {L : List Vi} {d r : Nat} (h : Led p L d r) : ∀ {r' : Nat}, Led p L d r' → r = r' := by
  induction h with
  | root => intro r' h'; cases h'; rfl
  | @next d r r1 n k y x h0 h1 h2 h3 h4 h5 h6 h7 ih =>
    intro r' h'
    cases h' with
    | @next _ r2 _ n' k' y' x' g0 g1 g2 g3 g4 g5 g6 g7 =>
      obtain rfl := ih g0
      obtain ⟨rfl, rfl⟩ := Prod.mk.inj (Option.some.inj (h1.symm.trans g1))
      obtain rfl := Option.some.inj (h2.symm.trans g2)
      rcases Nat.lt_trichotomy r1 r' with g | g | g
      · exact absurd h6 (g7 r1 x h4 g h5)
      · exact g
      · exact absurd g6 (h7 r' x' g4 g g5)
theorem Led.down {p : List (Int × ByteArray)} {L : List Vi} {d r : Nat} (h : Led p L d r) : ∀ {d' : Nat}, d' ≤ d → ∃ r', Led p L d' r' := by
  induction h with
  | root => intro d' hd; obtain rfl : d' = 0 := by omega
            exact ⟨0, .root⟩
  | @next d r r1 n k y x h0 h1 h2 h3 h4 h5 h6 h7 ih =>
    intro d' hd
    by_cases e : d' = d + 1
    · subst e; exact ⟨r1, .next h0 h1 h2 h3 h4 h5 h6 h7⟩
    · exact ih (by omega)
/-- from where the path is stuck it leads nowhere -/
theorem stuck_no {p : List (Int × ByteArray)} {L : List Vi} {er : Int} {d r : Nat} {y : Vi} {n : Int} {k : ByteArray} (h0 : Led p L d r) (h1 : p[d]? = some (n, k)) (h2 : L[r]? = some y) (h : (er = 31 ∧ ¬ nestI y.kd) ∨ (er = 30 ∧ nestI y.kd ∧ ∀ (j : Nat) (x : Vi), r < j → L[j]? = some x → ¬ stM y.kd r n k x)) {d' r' : Nat} (hl : Led p L d' r') : d' ≤ d := by
  rcases Nat.lt_or_ge d d' with g | g
  · obtain ⟨r2, hl2⟩ := hl.down (d' := d + 1) g
    cases hl2 with
    | next g0 g1 g2 g3 g4 g5 g6 g7 =>
      obtain rfl := h0.unique g0
      obtain ⟨rfl, rfl⟩ := Prod.mk.inj (Option.some.inj (h1.symm.trans g1))
      obtain rfl := Option.some.inj (h2.symm.trans g2)
      rcases h with ⟨_, h⟩ | ⟨_, _, h⟩
      · exact absurd g3 h
      · exact absurd g6 (h _ _ g4 g5)
  · exact g
theorem Stuck.unique {p : List (Int × ByteArray)} {L : List Vi} {er er' : Int} (h : Stuck p L er) (h' : Stuck p L er') : er = er' := by
  obtain ⟨d, r, y, n, k, h0, h1, h2, h3⟩ := h
  obtain ⟨d', r', y', n', k', g0, g1, g2, g3⟩ := h'
  have e1 := stuck_no h0 h1 h2 h3 g0
  have e2 := stuck_no g0 g1 g2 g3 h0
  obtain rfl : d = d' := by omega
  obtain rfl := h0.unique g0
  obtain rfl := Option.some.inj (h2.symm.trans g2)
  rcases h3 with ⟨rfl, h3⟩ | ⟨rfl, h3, _⟩
  · rcases g3 with ⟨rfl, _⟩ | ⟨_, g3, _⟩
    · rfl
    · exact absurd g3 h3
  · rcases g3 with ⟨_, g3⟩ | ⟨rfl, _⟩
    · exact absurd h3 g3
    · rfl
theorem Stuck.led {p : List (Int × ByteArray)} {L : List Vi} {er : Int} (h : Stuck p L er) {r : Nat} (hl : Led p L p.length r) : False := by
  obtain ⟨d, r', y, n, k, h0, h1, h2, h3⟩ := h
  have e1 := stuck_no h0 h1 h2 h3 hl
  have e2 := (List.getElem?_eq_some_iff.1 h1).1
  omega
theorem FND.unique {b : List UInt8} {p : List (Int × ByteArray)} {x x' : Vi} {er er' : Int} (h : FND b p x er) (h' : FND b p x' er') : x = x' ∧ er = er' := by
  obtain ⟨t, k, e0, hd, h⟩ := h
  obtain ⟨t', k', e0', hd', h'⟩ := h'
  obtain ⟨rfl, rfl, rfl⟩ := DOUT.unique hd hd'
  rcases h with ⟨he, rfl, rfl⟩ | ⟨rfl, h⟩
  · rcases h' with ⟨_, rfl, rfl⟩ | ⟨e, _⟩
    · exact ⟨rfl, rfl⟩
    · exact absurd e he
  · rcases h' with ⟨e, _⟩ | ⟨_, h'⟩
    · exact absurd rfl e
    · rcases h with ⟨rfl, r, hl, hx⟩ | ⟨hne, rfl, hs⟩
      · rcases h' with ⟨rfl, r', hl', hx'⟩ | ⟨_, _, hs'⟩
        · obtain rfl := hl.unique hl'
          exact ⟨Option.some.inj (hx.symm.trans hx'), rfl⟩
        · exact (hs'.led hl).elim
      · rcases h' with ⟨_, r', hl', hx'⟩ | ⟨_, rfl, hs'⟩
        · exact (hs.led hl').elim
        · exact ⟨rfl, hs.unique hs'⟩
/-- where follow ends, in the reference's words -/
theorem follow_plain {b : List UInt8} {p : List (Int × ByteArray)} {h : List Vi} {pp e0 : Int} (H : Fin b (goF p) h pp e0) {t : T} {k : Nat} (hd : DOUT b t k 0) :
    ((fwF p h).1.dp = (p.length : Int) ∧ ∃ x, FND b p x 0 ∧ Eq6 (fwF p h).1 x ∧ x.to = (fwF p h).1.to) ∨ ((fwF p h).1.dp ≠ (p.length : Int) ∧ FND b p vz (if nestB (fwF p h).1 = true then 30 else 31)) := by
  have hlim : b.length ≤ 1048576 := (dout_txt hd).2.2
  have eSL : SL t 0 = (walkT t 0 (dueS [])).map Sp.v := if_pos rfl
  obtain ⟨d, r, x, g⟩ := H.led hlim hd
  rw [← eSL] at g
  have hle := g.led.le
  by_cases e : d = p.length
  · subst e
    exact .inl ⟨g.dp, x, ⟨t, k, 0, hd, .inr ⟨rfl, .inl ⟨rfl, r, g.led, g.at'⟩⟩⟩, g.eq, g.to⟩
  · obtain ⟨⟨n, ky⟩, hpd⟩ : ∃ z, p[d]? = some z := ⟨_, List.getElem?_eq_getElem (by omega)⟩
    have hne : (fwF p h).1.dp ≠ (p.length : Int) := by rw [g.dp]; omega
    refine .inr ⟨hne, t, k, 0, hd, .inr ⟨rfl, .inr ⟨by split <;> decide, rfl, d, r, x, n, ky, g.led, hpd, g.at', ?_⟩⟩⟩
    have hk : x.kd = (fwF p h).1.kd := g.eq.kd
    by_cases hn : (fwF p h).1.kd = 3 ∨ (fwF p h).1.kd = 4
    · have hb : nestB (fwF p h).1 = true := by unfold nestB; rcases hn with e | e <;> rw [e] <;> rfl
      rw [if_pos hb]
      refine .inr ⟨rfl, by rw [hk]; exact hn, fun j z hj hz => ?_⟩
      rw [hk]
      exact g.no hn n ky hpd j z hj hz
    · have hb : ¬ nestB (fwF p h).1 = true := by
        unfold nestB
        simpa using hn
      rw [if_neg hb]
      exact .inl ⟨rfl, by rw [hk]; exact hn⟩
end Go.Proofs.YtdlnnnlmlaploabGreatDoor
namespace Go.Proofs.YtdlnnnlmlaploabGreatDoor
open Go.RowKit Go.Deep
/-- the bytes of a span -/
def cutB (b : List UInt8) (x : Vi) : List UInt8 := (b.drop x.fr.toNat).take (x.to.toNat - x.fr.toNat)
/-- what Whole answers -/
def WHO (b : List UInt8) (p : List (Int × ByteArray)) (B : Nat) (w : World) (v : Value) (er : Int) : Prop :=
  ∃ x, FND b p x er ∧ ((er ≠ 0 ∧ v = .slice none 0 0) ∨ (er = 0 ∧ OW B w v (cutB b x)))
theorem ow_low {B' B : Nat} {w : World} {v : Value} {l : List UInt8} (hB : B' ≤ B) (h : OW B w v l) : OW B' w v l := by
  obtain ⟨h1, h⟩ := h
  refine ⟨h1, ?_⟩
  rcases h with h | ⟨g, cap, cur, e, h2, h3⟩
  · exact .inl h
  · exact .inr ⟨g, cap, cur, e, Nat.le_trans hB h2, h3⟩
theorem FND.inn {b : List UInt8} {p : List (Int × ByteArray)} {x : Vi} (h : FND b p x 0) : (∃ F U : Nat, x.fr = (F : Int) ∧ x.to = (U : Int) ∧ F < U ∧ U ≤ b.length) ∧ b.length ≤ 1048576 := by
  obtain ⟨t, k, e0, hd, h⟩ := h
  rcases h with ⟨he, _, e⟩ | ⟨rfl, ⟨_, r, _, hx⟩ | ⟨hne, _⟩⟩
  · exact absurd e.symm he
  · exact ⟨SL_in hd hx, (dout_txt hd).2.2⟩
  · exact absurd rfl hne
set_option maxRecDepth 10000 in
set_option maxHeartbeats 2000000 in
theorem whole18 (v pv : Value) (b : List UInt8) (p : List (Int × ByteArray)) (w : World) (hr : RB w v b) (hl0 : b.length ≤ 140737488351232) (hT : TB w.heap.size w) (hP : PSA w.heap.size w pv p) (hp : p.length ≤ 140737488351232) :
    Calls Tryz.prog 44 #[v, pv] w fun e w' => ∃ v er, e = .returned (.tuple #[v, .int .i64 er]) ∧ WHO b p w.heap.size w' v er ∧ Below w.heap.size w w' := by
  have HC := Lib.hid (find16 v pv b p w hr hl0 hT hP hp)
  have HR := Lib.hid hr
  obtain ⟨a, c, rfl, _⟩ := hr
  obtain ⟨pa, pc, rfl, _⟩ := hP
  clear hT
  go_enter Tryz.func44, Tryz.ntmps44
  go_wp2_with fail
  refine HC.out.mono ?_
  rintro e w1 ⟨x, er, rfl, hf, hb1⟩
  have HF := Lib.hid hf
  have HB := Lib.hid hb1
  by_cases he : er = 0
  · subst he
    obtain ⟨⟨F, U, hF, hU, hFU, hUb⟩, hlim⟩ := hf.inn
    obtain ⟨kd, fr, to, dp, up, nt, ky, pl, fi⟩ := x
    obtain rfl : fr = (F : Int) := hF
    obtain rfl : to = (U : Int) := hU
    have b1 : Below w.heap.size w (w1.alloc (Obj.cells #[.int .i64 kd, .int .i64 F, .int .i64 U, .int .i64 dp, .int .i64 up, .int .i64 nt, .string ky] 43)) := hb1.alloc hb1.size _
    have HP := Lib.hid (part34 (.slice a b.length c) b (w1.alloc (Obj.cells #[.int .i64 kd, .int .i64 F, .int .i64 U, .int .i64 dp, .int .i64 up, .int .i64 nt, .string ky] 43)) F U (HR.out.keep b1) (by omega) hUb hlim)
    have HB1 := Lib.hid b1
    clear hb1 hf b1 HC
    have eSP : (Vi.sp (⟨kd, F, U, dp, up, nt, ky, pl, fi⟩ : Vi)).toArray = #[.int .i64 kd, .int .i64 F, .int .i64 U, .int .i64 dp, .int .i64 up, .int .i64 nt, .string ky] := rfl
    rw [eSP]
    clear eSP
    go_wp2_with fail
    refine HP.out.mono ?_
    rintro e w2 ⟨v2, rfl, ho, hb2⟩
    have HB2 : Hid (Below w.heap.size w w2) := HB1.out.trans (hb2.mono HB1.out.size)
    have HO : Hid (OW w.heap.size w2 v2 ((b.drop F).take (U - F))) := ow_low HB1.out.size ho
    clear ho hb2 HP HB1
    go_wp2
    go_ret2
    exact ⟨v2, 0, rfl, ⟨_, HF.out, .inr ⟨rfl, HO.out⟩⟩, HB2.out⟩
  · have he' : (er != 0) = true := by simpa using he
    obtain ⟨kd, fr, to, dp, up, nt, ky, pl, fi⟩ := x
    have eSP : (Vi.sp (⟨kd, fr, to, dp, up, nt, ky, pl, fi⟩ : Vi)).toArray = #[.int .i64 kd, .int .i64 fr, .int .i64 to, .int .i64 dp, .int .i64 up, .int .i64 nt, .string ky] := rfl
    rw [eSP]
    clear hf HC eSP
    go_wp2
    go_ret2
    exact ⟨_, er, rfl, ⟨_, HF.out, .inl ⟨he, rfl⟩⟩, HB.out.alloc HB.out.size _⟩
theorem rb_cut {w : World} {b : List UInt8} {g o c F U : Nat} (hcc : b.length ≤ c) (h1 : F < U) (h2 : U ≤ b.length) (hg : g < w.heap.size) (hc : ∀ i, i < b.length → w.cell? ⟨g, o + i, none⟩ = some (.int .u8 ((byt b i).toNat : Int))) : RB w (.slice (some ⟨g, o + F, none⟩) (U - F) (c - F)) ((b.drop F).take (U - F)) := by
  have hl : ((b.drop F).take (U - F)).length = U - F := by rw [List.length_take, List.length_drop]; omega
  refine ⟨_, c - F, by rw [hl], by omega, .inr ⟨g, o + F, rfl, hg, fun i hi => ?_⟩⟩
  rw [hl] at hi
  rw [Nat.add_assoc, hc (F + i) (by omega)]
  have e : byt ((b.drop F).take (U - F)) i = byt b (F + i) := by
    unfold byt
    simp [List.getD, List.getElem?_drop, hi]
  rw [e]

end Go.Proofs.YtdlnnnlmlaploabGreatDoor
namespace Go.Proofs.YtdlnnnlmlaploabGreatDoor
open Go.RowKit Go.Deep
/-! ### A part of a text that is read is read by itself -/
theorem empty_of' {s : ByteArray} (h : s.toList = []) : ByteArray.empty = s := by
  apply ba_ext
  have e : s.data.toList = [] := by rw [← ByteArray.toList_eq]; exact h
  rw [e]
  rfl
theorem nrm_k {t : T} {ar : Int} (h : wk t ar = 0) : (nrm t).k = t.k ∧ (nrm t).n = t.n ∧ (nrm t).s = t.s := by
  cases t with
  | no => exact ⟨rfl, rfl, rfl⟩
  | mk k n s ln l dn ky dv =>
    obtain ⟨⟨k1, k4, q1, q2, q3, q4⟩, _⟩ := wk_mk h
    have hs : k ≠ 2 → ByteArray.empty = s := fun e => by
      rcases q2 with e2 | e2
      · exact absurd e2 e
      · exact empty_of' e2
    have hn : k ≠ 1 → 0 = n := fun e => by
      rcases q1 with e2 | e2
      · exact absurd e2 e
      · exact e2.symm
    have hk : k = 1 ∨ k = 2 ∨ k = 3 ∨ k = 4 := by omega
    rcases hk with rfl | rfl | rfl | rfl
    · exact ⟨rfl, rfl, hs (by decide)⟩
    · exact ⟨rfl, hn (by decide), rfl⟩
    · exact ⟨rfl, hn (by decide), hs (by decide)⟩
    · exact ⟨rfl, hn (by decide), hs (by decide)⟩
theorem run_written {t : T} (r : List UInt8) (hw : wk t 0 = 0) (hf : t.full) (hr : t.rng) (hok : t.ok) : Run (txt t ++ r) (.go [] 0) (.val (nrm t) (txt t).length) := by
  have := reads t (txt t ++ r) r [] 0 hw hf hr hok trivial rfl
  rw [Nat.zero_add] at this
  exact this
theorem dout_written {t : T} (hw : wk t 0 = 0) (hf : t.full) (hr : t.rng) (hok : t.ok) (hl : (txt t).length ≤ 1048576) : DOUT (txt t) (nrm t) 0 0 := by
  have := run_written [] hw hf hr hok
  rw [List.append_nil] at this
  exact .inl ⟨rfl, rfl, hl, _, this, Nat.le_refl _⟩
theorem wk_build {k n : Int} {s : ByteArray} {ln : Nat} {l : Nat → T} {dn : Nat} {ky : Nat → ByteArray} {dv : Nat → T} {ar : Int} (hO : ownB k n s ln dn = true) (h : 3 ≤ k → ar < 32 ∧ (∀ i, i < ln → wk (l i) (ar + 1) = 0) ∧ ∀ i, i < dn → keyBad ky i = false ∧ wk (dv i) (ar + 1) = 0) : wk (.mk k n s ln l dn ky dv) ar = 0 := by
  unfold wk
  rw [if_neg (by rw [hO]; decide)]
  by_cases hk : k < 3
  · rw [if_pos hk]
  · obtain ⟨h1, h2, h3⟩ := h (by omega)
    rw [if_neg hk, if_neg (by omega), if_neg (by rw [fstE_nil h2]; decide)]
    exact fstE_nil (fun i hi => by rw [if_neg (by rw [(h3 i hi).1]; decide)]; exact (h3 i hi).2)
theorem wk_down : ∀ (t : T) (ar : Int), wk t (ar + 1) = 0 → wk t ar = 0 := by
  intro t
  induction t with
  | no => intro ar h; exact h
  | mk k n s ln l dn ky dv il id =>
    intro ar h
    obtain ⟨hO, hk⟩ := wk_mk h
    refine wk_build ((ownB_iff k n s ln dn).2 hO) fun h3 => ?_
    obtain ⟨h1, h2, h4⟩ := hk h3
    exact ⟨by omega, fun i hi => il i _ (h2 i hi), fun i hi => ⟨(h4 i hi).1, id i _ (h4 i hi).2⟩⟩
theorem wk_zero (t : T) : ∀ (n : Nat), wk t (n : Int) = 0 → wk t 0 = 0
  | 0, h => h
  | n + 1, h => wk_zero t n (wk_down t n (by rw [show ((n : Nat) : Int) + 1 = ((n + 1 : Nat) : Int) by omega]; exact h))
/-- what is read has no empty place -/
def FrF (f : Fr) : Prop := (∀ t ∈ f.ls, t.full) ∧ ∀ p ∈ f.ps, p.2.full
def FUL : Out → Prop
  | .go st _ => ∀ f ∈ st, FrF f
  | .val t _ => t.full
  | .bad _ _ => True
theorem full_num (n : Int) : (tNum n).full := ⟨fun _ hi => absurd hi (Nat.not_lt_zero _), fun _ hi => absurd hi (Nat.not_lt_zero _)⟩
theorem full_str (s : ByteArray) : (tStr s).full := ⟨fun _ hi => absurd hi (Nat.not_lt_zero _), fun _ hi => absurd hi (Nat.not_lt_zero _)⟩
theorem getD_mem {α : Type} {l : List α} {a : α} {i : Nat} (h : i < l.length) : l.getD i a ∈ l := by
  rw [List.getD, List.getElem?_eq_getElem h]; exact List.getElem_mem h
theorem full_close {f : Fr} (h : FrF f) : f.close.full := by
  unfold Fr.close
  split
  · exact ⟨fun i hi => absurd hi (Nat.not_lt_zero _), fun i hi => h.2 _ (getD_mem hi)⟩
  · exact ⟨fun i hi => h.1 _ (getD_mem hi), fun i hi => absurd hi (Nat.not_lt_zero _)⟩
theorem ful_deliver {st : List Fr} {t : T} {j : Nat} (h : ∀ f ∈ st, FrF f) (ht : t.full) : FUL (deliver st t j) := by
  match st, h with
  | [], _ => exact ht
  | f :: r, h =>
    intro g hg
    rcases List.mem_cons.1 hg with rfl | hg
    · have hf := h f (by simp)
      unfold Fr.join
      split
      · refine ⟨fun x hx => (by cases hx), fun p hp => ?_⟩
        rcases List.mem_append.1 hp with hp | hp
        · exact hf.2 p hp
        · rw [List.mem_singleton.1 hp]; exact ht
      · refine ⟨fun x hx => ?_, fun p hp => (by cases hp)⟩
        rcases List.mem_append.1 hx with hx | hx
        · exact hf.1 x hx
        · rw [List.mem_singleton.1 hx]; exact ht
    · exact h g (by simp [hg])
theorem ful_opn {b : List UInt8} {st : List Fr} {i : Nat} (h : ∀ f ∈ st, FrF f) : FUL (opn b st i) := by
  have op : ∀ d, FUL (.go ({ d := d } :: st) (i + 1)) := fun d g hg => by
    rcases List.mem_cons.1 hg with rfl | hg
    · exact ⟨fun x hx => (by cases hx), fun x hx => (by cases hx)⟩
    · exact h g hg
  unfold opn
  split
  · split
    · trivial
    · exact op false
  · split
    · split
      · trivial
      · exact op true
    · unfold scal
      split
      · cases numb b i with
        | bad p e => trivial
        | ok n j => exact ful_deliver h (full_num n)
      · split
        · cases strg b i with
          | bad p e => trivial
          | ok n j => exact ful_deliver h (full_str n)
        · trivial
theorem ful_step {b : List UInt8} {st : List Fr} {i : Nat} (h : ∀ f ∈ st, FrF f) : FUL (step b st i) := by
  unfold step
  split
  · trivial
  · match st, h with
    | [], h => exact ful_opn h
    | f :: r, h =>
      dsimp only
      have hc : FUL (deliver r f.close (i + 1)) := ful_deliver (fun g hg => h g (by simp [hg])) (full_close (h f (by simp)))
      split
      · split
        · exact hc
        · unfold keyy
          split
          · trivial
          · cases strg b i with
            | bad p e => trivial
            | ok s j =>
              dsimp only
              split
              · trivial
              · intro g hg
                rcases List.mem_cons.1 hg with rfl | hg
                · exact h f (by simp)
                · exact h g (by simp [hg])
      · split
        · exact hc
        · exact ful_opn h
theorem run_full {b : List UInt8} {o q : Out} (H : Run b o q) : FUL o → FUL q := by
  induction H with
  | refl o => exact id
  | more _ ih => exact fun h => ih (ful_step h)
theorem dout_full {b : List UInt8} {t : T} {k : Nat} (hd : DOUT b t k 0) : t.full := by
  obtain ⟨n, hr⟩ := dout_run hd
  exact run_full hr (fun f hf => by cases hf)
theorem ok_of : ∀ (t : T), VT t → t.small → (txt t).length ≤ 1048576 → t.ok := by
  intro t
  induction t with
  | no => intro _ _ _; trivial
  | mk k n s ln l dn ky dv il id =>
    intro h hs hl
    have hg := txt_ge h
    obtain ⟨o1, o2, o3, o4, o5, o6⟩ : 1 ≤ k ∧ k ≤ 4 ∧ (k = 1 ∨ n = 0) ∧ (k = 2 ∨ s.toList = []) ∧ (k = 3 ∨ ln = 0) ∧ (k = 4 ∨ dn = 0) := of_decide_eq_true h.1
    have hsz : s.size ≤ 140737488351232 := by
      rcases o4 with rfl | e
      · have e : txt (.mk 2 n s ln l dn ky dv) = wtx s := rfl
        have := wtx_size s
        rw [e] at hl
        omega
      · rw [← empty_of' e]; decide
    refine ⟨hsz, by have := hs.1; omega, by have := hs.2.1; omega, fun i hi => il i (h.2.1 i hi) (hs.2.2.1 i hi) ?_, fun i hi => ⟨?_, id i (h.2.2 i hi).2 (hs.2.2.2 i hi) ?_⟩⟩
    · have := catN_lt (c := fun i => txt (l i)) hi
      omega
    · have := catN_lt (c := fun i => wtx (ky i) ++ txt (dv i)) hi
      rw [List.length_append] at this
      have := wtx_size (ky i)
      omega
    · have := catN_lt (c := fun i => wtx (ky i) ++ txt (dv i)) hi
      rw [List.length_append] at this
      omega
/-- a tree whose text stands there -/
structure Sub8 (b : List UInt8) (u : T) (fr : Nat) : Prop where
  at' : ∃ r, b.drop fr = txt u ++ r
  vt : VT u
  full : u.full
  rng : u.rng
  ok : u.ok
  wk : ∃ n : Nat, wk u (n : Int) = 0
theorem walk_sub {b : List UInt8} : ∀ (t : T) (here : Nat) (sp : Sp), Sub8 b t sp.fr → ∀ s ∈ walkT t here sp, ∃ u, u.k = s.kind ∧ s.to = s.fr + (txt u).length ∧ Sub8 b u s.fr := by
  intro t
  induction t with
  | no => intro _ _ _ s h; cases h
  | mk k n s ln l dn ky dv il id =>
    intro here sp h x hx
    obtain ⟨⟨rs, hat⟩, hvt, hfull, hrng, hok, ⟨na, hwk⟩⟩ := h
    obtain ⟨o1, o2, o3, o4, o5, o6⟩ : 1 ≤ k ∧ k ≤ 4 ∧ (k = 1 ∨ n = 0) ∧ (k = 2 ∨ s.toList = []) ∧ (k = 3 ∨ ln = 0) ∧ (k = 4 ∨ dn = 0) := of_decide_eq_true hvt.1
    obtain ⟨_, hw3⟩ := wk_mk hwk
    unfold walkT at hx
    rcases List.mem_cons.1 hx with rfl | hx
    · exact ⟨.mk k n s ln l dn ky dv, rfl, rfl, ⟨rs, hat⟩, hvt, hfull, hrng, hok, ⟨na, hwk⟩⟩
    · rcases List.mem_append.1 hx with hx | hx
      · refine kids_in (Q := fun x => ∃ u, u.k = x.kind ∧ x.to = x.fr + (txt u).length ∧ Sub8 b u x.fr) (fun i m hi y hy => ?_) x hx
        obtain rfl : k = 3 := by omega
        refine il i _ _ ⟨?_, hvt.2.1 i hi, hfull.1 i hi, hrng.2.2.2.2.1 i hi, hok.2.2.2.1 i hi, ⟨na + 1, by have := (hw3 (by decide)).2.1 i hi; rw [show ((na + 1 : Nat) : Int) = (na : Int) + 1 by omega]; exact this⟩⟩ y hy
        obtain ⟨z, hz⟩ := catN_split (g := fun i => txt (l i)) hi
        have e : txt (.mk 3 n s ln l dn ky dv) = 108 :: (catN (fun i => txt (l i)) ln ++ [101]) := rfl
        rw [e, hz] at hat
        have h1 : b.drop sp.fr = (108 :: catN (fun i => txt (l i)) i) ++ (txt (l i) ++ (z ++ [101] ++ rs)) := by rw [hat]; simp
        have h2 := drop_app h1
        rw [List.length_cons] at h2
        refine ⟨z ++ [101] ++ rs, ?_⟩
        rw [← h2]
        congr 1
        dsimp only
        omega
      · refine kids_in (Q := fun x => ∃ u, u.k = x.kind ∧ x.to = x.fr + (txt u).length ∧ Sub8 b u x.fr) (fun i m hi y hy => ?_) x hx
        obtain rfl : k = 4 := by omega
        obtain rfl : ln = 0 := by omega
        refine id i _ _ ⟨?_, (hvt.2.2 i hi).2, hfull.2 i hi, hrng.2.2.2.2.2 i hi, (hok.2.2.2.2 i hi).2, ⟨na + 1, by have := ((hw3 (by decide)).2.2 i hi).2; rw [show ((na + 1 : Nat) : Int) = (na : Int) + 1 by omega]; exact this⟩⟩ y hy
        obtain ⟨z, hz⟩ := catN_split (g := fun i => wtx (ky i) ++ txt (dv i)) hi
        have e : txt (.mk 4 n s 0 l dn ky dv) = 100 :: (catN (fun i => wtx (ky i) ++ txt (dv i)) dn ++ [101]) := rfl
        rw [e, hz] at hat
        have h1 : b.drop sp.fr = (100 :: (catN (fun i => wtx (ky i) ++ txt (dv i)) i ++ wtx (ky i))) ++ (txt (dv i) ++ (z ++ [101] ++ rs)) := by rw [hat]; simp
        have h2 := drop_app h1
        rw [List.length_cons, List.length_append] at h2
        refine ⟨z ++ [101] ++ rs, ?_⟩
        rw [← h2]
        congr 1
        show sp.fr + 1 + ([] : List UInt8).length + _ + _ = _
        rw [List.length_nil]
        omega
/-- the bytes of a span are read by themselves -/
theorem sub_dout {b : List UInt8} {t : T} {k : Nat} (hd : DOUT b t k 0) {r : Nat} {x : Vi} (hx : (SL t 0)[r]? = some x) : ∃ u, DOUT (cutB b x) u 0 0 ∧ u.k = x.kd := by
  obtain ⟨h1, h2, h3⟩ := dout_txt hd
  have e : SL t 0 = (walkT t 0 (dueS [])).map Sp.v := if_pos rfl
  rw [e, List.getElem?_map, Option.map_eq_some_iff] at hx
  obtain ⟨s, hs, rfl⟩ := hx
  have hvt := vt_of_wk t _ h2.1
  have hroot : Sub8 b t (dueS []).fr := ⟨⟨[], by rw [List.append_nil]; exact h1⟩, hvt, dout_full hd, h2.2.2, ok_of t hvt h2.2.1 (by rw [← h1]; exact h3), ⟨0, h2.1⟩⟩
  obtain ⟨u, hk, hto, hu⟩ := walk_sub t 0 (dueS []) hroot s (List.mem_of_getElem? hs)
  obtain ⟨rs, hat⟩ := hu.at'
  obtain ⟨n, hw⟩ := hu.wk
  have hw0 := wk_zero u n hw
  have hcut : cutB b s.v = txt u := by
    show (b.drop s.fr).take (s.to - s.fr) = txt u
    rw [hat, hto, show s.fr + (txt u).length - s.fr = (txt u).length by omega, List.take_left]
  have hlen : (txt u).length ≤ 1048576 := by
    have : (b.drop s.fr).length = (txt u).length + rs.length := by rw [hat, List.length_append]
    rw [List.length_drop] at this
    omega
  refine ⟨nrm u, by rw [hcut]; exact dout_written hw0 hu.full hu.rng hu.ok hlen, ?_⟩
  rw [(nrm_k hw0).1, hk]
  rfl
end Go.Proofs.YtdlnnnlmlaploabGreatDoor
namespace Go.Proofs.YtdlnnnlmlaploabGreatDoor
/-! ### The keys of a dictionary, as they are shown: plain -/
/-- the keys of what lies right in the outermost value and has ended -/
def kyF (h : List Vi) : List ByteArray := h.foldl (fun ks v => if v.dp = 1 ∧ v.to ≠ 0 then ks ++ [v.ky] else ks) []
theorem kyF_snoc (h : List Vi) (v : Vi) : kyF (h ++ [v]) = if v.dp = 1 ∧ v.to ≠ 0 then kyF h ++ [v.ky] else kyF h := by unfold kyF; rw [List.foldl_append]; rfl
def keysT : T → List ByteArray
  | .no => []
  | .mk _ _ _ _ _ dn ky _ => lsN ky dn
theorem lsN_map {l : List (ByteArray × T)} : lsN (fun i => (l.getD i (ByteArray.empty, .no)).1) l.length = l.map (·.1) := by
  apply List.ext_getElem?
  intro i
  by_cases hi : i < l.length
  · have h1 : i < (lsN (fun i => (l.getD i (ByteArray.empty, .no)).1) l.length).length := by rw [lsN_len]; exact hi
    have := lsN_get (fun i => (l.getD i (ByteArray.empty, .no)).1) ByteArray.empty hi
    rw [List.getD, List.getElem?_eq_getElem h1] at this
    rw [List.getElem?_eq_getElem h1, List.getElem?_map, List.getElem?_eq_getElem hi]
    simp only [Option.getD_some] at this
    rw [this]
    simp [List.getD, List.getElem?_eq_getElem hi]
  · rw [List.getElem?_eq_none (by rw [lsN_len]; omega), List.getElem?_eq_none (by simp; omega)]
theorem keys_dict (l : List (ByteArray × T)) : keysT (tDict l) = l.map (·.1) := lsN_map
/-- the outermost frame's keys -/
def RKx : List Fr → List ByteArray → Prop
  | [], ks => ks = []
  | [f], ks => f.d = true → f.ps.map (·.1) = ks
  | _ :: g :: r, ks => RKx (g :: r) ks
def RKd (st : List Fr) (t : T) (ks : List ByteArray) : Prop :=
  match st with
  | [] => t.k = 4 → keysT t = ks
  | f :: r => RKx (f.join t :: r) ks
theorem rk_join {f : Fr} {r : List Fr} {t : T} {ks : List ByteArray} {ky : ByteArray} (h : RKx (f :: r) ks) (hk : f.d = true → ky = f.key) : RKx (f.join t :: r) (if ((r.length + 1 : Nat) : Int) = 1 then ks ++ [ky] else ks) := by
  match r, h with
  | [], h =>
    rw [if_pos (by rfl)]
    intro hd
    unfold Fr.join at hd ⊢
    by_cases hd2 : f.d = true
    · rw [if_pos hd2]
      show (f.ps ++ [(f.key, t)]).map (·.1) = _
      rw [List.map_append, h hd2, hk hd2]
      rfl
    · rw [if_neg hd2] at hd; cases hd
  | g :: r, h =>
    rw [if_neg (by rw [List.length_cons]; omega)]
    exact h
theorem rk_key {f f' : Fr} {r : List Fr} {ks : List ByteArray} (h : RKx (f :: r) ks) (hd : f'.d = f.d) (hp : f'.ps = f.ps) : RKx (f' :: r) ks := by
  match r, h with
  | [], h => intro e; rw [hp]; exact h (by rw [← hd]; exact e)
  | g :: r, h => exact h
theorem rk_open {d : Bool} {st : List Fr} {ks : List ByteArray} (h : RKx st ks) : RKx ({ d := d } :: st) ks := by
  match st, h with
  | [], h => intro _; rw [show ks = [] from h]; rfl
  | g :: r, h => exact h
/-- the reader's plain counterpart, with the keys -/
def PJ (b : List UInt8) (h : List Vi) : RS → Prop
  | .val ls i _ => ∃ st, Run b (.go [] 0) (.go st i) ∧ Waits b st i ∧ LRw ls st ∧ (sk h).map Vi.o = (stS st).1.map Sp.v ∧ RKx st (kyF h)
  | .mid [] i _ => ∃ t, Run b (.go [] 0) (.val t i) ∧ (sk h).map Vi.o = (walkT t 0 (dueS [])).map Sp.v ∧ (t.k = 4 → keysT t = kyF h)
  | .mid (l :: r) i _ => ∃ f s, Run b (.go [] 0) (.go (f :: s) i) ∧ LB l f s ∧ LRw r s ∧ (sk h).map Vi.o = (stS (f :: s)).1.map Sp.v ∧ RKx (f :: s) (kyF h)
/-- a tree is delivered to a stack that waits: what stands behind -/
theorem deliver_PJ {b : List UInt8} {h' : List Vi} {ls : List Lv} {st : List Fr} {t : T} {j n : Nat} (hr : Run b (.go [] 0) (deliver st t j)) (hw : LRw ls st) (hs : (sk h').map Vi.o = ((stS st).1 ++ walkT t (stS st).1.length (dueS st)).map Sp.v) (hkk : RKd st t (kyF h')) : PJ b h' (.mid ls j n) := by
  match ls, st, hw with
  | [], [], _ => exact ⟨t, hr, hs, hkk⟩
  | l :: r, f :: s, hw =>
    obtain ⟨h1, h2⟩ := hw
    refine ⟨f.join t, s, hr, ⟨⟨?_, h1.bs.pl⟩, ?_, fun hd => ?_, fun hd => ?_, fun hd _ => ?_⟩, h2, by rw [stS_join h1.has]; exact hs, hkk⟩
    · rw [h1.bs.o]
      unfold Fr.join Fr.kd
      by_cases hd : f.d = true
      · simp [hd]
      · simp [hd]
    · rw [h1.pa]
      unfold Fr.join Fr.num
      by_cases hd : f.d = true
      · simp [hd]
      · simp [hd]
    · rw [h1.kk]
      unfold Fr.join at hd
      unfold Fr.ky
      by_cases hd2 : f.d = true
      · rw [if_pos hd2] at hd; cases hd
      · rw [if_neg hd2]
    · unfold Fr.join at hd ⊢
      by_cases hd2 : f.d = true
      · rw [if_pos hd2]
      · rw [if_neg hd2] at hd; cases hd
    · unfold Fr.join at hd ⊢
      by_cases hd2 : f.d = true
      · rw [if_pos hd2, h1.kk]
        unfold Fr.ky
        rw [if_pos hd2]
        simp
      · rw [if_neg hd2] at hd; cases hd
theorem Rch.keyed {b : List UInt8} (hlim : b.length ≤ 1048576) {h : List Vi} {s : RS} (H : Rch b gT h s) : PJ b h s := by
  induction H with
  | start => exact ⟨[], .refl _, waits_nil _ _, trivial, rfl, rfl⟩
  | @value h ls i n v ls' i' hr hv _ ih =>
    obtain ⟨st, h1, h2, h3, h4, hK⟩ := ih
    obtain ⟨hi, hx⟩ := run_at hlim h1
    obtain ⟨pn, _⟩ := hr.places
    have pn' : (sk h).length = n := pn
    have hd := due_o (n := n) h3 hx
    have hL : (stS st).1.length = n := by rw [← pn', ← List.length_map (f := Vi.o), h4, List.length_map]
    rcases hv with ⟨t, j, c1, c2, c3, rfl, rfl, rfl⟩ | ⟨c1, c2, c3, rfl, rfl⟩
    · have e := step_leaf hi h2 c1 c2
      rw [c3] at e
      obtain ⟨q1, q2, q3⟩ := leaf_val hi hlim c1 c2 c3
      refine deliver_PJ (h1.snoc e) h3 ?_ ?_
      rotate_left
      · rw [kyF_snoc]
        have hj := leaf_pos hi hlim c1 c2 c3
        match ls', st, h3, hK with
        | [], [], _, hK =>
          intro hk4
          rcases q3 with e3 | e3
          · rw [e3] at hk4; cases hk4
          · rw [e3] at hk4; cases hk4
        | l :: r, f :: s, h3, hK =>
          have := rk_join (t := t) (ky := l.kk) hK (fun hd => by rw [h3.1.kk]; unfold Fr.ky; rw [if_pos hd])
          have hlen : r.length = s.length := h3.2.len
          have hc : (({ dueV (l :: r) i n with kd := t.k, to := (i : Int) + (j : Int) } : Vi).dp = 1 ∧ ({ dueV (l :: r) i n with kd := t.k, to := (i : Int) + (j : Int) } : Vi).to ≠ 0) ↔ ((s.length + 1 : Nat) : Int) = 1 := by
            show (((r.length + 1 : Nat) : Int) = 1 ∧ (i : Int) + (j : Int) ≠ 0) ↔ _
            rw [hlen]
            constructor
            · exact fun h => h.1
            · exact fun h => ⟨h, by omega⟩
          show RKx _ _
          by_cases h1 : ((s.length + 1 : Nat) : Int) = 1
          · rw [if_pos h1] at this
            rw [if_pos (hc.2 h1)]
            exact this
          · rw [if_neg h1] at this
            rw [if_neg (fun h => h1 (hc.1 h))]
            exact this
      rw [sk_app (by rw [pn']; exact (due_fr' ls' i n).2.2.1), h4, leaf_walk q3, List.map_append]
      congr 1
      show [_] = [_]
      congr 1
      have hv : Vi.o { dueV ls' i n with kd := t.k, to := (i : Int) + (j : Int) } = { Vi.o (dueV ls' i n) with kd := t.k, to := (i : Int) + (j : Int) } := rfl
      rw [hv, hd]
      have : (dueS st).fr = i := by unfold dueS; rw [due_fr, hx]
      simp only [Sp.v, this, q2, Int.natCast_add]
    · have hl : st.length < 32 := by rw [← h3.len]; exact c2
      have key : ∀ (d : Bool) (kdv : Int), kdv = (if d = true then 4 else 3) → v = { dueV ls i n with kd := kdv } → step b st i = .go ({ d := d } :: st) (i + 1) → PJ b (h ++ [v]) (.mid (newL v :: ls) (i + 1) (n + 1)) := by
        intro d kdv hk hv hst
        subst hv
        refine ⟨{ d := d }, st, h1.snoc hst, ⟨⟨?_, ?_⟩, ?_, fun _ => rfl, fun _ => rfl, fun _ hp => absurd rfl hp⟩, h3, ?_, by rw [kyF_snoc, if_neg (fun h => h.2 (due_fr' ls i n).2.1)]; exact rk_open hK⟩
        · have e1 : (newL { dueV ls i n with kd := kdv }).o = { Vi.o (dueV ls i n) with kd := kdv, to := 0 } := rfl
          rw [e1, hd, hk]
          rfl
        · show (dueV ls i n).pl = _
          rw [(due_fr' ls i n).2.2.1, hL]
        · show (0 : Int) = _
          unfold Fr.num
          cases d <;> rfl
        · rw [sk_app (by rw [pn']; exact (due_fr' ls i n).2.2.1), h4, stS_open, List.map_append]
          congr 1
          show [_] = [_]
          congr 1
          have e1 : Vi.o { dueV ls i n with kd := kdv } = { Vi.o (dueV ls i n) with kd := kdv } := rfl
          rw [e1, hd, hk]
          show (⟨_, _, ((dueS st).to : Int), _, _, _, _, _, _⟩ : Vi) = ⟨_, _, 0, _, _, _, _, _, _⟩
          have : (dueS st).to = 0 := by unfold dueS; cases st <;> rfl
          rw [this]
          rfl
      rcases c3 with ⟨c3, hv⟩ | ⟨c3, hv⟩
      · exact key false 3 rfl hv (by rw [sx_list c1 h2 c3, if_neg (by omega)])
      · exact key true 4 rfl hv (by rw [sx_dict c1 h2 c3, if_neg (by omega)])
  | @part h l r i n l' i' hr hb hp ih =>
    obtain ⟨f, s, h1, h2, h3, h4, hK⟩ := ih
    obtain ⟨hi, hx⟩ := run_at hlim h1
    have hkd : l.kd = f.kd := by have := congrArg Vi.kd h2.bs.o; exact this
    rcases hp with ⟨c1, rfl, rfl⟩ | ⟨c1, c2, t, j, c3, c4, rfl, rfl⟩
    · have hd : f.d = false := by
        rw [c1] at hkd
        unfold Fr.kd at hkd
        cases hf : f.d with
        | false => rfl
        | true => rw [hf] at hkd; cases hkd
      refine ⟨f :: s, h1, fun f' r' e => ?_, ⟨⟨⟨h2.bs.o, h2.bs.pl⟩, by show l.pa + 1 = _; rw [h2.pa], ?_, fun e => by rw [hd] at e; cases e⟩, h3⟩, h4, hK⟩
      · injection e with e1 e2; subst e1; exact ⟨(fun e => by rw [hd] at e; cases e), fun _ => hb⟩
      · show l.kk = f.ky
        rw [h2.kl hd]
        unfold Fr.ky
        rw [hd]
        rfl
    · have hd : f.d = true := by
        rw [c1] at hkd
        unfold Fr.kd at hkd
        cases hf : f.d with
        | true => rfl
        | false => rw [hf] at hkd; cases hkd
      have e := sx_key (r := s) hi hd (h2.has hd) hb (fun e => c2 (.inr (.inl e))) (fun e => c2 (.inr (.inr e))) (fun e => c2 (.inl e))
      rw [c3] at e
      have hn : ¬ (f.ps ≠ [] ∧ leB t.s (f.ps.getLastD (ByteArray.empty, .no)).1 = true) := fun ⟨e1, e2⟩ => c4 ⟨by
        rw [h2.pa]
        unfold Fr.num
        rw [if_pos hd]
        have := List.length_pos_iff.2 e1
        omega, by rw [h2.kd hd e1]; exact e2⟩
      dsimp only at e
      rw [if_neg hn] at e
      refine ⟨{ f with key := t.s, has := true } :: s, h1.snoc e, fun f' r' e => ?_, ⟨⟨⟨h2.bs.o, h2.bs.pl⟩, by show l.pa + 1 = _; rw [h2.pa]; rfl, ?_, fun _ => rfl⟩, h3⟩, h4, rk_key hK rfl rfl⟩
      · injection e with e1 e2; subst e1; exact ⟨fun _ => rfl, fun e => by rw [show ({ f with key := t.s, has := true } : Fr).d = f.d from rfl, hd] at e; cases e⟩
      · show t.s = Fr.ky { f with key := t.s, has := true }
        unfold Fr.ky
        rw [if_pos hd]
  | @close h l r i n hr hi hb _ ih =>
    obtain ⟨f, s, h1, h2, h3, h4, hK⟩ := ih
    have e := sx_end (r := s) hi h2.has hb
    have hr' := h1.snoc e
    refine deliver_PJ hr' h3 ?_ ?_
    rotate_left
    · rw [kyF_snoc]
      have hdp : l.dp = (s.length : Int) := by
        have := congrArg Vi.dp h2.bs.o
        have e2 : l.dp = ((dueS s).dep : Int) := this
        rw [e2]
        unfold dueS
        rw [due_dep]
      have hky : l.ky = (dueS s).key := congrArg Vi.ky h2.bs.o
      have hto : (endV l i).to ≠ 0 := by show (i : Int) + 1 ≠ 0; omega
      match s, r, h3, hK, hdp, hky with
      | [], [], _, hK, hdp, _ =>
        intro hk4
        rw [if_neg (fun h => by have h1 : l.dp = 1 := h.1; rw [hdp] at h1; cases h1)]
        unfold Fr.close at hk4 ⊢
        by_cases hd : f.d = true
        · rw [if_pos hd, keys_dict]; exact hK hd
        · rw [if_neg hd] at hk4; cases hk4
      | g :: u, l2 :: r2, h3, hK, hdp, hky =>
        have hK2 : RKx (g :: u) (kyF h) := hK
        have := rk_join (t := f.close) (ky := l.ky) hK2 (fun hd => by rw [hky]; show g.ky = _; unfold Fr.ky; rw [if_pos hd])
        have hdp2 : (endV l i).dp = ((u.length + 1 : Nat) : Int) := hdp
        show RKx _ _
        by_cases h1 : ((u.length + 1 : Nat) : Int) = 1
        · rw [if_pos h1] at this
          rw [if_pos ⟨by rw [hdp2]; exact h1, hto⟩]
          exact this
        · rw [if_neg h1] at this
          rw [if_neg (fun h => h1 (by rw [← hdp2]; exact h.1))]
          exact this
    obtain ⟨pn, pl⟩ := hr.places
    have hlt := pl l (by simp [RS.ls])
    have pn' : (sk h).length = n := pn
    have hlt' : l.pl < (n : Int) := hlt.2
    have hpl : (endV l i).pl = ((stS s).1.length : Int) := h2.bs.pl
    rw [sk_end hpl (by have := h2.bs.pl; omega), h4, stS_close, stS_top, List.map_append, List.map_cons, List.map_append, List.map_cons]
    have hm := modify_mid (fun x : Vi => { x with to := (endV l i).to }) (({ dueS s with kind := f.kd, to := 0 } : Sp).v) ((f.rest (stS s).1.length (dueS s)).map Sp.v) ((stS s).1.map Sp.v)
    rw [List.length_map] at hm
    rw [hm]
    have hlen : i + 1 = (stx s).length + (txt f.close).length := by
      match s, r, h3, hr' with
      | [], [], _, hr' => have := (run_atv hlim hr').2; simpa [stx] using this
      | g :: u, l2 :: r2, h3, hr' =>
        have h5 := (run_at hlim hr').2
        rw [h5]
        show (stx u ++ (g.join f.close).tx).length = (stx u ++ g.tx).length + _
        rw [join_tx h3.1.has, List.length_append, List.length_append, List.length_append]
        omega
    have hE : ({ (({ dueS s with kind := f.kd, to := 0 } : Sp).v) with to := (endV l i).to } : Vi) = (endS f s).v := by
      have : (endV l i).to = (((stx s).length + (txt f.close).length : Nat) : Int) := by rw [← hlen]; rfl
      rw [this]
      rfl
    rw [hE]
/-- a dictionary that is read to its end: its keys -/
theorem Fin.keys {b : List UInt8} (hlim : b.length ≤ 1048576) {h : List Vi} {p er : Int} (H : Fin b gT h p er) {u : T} {k : Nat} (hd : DOUT b u k 0) (h4 : u.k = 4) : kyF h = keysT u := by
  have e0 : er = 0 := by
    obtain ⟨t', k', _, hd', _⟩ := H.out hlim
    exact (DOUT.unique hd hd').2.2.symm
  cases H with
  | vstop _ _ hg => cases hg
  | estop _ _ _ hg => cases hg
  | vbad hr hz hv => exact absurd e0 hz
  | pbad hr hb hp =>
    subst e0
    rcases hp.2 with ⟨_, e, _⟩ | ⟨_, ⟨_, _, e, _⟩ | ⟨_, _, _, _, _, e, _⟩⟩
    · cases e
    · exact absurd rfl e
    · cases e
  | trail hr hi => cases e0
  | done hr hi =>
    obtain ⟨t, h1, _, hk⟩ := hr.keyed hlim
    obtain ⟨n, h2⟩ := dout_run hd
    have := Run.unique h1 h2 trivial trivial
    injection this with e1
    subst e1
    exact (hk h4).symm
end Go.Proofs.YtdlnnnlmlaploabGreatDoor
namespace Go.Proofs.YtdlnnnlmlaploabGreatDoor
open Go.RowKit Go.Deep
/-! ### A value of one kind at a path -/
def OFK (b : List UInt8) (p : List (Int × ByteArray)) (kind : Int) (q : Vi) (er : Int) : Prop :=
  ∃ x e0, FND b p x e0 ∧ ((e0 ≠ 0 ∧ er = e0) ∨ (e0 = 0 ∧ x.kd ≠ kind ∧ er = 32) ∨ (e0 = 0 ∧ x.kd = kind ∧ er = 0 ∧ Eq6 q x ∧ x.to = q.to))
theorem ret9 {w w1 : World} {Rb : Nat} {cs : Array Value} (hb : Below Rb w w1) (hk : blk w1 Rb 45 cs) (x : Vi) : blk (w1.setRow Rb (Vi.cs x)) Rb 45 (Vi.cs x) ∧ Below Rb w (w1.setRow Rb (Vi.cs x)) := by
  have y1 := besides_row w1 Rb (Vi.cs x)
  exact ⟨blk_row hk _, ⟨y1.os.trans hb.os, y1.tape.trans hb.tape, y1.output.trans hb.output, Nat.le_trans hb.size y1.size, fun k hk2 => (y1.block k (Nat.lt_trans hk2 hk.lt) (by omega)).trans (hb.block k hk2)⟩⟩
theorem cs_info (v : Vi) : (Tryz.prog.info? 45).map (·.size) = some (Vi.cs v).size := info47s
set_option maxRecDepth 10000 in
set_option maxHeartbeats 2000000 in
theorem ofKind27 (a : Option Addr) (c : Nat) (b : List UInt8) (w : World) (pa : Option Addr) (pc : Nat) (p : List (Int × ByteArray)) (kind : Int) (hr : RB w (.slice a b.length c) b) (hev : EVw w) (hP : PSA w.heap.size w (.slice pa p.length pc) p) (hp : p.length ≤ 140737488351232) :
    Calls Tryz.prog 27 #[.slice a b.length c, .slice pa p.length pc, .int .i64 kind] w fun e w' => ∃ q er, e = .returned (.tuple #[.agg (Vi.cs q), .int .i64 er]) ∧ OFK b p kind q er ∧ Below w.heap.size w w' := by
  have b0 : Below w.heap.size w (w.alloc zero9) := (Below.refl _ _).alloc (Nat.le_refl _) _
  have o0 : blk (w.alloc zero9) w.heap.size 45 #[.int .i64 0, .int .i64 0, .int .i64 0, .int .i64 0, .int .i64 0, .int .i64 0, .string { data := #[] }, .int .i64 0, .int .i64 0] := heap_new _ _
  have HC := Lib.hid (find19 a c b (w.alloc zero9) pa p.length pc p (hr.keep b0) (hev.keep b0) (hP.on b0) hp)
  have H0 := Lib.hid (And.intro b0 o0)
  clear hr hev hP b0 o0
  go_enter Tryz.func27, Tryz.ntmps27
  go_wp2_with fail
  refine HC.out.mono ?_
  rintro e w1 ⟨t, k, er, hd, hb1, hcase⟩
  have H1 : Hid (Below w.heap.size w w1 ∧ blk w1 w.heap.size 45 #[.int .i64 0, .int .i64 0, .int .i64 0, .int .i64 0, .int .i64 0, .int .i64 0, .string { data := #[] }, .int .i64 0, .int .i64 0]) := by
    obtain ⟨q1, q2⟩ := H0.out
    exact ⟨q1.trans (hb1.mono q1.size), q2.keep (hb1.block _ q2.lt)⟩
  clear hb1 H0 HC
  generalize hRb : w.heap.size = Rb at *
  have HZ : Hid (Rb = w.heap.size) := hRb.symm
  clear hRb
  have key : ∀ (q : Vi), Hid (Below Rb w (w1.alloc (Obj.cells (Vi.cs q) 45)) ∧ blk (w1.alloc (Obj.cells (Vi.cs q) 45)) Rb 45 #[.int .i64 0, .int .i64 0, .int .i64 0, .int .i64 0, .int .i64 0, .int .i64 0, .string { data := #[] }, .int .i64 0, .int .i64 0]) := fun q =>
    ⟨H1.out.1.alloc (Nat.le_of_lt H1.out.2.lt) _, H1.out.2.keep (((Below.refl w1.heap.size w1).alloc (Nat.le_refl _) _).block _ H1.out.2.lt)⟩
  rcases hcase with ⟨he, rfl⟩ | ⟨rfl, h, pp, e0, hF, rfl⟩
  · have he' : (er != 0) = true := by simpa using he
    have HF : Hid (FND b p vz er) := ⟨t, k, er, hd, .inl ⟨he, rfl, rfl⟩⟩
    have K := key ⟨0, 0, 0, 0, 0, 0, ByteArray.empty, 0, 0⟩
    clear hd key
    go_wp2_with (first | (refine wpList_store_row rfl 45 _ _ rfl Rb (Vi.cs vz) rfl rfl 45 _ K.out.2 (cs_info vz) rfl (cs_one vz) ?_))
    go_wp2
    obtain ⟨y1, y2⟩ := ret9 K.out.1 K.out.2 vz
    refine bodyPost_ret (v := .tuple #[.agg (Vi.cs vz), .int .i64 er]) (results_cell47t Tryz.results27 _ _ Rb _ rfl y1 rfl) rfl ?_
    exact ⟨vz, er, rfl, ⟨vz, er, HF.out, .inl ⟨he, rfl⟩⟩, HZ.out ▸ y2⟩
  · have hpl := follow_plain hF hd
    obtain ⟨⟨qkd, qfr, qto, qdp, qup, qnt, qky, qpl, qfi⟩, hq⟩ : ∃ q, (fwF p h).1 = q := ⟨_, rfl⟩
    rw [hq] at hpl ⊢
    have K := key ⟨qkd, qfr, qto, qdp, qup, qnt, qky, qpl, qfi⟩
    rcases hpl with ⟨hdp, x, hf, heq, hto⟩ | ⟨hdp, hf⟩
    · rw [if_pos hdp]
      have HF : Hid (FND b p x 0 ∧ Eq6 ⟨qkd, qfr, qto, qdp, qup, qnt, qky, qpl, qfi⟩ x ∧ x.to = qto) := ⟨hf, heq, hto⟩
      clear hd key hf heq hto hF hq hdp
      by_cases hk : qkd = kind
      · subst hk
        go_wp2_with (first | (refine wpList_store_row rfl 45 _ _ rfl Rb (Vi.cs ⟨qkd, qfr, qto, qdp, qup, qnt, qky, qpl, qfi⟩) rfl rfl 45 _ K.out.2 (cs_info _) rfl (cs_one _) ?_))
        go_wp2
        obtain ⟨y1, y2⟩ := ret9 K.out.1 K.out.2 ⟨qkd, qfr, qto, qdp, qup, qnt, qky, qpl, qfi⟩
        refine bodyPost_ret (v := .tuple #[.agg (Vi.cs ⟨qkd, qfr, qto, qdp, qup, qnt, qky, qpl, qfi⟩), .int .i64 0]) (results_cell47t Tryz.results27 _ _ Rb _ rfl y1 rfl) rfl ?_
        exact ⟨_, 0, rfl, ⟨x, 0, HF.out.1, .inr (.inr ⟨rfl, HF.out.2.1.kd, rfl, HF.out.2.1, HF.out.2.2⟩)⟩, HZ.out ▸ y2⟩
      · have hk' : (qkd != kind) = true := by simpa using hk
        go_wp2_with (first | (refine wpList_store_row rfl 45 _ _ rfl Rb (Vi.cs vz) rfl rfl 45 _ K.out.2 (cs_info vz) rfl (cs_one vz) ?_))
        go_wp2
        obtain ⟨y1, y2⟩ := ret9 K.out.1 K.out.2 vz
        refine bodyPost_ret (v := .tuple #[.agg (Vi.cs vz), .int .i64 32]) (results_cell47t Tryz.results27 _ _ Rb _ rfl y1 rfl) rfl ?_
        exact ⟨vz, 32, rfl, ⟨x, 0, HF.out.1, .inr (.inl ⟨rfl, by rw [HF.out.2.1.kd]; exact hk, rfl⟩)⟩, HZ.out ▸ y2⟩
    · rw [if_neg hdp]
      obtain ⟨E, hE⟩ : ∃ E, (if nestB (⟨qkd, qfr, qto, qdp, qup, qnt, qky, qpl, qfi⟩ : Vi) = true then (30 : Int) else 31) = E := ⟨_, rfl⟩
      have hE0 : E ≠ 0 := by rw [← hE]; split <;> decide
      rw [hE] at hf ⊢
      have hE' : (E != 0) = true := by simpa using hE0
      have HF := Lib.hid hf
      clear hd hf hE hF hq hdp key
      go_wp2_with (first | (refine wpList_store_row rfl 45 _ _ rfl Rb (Vi.cs vz) rfl rfl 45 _ K.out.2 (cs_info vz) rfl (cs_one vz) ?_))
      go_wp2
      obtain ⟨y1, y2⟩ := ret9 K.out.1 K.out.2 vz
      refine bodyPost_ret (v := .tuple #[.agg (Vi.cs vz), .int .i64 E]) (results_cell47t Tryz.results27 _ _ Rb _ rfl y1 rfl) rfl ?_
      exact ⟨vz, E, rfl, ⟨vz, E, HF.out, .inl ⟨hE0, rfl⟩⟩, HZ.out ▸ y2⟩
/-! ### The number or the string at a path -/
def LEAF (b : List UInt8) (p : List (Int × ByteArray)) (kind : Int) (t : T) (er : Int) : Prop :=
  ∃ x e0, FND b p x e0 ∧ ((e0 ≠ 0 ∧ er = e0 ∧ t = t0) ∨ (e0 = 0 ∧ x.kd ≠ kind ∧ er = 32 ∧ t = t0) ∨ (e0 = 0 ∧ x.kd = kind ∧ ∃ k, DOUT (cutB b x) t k er))
theorem info55s : (Tryz.prog.info? 55).map (·.size) = some 5 := by kernel_rfl
abbrev vcs (t : T) (x y : Value) : Array Value := #[.int .i64 t.k, .int .i64 t.n, .string t.s, x, y]
theorem results_cell55t {fn : Func} {p u : Tmp} (h : fn.results = #[.cell p 55, .tmp u]) (tmps : Array Value) (w : World) (g : Nat) (cs : Array Value)
    (hp : tmps.getD p undef = .pointer (some ⟨g, 0, none⟩)) (hg : w.heap[g]? = some (.cells cs 55 (0, 0))) (hs : cs.size = 5) : (results fn tmps).run Tryz.prog w = .ok (.tuple #[.agg cs, tmps.getD u undef]) w := by
  have hp' : tmps[p]?.getD undef = .pointer (some ⟨g, 0, none⟩) := by simpa using hp
  have hi : (Tryz.prog.info? 55).map (·.size) = some cs.size := by rw [hs]; exact info55s
  simp [results, h, hp', asAddr, run_loadVar_row w g 55 55 cs (0, 0) _ hg Tryz.underlying55 rfl hi]
theorem ret5 {w w1 : World} {Rb : Nat} {cs : Array Value} (hb : Below Rb w w1) (hk : blk w1 Rb 55 cs) (cs' : Array Value) : blk (w1.setRow Rb cs') Rb 55 cs' ∧ Below Rb w (w1.setRow Rb cs') := by
  have y1 := besides_row w1 Rb cs'
  exact ⟨blk_row hk _, ⟨y1.os.trans hb.os, y1.tape.trans hb.tape, y1.output.trans hb.output, Nat.le_trans hb.size y1.size, fun k hk2 => (y1.block k (Nat.lt_trans hk2 hk.lt) (by omega)).trans (hb.block k hk2)⟩⟩
end Go.Proofs.YtdlnnnlmlaploabGreatDoor
namespace Go.Proofs.YtdlnnnlmlaploabGreatDoor
open Go.RowKit Go.Deep
theorem RV.sl {S : Nat → Prop} {w : World} {t : T} {x y : Value} (h : RV S w t x y) : ∃ a n c a' n' c', x = .slice a n c ∧ y = .slice a' n' c' := by
  cases t with
  | no => exact h.elim
  | mk k n s ln l dn ky dv =>
    obtain ⟨⟨a, ca, rfl, _⟩, ⟨a', ca', rfl, _⟩⟩ := h
    exact ⟨_, _, _, _, _, _, rfl, rfl⟩
set_option maxRecDepth 10000 in
set_option maxHeartbeats 2000000 in
theorem leaf25 (a : Option Addr) (c : Nat) (b : List UInt8) (w : World) (pa : Option Addr) (pc : Nat) (p : List (Int × ByteArray)) (kind : Int) (hr : RB w (.slice a b.length c) b) (hev : EVw w) (hP : PSA w.heap.size w (.slice pa p.length pc) p) (hp : p.length ≤ 140737488351232) :
    Calls Tryz.prog 25 #[.slice a b.length c, .slice pa p.length pc, .int .i64 kind] w fun e w' => ∃ t xa xn xc ya yn yc er, e = .returned (.tuple #[.agg (vcs t (.slice xa xn xc) (.slice ya yn yc)), .int .i64 er]) ∧ LEAF b p kind t er ∧ Below w.heap.size w w' := by
  have b0 : Below w.heap.size w (w.alloc zero5) := (Below.refl _ _).alloc (Nat.le_refl _) _
  have o0 : blk (w.alloc zero5) w.heap.size 55 #[.int .i64 0, .int .i64 0, .string { data := #[] }, .slice none 0 0, .slice none 0 0] := heap_new _ _
  have HC := Lib.hid (ofKind27 a c b (w.alloc zero5) pa pc p kind (hr.keep b0) (hev.keep b0) (hP.on b0) hp)
  have H0 : Hid (Below w.heap.size w (w.alloc zero5) ∧ blk (w.alloc zero5) w.heap.size 55 #[.int .i64 0, .int .i64 0, .string { data := #[] }, .slice none 0 0, .slice none 0 0] ∧ RB (w.alloc zero5) (.slice a b.length c) b ∧ EVw (w.alloc zero5)) := ⟨b0, o0, hr.keep b0, hev.keep b0⟩
  clear hr hev hP b0 o0
  go_enter Tryz.func25, Tryz.ntmps25
  go_wp2_with fail
  refine HC.out.mono ?_
  rintro e w1 ⟨⟨qkd, qfr, qto, qdp, qup, qnt, qky, qpl, qfi⟩, er, rfl, ⟨x, e0, hf, hcase⟩, hb1⟩
  have H1 : Hid (Below w.heap.size w (w1.alloc (Obj.cells (Vi.cs ⟨qkd, qfr, qto, qdp, qup, qnt, qky, qpl, qfi⟩) 45)) ∧ blk (w1.alloc (Obj.cells (Vi.cs ⟨qkd, qfr, qto, qdp, qup, qnt, qky, qpl, qfi⟩) 45)) w.heap.size 55 #[.int .i64 0, .int .i64 0, .string { data := #[] }, .slice none 0 0, .slice none 0 0] ∧ RB (w1.alloc (Obj.cells (Vi.cs ⟨qkd, qfr, qto, qdp, qup, qnt, qky, qpl, qfi⟩) 45)) (.slice a b.length c) b ∧ EVw (w1.alloc (Obj.cells (Vi.cs ⟨qkd, qfr, qto, qdp, qup, qnt, qky, qpl, qfi⟩) 45))) := by
    obtain ⟨q1, q2, q3, q4⟩ := H0.out
    have b1 := hb1.alloc (Nat.le_trans (Nat.le_refl _) hb1.size) (Obj.cells (Vi.cs ⟨qkd, qfr, qto, qdp, qup, qnt, qky, qpl, qfi⟩) 45)
    exact ⟨q1.trans (b1.mono q1.size), q2.keep (b1.block _ q2.lt), q3.keep b1, q4.keep b1⟩
  clear hb1 H0 HC
  generalize hRb : w.heap.size = Rb at *
  have HZ : Hid (Rb = w.heap.size) := hRb.symm
  clear hRb
  by_cases he : er = 0
  · subst he
    rcases hcase with ⟨hne, e⟩ | ⟨_, _, e⟩ | ⟨rfl, hk, _, heq, hto⟩
    · exact absurd e.symm hne
    · cases e
    obtain ⟨⟨F, U, hF', hU, hFU, hUb⟩, hlim⟩ := hf.inn
    have q1 : qfr = (F : Int) := heq.fr.symm.trans hF'
    have q2 : qto = (U : Int) := hto.symm.trans hU
    subst q1 q2
    have hcut : cutB b x = (b.drop F).take (U - F) := by unfold cutB; rw [hF', hU]; rfl
    obtain ⟨a', c', e', hcc, hcell⟩ := H1.out.2.2.1
    cases e'
    rcases hcell with h0 | ⟨g, o, rfl, hg, hc⟩
    · rw [h0] at hUb; simp at hUb; omega
    have hRB := rb_cut hcc hFU hUb hg hc
    have HD := Lib.hid (decode10 _ ((b.drop F).take (U - F)) _ hRB H1.out.2.2.2)
    have HF : Hid (FND b p x 0 ∧ x.kd = kind ∧ cutB b x = (b.drop F).take (U - F)) := ⟨hf, hk, hcut⟩
    have f0 : (0 : Int) ≤ (F : Int) := by omega
    have f1 : (F : Int) ≤ (U : Int) := by omega
    have f2 : (U : Int) ≤ (c : Int) := by omega
    have f3 : F ≤ U := by omega
    have f4 : U ≤ c := by omega
    have f5 : F < c := by omega
    have f6 : F ≠ c := by omega
    have f7 : ¬ c - F = 0 := by omega
    clear hf hk heq hto hcut hRB hc hg hcc hUb hFU hlim hF' hU
    go_wp2_with fail
    refine HD.out.mono ?_
    rintro e w2 ⟨t, x2, y2, k, er, rfl, hrv, _, hd, hb2⟩
    obtain ⟨xa, xn, xc, ya, yn, yc, rfl, rfl⟩ := hrv.sl
    have H2 : Hid (Below Rb w (w2.alloc (Obj.cells (vcs t (.slice xa xn xc) (.slice ya yn yc)) 55)) ∧ blk (w2.alloc (Obj.cells (vcs t (.slice xa xn xc) (.slice ya yn yc)) 55)) Rb 55 #[.int .i64 0, .int .i64 0, .string { data := #[] }, .slice none 0 0, .slice none 0 0]) := by
      obtain ⟨q1, q2, _⟩ := H1.out
      have b2 := hb2.alloc (Nat.le_trans (Nat.le_refl _) hb2.size) (Obj.cells (vcs t (.slice xa xn xc) (.slice ya yn yc)) 55)
      exact ⟨q1.trans (b2.mono (by have := q2.lt; omega)), q2.keep (b2.block _ q2.lt)⟩
    have HL : Hid (LEAF b p kind t er) := ⟨x, 0, HF.out.1, .inr (.inr ⟨rfl, HF.out.2.1, k, by rw [HF.out.2.2]; exact hd⟩)⟩
    clear hb2 hd hrv HD H1 HF
    unfold vv
    go_wp2_with (first | (refine wpList_store_row rfl 55 _ _ rfl Rb (vcs t (.slice xa xn xc) (.slice ya yn yc)) rfl rfl 55 _ H2.out.2 info55s rfl (by kernel_rfl) ?_))
    go_wp2
    obtain ⟨y1, y2⟩ := ret5 H2.out.1 H2.out.2 (vcs t (.slice xa xn xc) (.slice ya yn yc))
    refine bodyPost_ret (v := .tuple #[.agg (vcs t (.slice xa xn xc) (.slice ya yn yc)), .int .i64 er]) (results_cell55t Tryz.results25 _ _ Rb _ rfl y1 rfl) rfl ?_
    exact ⟨t, _, _, _, _, _, _, er, rfl, HL.out, HZ.out ▸ y2⟩
  · have he' : (er != 0) = true := by simpa using he
    have HL : Hid (LEAF b p kind t0 er) := by
      refine ⟨x, e0, hf, ?_⟩
      rcases hcase with ⟨hne, e⟩ | ⟨e1, e2, e3⟩ | ⟨_, _, e, _⟩
      · exact .inl ⟨hne, e, rfl⟩
      · exact .inr (.inl ⟨e1, e2, e3, rfl⟩)
      · exact absurd e he
    clear hf hcase
    go_wp2_with (first | (refine wpList_store_row rfl 55 _ _ rfl Rb (vcs t0 (.slice none 0 0) (.slice none 0 0)) rfl rfl 55 _ H1.out.2.1 info55s rfl (by kernel_rfl) ?_))
    go_wp2
    obtain ⟨y1, y2⟩ := ret5 H1.out.1 H1.out.2.1 (vcs t0 (.slice none 0 0) (.slice none 0 0))
    refine bodyPost_ret (v := .tuple #[.agg (vcs t0 (.slice none 0 0) (.slice none 0 0)), .int .i64 er]) (results_cell55t Tryz.results25 _ _ Rb _ rfl y1 rfl) rfl ?_
    exact ⟨t0, _, _, _, _, _, _, er, rfl, HL.out, HZ.out ▸ y2⟩
set_option maxRecDepth 10000 in
set_option maxHeartbeats 2000000 in
theorem int11 (a : Option Addr) (c : Nat) (b : List UInt8) (w : World) (pa : Option Addr) (pc : Nat) (p : List (Int × ByteArray)) (hr : RB w (.slice a b.length c) b) (hev : EVw w) (hP : PSA w.heap.size w (.slice pa p.length pc) p) (hp : p.length ≤ 140737488351232) :
    Calls Tryz.prog 11 #[.slice a b.length c, .slice pa p.length pc] w fun e w' => ∃ t er, e = .returned (.tuple #[.int .i64 t.n, .int .i64 er]) ∧ LEAF b p 1 t er ∧ Below w.heap.size w w' := by
  have HC := Lib.hid (leaf25 a c b w pa pc p 1 hr hev hP hp)
  clear hr hev hP
  go_enter Tryz.func11, Tryz.ntmps11
  go_wp2_with fail
  refine HC.out.mono ?_
  rintro e w1 ⟨t, xa, xn, xc, ya, yn, yc, er, rfl, hl, hb1⟩
  have H1 := Lib.hid (And.intro hl (hb1.alloc hb1.size (Obj.cells (vcs t (.slice xa xn xc) (.slice ya yn yc)) 55)))
  clear hl hb1 HC
  go_wp2
  go_ret2
  exact ⟨t, er, rfl, H1.out.1, H1.out.2⟩
set_option maxRecDepth 10000 in
set_option maxHeartbeats 2000000 in
theorem str13 (a : Option Addr) (c : Nat) (b : List UInt8) (w : World) (pa : Option Addr) (pc : Nat) (p : List (Int × ByteArray)) (hr : RB w (.slice a b.length c) b) (hev : EVw w) (hP : PSA w.heap.size w (.slice pa p.length pc) p) (hp : p.length ≤ 140737488351232) :
    Calls Tryz.prog 13 #[.slice a b.length c, .slice pa p.length pc] w fun e w' => ∃ t er, e = .returned (.tuple #[.string t.s, .int .i64 er]) ∧ LEAF b p 2 t er ∧ Below w.heap.size w w' := by
  have HC := Lib.hid (leaf25 a c b w pa pc p 2 hr hev hP hp)
  clear hr hev hP
  go_enter Tryz.func13, Tryz.ntmps13
  go_wp2_with fail
  refine HC.out.mono ?_
  rintro e w1 ⟨t, xa, xn, xc, ya, yn, yc, er, rfl, hl, hb1⟩
  have H1 := Lib.hid (And.intro hl (hb1.alloc hb1.size (Obj.cells (vcs t (.slice xa xn xc) (.slice ya yn yc)) 55)))
  clear hl hb1 HC
  go_wp2
  go_ret2
  exact ⟨t, er, rfl, H1.out.1, H1.out.2⟩
end Go.Proofs.YtdlnnnlmlaploabGreatDoor
namespace Go.Proofs.YtdlnnnlmlaploabGreatDoor
open Go.RowKit Go.Deep
set_option maxRecDepth 10000 in
set_option maxHeartbeats 4000000 in
theorem decode11n (v : Value) (b : List UInt8) (w : World) (hr : RB w v b) (hl0 : b.length ≤ 140737488351232) :
    Calls Tryz.prog 22 #[v] w fun e w' => ∃ t x y k er, e = .returned (.tuple #[vv t x y, .int .i64 (k : Nat), .int .i64 er]) ∧ RV (fun x => w.heap.size ≤ x) w' t x y ∧ DOUT b t k er ∧ Below w.heap.size w w' := by
  have hb0 : Below w.heap.size w (w.alloc (Obj.cells #[.int .i64 0, .int .i64 0, .string { data := #[] }, .slice none 0 0, .slice none 0 0] 55)) := (Below.refl _ _).alloc (Nat.le_refl _) _
  have HX : Hid (obj (w.alloc (Obj.cells #[.int .i64 0, .int .i64 0, .string { data := #[] }, .slice none 0 0, .slice none 0 0] 55)) w.heap.size (.int .i64 0) (.int .i64 0) (.string { data := #[] }) (.slice none 0 0) (.slice none 0 0) ∧ Below w.heap.size w (w.alloc (Obj.cells #[.int .i64 0, .int .i64 0, .string { data := #[] }, .slice none 0 0, .slice none 0 0] 55)) ∧ (w.alloc (Obj.cells #[.int .i64 0, .int .i64 0, .string { data := #[] }, .slice none 0 0, .slice none 0 0] 55)).heap.size = w.heap.size + 1 ∧ RB (w.alloc (Obj.cells #[.int .i64 0, .int .i64 0, .string { data := #[] }, .slice none 0 0, .slice none 0 0] 55)) v b) :=
    ⟨heap_new _ _, hb0, by simp, hr.keep hb0⟩
  clear hb0
  obtain ⟨a, c, rfl, _⟩ := hr
  go_enter Tryz.func22, Tryz.ntmps22
  go_wp2_with fail
  generalize (w.alloc (Obj.cells #[.int .i64 0, .int .i64 0, .string { data := #[] }, .slice none 0 0, .slice none 0 0] 55)) = w0 at *
  generalize hH : w.heap.size = H at *
  have HH := Lib.hid hH
  clear hH
  refine (prefix13 _ b _ HX.out.2.2.2 hl0).mono ?_
  rintro e w2 ⟨t, x, y, k, er, rfl, hrv, hout, hb2⟩
  obtain ⟨⟨xa, xn, xc, rfl⟩, ⟨ya, yn, yc, rfl⟩⟩ := hrv.slices
  have O2 : Hid (obj w2 H (.int .i64 0) (.int .i64 0) (.string { data := #[] }) (.slice none 0 0) (.slice none 0 0) ∧ Below H w w2 ∧ H < w0.heap.size ∧ RV (fun x => w0.heap.size ≤ x) w2 t (.slice xa xn xc) (.slice ya yn yc)) := by
    obtain ⟨q1, q2, q3, _⟩ := HX.out
    exact ⟨q1.keep (hb2.block _ q1.lt), q2.trans (hb2.mono (by omega)), q1.lt, hrv⟩
  have HO := Lib.hid hout
  obtain ⟨c0, c1, c2, c3, c4⟩ := O2.out.1.cells
  have cf0 := O2.out.1.frozen 0
  have cf1 := O2.out.1.frozen 1
  have cf2 := O2.out.1.frozen 2
  have cf3 := O2.out.1.frozen 3
  have cf4 := O2.out.1.frozen 4
  have hlt : H < w2.heap.size := O2.out.1.lt
  clear HX hrv hout hb2
  unfold vv
  by_cases he : er = 0
  · subst he
    have HG := Lib.hid (out_good HO.out)
    by_cases hk : k < b.length
    · have hki : (k : Int) < (b.length : Int) := by omega
      go_wp2
      refine bodyPost_ret (v := .tuple #[vv t0 (.slice none 0 0) (.slice none 0 0), .int .i64 (k : Nat), .int .i64 26]) (results_cell3 Tryz.results22 _ _ H _ rfl (objAlloc (((((O2.out.1.set0 _).set1 _).set2 _).set3 _).set4 _) _) rfl) rfl ?_
      exact ⟨t0, _, _, k, 26, rfl, rv_t0 _ _, .inr ⟨rfl, .inl ⟨rfl, hk, HG.out.2, t, HG.out.1⟩⟩, by rw [HH.out]; exact (below_set5 O2.out.2.1).alloc (by simp [World.setCell]; omega) _⟩
    · have hki : ¬ (k : Int) < (b.length : Int) := by omega
      go_wp2
      refine bodyPost_ret (v := .tuple #[vv t (.slice xa xn xc) (.slice ya yn yc), .int .i64 ((0 : Nat) : Int), .int .i64 0]) (results_cell3 Tryz.results22 _ _ H _ rfl (objAlloc (((((O2.out.1.set0 _).set1 _).set2 _).set3 _).set4 _) _) rfl) rfl ?_
      refine ⟨t, _, _, 0, 0, rfl, ?_, .inl ⟨rfl, rfl, HG.out.2, k, HG.out.1, by omega⟩, by rw [HH.out]; exact (below_set5 O2.out.2.1).alloc (by simp [World.setCell]; omega) _⟩
      refine RV.keep (w := w2) (fun k hk => by have h1 := O2.out.2.2.1; have h2 : w0.heap.size ≤ k := hk; have h3 := HH.out; show w.heap.size ≤ k; omega) (by simp [World.setCell]) (fun k hk hl => ?_) _ _ _ O2.out.2.2.2
      have hn : k ≠ H := by have h1 := O2.out.2.2.1; have h2 : w0.heap.size ≤ k := hk; omega
      rw [Below.heap_alloc _ _ _ (by simp [World.setCell]; exact hl), Below.heap_setCell _ _ _ _ hn, Below.heap_setCell _ _ _ _ hn, Below.heap_setCell _ _ _ _ hn, Below.heap_setCell _ _ _ _ hn, Below.heap_setCell _ _ _ _ hn]
  · have he' : (er == 0) = false := beq_eq_false_iff_ne.2 he
    have HG := Lib.hid (out_bad HO.out he)
    go_wp2
    refine bodyPost_ret (v := .tuple #[vv t0 (.slice none 0 0) (.slice none 0 0), .int .i64 (k : Nat), .int .i64 er]) (results_cell3 Tryz.results22 _ _ H _ rfl (objAlloc (((((O2.out.1.set0 _).set1 _).set2 _).set3 _).set4 _) _) rfl) rfl ?_
    exact ⟨t0, _, _, k, er, rfl, rv_t0 _ _, HG.out, by rw [HH.out]; exact (below_set5 O2.out.2.1).alloc (by simp [World.setCell]; omega) _⟩
end Go.Proofs.YtdlnnnlmlaploabGreatDoor
namespace Go.Proofs.YtdlnnnlmlaploabGreatDoor
open Go.RowKit Go.Deep
/-! ### The reference's value, Int, Str, Keys -/
def VALR (b : List UInt8) (p : List (Int × ByteArray)) (t : T) (er : Int) : Prop :=
  ∃ x e0, FND b p x e0 ∧ ((e0 ≠ 0 ∧ er = e0 ∧ t = t0) ∨ (e0 = 0 ∧ ∃ k, DOUT (cutB b x) t k er))
set_option maxRecDepth 10000 in
set_option maxHeartbeats 2000000 in
theorem value26 (v pv : Value) (b : List UInt8) (p : List (Int × ByteArray)) (w : World) (hr : RB w v b) (hl0 : b.length ≤ 140737488351232) (hT : TB w.heap.size w) (hP : PSA w.heap.size w pv p) (hp : p.length ≤ 140737488351232) :
    Calls Tryz.prog 26 #[v, pv] w fun e w' => ∃ t x y er, e = .returned (.tuple #[.agg (vcs t x y), .int .i64 er]) ∧ VALR b p t er ∧ RV (fun _ => True) w' t x y ∧ Below w.heap.size w w' := by
  have b0 : Below w.heap.size w (w.alloc zero5) := (Below.refl _ _).alloc (Nat.le_refl _) _
  have o0 : blk (w.alloc zero5) w.heap.size 55 #[.int .i64 0, .int .i64 0, .string { data := #[] }, .slice none 0 0, .slice none 0 0] := heap_new _ _
  have HC := Lib.hid (whole18 v pv b p (w.alloc zero5) (hr.keep b0) hl0 (tb_up (hT.on b0) b0.size) (hP.on b0) hp)
  have H0 := Lib.hid (And.intro b0 o0)
  obtain ⟨a, c, rfl, _⟩ := hr
  obtain ⟨pa, pc, rfl, _⟩ := hP
  clear hT b0 o0
  go_enter Tryz.func26, Tryz.ntmps26
  go_wp2_with fail
  refine HC.out.mono ?_
  rintro e w1 ⟨v1, er, rfl, ⟨x, hf, hcase⟩, hb1⟩
  have H1 : Hid (Below w.heap.size w w1 ∧ blk w1 w.heap.size 55 #[.int .i64 0, .int .i64 0, .string { data := #[] }, .slice none 0 0, .slice none 0 0]) := by
    obtain ⟨q1, q2⟩ := H0.out
    exact ⟨q1.trans (hb1.mono q1.size), q2.keep (hb1.block _ q2.lt)⟩
  clear hb1 H0 HC
  generalize hRb : w.heap.size = Rb at *
  have HZ : Hid (Rb = w.heap.size) := hRb.symm
  clear hRb
  by_cases he : er = 0
  · subst he
    rcases hcase with ⟨hne, _⟩ | ⟨_, ho⟩
    · exact absurd rfl hne
    have hlen : (cutB b x).length ≤ 140737488351232 := by
      have := hf.inn.2
      unfold cutB
      rw [List.length_take, List.length_drop]
      omega
    have HD := Lib.hid (decode11n v1 (cutB b x) w1 ho.rb hlen)
    obtain ⟨a1, c1, rfl⟩ := ho.form'
    have HF := Lib.hid hf
    clear hf ho hlen
    go_wp2_with fail
    refine HD.out.mono ?_
    rintro e w2 ⟨t, x2, y2, k, er, rfl, hrv, hd, hb2⟩
    have HV := Lib.hid hrv
    obtain ⟨xa, xn, xc, ya, yn, yc, rfl, rfl⟩ := hrv.sl
    have b2 : Below w1.heap.size w1 (w2.alloc (Obj.cells (vcs t (.slice xa xn xc) (.slice ya yn yc)) 55)) := hb2.alloc hb2.size _
    have H2 : Hid (Below Rb w (w2.alloc (Obj.cells (vcs t (.slice xa xn xc) (.slice ya yn yc)) 55)) ∧ blk (w2.alloc (Obj.cells (vcs t (.slice xa xn xc) (.slice ya yn yc)) 55)) Rb 55 #[.int .i64 0, .int .i64 0, .string { data := #[] }, .slice none 0 0, .slice none 0 0] ∧ Rb < w1.heap.size) := by
      obtain ⟨q1, q2⟩ := H1.out
      exact ⟨q1.trans (b2.mono (by have := q2.lt; omega)), q2.keep (b2.block _ q2.lt), q2.lt⟩
    have HL : Hid (VALR b p t er) := ⟨x, 0, HF.out, .inr ⟨rfl, k, hd⟩⟩
    clear hd hrv HD H1 HF b2
    have HB2 := Lib.hid hb2
    clear hb2
    unfold vv
    go_wp2_with (first | (refine wpList_store_row rfl 55 _ _ rfl Rb (vcs t (.slice xa xn xc) (.slice ya yn yc)) rfl rfl 55 _ H2.out.2.1 info55s rfl (by kernel_rfl) ?_))
    go_wp2
    obtain ⟨y1, y2⟩ := ret5 H2.out.1 H2.out.2.1 (vcs t (.slice xa xn xc) (.slice ya yn yc))
    refine bodyPost_ret (v := .tuple #[.agg (vcs t (.slice xa xn xc) (.slice ya yn yc)), .int .i64 er]) (results_cell55t Tryz.results26 _ _ Rb _ rfl y1 rfl) rfl ?_
    refine ⟨t, _, _, er, rfl, HL.out, ?_, HZ.out ▸ y2⟩
    refine RV.keep (w := w2) (fun _ _ => trivial) (by simp [World.setRow]) (fun k hk hl => ?_) _ _ _ HV.out
    have hn : k ≠ Rb := by have h1 := H2.out.2.2; have h2 : w1.heap.size ≤ k := hk; omega
    have hl2 : k < (w2.alloc (Obj.cells (vcs t (.slice xa xn xc) (.slice ya yn yc)) 55)).heap.size := by simp; omega
    rw [(besides_row _ Rb _).block k hl2 hn, Below.heap_alloc _ _ _ hl]
  · have he' : (er != 0) = true := by simpa using he
    obtain ⟨e1, rfl⟩ : er ≠ 0 ∧ v1 = .slice none 0 0 := by
      rcases hcase with h | ⟨e, _⟩
      · exact h
      · exact absurd e he
    have HL : Hid (VALR b p t0 er) := ⟨x, er, hf, .inl ⟨he, rfl, rfl⟩⟩
    clear hf hcase
    go_wp2_with (first | (refine wpList_store_row rfl 55 _ _ rfl Rb (vcs t0 (.slice none 0 0) (.slice none 0 0)) rfl rfl 55 _ H1.out.2 info55s rfl (by kernel_rfl) ?_))
    go_wp2
    obtain ⟨y1, y2⟩ := ret5 H1.out.1 H1.out.2 (vcs t0 (.slice none 0 0) (.slice none 0 0))
    refine bodyPost_ret (v := .tuple #[.agg (vcs t0 (.slice none 0 0) (.slice none 0 0)), .int .i64 er]) (results_cell55t Tryz.results26 _ _ Rb _ rfl y1 rfl) rfl ?_
    exact ⟨t0, _, _, er, rfl, HL.out, rv_t0 _ _, HZ.out ▸ y2⟩
end Go.Proofs.YtdlnnnlmlaploabGreatDoor
namespace Go.Proofs.YtdlnnnlmlaploabGreatDoor
open Go.RowKit Go.Deep
set_option maxRecDepth 10000 in
set_option maxHeartbeats 2000000 in
theorem int12 (v pv : Value) (b : List UInt8) (p : List (Int × ByteArray)) (w : World) (hr : RB w v b) (hl0 : b.length ≤ 140737488351232) (hT : TB w.heap.size w) (hP : PSA w.heap.size w pv p) (hp : p.length ≤ 140737488351232) :
    Calls Tryz.prog 12 #[v, pv] w fun e w' => ∃ n er, e = .returned (.tuple #[.int .i64 n, .int .i64 er]) ∧ (∃ t e0, VALR b p t e0 ∧ ((e0 ≠ 0 ∧ n = 0 ∧ er = e0) ∨ (e0 = 0 ∧ t.k ≠ 1 ∧ n = 0 ∧ er = 32) ∨ (e0 = 0 ∧ t.k = 1 ∧ n = t.n ∧ er = 0))) ∧ Below w.heap.size w w' := by
  have HC := Lib.hid (value26 v pv b p w hr hl0 hT hP hp)
  obtain ⟨a, c, rfl, _⟩ := hr
  obtain ⟨pa, pc, rfl, _⟩ := hP
  clear hT
  go_enter Tryz.func12, Tryz.ntmps12
  go_wp2_with fail
  refine HC.out.mono ?_
  rintro e w1 ⟨t, x, y, er, rfl, hv, hrv, hb1⟩
  obtain ⟨xa, xn, xc, ya, yn, yc, rfl, rfl⟩ := hrv.sl
  have H1 := Lib.hid (And.intro hv (hb1.alloc hb1.size (Obj.cells (vcs t (.slice xa xn xc) (.slice ya yn yc)) 55)))
  clear hrv
  clear hv hb1 HC
  by_cases he : er = 0
  · subst he
    by_cases hk : t.k = 1
    · go_wp2
      go_ret2
      exact ⟨t.n, 0, rfl, ⟨t, 0, H1.out.1, .inr (.inr ⟨rfl, hk, rfl, rfl⟩)⟩, by have := H1.out.2; unfold vcs at this; rw [hk] at this; exact this⟩
    · have hk' : (t.k != 1) = true := by simpa using hk
      go_wp2
      go_ret2
      exact ⟨0, 32, rfl, ⟨t, 0, H1.out.1, .inr (.inl ⟨rfl, hk, rfl, rfl⟩)⟩, H1.out.2⟩
  · have he' : (er != 0) = true := by simpa using he
    go_wp2
    go_ret2
    exact ⟨0, er, rfl, ⟨t, er, H1.out.1, .inl ⟨he, rfl, rfl⟩⟩, H1.out.2⟩
set_option maxRecDepth 10000 in
set_option maxHeartbeats 2000000 in
theorem str14 (v pv : Value) (b : List UInt8) (p : List (Int × ByteArray)) (w : World) (hr : RB w v b) (hl0 : b.length ≤ 140737488351232) (hT : TB w.heap.size w) (hP : PSA w.heap.size w pv p) (hp : p.length ≤ 140737488351232) :
    Calls Tryz.prog 14 #[v, pv] w fun e w' => ∃ s er, e = .returned (.tuple #[.string s, .int .i64 er]) ∧ (∃ t e0, VALR b p t e0 ∧ ((e0 ≠ 0 ∧ s = ByteArray.empty ∧ er = e0) ∨ (e0 = 0 ∧ t.k ≠ 2 ∧ s = ByteArray.empty ∧ er = 32) ∨ (e0 = 0 ∧ t.k = 2 ∧ s = t.s ∧ er = 0))) ∧ Below w.heap.size w w' := by
  have HC := Lib.hid (value26 v pv b p w hr hl0 hT hP hp)
  obtain ⟨a, c, rfl, _⟩ := hr
  obtain ⟨pa, pc, rfl, _⟩ := hP
  clear hT
  go_enter Tryz.func14, Tryz.ntmps14
  go_wp2_with fail
  refine HC.out.mono ?_
  rintro e w1 ⟨t, x, y, er, rfl, hv, hrv, hb1⟩
  obtain ⟨xa, xn, xc, ya, yn, yc, rfl, rfl⟩ := hrv.sl
  have H1 := Lib.hid (And.intro hv (hb1.alloc hb1.size (Obj.cells (vcs t (.slice xa xn xc) (.slice ya yn yc)) 55)))
  clear hrv
  clear hv hb1 HC
  by_cases he : er = 0
  · subst he
    by_cases hk : t.k = 2
    · go_wp2
      go_ret2
      exact ⟨t.s, 0, rfl, ⟨t, 0, H1.out.1, .inr (.inr ⟨rfl, hk, rfl, rfl⟩)⟩, by have := H1.out.2; unfold vcs at this; rw [hk] at this; exact this⟩
    · have hk' : (t.k != 2) = true := by simpa using hk
      go_wp2
      go_ret2
      exact ⟨_, 32, rfl, ⟨t, 0, H1.out.1, .inr (.inl ⟨rfl, hk, rfl, rfl⟩)⟩, H1.out.2⟩
  · have he' : (er != 0) = true := by simpa using he
    go_wp2
    go_ret2
    exact ⟨_, er, rfl, ⟨t, er, H1.out.1, .inl ⟨he, rfl, rfl⟩⟩, H1.out.2⟩
/-! ### Lists of strings -/
def strV (l : List ByteArray) : List Value := l.map Value.string
def OSt (B : Nat) (w : World) (v : Value) (l : List ByteArray) : Prop := w.ownsRow B 9 1 v l.length (strV l)
theorem info9 : (Tryz.prog.info? 9).map (fun i => (i.zero, i.size, i.bytes)) = some (some (.string ByteArray.empty), 1, 16) := by kernel_rfl
theorem ost_nil (B : Nat) (w : World) : OSt B w (.slice none 0 0) [] := World.ownsRow_nil _ _ _ _
theorem OSt.form {B : Nat} {w : World} {v : Value} {l : List ByteArray} (h : OSt B w v l) : ∃ a c, v = .slice a l.length c := by
  rcases h.2 with ⟨rfl, e⟩ | ⟨g, cap, cur, rfl, _⟩
  · exact ⟨none, 0, by rw [e]⟩
  · exact ⟨_, cap, rfl⟩
theorem append_strs {ops : Array Oper} {rest : List Oper} {o : Oper} {a : Act} {Q : Exit → Act → World → Prop} {w : World} {B : Nat} {sv : Value} {l : List ByteArray} (hgd : o.guard = none) (s x : Operand)
    (ho : o.op = .call { callee := .builtin .append, args := #[s, x], argTypes := #[36, 36] }) (hs : a.eval s = sv) (hown : OSt B w sv l) (b : Nat) (c : ByteArray) (hx : a.eval x = .slice (some ⟨b, 0, none⟩) 1 1)
    (hc : w.cell? ⟨b, 0, none⟩ = some (.string c)) (hB : B ≤ w.heap.size) (hlim : l.length ≤ 4294967296)
    (h : ∀ v' w', OSt B w' v' (l ++ [c]) → w.grownBy w' sv.ownBlock → (v'.ownBlock = sv.ownBlock ∨ v'.ownBlock = some w.heap.size) → wpList Tryz.prog ops Q rest (a.put o.dst v') w') : wpList Tryz.prog ops Q (o :: rest) a w := by
  obtain ⟨i0, hi, hz0, hz1, hz2⟩ := info_parts info9
  refine wpList_append_own_at w hgd s x 36 ho B 9 i0 _ 1 16 Tryz.underlying36 hi hz0 hz1 hz2 rfl (by omega) sv l.length (strV l) hs hown ⟨b, 0, none⟩ 1 1 [.string c] hx rfl (fun j u hu => ?_) (fun u hu => ?_) (by unfold maxLen; omega) (by omega) hB (fun v' w' h1 h2 _ h4 => h v' w' ?_ h2 h4)
  · match j, hu with
    | 0, hu => simp at hu; subst hu; simpa [Addr.add] using hc
  · simp at hu; subst hu; rfl
  · have e : strV l ++ [Value.string c] = strV (l ++ [c]) := by simp [strV]
    rw [e] at h1
    simpa [OSt] using h1
def RStr (w : World) (v : Value) (l : List ByteArray) : Prop := ∃ a c, v = .slice a l.length c ∧ (l = [] ∨ ∃ g, a = some ⟨g, 0, none⟩ ∧ g < w.heap.size ∧ ∀ (i : Nat) (s : ByteArray), l[i]? = some s → w.cell? ⟨g, i, none⟩ = some (.string s))
theorem RStr.keep {w w' : World} {v : Value} {l : List ByteArray} (h : RStr w v l) (hb : Below w.heap.size w w') : RStr w' v l := by
  obtain ⟨a, c, rfl, h⟩ := h
  refine ⟨a, c, rfl, ?_⟩
  rcases h with h | ⟨g, h1, h2, h3⟩
  · exact .inl h
  · exact .inr ⟨g, h1, Nat.lt_of_lt_of_le h2 hb.size, fun i s hi => (World.cell?_of_block (w := w) (hb.block g h2)).trans (h3 i s hi)⟩
theorem OSt.rs {B : Nat} {w : World} {v : Value} {l : List ByteArray} (h : OSt B w v l) : RStr w v l := by
  obtain ⟨_, h⟩ := h
  rcases h with ⟨rfl, h0⟩ | ⟨g, cap, cur, rfl, hB, hg, hc, hm, hs, ht⟩
  · obtain rfl : l = [] := List.eq_nil_of_length_eq_zero h0
    exact ⟨none, 0, rfl, .inl rfl⟩
  · refine ⟨_, cap, rfl, .inr ⟨g, rfl, (show blk w g 9 cur from hg).lt, fun i s hi => ?_⟩⟩
    have hil : i < l.length := (List.getElem?_eq_some_iff.1 hi).1
    have e : (strV l)[i]? = some (.string s) := by unfold strV; rw [List.getElem?_map, hi]; rfl
    rw [(show blk w g 9 cur from hg).cell, ← e, ← ht, List.getElem?_take_of_lt (by omega), Array.getElem?_toList]
set_option maxRecDepth 10000 in
set_option maxHeartbeats 2000000 in
theorem textsSame17 (v1 v2 : Value) (l : List ByteArray) (w : World) (hl : l.length ≤ 140737488351232) (h1 : RStr w v1 l) (h2 : RStr w v2 l) :
    Calls Tryz.prog 17 #[v1, v2] w fun e w' => e = .returned (.bool true) ∧ Below w.heap.size w w' := by
  obtain ⟨a1, c1, rfl, h1⟩ := h1
  obtain ⟨a2, c2, rfl, h2⟩ := h2
  have HH := Lib.hid (And.intro h1 h2)
  clear h1 h2
  generalize hn : l.length = n at *
  have HN := Lib.hid hn
  clear hn
  go_enter Tryz.func17, Tryz.ntmps17
  go_wp2
  go_loopw [5] (fun t wr => ∃ k nq : Nat, k ≤ n ∧ t = .int .i64 k ∧ wr = w.drewN nq) (fun t _ => n - (intOf t).toNat)
  case atStart => exact ⟨0, 0, Nat.zero_le _, rfl, rfl⟩
  case round =>
    obtain ⟨k, nq, hk, rfl, rfl⟩ := hrel
    by_cases hlt : k < n
    · obtain ⟨h1, h2⟩ := HH.out
      rcases h1 with h | ⟨g1, rfl, hg1, h1⟩
      · have := HN.out; rw [h] at this; simp at this; omega
      rcases h2 with h | ⟨g2, rfl, hg2, h2⟩
      · have := HN.out; rw [h] at this; simp at this; omega
      obtain ⟨s, hx⟩ : ∃ x, l[k]? = some x := ⟨_, List.getElem?_eq_getElem (by rw [HN.out]; exact hlt)⟩
      have x1 := h1 k s hx
      have y1 := h2 k s hx
      have k0 : (0 : Int) ≤ (k : Int) := by omega
      have k1 : (k : Int) < (n : Int) := by omega
      clear h1 h2 hx HH HN hg1 hg2
      go_wp2
      go_quiet (fail)
      go_wp2
      exact ⟨⟨k + 1, _, by omega, by go_num, rfl⟩, by simp [intOf]; omega⟩
    · go_wp2
      go_ret
      exact ⟨rfl, ⟨rfl, rfl, rfl, Nat.le_refl _, fun _ _ => rfl⟩⟩
end Go.Proofs.YtdlnnnlmlaploabGreatDoor
namespace Go.Proofs.YtdlnnnlmlaploabGreatDoor
open Go.RowKit Go.Deep
theorem OSt.alloc {B : Nat} {w : World} {v : Value} {l : List ByteArray} (h : OSt B w v l) (o : Obj) : OSt B (w.alloc o) v l := World.ownsRow.alloc h o
theorem lsN_snoc {α : Type} (f : Nat → α) (n : Nat) : lsN f (n + 1) = lsN f n ++ [f n] := rfl
/-- a list of strings that grows -/
theorem ost_grown {B : Nat} {w w' : World} {sv : Value} {l : List ByteArray} (ho : OSt B w sv l) (hB : B ≤ w.heap.size) (hg : w.grownBy w' sv.ownBlock) : Below B w w' := (Below.refl B w).grown hg hB (fun k hk => (World.ownsRow.lt ho k hk).1)
def KEYR (b : List UInt8) (p : List (Int × ByteArray)) (B : Nat) (w : World) (v : Value) (er : Int) : Prop :=
  ∃ t e0, VALR b p t e0 ∧ ((e0 ≠ 0 ∧ v = .slice none 0 0 ∧ er = e0) ∨ (e0 = 0 ∧ t.k ≠ 4 ∧ v = .slice none 0 0 ∧ er = 32) ∨ (e0 = 0 ∧ t.k = 4 ∧ er = 0 ∧ OSt B w v (keysT t)))
theorem VALR.small {b : List UInt8} {p : List (Int × ByteArray)} {t : T} (h : VALR b p t 0) : t.small := by
  obtain ⟨x, e0, hf, ⟨hne, e, _⟩ | ⟨_, k, hd⟩⟩ := h
  · exact absurd e.symm hne
  · exact (dout_txt hd).2.1.2.1
set_option maxRecDepth 10000 in
set_option maxHeartbeats 2000000 in
theorem keys16 (v pv : Value) (b : List UInt8) (p : List (Int × ByteArray)) (w : World) (hr : RB w v b) (hl0 : b.length ≤ 140737488351232) (hT : TB w.heap.size w) (hP : PSA w.heap.size w pv p) (hp : p.length ≤ 140737488351232) :
    Calls Tryz.prog 16 #[v, pv] w fun e w' => ∃ v er, e = .returned (.tuple #[v, .int .i64 er]) ∧ KEYR b p w.heap.size w' v er ∧ Below w.heap.size w w' := by
  have HC := Lib.hid (value26 v pv b p w hr hl0 hT hP hp)
  obtain ⟨a, c, rfl, _⟩ := hr
  obtain ⟨pa, pc, rfl, _⟩ := hP
  clear hT
  go_enter Tryz.func16, Tryz.ntmps16
  go_wp2_with fail
  refine HC.out.mono ?_
  rintro e w1 ⟨t, x, y, er, rfl, hv, hrv, hb1⟩
  have HV := Lib.hid hrv
  obtain ⟨xa, xn, xc, ya, yn, yc, rfl, rfl⟩ := hrv.sl
  have H1 : Hid (VALR b p t er ∧ Below w.heap.size w (w1.alloc (Obj.cells (vcs t (.slice xa xn xc) (.slice ya yn yc)) 55)) ∧ blk (w1.alloc (Obj.cells (vcs t (.slice xa xn xc) (.slice ya yn yc)) 55)) w1.heap.size 55 (vcs t (.slice xa xn xc) (.slice ya yn yc)) ∧ Below w1.heap.size w1 (w1.alloc (Obj.cells (vcs t (.slice xa xn xc) (.slice ya yn yc)) 55))) := ⟨hv, hb1.alloc hb1.size _, heap_new _ _, (Below.refl _ _).alloc (Nat.le_refl _) _⟩
  have HB1 : Hid (w.heap.size ≤ w1.heap.size) := hb1.size
  clear hrv hv hb1 HC
  by_cases he : er = 0
  · subst he
    by_cases hk : t.k = 4
    · have hsm := H1.out.1.small
      cases t with
      | no => exact HV.out.elim
      | mk k n s ln l dn ky dv =>
        obtain rfl : k = 4 := hk
        have hdn : dn ≤ 2147483647 := hsm.2.1
        obtain ⟨_, ⟨ya', yc', e, hrow⟩⟩ := HV.out
        cases e
        have HR : Hid (∀ i, i < yn → ∃ g o, ya = some ⟨g, o, none⟩ ∧ g < w1.heap.size ∧ w1.cell? ⟨g, o + i * 6, none⟩ = some (.string (ky i))) := by
          intro i hi
          rcases hrow with h0 | ⟨g, o, e, _, hg, hc⟩
          · omega
          · obtain ⟨_, _, _, h1, _⟩ := hc i hi
            exact ⟨g, o, e, hg, h1⟩
        clear hrow hsm HV
        have hvs : (vcs (.mk 4 n s ln l yn ky dv) (.slice xa xn xc) (.slice ya yn yc)) = #[.int .i64 4, .int .i64 n, .string s, .slice xa xn xc, .slice ya yn yc] := rfl
        rw [hvs] at H1 ⊢
        have HW : Hid (VALR b p (.mk 4 n s ln l yn ky dv) 0 ∧ Below w.heap.size w (w1.alloc (Obj.cells #[.int .i64 4, .int .i64 n, .string s, .slice xa xn xc, .slice ya yn yc] 55)) ∧ (w1.alloc (Obj.cells #[.int .i64 4, .int .i64 n, .string s, .slice xa xn xc, .slice ya yn yc] 55)).cell? ⟨w1.heap.size, 4, none⟩ = some (.slice ya yn yc) ∧ (w1.alloc (Obj.cells #[.int .i64 4, .int .i64 n, .string s, .slice xa xn xc, .slice ya yn yc] 55)).cell? ⟨w1.heap.size, 0, none⟩ = some (.int .i64 4) ∧ w1.heap.size < (w1.alloc (Obj.cells #[.int .i64 4, .int .i64 n, .string s, .slice xa xn xc, .slice ya yn yc] 55)).heap.size ∧ w.heap.size ≤ w1.heap.size ∧ ∀ i, i < yn → ∃ g o, ya = some ⟨g, o, none⟩ ∧ g < (w1.alloc (Obj.cells #[.int .i64 4, .int .i64 n, .string s, .slice xa xn xc, .slice ya yn yc] 55)).heap.size ∧ (w1.alloc (Obj.cells #[.int .i64 4, .int .i64 n, .string s, .slice xa xn xc, .slice ya yn yc] 55)).cell? ⟨g, o + i * 6, none⟩ = some (.string (ky i))) := by
          obtain ⟨q1, q2, q3, q4⟩ := H1.out
          refine ⟨q1, q2, q3.cell 4, q3.cell 0, q3.lt, HB1.out, fun i hi => ?_⟩
          obtain ⟨g, o, e, hg, hc⟩ := HR.out i hi
          exact ⟨g, o, e, Nat.lt_of_lt_of_le hg q4.size, (World.cell?_of_block (w := w1) (q4.block g hg)).trans hc⟩
        clear H1 HR
        generalize hVb : w1.heap.size = Vb at *
        go_wp2
        clear hVb
        generalize (w1.alloc (Obj.cells #[.int .i64 4, .int .i64 n, .string s, .slice xa xn xc, .slice ya yn yc] 55)) = W1 at *
        go_loopw [8, 9] (fun lv iv wr => ∃ (k : Nat) (aa : Option Addr) (cp : Nat), k ≤ yn ∧ lv = .slice aa k cp ∧ iv = .int .i64 k ∧ Hid (OSt W1.heap.size wr lv (lsN ky k) ∧ Below W1.heap.size W1 wr)) (fun _ iv _ => yn - (intOf iv).toNat)
        case atStart => exact ⟨0, none, 0, Nat.zero_le _, rfl, rfl, Lib.hid ⟨ost_nil _ _, Below.refl _ _⟩⟩
        case round =>
          obtain ⟨k, aa, cp, hk, rfl, rfl, HJ⟩ := hrel
          have c4 : wr.cell? ⟨Vb, 4, none⟩ = some (.slice ya yn yc) := (World.cell?_of_block (w := W1) (HJ.out.2.block Vb HW.out.2.2.2.2.1)).trans HW.out.2.2.1
          by_cases hlt : k < yn
          · obtain ⟨g, o, rfl, hg, hc⟩ := HW.out.2.2.2.2.2.2 k hlt
            have ck : wr.cell? ⟨g, o + k * 6, none⟩ = some (.string (ky k)) := (World.cell?_of_block (w := W1) (HJ.out.2.block g hg)).trans hc
            have k0 : (0 : Int) ≤ (k : Int) := by omega
            have k1 : (k : Int) < (yn : Int) := by omega
            have HS : Hid (W1.heap.size ≤ wr.heap.size) := HJ.out.2.size
            have HLN : Hid ((lsN ky k).length = k) := lsN_len ky k
            clear hc hg
            go_wp2_with (at_builtin; refine append_strs (l := lsN ky k) rfl _ _ rfl rfl (HJ.out.1.alloc _) _ (ky k) rfl (by go_simp) (by simp; have := HS.out; omega) (by rw [HLN.out]; omega) ?_; intro v8 w8 ho8 hg8 _; have O8 : Hid (OSt W1.heap.size w8 v8 (lsN ky k ++ [ky k]) ∧ Below W1.heap.size W1 w8) := ⟨ho8, HJ.out.2.trans (((Below.refl _ _).alloc HS.out _).trans (ost_grown (HJ.out.1.alloc _) (by simp; have := HS.out; omega) hg8))⟩; obtain ⟨a8, c8, rfl⟩ := ho8.form; clear ho8 hg8)
            go_wp2
            rw [HLN.out]
            refine ⟨⟨k + 1, a8, c8, by omega, rfl, by go_num, ?_⟩, by simp [intOf]; omega⟩
            have := O8.out
            rw [List.length_append, HLN.out] at this
            exact Lib.hid this
          · have hk' : ¬ (k : Int) < (yn : Int) := by omega
            obtain rfl : k = yn := by omega
            go_wp2
            go_ret2
            refine ⟨_, 0, rfl, ⟨_, 0, HW.out.1, .inr (.inr ⟨rfl, rfl, rfl, ?_⟩)⟩, HW.out.2.1.trans (HJ.out.2.mono HW.out.2.1.size)⟩
            show OSt w.heap.size wr _ (lsN ky k)
            obtain ⟨q1, q2⟩ := HJ.out.1
            refine ⟨q1, ?_⟩
            rcases q2 with q2 | ⟨g, cap, cur, e, h2, h3⟩
            · exact .inl q2
            · exact .inr ⟨g, cap, cur, e, Nat.le_trans HW.out.2.1.size h2, h3⟩
    · have hk' : (t.k != 4) = true := by simpa using hk
      go_wp2
      go_ret2
      exact ⟨_, 32, rfl, ⟨t, 0, H1.out.1, .inr (.inl ⟨rfl, hk, rfl, rfl⟩)⟩, H1.out.2.1⟩
  · have he' : (er != 0) = true := by simpa using he
    go_wp2
    go_ret2
    exact ⟨_, er, rfl, ⟨t, er, H1.out.1, .inl ⟨he, rfl, rfl⟩⟩, H1.out.2.1⟩
end Go.Proofs.YtdlnnnlmlaploabGreatDoor
namespace Go.Proofs.YtdlnnnlmlaploabGreatDoor
open Go.RowKit Go.Deep
/-! ### The program's Keys: its closures -/
theorem KsA {w w2 w3 : World} {Kb B : Nat} {sv sv' : Value} {l : List ByteArray} {c : ByteArray} (hBs : Kb < B) (ho : OSt B w sv l) (hb : blk w Kb 36 #[sv]) (b2 : Below w.heap.size w w2) (ho' : OSt B w3 sv' (l ++ [c])) (hg : w2.grownBy w3 sv.ownBlock)
    (ha : sv'.ownBlock = sv.ownBlock ∨ sv'.ownBlock = some w2.heap.size) :
    blk w3 Kb 36 #[sv] ∧ blk (w3.setCell ⟨Kb, 0, none⟩ sv') Kb 36 #[sv'] ∧ OSt B (w3.setCell ⟨Kb, 0, none⟩ sv') sv' (l ++ [c]) ∧ Near Kb sv w (w3.setCell ⟨Kb, 0, none⟩ sv') ∧ (sv'.ownBlock = sv.ownBlock ∨ ∃ g, sv'.ownBlock = some g ∧ w.heap.size ≤ g) := by
  have hlt := hb.lt
  have own1 : ∀ x, sv.ownBlock = some x → B ≤ x ∧ x < w.heap.size := fun x hx => own_lt ho hx
  have hB3 : blk w3 Kb 36 #[sv] := (hb.keep (b2.block _ hlt)).keep (hg.block _ (Nat.lt_of_lt_of_le hlt b2.size) (fun e => by have := own1 Kb e.symm; omega))
  refine ⟨hB3, hB3.set 0 _, ownsRow_setCell_below ho' (a := ⟨Kb, 0, none⟩) hBs sv', ⟨hg.os.trans b2.os, hg.tape.trans b2.tape, hg.output.trans b2.output, ?_, fun k hk hn hv => ?_⟩, ?_⟩
  · rw [setCell_size]; exact Nat.le_trans b2.size hg.size
  · rw [Below.heap_setCell _ _ _ _ (show k ≠ Kb from hn)]
    exact (hg.block k (Nat.lt_of_lt_of_le hk b2.size) (fun e => hv e.symm)).trans (b2.block k hk)
  · rcases ha with h | h
    · exact .inl h
    · exact .inr ⟨_, h, b2.size⟩
set_option maxRecDepth 10000 in
set_option maxHeartbeats 1000000 in
theorem keys29 {w : World} {Kb B : Nat} (hBs : Kb < B) (hB : B ≤ w.heap.size) (v : Vi) (l : List ByteArray) (sv : Value) (hb : blk w Kb 36 #[sv]) (ho : OSt B w sv l) (hl : l.length ≤ 1048577) :
    Calls Tryz.prog 29 #[.agg (Vi.cs v), .pointer (some ⟨Kb, 0, none⟩)] w fun e w' => e = .returned (.bool true) ∧ ∃ sv', blk w' Kb 36 #[sv'] ∧ OSt B w' sv' (l ++ [v.ky]) ∧ Near Kb sv w w' ∧ (sv'.ownBlock = sv.ownBlock ∨ ∃ g, sv'.ownBlock = some g ∧ w.heap.size ≤ g) := by
  obtain ⟨sa, sc, rfl⟩ := ho.form
  have b0 : Below w.heap.size w (w.alloc (Obj.cells (Vi.cs v) 45)) := (Below.refl _ _).alloc (Nat.le_refl _) _
  have hb1 : blk (w.alloc (Obj.cells (Vi.cs v) 45)) Kb 36 _ := hb.keep (b0.block _ hb.lt)
  have c0 : (w.alloc (Obj.cells (Vi.cs v) 45)).cell? ⟨Kb, 0, none⟩ = some (.slice sa l.length sc) := hb1.cell 0
  have f0 := hb1.frozen 0
  have hk2 : (w.alloc (Obj.cells (Vi.cs v) 45)).heap.size = w.heap.size + 1 := by simp
  have b2 : Below w.heap.size w ((w.alloc (Obj.cells (Vi.cs v) 45)).alloc (Obj.cells #[.string v.ky] 9)) := b0.alloc b0.size _
  have HO : Hid (OSt B w (.slice sa l.length sc) l ∧ blk w Kb 36 #[.slice sa l.length sc] ∧ Below w.heap.size w ((w.alloc (Obj.cells (Vi.cs v) 45)).alloc (Obj.cells #[.string v.ky] 9)) ∧ OSt B ((w.alloc (Obj.cells (Vi.cs v) 45)).alloc (Obj.cells #[.string v.ky] 9)) (.slice sa l.length sc) l) := ⟨ho, hb, b2, (ho.alloc _).alloc _⟩
  clear ho hb hb1 b0 b2
  go_enter Tryz.func29, Tryz.ntmps29
  go_wp2_with (at_builtin; refine append_strs (l := l) rfl _ _ rfl rfl HO.out.2.2.2 (w.heap.size + 1) v.ky rfl (by go_simp) (by simp; omega) (by omega) ?_; (intro sv' w3 ho' hg' ha'; obtain ⟨a4, c4, rfl⟩ := ho'.form; have HX := Lib.hid (KsA hBs HO.out.1 HO.out.2.1 HO.out.2.2.1 ho' hg' ha'); have e0 := HX.out.1.cell 0; have ef := HX.out.1.frozen 0; clear ho' hg' ha'))
  go_wp2
  go_ret
  have h := HX.out
  rw [show (l ++ [v.ky]).length = l.length + 1 by simp] at h
  exact ⟨rfl, _, h.2.1, h.2.2.1, h.2.2.2.1, h.2.2.2.2⟩
/-- one value more is shown -/
def kyS (l : List ByteArray) (v : Vi) : List ByteArray := if v.dp = 1 ∧ v.to ≠ 0 then l ++ [v.ky] else l
set_option maxRecDepth 10000 in
set_option maxHeartbeats 1000000 in
theorem parts46 {w : World} {Kb Pb B : Nat} (hBs : Kb < B) (hB : B ≤ w.heap.size) (v : Vi) (l : List ByteArray) (sv : Value) (hb : blk w Kb 36 #[sv]) (ho : OSt B w sv l) (hl : l.length ≤ 1048577) (hP : blk w Pb 75 #[.func (.func 29) #[] #[.pointer (some ⟨Kb, 0, none⟩)]]) :
    Calls Tryz.prog 46 #[.agg (Vi.cs v), .pointer (some ⟨Pb, 0, none⟩)] w fun e w' => e = .returned (.bool true) ∧ ∃ sv', blk w' Kb 36 #[sv'] ∧ OSt B w' sv' (kyS l v) ∧ Near Kb sv w w' ∧ (sv'.ownBlock = sv.ownBlock ∨ ∃ g, sv'.ownBlock = some g ∧ w.heap.size ≤ g) := by
  obtain ⟨kd, fr, to, dp, up, nt, ky, pl, fi⟩ := v
  have b0 : Below w.heap.size w (w.alloc (Obj.cells (Vi.cs ⟨kd, fr, to, dp, up, nt, ky, pl, fi⟩) 45)) := (Below.refl _ _).alloc (Nat.le_refl _) _
  have hP1 := hP.keep (b0.block _ hP.lt)
  have p0 : (w.alloc (Obj.cells (Vi.cs ⟨kd, fr, to, dp, up, nt, ky, pl, fi⟩) 45)).cell? ⟨Pb, 0, none⟩ = some (.func (.func 29) #[] #[.pointer (some ⟨Kb, 0, none⟩)]) := hP1.cell 0
  have HO : Hid (OSt B w sv l ∧ blk w Kb 36 #[sv] ∧ Below w.heap.size w (w.alloc (Obj.cells (Vi.cs ⟨kd, fr, to, dp, up, nt, ky, pl, fi⟩) 45)) ∧ OSt B (w.alloc (Obj.cells (Vi.cs ⟨kd, fr, to, dp, up, nt, ky, pl, fi⟩) 45)) sv l ∧ blk (w.alloc (Obj.cells (Vi.cs ⟨kd, fr, to, dp, up, nt, ky, pl, fi⟩) 45)) Kb 36 #[sv]) := ⟨ho, hb, b0, ho.alloc _, hb.keep (b0.block _ hb.lt)⟩
  have no : ∀ {w' : World}, w' = (w.alloc (Obj.cells (Vi.cs ⟨kd, fr, to, dp, up, nt, ky, pl, fi⟩) 45)) → ¬ (dp = 1 ∧ to ≠ 0) → ∃ sv', blk w' Kb 36 #[sv'] ∧ OSt B w' sv' (kyS l ⟨kd, fr, to, dp, up, nt, ky, pl, fi⟩) ∧ Near Kb sv w w' ∧ (sv'.ownBlock = sv.ownBlock ∨ ∃ g, sv'.ownBlock = some g ∧ w.heap.size ≤ g) := by
    rintro w' rfl hn
    obtain ⟨_, _, q3, q4, q5⟩ := HO.out
    exact ⟨sv, q5, by unfold kyS; rw [if_neg hn]; exact q4, ⟨q3.os, q3.tape, q3.output, q3.size, fun k hk _ _ => q3.block k hk⟩, .inl rfl⟩
  clear ho hb hP hP1 b0
  by_cases hd : dp = 1
  · subst hd
    by_cases ht : to = 0
    · subst ht
      go_enter Tryz.func46, Tryz.ntmps46
      go_wp2
      go_ret
      exact ⟨rfl, no rfl (fun h => h.2 rfl)⟩
    · have ht' : (to == 0) = false := beq_eq_false_iff_ne.2 ht
      have HK := Lib.hid (keys29 (w := w.alloc (Obj.cells (Vi.cs ⟨kd, fr, to, 1, up, nt, ky, pl, fi⟩) 45)) hBs (Nat.le_trans hB HO.out.2.2.1.size) ⟨kd, fr, to, 1, up, nt, ky, pl, fi⟩ l sv HO.out.2.2.2.2 HO.out.2.2.2.1 hl)
      clear no
      go_enter Tryz.func46, Tryz.ntmps46
      go_wp2_with fail
      refine HK.out.mono ?_
      rintro e w1 ⟨rfl, sv', k1, k2, k3, k4⟩
      have HX : Hid (∃ sv', blk w1 Kb 36 #[sv'] ∧ OSt B w1 sv' (kyS l ⟨kd, fr, to, 1, up, nt, ky, pl, fi⟩) ∧ Near Kb sv w w1 ∧ (sv'.ownBlock = sv.ownBlock ∨ ∃ g, sv'.ownBlock = some g ∧ w.heap.size ≤ g)) := by
        obtain ⟨_, _, q3, _, _⟩ := HO.out
        refine ⟨sv', k1, by unfold kyS; rw [if_pos ⟨rfl, ht⟩]; exact k2, ⟨k3.os.trans q3.os, k3.tape.trans q3.tape, k3.output.trans q3.output, Nat.le_trans q3.size k3.size, fun k hk hn hv => (k3.block k (Nat.lt_of_lt_of_le hk q3.size) hn hv).trans (q3.block k hk)⟩, ?_⟩
        rcases k4 with h | ⟨g, h, hg⟩
        · exact .inl h
        · exact .inr ⟨g, h, Nat.le_trans q3.size hg⟩
      clear k1 k2 k3 k4 HK
      go_wp2
      go_ret
      exact ⟨rfl, HX.out⟩
  · have hd' : (dp != 1) = true := by simpa using hd
    go_enter Tryz.func46, Tryz.ntmps46
    go_wp2
    go_ret
    exact ⟨rfl, no rfl (fun h => hd h.1)⟩
end Go.Proofs.YtdlnnnlmlaploabGreatDoor
namespace Go.Proofs.YtdlnnnlmlaploabGreatDoor
open Go.RowKit Go.Deep
def RS.i : RS → Nat
  | .val _ i _ => i
  | .mid _ i _ => i
/-- no more is shown than there are bytes -/
theorem Rch.hlen {b : List UInt8} (hlim : b.length ≤ 1048576) {go : List Vi → Bool} {h : List Vi} {s : RS} (H : Rch b go h s) : h.length ≤ s.i := by
  induction H with
  | start => exact Nat.le_refl _
  | @value h ls i n v ls' i' hr hv _ ih =>
    have hi : i ≤ b.length := (hr.ok hlim).1
    have ih' : h.length ≤ i := ih
    rw [List.length_append, List.length_singleton]
    show h.length + 1 ≤ i'
    rcases hv with ⟨t, j, c1, c2, c3, _, _, rfl⟩ | ⟨_, _, _, _, rfl⟩
    · have := leaf_pos hi hlim c1 c2 c3
      omega
    · omega
  | @part h l r i n l' i' _ _ hp ih =>
    have ih' : h.length ≤ i := ih
    show h.length ≤ i'
    rcases hp with ⟨_, _, rfl⟩ | ⟨_, _, t, j, _, _, _, rfl⟩ <;> omega
  | @close h l r i n _ _ _ _ ih =>
    have ih' : h.length ≤ i := ih
    rw [List.length_append, List.length_singleton]
    show h.length + 1 ≤ i + 1
    omega
theorem kyF_len (h : List Vi) : (kyF h).length ≤ h.length := by
  have : ∀ (h : List Vi) (ks : List ByteArray), (h.foldl (fun ks v => if v.dp = 1 ∧ v.to ≠ 0 then ks ++ [v.ky] else ks) ks).length ≤ ks.length + h.length := by
    intro h
    induction h with
    | nil => intro ks; exact Nat.le_refl _
    | cons v r ih =>
      intro ks
      rw [List.foldl_cons]
      refine Nat.le_trans (ih _) ?_
      split
      · rw [List.length_append, List.length_singleton, List.length_cons]; omega
      · rw [List.length_cons]; omega
  have := this h []
  unfold kyF
  simpa using this
/-- what the visitor of Keys keeps -/
def JK (Kb Pb B : Nat) (h : List Vi) (w : World) (S : Nat → Prop) : Prop :=
  Kb < B ∧ Pb < B ∧ Kb ≠ Pb ∧ B ≤ w.heap.size ∧ blk w Pb 75 #[.func (.func 29) #[] #[.pointer (some ⟨Kb, 0, none⟩)]] ∧ ∃ sv, blk w Kb 36 #[sv] ∧ OSt B w sv (kyF h) ∧ ∀ k, S k ↔ (k = Kb ∨ k = Pb ∨ sv.ownBlock = some k)
theorem visK {b : List UInt8} (hlim : b.length ≤ 1048576) {A Kb Pb B : Nat} (hA : A ≤ Kb) (hA2 : A ≤ Pb) : Vis b 46 #[.pointer (some ⟨Pb, 0, none⟩)] gT (JK Kb Pb B) A where
  keep := fun h w w' S ⟨h1, h2, h3, h4, h5, sv, h6, h7, h8⟩ hs hk => by
    refine ⟨h1, h2, h3, Nat.le_trans h4 hs, h5.keep (hk Pb (.inl ((h8 Pb).2 (.inr (.inl rfl))))), sv, h6.keep (hk Kb (.inl ((h8 Kb).2 (.inl rfl)))), ⟨h7.1, ?_⟩, h8⟩
    rcases h7.2 with e | ⟨g, cap, cur, q1, q2, q3, q4⟩
    · exact .inl e
    · exact .inr ⟨g, cap, cur, q1, q2, (hk g (.inl ((h8 g).2 (.inr (.inr (by rw [q1]; rfl)))))).trans q3, q4⟩
  own := fun h w S ⟨h1, h2, h3, h4, h5, sv, h6, h7, h8⟩ k hk => by
    rcases (h8 k).1 hk with rfl | rfl | hk
    · exact ⟨hA, _, _, _, h6, by decide, by decide⟩
    · exact ⟨hA2, _, _, _, h5, by decide, by decide⟩
    · rcases h7.2 with ⟨rfl, _⟩ | ⟨g, cap, cur, rfl, q2, q3, q4⟩
      · cases hk
      · cases hk; exact ⟨by show A ≤ g; omega, _, _, _, q3, by decide, by decide⟩
  enter := fun args w => by
    show (callFunc 46 args).run Tryz.prog w = .ok (.enter 46 args) w
    kernel_rfl
  call := fun h w S v ⟨h1, h2, h3, h4, h5, sv, h6, h7, h8⟩ hx => by
    have hlen : (kyF h).length ≤ 1048577 := by
      have hk := kyF_len h
      rcases hx with ⟨ls, i, n, ls', i', hr, hv⟩ | ⟨l, r, i, n, hr, hi, _, rfl⟩
      · have a1 : h.length ≤ i := hr.hlen hlim
        have a2 : i ≤ b.length := (hr.ok hlim).1
        omega
      · have a1 : h.length ≤ i := hr.hlen hlim
        omega
    refine (parts46 h1 h4 v (kyF h) sv h6 h7 hlen h5).mono ?_
    rintro e w' ⟨rfl, sv', k1, k2, k3, k4⟩
    have hkp : w'.heap[Pb]? = w.heap[Pb]? := k3.block Pb h5.lt (fun e => h3 e.symm) (fun e => by have := own_lt h7 e; omega)
    refine ⟨rfl, fun k => k = Kb ∨ k = Pb ∨ sv'.ownBlock = some k, ⟨h1, h2, h3, Nat.le_trans h4 k3.size, h5.keep hkp, sv', k1, by rw [kyF_snoc]; exact k2, fun k => Iff.rfl⟩, ⟨k3.os, k3.tape, k3.output, k3.size, fun k hk hn => k3.block k hk (fun e => hn ((h8 k).2 (.inl e))) (fun e => hn ((h8 k).2 (.inr (.inr e)))), fun k hk => ?_⟩⟩
    rcases hk with rfl | rfl | hk
    · exact .inl ((h8 _).2 (.inl rfl))
    · exact .inl ((h8 _).2 (.inr (.inl rfl)))
    · rcases k4 with e | ⟨g, e, hg⟩
      · exact .inl ((h8 _).2 (.inr (.inr (e ▸ hk))))
      · rw [e] at hk; injection hk with hk; subst hk; exact .inr hg
end Go.Proofs.YtdlnnnlmlaploabGreatDoor
namespace Go.Proofs.YtdlnnnlmlaploabGreatDoor
open Go.RowKit Go.Deep
set_option maxRecDepth 10000 in
set_option maxHeartbeats 2000000 in
theorem parts28 {w : World} {Kb : Nat} (g o c : Nat) (b : List UInt8) (q : Vi) (F U : Nat) (hF : q.fr = (F : Int)) (hU : q.to = (U : Int)) (hFU : F < U) (hUb : U ≤ b.length) (hlim : b.length ≤ 1048576) (hr : RB w (.slice (some ⟨g, o, none⟩) b.length c) b) (hev : EVw w) (hK : blk w Kb 36 #[.slice none 0 0]) (hgK : g < Kb) (h4 : 4 < Kb) :
    Calls Tryz.prog 28 #[.slice (some ⟨g, o, none⟩) b.length c, .agg (Vi.cs q), .func (.func 29) #[] #[.pointer (some ⟨Kb, 0, none⟩)]] w fun e w' => e = .returned (.tuple #[]) ∧ ∃ h pp er sv, Fin ((b.drop F).take (U - F)) gT h pp er ∧ blk w' Kb 36 #[sv] ∧ OSt w.heap.size w' sv (kyF h) ∧ Below Kb w w' := by
  obtain ⟨kd, fr, to, dp, up, nt, ky, pl, fi⟩ := q
  obtain rfl : fr = (F : Int) := hF
  obtain rfl : to = (U : Int) := hU
  have HR := Lib.hid (And.intro hr (And.intro hev hK))
  clear hr hev hK
  have f0 : (0 : Int) ≤ (F : Int) := by omega
  have f1 : (F : Int) ≤ (U : Int) := by omega
  obtain ⟨a', c', e', hcc, _⟩ := HR.out.1
  cases e'
  have f2 : (U : Int) ≤ (c : Int) := by omega
  have f3 : F ≤ U := by omega
  have f4 : U ≤ c := by omega
  have f5 : F < c := by omega
  have f6 : F ≠ c := by omega
  have f7 : ¬ c - F = 0 := by omega
  have hl : ((b.drop F).take (U - F)).length = U - F := by rw [List.length_take, List.length_drop]; omega
  have b1 : Below w.heap.size w ((w.alloc (Obj.cells (Vi.cs ⟨kd, F, U, dp, up, nt, ky, pl, fi⟩) 45)).alloc (Obj.cells #[.func (.func 29) #[] #[.pointer (some ⟨Kb, 0, none⟩)]] 75)) := ((Below.refl _ _).alloc (Nat.le_refl _) _).alloc (by simp) _
  have hs1 : (w.alloc (Obj.cells (Vi.cs ⟨kd, F, U, dp, up, nt, ky, pl, fi⟩) 45)).heap.size = w.heap.size + 1 := by simp
  have hs2 : ((w.alloc (Obj.cells (Vi.cs ⟨kd, F, U, dp, up, nt, ky, pl, fi⟩) 45)).alloc (Obj.cells #[.func (.func 29) #[] #[.pointer (some ⟨Kb, 0, none⟩)]] 75)).heap.size = w.heap.size + 2 := by simp
  have hPb : blk ((w.alloc (Obj.cells (Vi.cs ⟨kd, F, U, dp, up, nt, ky, pl, fi⟩) 45)).alloc (Obj.cells #[.func (.func 29) #[] #[.pointer (some ⟨Kb, 0, none⟩)]] 75)) (w.heap.size + 1) 75 #[.func (.func 29) #[] #[.pointer (some ⟨Kb, 0, none⟩)]] := by
    have := heap_new (w.alloc (Obj.cells (Vi.cs ⟨kd, F, U, dp, up, nt, ky, pl, fi⟩) 45)) (Obj.cells #[.func (.func 29) #[] #[.pointer (some ⟨Kb, 0, none⟩)]] 75)
    rw [hs1] at this
    exact this
  have hKlt := HR.out.2.2.lt
  have hJ : JK Kb (w.heap.size + 1) (w.heap.size + 2) [] ((w.alloc (Obj.cells (Vi.cs ⟨kd, F, U, dp, up, nt, ky, pl, fi⟩) 45)).alloc (Obj.cells #[.func (.func 29) #[] #[.pointer (some ⟨Kb, 0, none⟩)]] 75)) (fun k => k = Kb ∨ k = w.heap.size + 1) :=
    ⟨by omega, by omega, by omega, by rw [hs2]; exact Nat.le_refl _, hPb, .slice none 0 0, HR.out.2.2.keep (b1.block _ hKlt), ost_nil _ _, fun k => ⟨fun h => by rcases h with h | h; exact .inl h; exact .inr (.inl h), fun h => by rcases h with h | h | h; exact .inl h; exact .inr h; cases h⟩⟩
  obtain ⟨a1, c1, e1, hcc1, hcell⟩ := HR.out.1.keep b1
  cases e1
  have hRB : RB ((w.alloc (Obj.cells (Vi.cs ⟨kd, F, U, dp, up, nt, ky, pl, fi⟩) 45)).alloc (Obj.cells #[.func (.func 29) #[] #[.pointer (some ⟨Kb, 0, none⟩)]] 75)) (.slice (some ⟨g, o + F, none⟩) (U - F) (c - F)) ((b.drop F).take (U - F)) := by
    rcases hcell with h0 | ⟨g', o', e', hg, hc⟩
    · rw [h0] at hUb; simp at hUb; omega
    · cases e'
      exact rb_cut hcc hFU hUb hg hc
  obtain ⟨a2, c2, e2, hcc2, htx⟩ := hRB
  have HCL : Hid (Calls Tryz.prog 30 #[.slice (some ⟨g, o + F, none⟩) (U - F) (c - F), .func (.func 46) #[] #[.pointer (some ⟨w.heap.size + 1, 0, none⟩)]] ((w.alloc (Obj.cells (Vi.cs ⟨kd, F, U, dp, up, nt, ky, pl, fi⟩) 45)).alloc (Obj.cells #[.func (.func 29) #[] #[.pointer (some ⟨Kb, 0, none⟩)]] 75)) fun e w' => ∃ h p er S, e = .returned (.tuple #[.int .i64 p, .int .i64 er]) ∧ Fin ((b.drop F).take (U - F)) gT h p er ∧ JK Kb (w.heap.size + 1) (w.heap.size + 2) h w' S ∧ FV ((w.alloc (Obj.cells (Vi.cs ⟨kd, F, U, dp, up, nt, ky, pl, fi⟩) 45)).alloc (Obj.cells #[.func (.func 29) #[] #[.pointer (some ⟨Kb, 0, none⟩)]] 75)) w' (fun k => k = Kb ∨ k = w.heap.size + 1) S) := by
    have hlim2 : ((b.drop F).take (U - F)).length ≤ 1048576 := by rw [hl]; omega
    have := read26 (a := some ⟨g, o + F, none⟩) (c := c - F) (b := (b.drop F).take (U - F)) (visK hlim2 (A := Kb) (Kb := Kb) (Pb := w.heap.size + 1) (B := w.heap.size + 2) (Nat.le_refl _) (by omega)) hlim2 (by rw [hl]; omega) (.inr (fun g' o' e => by injection e with e; injection e with e; omega)) h4 (by rw [hs2]; omega) (HR.out.2.1.keep b1) (by
      rcases htx with h | ⟨g', o', e, h2, h3⟩
      · exact .inl h
      · exact .inr ⟨g', o', (by injection e2 with e3; rw [e3]; exact e), h2, h3⟩) hJ
    rw [hl] at this
    exact this
  have HB1 : Hid (Below w.heap.size w ((w.alloc (Obj.cells (Vi.cs ⟨kd, F, U, dp, up, nt, ky, pl, fi⟩) 45)).alloc (Obj.cells #[.func (.func 29) #[] #[.pointer (some ⟨Kb, 0, none⟩)]] 75)) ∧ Kb < w.heap.size) := ⟨b1, hKlt⟩
  clear hJ hPb b1 hs1 hs2 hcell hcc1 htx hcc2 e2 HR hl hcc
  go_enter Tryz.func28, Tryz.ntmps28
  go_wp2_with fail
  refine HCL.out.mono ?_
  rintro e w2 ⟨h, pp, er, S, rfl, hFin, ⟨_, _, _, _, _, sv, k1, k2, _⟩, hfv⟩
  have HX : Hid (∃ h pp er sv, Fin ((b.drop F).take (U - F)) gT h pp er ∧ blk w2 Kb 36 #[sv] ∧ OSt w.heap.size w2 sv (kyF h) ∧ Below Kb w w2) := by
    refine ⟨h, pp, er, sv, hFin, k1, ⟨k2.1, ?_⟩, ?_⟩
    · rcases k2.2 with q2 | ⟨g, cap, cur, e, h2, h3⟩
      · exact .inl q2
      · exact .inr ⟨g, cap, cur, e, by omega, h3⟩
    · obtain ⟨q1, q2⟩ := HB1.out
      exact ⟨hfv.os.trans q1.os, hfv.tape.trans q1.tape, hfv.output.trans q1.output, Nat.le_trans q1.size hfv.size, fun k hk => (hfv.block k (Nat.lt_of_lt_of_le (Nat.lt_trans hk q2) q1.size) (by show ¬ (k = Kb ∨ k = w.heap.size + 1); omega)).trans (q1.block k (Nat.lt_trans hk q2))⟩
  clear hFin k1 k2 hfv HCL
  go_wp2
  refine bodyPost_end (v := .tuple #[]) ?_ rfl ?_
  · show (results Tryz.f28 _).run Tryz.prog _ = _
    simp [results, Tryz.results28]
  · exact ⟨rfl, HX.out⟩
end Go.Proofs.YtdlnnnlmlaploabGreatDoor
namespace Go.Proofs.YtdlnnnlmlaploabGreatDoor
open Go.RowKit Go.Deep
def KEYP (b : List UInt8) (p : List (Int × ByteArray)) (B : Nat) (w : World) (v : Value) (er : Int) : Prop :=
  ∃ x e0, FND b p x e0 ∧ ((e0 ≠ 0 ∧ er = e0 ∧ v = .slice none 0 0) ∨ (e0 = 0 ∧ x.kd ≠ 4 ∧ er = 32 ∧ v = .slice none 0 0) ∨ (e0 = 0 ∧ x.kd = 4 ∧ er = 0 ∧ ∃ h pp e1, Fin (cutB b x) gT h pp e1 ∧ OSt B w v (kyF h)))
set_option maxRecDepth 10000 in
set_option maxHeartbeats 2000000 in
theorem keys15 (a : Option Addr) (c : Nat) (b : List UInt8) (w : World) (pa : Option Addr) (pc : Nat) (p : List (Int × ByteArray)) (hr : RB w (.slice a b.length c) b) (hev : EVw w) (hP : PSA w.heap.size w (.slice pa p.length pc) p) (hp : p.length ≤ 140737488351232) :
    Calls Tryz.prog 15 #[.slice a b.length c, .slice pa p.length pc] w fun e w' => ∃ v er, e = .returned (.tuple #[v, .int .i64 er]) ∧ KEYP b p w.heap.size w' v er ∧ Below w.heap.size w w' := by
  have HC := Lib.hid (ofKind27 a c b w pa pc p 4 hr hev hP hp)
  have HR := Lib.hid (And.intro hr hev)
  clear hr hev hP
  go_enter Tryz.func15, Tryz.ntmps15
  go_wp2_with fail
  refine HC.out.mono ?_
  rintro e w1 ⟨q, er, rfl, ⟨x, e0, hf, hcase⟩, hb1⟩
  have HB := Lib.hid hb1
  clear HC
  by_cases he : er = 0
  · subst he
    rcases hcase with ⟨hne, e⟩ | ⟨_, _, e⟩ | ⟨rfl, hk, _, heq, hto⟩
    · exact absurd e.symm hne
    · cases e
    obtain ⟨⟨F, U, hF', hU, hFU, hUb⟩, hlim⟩ := hf.inn
    have q1 : q.fr = (F : Int) := heq.fr.symm.trans hF'
    have q2 : q.to = (U : Int) := hto.symm.trans hU
    have hcut : cutB b x = (b.drop F).take (U - F) := by unfold cutB; rw [hF', hU]; rfl
    have hs1 : (w1.alloc (Obj.cells (Vi.cs q) 45)).heap.size = w1.heap.size + 1 := by simp
    have b2 : Below w.heap.size w ((w1.alloc (Obj.cells (Vi.cs q) 45)).alloc (Obj.cells #[.slice none 0 0] 36)) := (hb1.alloc hb1.size _).alloc (by simp; have := hb1.size; omega) _
    have hKb : blk ((w1.alloc (Obj.cells (Vi.cs q) 45)).alloc (Obj.cells #[.slice none 0 0] 36)) (w1.heap.size + 1) 36 #[.slice none 0 0] := by
      have := heap_new (w1.alloc (Obj.cells (Vi.cs q) 45)) (Obj.cells #[.slice none 0 0] 36)
      rw [hs1] at this
      exact this
    have h4 : 4 < w.heap.size := by obtain ⟨_, ⟨t, p, h2⟩⟩ := HR.out.2; exact World.block_lt_of_cell? w _ h2
    obtain ⟨a', c', e', hcc, hcell⟩ := HR.out.1
    cases e'
    rcases hcell with h0 | ⟨g, o, rfl, hg, hc⟩
    · rw [h0] at hUb; simp at hUb; omega
    have hsz := hb1.size
    have HP := Lib.hid (parts28 (w := (w1.alloc (Obj.cells (Vi.cs q) 45)).alloc (Obj.cells #[.slice none 0 0] 36)) (Kb := w1.heap.size + 1) g o c b q F U q1 q2 hFU hUb hlim (HR.out.1.keep b2) (HR.out.2.keep b2) hKb (by omega) (by omega))
    have HX : Hid (FND b p x 0 ∧ x.kd = 4 ∧ cutB b x = (b.drop F).take (U - F) ∧ Below w.heap.size w ((w1.alloc (Obj.cells (Vi.cs q) 45)).alloc (Obj.cells #[.slice none 0 0] 36)) ∧ w.heap.size ≤ w1.heap.size) := ⟨hf, hk, hcut, b2, hsz⟩
    obtain ⟨qkd, qfr, qto, qdp, qup, qnt, qky, qpl, qfi⟩ := q
    clear hf hk heq hto hcut b2 hKb h4 hc hg hcc hUb hFU hlim hF' hU q1 q2 hs1 hb1 HR hsz
    go_wp2_with fail
    refine HP.out.mono ?_
    rintro e w2 ⟨rfl, h, pp, e1, sv, hFin, k1, k2, hb2⟩
    obtain ⟨sa, sc, rfl⟩ := k2.form
    have c0 : w2.cell? ⟨w1.heap.size + 1, 0, none⟩ = some (.slice sa (kyF h).length sc) := k1.cell 0
    have HY : Hid (KEYP b p w.heap.size w2 (.slice sa (kyF h).length sc) 0 ∧ Below w.heap.size w w2) := by
      obtain ⟨p1, p2, p3, p4, p5⟩ := HX.out
      refine ⟨⟨x, 0, p1, .inr (.inr ⟨rfl, p2, rfl, h, pp, e1, by rw [p3]; exact hFin, ⟨k2.1, ?_⟩⟩)⟩, p4.trans (hb2.mono (by omega))⟩
      rcases k2.2 with q2 | ⟨g, cap, cur, e, h2, h3⟩
      · exact .inl q2
      · exact .inr ⟨g, cap, cur, e, Nat.le_trans p4.size h2, h3⟩
    clear hFin k1 k2 hb2 HP HX
    go_wp2
    go_ret2
    exact ⟨_, 0, rfl, HY.out.1, HY.out.2⟩
  · have he' : (er != 0) = true := by simpa using he
    have HX : Hid (KEYP b p w.heap.size w1 (.slice none 0 0) er) := by
      refine ⟨x, e0, hf, ?_⟩
      rcases hcase with ⟨hne, e⟩ | ⟨e1, e2, e3⟩ | ⟨_, _, e, _⟩
      · exact .inl ⟨hne, e, rfl⟩
      · exact .inr (.inl ⟨e1, e2, e3, rfl⟩)
      · exact absurd e he
    obtain ⟨qkd, qfr, qto, qdp, qup, qnt, qky, qpl, qfi⟩ := q
    clear hf hcase hb1
    go_wp2
    go_ret2
    refine ⟨_, er, rfl, ?_, HB.out.alloc HB.out.size _⟩
    obtain ⟨x, e0, hf, h⟩ := HX.out
    refine ⟨x, e0, hf, ?_⟩
    rcases h with h | h | ⟨_, _, e, _⟩
    · exact .inl h
    · exact .inr (.inl h)
    · exact absurd e he
end Go.Proofs.YtdlnnnlmlaploabGreatDoor
namespace Go.Proofs.YtdlnnnlmlaploabGreatDoor
open Go.RowKit Go.Deep
theorem fnd_sub {b : List UInt8} {p : List (Int × ByteArray)} {x : Vi} (h : FND b p x 0) : ∃ u, DOUT (cutB b x) u 0 0 ∧ u.k = x.kd := by
  obtain ⟨t, k, e0, hd, h⟩ := h
  rcases h with ⟨he, _, e⟩ | ⟨rfl, ⟨_, r, _, hx⟩ | ⟨hne, _⟩⟩
  · exact absurd e.symm he
  · exact sub_dout hd hx
  · exact absurd rfl hne
theorem leaf_same {b : List UInt8} {p : List (Int × ByteArray)} {kind : Int} {t t' : T} {er ev : Int} (h : LEAF b p kind t er) (h' : VALR b p t' ev) : (ev ≠ 0 ∧ er = ev ∧ t = t0) ∨ (ev = 0 ∧ t'.k ≠ kind ∧ er = 32 ∧ t = t0) ∨ (ev = 0 ∧ t'.k = kind ∧ er = 0 ∧ t = t') := by
  obtain ⟨x, e0, hf, h⟩ := h
  obtain ⟨x', e0', hf', h'⟩ := h'
  obtain ⟨rfl, rfl⟩ := hf.unique hf'
  rcases h' with ⟨hne, rfl, rfl⟩ | ⟨rfl, k, hd⟩
  · rcases h with ⟨_, rfl, rfl⟩ | ⟨e, _⟩ | ⟨e, _⟩
    · exact .inl ⟨hne, rfl, rfl⟩
    · exact absurd e hne
    · exact absurd e hne
  · obtain ⟨u, hu, huk⟩ := fnd_sub hf
    obtain ⟨rfl, rfl, rfl⟩ := DOUT.unique hu hd
    rcases h with ⟨hne, _⟩ | ⟨_, hk, rfl, rfl⟩ | ⟨_, hk, k2, hd2⟩
    · exact absurd rfl hne
    · exact .inr (.inl ⟨rfl, by rw [huk]; exact hk, rfl, rfl⟩)
    · obtain ⟨rfl, _, rfl⟩ := DOUT.unique hu hd2
      exact .inr (.inr ⟨rfl, by rw [huk]; exact hk, rfl, rfl⟩)
theorem keys_same {b : List UInt8} {p : List (Int × ByteArray)} {B B' : Nat} {w w' : World} {v v' : Value} {er er' : Int} (h : KEYP b p B w v er) (h' : KEYR b p B' w' v' er') : er = er' ∧ ∃ l, RStr w v l ∧ RStr w' v' l ∧ l.length ≤ 140737488351232 := by
  have nil : ∀ w : World, RStr w (.slice none 0 0) [] := fun w => ⟨none, 0, rfl, .inl rfl⟩
  obtain ⟨x, e0, hf, h⟩ := h
  obtain ⟨t', ev, hv, h'⟩ := h'
  have hv2 := hv
  obtain ⟨x', e0', hf', hc⟩ := hv
  obtain ⟨rfl, rfl⟩ := hf.unique hf'
  rcases hc with ⟨hne, rfl, rfl⟩ | ⟨rfl, k, hd⟩
  · rcases h with ⟨_, rfl, rfl⟩ | ⟨e, _⟩ | ⟨e, _⟩
    · rcases h' with ⟨_, rfl, rfl⟩ | ⟨e, _⟩ | ⟨e, _⟩
      · exact ⟨rfl, [], nil _, nil _, by simp⟩
      · exact absurd e hne
      · exact absurd e hne
    · exact absurd e hne
    · exact absurd e hne
  · obtain ⟨u, hu, huk⟩ := fnd_sub hf
    obtain ⟨rfl, rfl, rfl⟩ := DOUT.unique hu hd
    rcases h' with ⟨hne, _⟩ | ⟨_, hk', rfl, rfl⟩ | ⟨_, hk', rfl, ho'⟩
    · exact absurd rfl hne
    · rcases h with ⟨hne, _⟩ | ⟨_, hk, rfl, rfl⟩ | ⟨_, hk, _⟩
      · exact absurd rfl hne
      · exact ⟨rfl, [], nil _, nil _, by simp⟩
      · exact absurd (huk.trans hk) hk'
    · rcases h with ⟨hne, _⟩ | ⟨_, hk, _⟩ | ⟨_, hk, rfl, hh, pp, e1, hFin, ho⟩
      · exact absurd rfl hne
      · exact absurd (huk.symm.trans hk') hk
      · have e := hFin.keys (dout_txt hu).2.2 hu hk'
        rw [e] at ho
        refine ⟨rfl, keysT u, ho.rs, ho'.rs, ?_⟩
        have hs := hv2.small
        cases u with
        | no => simp [keysT]
        | mk k n s ln l dn ky dv =>
          show (lsN ky dn).length ≤ _
          rw [lsN_len]
          have := hs.2.1
          omega
/-- what the law's calls need -/
structure HLaw (w : World) (W : World) (a : Option Addr) (c : Nat) (a1 : Option Addr) (c1 : Nat) (b : List UInt8) (pa : Option Addr) (pc : Nat) (pa1 : Option Addr) (pc1 : Nat) (p : List (Int × ByteArray)) : Prop where
  rb : RB W (.slice a b.length c) b
  rc : RB W (.slice a1 b.length c1) b
  pp : PSA W.heap.size W (.slice pa p.length pc) p
  pw : PSA W.heap.size W (.slice pa1 p.length pc1) p
  ev : EVw W
  tb : TB W.heap.size W
  bel : Below w.heap.size w W
theorem HLaw.on {w W W' : World} {a : Option Addr} {c : Nat} {a1 : Option Addr} {c1 : Nat} {b : List UInt8} {pa : Option Addr} {pc : Nat} {pa1 : Option Addr} {pc1 : Nat} {p : List (Int × ByteArray)} (h : HLaw w W a c a1 c1 b pa pc pa1 pc1 p) (hb : Below W.heap.size W W') : HLaw w W' a c a1 c1 b pa pc pa1 pc1 p :=
  ⟨h.rb.keep hb, h.rc.keep hb, h.pp.on hb, h.pw.on hb, h.ev.keep hb, tb_up (h.tb.on hb) hb.size, h.bel.trans (hb.mono h.bel.size)⟩
theorem HLaw.alloc {w W : World} {a : Option Addr} {c : Nat} {a1 : Option Addr} {c1 : Nat} {b : List UInt8} {pa : Option Addr} {pc : Nat} {pa1 : Option Addr} {pc1 : Nat} {p : List (Int × ByteArray)} (h : HLaw w W a c a1 c1 b pa pc pa1 pc1 p) (o : Obj) : HLaw w (W.alloc o) a c a1 c1 b pa pc pa1 pc1 p :=
  h.on ((Below.refl _ _).alloc (Nat.le_refl _) _)
set_option maxRecDepth 10000 in
set_option maxHeartbeats 2000000 in
theorem reads4 (v pv : Value) (b : List UInt8) (p : List (Int × ByteArray)) (w : World) (hr : RB w v b) (hs : v = .slice none 0 0 ∨ ∃ ad n c, v = .slice (some ad) n c) (hl : b.length ≤ 140737488351232) (hP : PSA w.heap.size w pv p) (hPs : pv = .slice none 0 0 ∨ ∃ ad n c, pv = .slice (some ad) n c) (hp : p.length * 24 ≤ 140737488355328) (hev : EVw w) (hT : TB w.heap.size w) :
    Calls Tryz.prog 4 #[v, pv] w fun e w' => e = .returned (.bool true) ∧ Below w.heap.size w w' := by
  have HR := Lib.hid (And.intro hr (And.intro hs (And.intro hev (And.intro hT (And.intro hP hPs)))))
  obtain ⟨a, c, rfl, _⟩ := hr
  obtain ⟨pa, pc, rfl, _⟩ := hP
  have hp2 : p.length ≤ 140737488351232 := by omega
  clear hs hev hT hPs
  go_enter Tryz.func4, Tryz.ntmps4
  go_wp2_with fail
  refine (twin13 _ b w HR.out.1 HR.out.2.1 hl).mono ?_
  rintro e w1 ⟨v1, rfl, ho, hb1⟩
  obtain ⟨a1, c1, rfl⟩ := ho.form'
  have HO : Hid (RB w1 (.slice a1 b.length c1) b ∧ RB w1 (.slice a b.length c) b ∧ EVw w1 ∧ TB w1.heap.size w1 ∧ Below w.heap.size w w1 ∧ PSA w1.heap.size w1 (.slice pa p.length pc) p ∧ (Value.slice pa p.length pc = .slice none 0 0 ∨ ∃ ad n c, Value.slice pa p.length pc = .slice (some ad) n c)) := ⟨ho.rb, HR.out.1.keep hb1, HR.out.2.2.1.keep hb1, tb_up (HR.out.2.2.2.1.on hb1) hb1.size, hb1, HR.out.2.2.2.2.1.on hb1, HR.out.2.2.2.2.2⟩
  clear ho hb1 HR
  go_wp2_with fail
  refine (twinSteps15 _ p w1 HO.out.2.2.2.2.2.1 HO.out.2.2.2.2.2.2 hp).mono ?_
  rintro e w2 ⟨v2, rfl, ho, hb2⟩
  obtain ⟨pa1, pc1, rfl⟩ : ∃ pa1 pc1, v2 = .slice pa1 p.length pc1 := by
    obtain ⟨pa1, pc1, e, _⟩ := (PSA.of_own ho).1
    exact ⟨pa1, pc1, e⟩
  have H2 : Hid (HLaw w w2 a c a1 c1 b pa pc pa1 pc1 p) := by
    obtain ⟨q1, q2, q3, q4, q5, q6, _⟩ := HO.out
    exact ⟨q2.keep hb2, q1.keep hb2, q6.on hb2, (PSA.of_own ho).1, q3.keep hb2, tb_up (q4.on hb2) hb2.size, q5.trans (hb2.mono q5.size)⟩
  clear HO ho hb2
  go_wp2_with fail
  refine (int11 a c b w2 pa pc p H2.out.rb H2.out.ev H2.out.pp hp2).mono ?_
  rintro e w3 ⟨t, er, rfl, hf, hb3⟩
  have H3 : Hid (HLaw w w3 a c a1 c1 b pa pc pa1 pc1 p ∧ LEAF b p 1 t er) := ⟨H2.out.on hb3, hf⟩
  clear hf hb3 H2
  go_wp2_with fail
  refine (int12 _ _ b p w3 H3.out.1.rc hl H3.out.1.tb H3.out.1.pw hp2).mono ?_
  rintro e w4 ⟨n, er', rfl, ⟨t', ev, hv, hcs⟩, hb4⟩
  obtain ⟨rfl, rfl⟩ : t.n = n ∧ er = er' := by
    rcases leaf_same H3.out.2 hv with ⟨h1, rfl, rfl⟩ | ⟨rfl, h2, rfl, rfl⟩ | ⟨rfl, h2, rfl, rfl⟩
    · rcases hcs with ⟨_, rfl, rfl⟩ | ⟨e, _⟩ | ⟨e, _⟩
      · exact ⟨rfl, rfl⟩
      · exact absurd e h1
      · exact absurd e h1
    · rcases hcs with ⟨e, _⟩ | ⟨_, _, rfl, rfl⟩ | ⟨_, e, _⟩
      · exact absurd rfl e
      · exact ⟨rfl, rfl⟩
      · exact absurd e h2
    · rcases hcs with ⟨e, _⟩ | ⟨_, e, _⟩ | ⟨_, _, rfl, rfl⟩
      · exact absurd rfl e
      · exact absurd h2 e
      · exact ⟨rfl, rfl⟩
  have H4 : Hid (HLaw w w4 a c a1 c1 b pa pc pa1 pc1 p) := H3.out.1.on hb4
  clear hv hcs hb4 H3
  go_wp2_with fail
  refine (str13 a c b w4 pa pc p H4.out.rb H4.out.ev H4.out.pp hp2).mono ?_
  rintro e w5 ⟨ts, ers, rfl, hf, hb5⟩
  have H5 : Hid (HLaw w w5 a c a1 c1 b pa pc pa1 pc1 p ∧ LEAF b p 2 ts ers) := ⟨H4.out.on hb5, hf⟩
  clear hf hb5 H4
  go_wp2_with fail
  refine (str14 _ _ b p w5 H5.out.1.rc hl H5.out.1.tb H5.out.1.pw hp2).mono ?_
  rintro e w6 ⟨s, ers', rfl, ⟨t', ev, hv, hcs⟩, hb6⟩
  obtain ⟨rfl, rfl⟩ : ts.s = s ∧ ers = ers' := by
    rcases leaf_same H5.out.2 hv with ⟨h1, rfl, rfl⟩ | ⟨rfl, h2, rfl, rfl⟩ | ⟨rfl, h2, rfl, rfl⟩
    · rcases hcs with ⟨_, rfl, rfl⟩ | ⟨e, _⟩ | ⟨e, _⟩
      · exact ⟨rfl, rfl⟩
      · exact absurd e h1
      · exact absurd e h1
    · rcases hcs with ⟨e, _⟩ | ⟨_, _, rfl, rfl⟩ | ⟨_, e, _⟩
      · exact absurd rfl e
      · exact ⟨rfl, rfl⟩
      · exact absurd e h2
    · rcases hcs with ⟨e, _⟩ | ⟨_, e, _⟩ | ⟨_, _, rfl, rfl⟩
      · exact absurd rfl e
      · exact absurd h2 e
      · exact ⟨rfl, rfl⟩
  have H6 : Hid (HLaw w w6 a c a1 c1 b pa pc pa1 pc1 p) := H5.out.1.on hb6
  clear hv hcs hb6 H5
  go_wp2_with fail
  refine (keys15 a c b w6 pa pc p H6.out.rb H6.out.ev H6.out.pp hp2).mono ?_
  rintro e w7 ⟨kv, erk, rfl, hk, hb7⟩
  have H7 : Hid (HLaw w w7 a c a1 c1 b pa pc pa1 pc1 p ∧ KEYP b p w6.heap.size w7 kv erk) := ⟨H6.out.on hb7, hk⟩
  clear hk hb7 H6
  go_wp2_with fail
  refine (keys16 _ _ b p w7 H7.out.1.rc hl H7.out.1.tb H7.out.1.pw hp2).mono ?_
  rintro e w8 ⟨kv', erk', rfl, hk, hb8⟩
  obtain ⟨rfl, l, r1, r2, hll⟩ := keys_same H7.out.2 hk
  have H8 : Hid (HLaw w w8 a c a1 c1 b pa pc pa1 pc1 p ∧ RStr w8 kv l ∧ RStr w8 kv' l) := ⟨H7.out.1.on hb8, r1.keep hb8, r2⟩
  clear hk hb8 r1 r2 H7
  go_wp2_with fail
  refine (textsSame17 _ _ l _ hll H8.out.2.1 H8.out.2.2).mono ?_
  rintro e w9 ⟨rfl, hb9⟩
  have HA : Hid (HLaw w w9 a c a1 c1 b pa pc pa1 pc1 p) := H8.out.1.on hb9
  clear H8 hb9
  go_wp2_with fail
  refine (same9 _ _ b _ hl HA.out.rb HA.out.rc).mono ?_
  rintro e w10 ⟨rfl, nq2, rfl⟩
  have HB : Hid (HLaw w (w9.drewN nq2) a c a1 c1 b pa pc pa1 pc1 p) := HA.out.on ⟨rfl, rfl, rfl, Nat.le_refl _, fun _ _ => rfl⟩
  clear HA
  generalize w9.drewN nq2 = w10 at *
  go_wp2_with fail
  refine (stepsSame19 _ _ p _ hp2 HB.out.pp HB.out.pw).mono ?_
  rintro e w11 ⟨rfl, hb11⟩
  have HC : Hid (Below w.heap.size w w11) := HB.out.bel.trans (hb11.mono HB.out.bel.size)
  clear HB hb11
  go_wp2
  go_ret
  exact ⟨rfl, HC.out⟩
end Go.Proofs.YtdlnnnlmlaploabGreatDoor
