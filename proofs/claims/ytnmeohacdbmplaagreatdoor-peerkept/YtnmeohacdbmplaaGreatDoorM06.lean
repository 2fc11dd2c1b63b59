import Derived.Test.YtnmeohacdbmplaaGreatDoorM05
import Derived.Great.BuildSlice
namespace Go.Proofs.YtnmeohacdbmplaaGreatDoor
open Go.RowKit
/-- what Decode answers -/
def DCR (w w' : World) (e : Ending) (l : List UInt8) : Prop := ∃ d h, e = .returned (.tuple #[.agg ({ (decS l).m with d := d, h := h } : Mv).cs, .int .i64 (decE l)]) ∧ OW w.heap.size w' d (decS l).D ∧ OH w.heap.size w' h (decS l).hb ∧ Below w.heap.size w w'
theorem results_msg2 {fn : Func} {p q : Tmp} (h : fn.results = #[.cell p 47, .tmp q]) (tmps : Array Value) (w : World) (g : Nat) (m : Mv)
    (hp : tmps.getD p undef = .pointer (some ⟨g, 0, none⟩)) (hg : MB w g m) (ok : m.ok) : (results fn tmps).run Tryz.prog w = .ok (.tuple #[.agg m.cs, tmps.getD q undef]) w := by
  have hp' : tmps[p]?.getD undef = .pointer (some ⟨g, 0, none⟩) := by simpa using hp
  simp [results, h, hp', asAddr, run_loadVar_row w g 47 47 m.cs (0, 0) _ hg Tryz.underlying47 rfl (info_msg ok)]
theorem DCR.err {w w' : World} {e : Ending} {l : List UInt8} (hE : decE l ≠ 0) (he : e = .returned (.tuple #[.agg zm.cs, .int .i64 (decE l)])) (hb : Below w.heap.size w w') : DCR w w' e l := by
  have hS : decS l = ⟨zm, [], [], []⟩ := by unfold decS; exact if_neg hE
  unfold DCR
  rw [hS]
  exact ⟨_, _, he, World.ownsRow_nil _ _ _ _, OH.nil _ _, hb⟩
abbrev z40 : Array Value := #[Value.int .i64 0, Value.int .i64 0, Value.int .i64 0, Value.int .i64 0, Value.slice none 0 0, Value.int .u8 0, Value.int .u8 0, Value.int .u8 0, Value.int .u8 0, Value.int .u8 0, Value.int .u8 0, Value.int .u8 0, Value.int .u8 0, Value.int .u8 0, Value.int .u8 0, Value.int .u8 0, Value.int .u8 0, Value.int .u8 0, Value.int .u8 0, Value.int .u8 0, Value.int .u8 0, Value.int .u8 0, Value.int .u8 0, Value.int .u8 0, Value.int .u8 0, Value.int .u8 0, Value.int .u8 0, Value.int .u8 0, Value.int .u8 0, Value.int .u8 0, Value.int .u8 0, Value.int .u8 0, Value.int .u8 0, Value.int .u8 0, Value.int .u8 0, Value.int .u8 0, Value.int .u8 0, Value.int .i64 0, Value.int .i64 0, Value.slice none 0 0]
abbrev zk40 (k : Int) : Array Value := #[Value.int .i64 k, Value.int .i64 0, Value.int .i64 0, Value.int .i64 0, Value.slice none 0 0, Value.int .u8 0, Value.int .u8 0, Value.int .u8 0, Value.int .u8 0, Value.int .u8 0, Value.int .u8 0, Value.int .u8 0, Value.int .u8 0, Value.int .u8 0, Value.int .u8 0, Value.int .u8 0, Value.int .u8 0, Value.int .u8 0, Value.int .u8 0, Value.int .u8 0, Value.int .u8 0, Value.int .u8 0, Value.int .u8 0, Value.int .u8 0, Value.int .u8 0, Value.int .u8 0, Value.int .u8 0, Value.int .u8 0, Value.int .u8 0, Value.int .u8 0, Value.int .u8 0, Value.int .u8 0, Value.int .u8 0, Value.int .u8 0, Value.int .u8 0, Value.int .u8 0, Value.int .u8 0, Value.int .i64 0, Value.int .i64 0, Value.slice none 0 0]
theorem zk40_cs (k : Int) : zk40 k = (zmk k).cs := rfl
theorem zmk_ok (k : Int) : (zmk k).ok := ⟨zr_len 32, ⟨_, _, _, rfl⟩, ⟨_, _, _, rfl⟩⟩
theorem zk40_info (k : Int) : (Tryz.prog.info? 47).map (·.size) = some (zk40 k).size := by kernel_rfl
theorem zk40_one (k : Int) : (zk40 k).all (·.oneCell') = true := by rw [zk40_cs]; exact (zmk_ok k).one
theorem zk40_built (k : Int) : Tryz.prog.built 47 [(0, .int .i64 k)] = some (zk40 k) := by kernel_rfl
theorem z40_cs : z40 = zm.cs := rfl
theorem z40_info : (Tryz.prog.info? 47).map (·.size) = some z40.size := by kernel_rfl
theorem z40_one : z40.all (·.oneCell') = true := by rw [z40_cs]; exact zm_ok.one
theorem NDS.take {cs : List Nat} {l : List UInt8} (h : NDS cs l) (n : Nat) : NDS (cs.take n) l := by
  induction cs generalizing l n with
  | nil => simp [NDS]
  | cons c cs ih =>
    cases n with
    | zero => exact trivial
    | succ n => exact ⟨h.1, ih h.2 n⟩
theorem OH.grow {B : Nat} {w w' : World} {v : Value} {l : List UInt8} (h : OH B w v l) (hb : Below w.heap.size w w') : OH B w' v l := by
  obtain ⟨n, e, h⟩ := h
  refine ⟨n, e, h.1, ?_⟩
  rcases h.2 with h1 | ⟨k, cap, cur, h1, h2, h3, h4⟩
  · exact .inl h1
  · exact .inr ⟨k, cap, cur, h1, h2, (hb.block k (Array.getElem?_eq_some_iff.1 h3).1).trans h3, h4⟩
theorem OH.form {B : Nat} {w : World} {v : Value} {l : List UInt8} (h : OH B w v l) : ∃ a n c, v = .slice a n c := by
  obtain ⟨a, n, c, e, _⟩ := h.rh
  exact ⟨a, n, c, e⟩
/-- the state of the reading behind n fields -/
def decN (r : Kr) (l : List UInt8) (n : Nat) : Ds := Ds.tks (r.cs.take n) ⟨zmk r.k, [], [], l⟩
theorem decN_succ (r : Kr) (l : List UInt8) (n c : Nat) (h : r.cs[n]? = some c) : decN r l (n + 1) = Ds.tk c (decN r l n) := by
  unfold decN
  rw [show r.cs.take (n + 1) = r.cs.take n ++ [c] by rw [List.take_add_one, h]; rfl, tks_snoc]
theorem decN_nds (r : Kr) (l : List UInt8) (n c : Nat) (hd : NDS r.cs l) (h : r.cs[n]? = some c) : nds c (decN r l n).l := by
  unfold decN
  rw [tks_l]
  exact hd.at n c h
theorem decN_le (r : Kr) (l : List UInt8) (n : Nat) : (decN r l n).l.length ≤ l.length := by
  unfold decN
  rw [tks_l]
  exact rsts_le _ _
theorem decN_r (r : Kr) (l : List UInt8) (n : Nat) (hd : NDS r.cs l) : (decN r l n).m.r.length = 32 := tks_r _ _ (zr_len 32) (hd.take n)
/-- what the loop of Decode keeps -/
def DIN (w wr : World) (M : Nat) (u fv : Value) (r : Kr) (l : List UInt8) (n : Nat) : Prop :=
  ∃ d h, RB w u (decN r l n).l ∧ MB wr M { (decN r l n).m with d := d, h := h } ∧ OW w.heap.size wr d (decN r l n).D ∧ OH w.heap.size wr h (decN r l n).hb ∧ FS wr fv r.cs ∧ Below w.heap.size w wr ∧ wr.heap[w.heap.size]? = some (.cells z40 47 (0, 0))
theorem MB.noField {w : World} {g k : Nat} {m : Mv} {cur : Array Value} (h : MB w g m) (hk : w.heap[k]? = some (.cells cur 144 (0, 0))) : k ≠ g := by
  rintro rfl
  unfold MB at h
  rw [hk] at h
  simp at h
theorem DIN.next {w wr w' : World} {M : Nat} {v' fv : Value} {r : Kr} {l : List UInt8} {n c : Nat} {d h d' h' : Value} (hc : r.cs[n]? = some c) (hM : w.heap.size < M) (hm : MB wr M { (decN r l n).m with d := d, h := h })
    (h2 : RB w v' (rst c (decN r l n).l)) (h3 : MB w' M { upd c { (decN r l n).m with d := d, h := h } (decN r l n).l with d := d', h := h' }) (h4 : OW w.heap.size w' d' (dD c (decN r l n).l (decN r l n).D)) (h5 : OH w.heap.size w' h' (dH c (decN r l n).l (decN r l n).hb)) (hb : Besides M wr w')
    (hf : FS wr fv r.cs) (hw : Below w.heap.size w wr) (hz : wr.heap[w.heap.size]? = some (.cells z40 47 (0, 0))) : DIN w w' M v' fv r l (n + 1) := by
  unfold DIN
  rw [decN_succ r l n c hc]
  rw [upd_dh] at h3
  exact ⟨d', h', h2, h3, h4, h5, hf.keep hb hm, hb.below hw (Nat.le_of_lt hM) hw.size, (hb.block _ (Array.getElem?_eq_some_iff.1 hz).1 (Nat.ne_of_lt hM)).trans hz⟩
set_option maxHeartbeats 2000000 in
set_option maxRecDepth 100000 in
theorem decodeT (w : World) (v : Value) (l : List UInt8) (hl : l.length ≤ 140737488351232) (hr : RB w v l) (hk : KT w) :
    Calls Tryz.prog 61 #[v] w fun e w' => DCR w w' e l := by
  obtain ⟨a, c, rfl, hlc⟩ : ∃ a c, v = .slice a l.length c ∧ l.length ≤ c := by obtain ⟨a, c, e, h, _⟩ := id hr; exact ⟨a, c, e, h⟩
  have HR : Hid (RB w (.slice a l.length c) l ∧ KT w) := ⟨hr, hk⟩
  have hz := heapNew w (.cells z40 47)
  have b0 : Below w.heap.size w (w.alloc (.cells z40 47)) := (Below.refl _ _).alloc (Nat.le_refl _) _
  clear hr hk
  by_cases h1 : 32768 < l.length
  · have HE : Hid (decE l = 111) := by unfold Hid decE; rw [if_pos h1]
    go_enter Tryz.func61, Tryz.ntmps61
    go_wp2_with (first | (refine wpList_store_row rfl 47 _ _ rfl w.heap.size z40 rfl rfl 47 z40 hz z40_info rfl z40_one ?_))
    exact bodyPost_ret (results_msg2 Tryz.results61 _ _ w.heap.size zm rfl (heapSetRow _ _ _ _ _ hz) zm_ok) rfl (DCR.err (by rw [HE.out]; decide) (by rw [HE.out]; rfl) (belowSetRow b0 (Nat.le_refl _) _))
  · have HA : Hid (RB (w.alloc (.cells z40 47)) (.slice a l.length c) l ∧ KT (w.alloc (.cells z40 47)) ∧ Below w.heap.size w (w.alloc (.cells z40 47)) ∧ w.heap.size < (w.alloc (.cells z40 47)).heap.size) := ⟨HR.out.1.keep b0, HR.out.2.below b0 HR.out.2.pos, b0, by simp⟩
    clear b0
    go_enter Tryz.func61, Tryz.ntmps61
    go_wp2_with fail
    generalize w.alloc (.cells z40 47) = w0 at *
    refine (kindOfT w0 _ l hl HA.out.1).mono ?_
    rintro e w0' ⟨rfl, rfl⟩
    go_wp2_with fail
    refine (rowOfT w0' (kindB l) HA.out.2.1).mono ?_
    rintro e w1 ⟨rfl, b1⟩
    have HB : Hid (w1.heap[w.heap.size]? = some (.cells z40 47 (0, 0)) ∧ Below w.heap.size w w1 ∧ w.heap.size < w1.heap.size) := ⟨(b1.block _ HA.out.2.2.2).trans hz, HA.out.2.2.1.trans (b1.mono (Nat.le_of_lt HA.out.2.2.2)), Nat.lt_of_lt_of_le HA.out.2.2.2 b1.size⟩
    clear HA b1 hz
    have hz := HB.out.1
    have HG := heapNew w1 (.cells z11 126)
    cases hrf : rowFor (kindB l) with
    | none =>
      have HE : Hid (decE l = 110) := by unfold Hid decE; rw [if_neg h1, hrf]
      have hiz : (Tryz.prog.info? 126).map (·.size) = some zrow.ls.toArray.size := info_row
      have h1z : zrow.ls.toArray.all (·.oneCell') = true := row_one _
      have hz2 : ((w1.alloc (.cells z11 126)).setRow w1.heap.size zrow.ls.toArray).heap[w.heap.size]? = some (.cells z40 47 (0, 0)) := by
        rw [setRow_other _ _ _ _ (Nat.ne_of_lt HB.out.2.2), heapOld _ _ _ HB.out.2.2]; exact hz
      have b2 : Below w.heap.size w ((w1.alloc (.cells z11 126)).setRow w1.heap.size zrow.ls.toArray) := belowSetRow (HB.out.2.1.alloc (Nat.le_of_lt HB.out.2.2) _) (Nat.le_of_lt HB.out.2.2) _
      clear hrf hz
      simp only [Option.getD_none, Option.isSome_none]
      go_wp2_with (first | (refine wpList_store_row rfl 126 _ _ rfl w1.heap.size zrow.ls.toArray rfl rfl 126 z11 HG hiz rfl h1z ?_) | (refine wpList_store_row rfl 47 _ _ rfl w.heap.size z40 rfl rfl 47 z40 hz2 z40_info rfl z40_one ?_))
      exact bodyPost_ret (results_msg2 Tryz.results61 _ _ w.heap.size zm rfl (heapSetRow _ _ _ _ _ hz2) zm_ok) rfl (DCR.err (by rw [HE.out]; decide) (by rw [HE.out]; rfl) (belowSetRow b2 (Nat.le_refl _) _))
    | some r =>
      obtain ⟨hmem, hrk⟩ := rowFor_mem hrf
      obtain ⟨hf7, hf11, hst, hle, hle2, hcs⟩ := rws_all r hmem
      have hi := info_rowK r hf7
      have h1r := row_one r
      have hzr : z11.size = r.ls.toArray.size := by simp [Kr.ls, rowL, fcs, hf7]
      have hG2 := heapSetRow _ _ _ r.ls.toArray _ HG
      simp only [Option.getD_some, Option.isSome_some]
      have HQ : Hid (rowFor (kindB l) = some r ∧ r ∈ rws ∧ r.fs.length = 7 ∧ (∀ c ∈ r.fs, c ≤ 11) ∧ 1 ≤ r.st ∧ 0 ≤ r.le ∧ r.le ≤ 1000000 ∧ r.cs.length ≤ 7) := ⟨hrf, hmem, hf7, hf11, hst, hle, hle2, hcs⟩
      clear hrf hmem hrk hf7 hf11 hst hle hle2 hcs
      go_wp2_with (first | (refine wpList_store_row rfl 126 _ _ rfl w1.heap.size r.ls.toArray rfl rfl 126 z11 HG hi hzr h1r ?_) | (refine wpList_load_row rfl 126 _ rfl w1.heap.size rfl 126 r.ls.toArray (0, 0) _ hG2 Tryz.underlying126 rfl hi ?_))
      have HX : Hid (((w1.alloc (.cells z11 126)).setRow w1.heap.size r.ls.toArray).heap[w.heap.size]? = some (.cells z40 47 (0, 0)) ∧ Below w.heap.size w ((w1.alloc (.cells z11 126)).setRow w1.heap.size r.ls.toArray) ∧ w1.heap.size < ((w1.alloc (.cells z11 126)).setRow w1.heap.size r.ls.toArray).heap.size ∧ w.heap.size < w1.heap.size) := by
        refine ⟨?_, belowSetRow (HB.out.2.1.alloc (Nat.le_of_lt HB.out.2.2) _) (Nat.le_of_lt HB.out.2.2) _, (Array.getElem?_eq_some_iff.1 hG2).1, HB.out.2.2⟩
        rw [setRow_other _ _ _ _ (Nat.ne_of_lt HB.out.2.2), heapOld _ _ _ HB.out.2.2]; exact hz
      clear HG hzr HB hz
      generalize (w1.alloc (.cells z11 126)).setRow w1.heap.size r.ls.toArray = X at *
      generalize hG : w1.heap.size = G at *
      clear hG w1 w0'
      refine (fitsT X r (l.length : Int) (by omega) (by omega) HQ.out.2.2.2.2.1 HQ.out.2.2.2.2.2.1 HQ.out.2.2.2.2.2.2.1).mono ?_
      rintro e w2 ⟨rfl, b2⟩
      have HY : Hid (w2.heap[w.heap.size]? = some (.cells z40 47 (0, 0)) ∧ Below w.heap.size w w2 ∧ G < w2.heap.size ∧ w.heap.size < G) := by
        have hlt : w.heap.size < X.heap.size := Nat.lt_trans HX.out.2.2.2 HX.out.2.2.1
        exact ⟨(b2.block _ hlt).trans HX.out.1, HX.out.2.1.trans (b2.mono (Nat.le_of_lt hlt)), Nat.lt_of_lt_of_le HX.out.2.2.1 b2.size, HX.out.2.2.2⟩
      have hG3 := (b2.block G HX.out.2.2.1).trans hG2
      have hz := HY.out.1
      clear HX b2 hG2
      by_cases q1 : r.fit (l.length : Int) = true
      · rw [q1]
        have HF : Hid (r.fit (l.length : Int) = true) := q1
        clear q1
        have c0 : w2.cell? ⟨G, 0, none⟩ = some (.int .i64 r.k) := rangeOf hG3 0 _ rfl
        have hzn := heapNew w2 (.cells z40 47)
        have hG4 : ((w2.alloc (.cells z40 47)).setRow w2.heap.size (zk40 r.k)).heap[G]? = some (.cells r.ls.toArray 126 (0, 0)) := (setRow_other _ _ _ _ (Nat.ne_of_lt HY.out.2.2.1)).trans ((heapOld _ _ _ HY.out.2.2.1).trans hG3)
        have hki := zk40_info r.k
        have hko := zk40_one r.k
        have hkb := zk40_built r.k
        go_wp2_with (first | (refine wpList_built rfl 47 _ rfl (zk40 r.k) hkb ?_) | (refine wpList_store_row rfl 47 _ _ rfl w2.heap.size (zk40 r.k) rfl rfl 47 z40 hzn hki rfl hko ?_) | (refine wpList_load_row rfl 126 _ rfl G rfl 126 r.ls.toArray (0, 0) _ hG4 Tryz.underlying126 rfl hi ?_))
        have HZ : Hid (((w2.alloc (.cells z40 47)).setRow w2.heap.size (zk40 r.k)).heap[w.heap.size]? = some (.cells z40 47 (0, 0)) ∧ Below w.heap.size w ((w2.alloc (.cells z40 47)).setRow w2.heap.size (zk40 r.k)) ∧ w2.heap.size < ((w2.alloc (.cells z40 47)).setRow w2.heap.size (zk40 r.k)).heap.size ∧ MB ((w2.alloc (.cells z40 47)).setRow w2.heap.size (zk40 r.k)) w2.heap.size (zmk r.k) ∧ w.heap.size < w2.heap.size) := by
          have hlt : w.heap.size < w2.heap.size := Nat.lt_trans HY.out.2.2.2 HY.out.2.2.1
          have hs := heapSetRow _ _ _ (zk40 r.k) _ hzn
          exact ⟨(setRow_other _ _ _ _ (Nat.ne_of_lt hlt)).trans ((heapOld _ _ _ hlt).trans hz), belowSetRow (HY.out.2.1.alloc (Nat.le_of_lt hlt) _) (Nat.le_of_lt hlt) _, (Array.getElem?_eq_some_iff.1 hs).1, hs, hlt⟩
        clear HY hG3 hz c0 hG4 hzn hki hko hkb
        generalize (w2.alloc (.cells z40 47)).setRow w2.heap.size (zk40 r.k) = Y at *
        generalize hM : w2.heap.size = M at *
        clear hM w2 X
        generalize (#[Value.int .i64 r.k, Value.int .i64 0, Value.int .i64 0, Value.int .i64 0, Value.slice none 0 0, Value.int .u8 0, Value.int .u8 0, Value.int .u8 0, Value.int .u8 0, Value.int .u8 0, Value.int .u8 0, Value.int .u8 0, Value.int .u8 0, Value.int .u8 0, Value.int .u8 0, Value.int .u8 0, Value.int .u8 0, Value.int .u8 0, Value.int .u8 0, Value.int .u8 0, Value.int .u8 0, Value.int .u8 0, Value.int .u8 0, Value.int .u8 0, Value.int .u8 0, Value.int .u8 0, Value.int .u8 0, Value.int .u8 0, Value.int .u8 0, Value.int .u8 0, Value.int .u8 0, Value.int .u8 0, Value.int .u8 0, Value.int .u8 0, Value.int .u8 0, Value.int .u8 0, Value.int .u8 0, Value.int .i64 0, Value.int .i64 0, Value.slice none 0 0] : Array Value) = zk at *
        refine (madeT Y r.k r.le r.mo r.st r.fs HQ.out.2.2.1 HQ.out.2.2.2.1).mono ?_
        rintro e w3 ⟨v, W, rfl, ho, bw, b3⟩
        replace ho : OFS W.heap.size W w3 v r.cs := ho
        have bY : Below Y.heap.size Y w3 := bw.trans (b3.mono bw.size)
        have HV : Hid (FS w3 v r.cs ∧ MB w3 M (zmk r.k) ∧ Below w.heap.size w w3 ∧ w3.heap[w.heap.size]? = some (.cells z40 47 (0, 0)) ∧ M < w3.heap.size ∧ w.heap.size < M) := by
          have hlt : w.heap.size < Y.heap.size := Nat.lt_trans HZ.out.2.2.2.2 HZ.out.2.2.1
          exact ⟨ho.fs b3, HZ.out.2.2.2.1.below bY, HZ.out.2.1.trans (bY.mono (Nat.le_of_lt hlt)), (bY.block _ hlt).trans HZ.out.1, Nat.lt_of_lt_of_le HZ.out.2.2.1 bY.size, HZ.out.2.2.2.2⟩
        obtain ⟨va, vc, rfl⟩ := ho.form
        clear ho bw b3 bY HZ
        have HD : Hid (NDS r.cs l) := fit_NDS r HQ.out.2.1 l HF.out
        go_wp2_with fail
        generalize hln : r.cs.length = len at *
        have HN : Hid (r.cs.length = len) := hln
        have hlen7 : len ≤ 7 := by have := HQ.out.2.2.2.2.2.2.2; omega
        clear hln
        have HI0 : Hid (DIN w w3 M (.slice a l.length c) (.slice va len vc) r l 0) := ⟨.slice none 0 0, .slice none 0 0, HR.out.1, HV.out.2.1, World.ownsRow_nil _ _ _ _, OH.nil _ _, HV.out.1, HV.out.2.2.1, HV.out.2.2.2.1⟩
        have HM : Hid (w.heap.size < M) := HV.out.2.2.2.2.2
        clear HV
        go_loopw [0, 36] (fun u t wr => ∃ n : Nat, n ≤ len ∧ t = .int .i64 n ∧ Hid (DIN w wr M u (.slice va len vc) r l n)) (fun _ t _ => len - (intOf t).toNat)
        case atStart => exact ⟨0, by omega, rfl, HI0⟩
        case round =>
          obtain ⟨n, hn, rfl, hI⟩ := hrel
          by_cases hlt : n < len
          · have hl2 : n < r.cs.length := by rw [HN.out]; exact hlt
            have hx : r.cs[n]? = some r.cs[n] := List.getElem?_eq_getElem hl2
            generalize r.cs[n] = fc at hx
            obtain ⟨d, h, i1, i2, i3, i4, i5, i6, i7⟩ := hI.out
            obtain ⟨a', cap', e', hfa⟩ := id i5
            simp only [Value.slice.injEq] at e'
            obtain ⟨rfl, -, rfl⟩ := e'
            rcases hfa with h | ⟨GF, cur, rfl, hGF, hfa⟩
            · rw [h] at hl2; simp at hl2
            obtain ⟨vs, hv, hrr⟩ := hfa n fc hx
            obtain ⟨v0, v1, v2, v3, v4, rfl⟩ := hv.len
            have hGlt := (Array.getElem?_eq_some_iff.1 hGF).1
            have hi5 : (Tryz.prog.info? 144).map (·.size) = some [v0, v1, v2, v3, v4].length := info_field
            have hi5' : (Tryz.prog.info? 144).map (·.size) = some ([v0, v1, v2, v3, v4] : List Value).toArray.size := info_field
            have hone : ([v0, v1, v2, v3, v4] : List Value).toArray.all (·.oneCell') = true := hv.one
            have bx := bxw_below wr [v0, v1, v2, v3, v4]
            have hv2 : FLD (bxw wr [v0, v1, v2, v3, v4]) fc [v0, v1, v2, v3, v4] := hv.below bx
            obtain ⟨f, caps, rfl, he, hc⟩ := hv2.take
            have hok : Mv.ok { (decN r l n).m with d := d, h := h } := ⟨decN_r r l n HD.out, i3.form3, i4.form⟩
            have i2' := i2.below bx
            have hcall := hc w M _ (decN r l n).D (decN r l n).hb u0 _ i2' hok i1 (i6.trans (bx.mono i6.size)) (Nat.le_of_lt HM.out) (by have := decN_le r l n; omega) (decN_nds r l n fc HD.out hx) (i3.grow bx) (i4.grow bx)
            have HX : Hid (Calls Tryz.prog f (#[ptr M, u0] ++ caps) (bxw wr [v0, v1, clo f caps, v3, v4]) (fun e w' => TKR w (bxw wr [v0, v1, clo f caps, v3, v4]) w' e fc M { (decN r l n).m with d := d, h := h } (decN r l n).D (decN r l n).hb (decN r l n).l)) := hcall
            have HP : Hid (MB (bxw wr [v0, v1, clo f caps, v3, v4]) M { (decN r l n).m with d := d, h := h } ∧ FS (bxw wr [v0, v1, clo f caps, v3, v4]) (.slice (some ⟨GF, 0, none⟩) len vc) r.cs ∧ Below w.heap.size w (bxw wr [v0, v1, clo f caps, v3, v4]) ∧ (bxw wr [v0, v1, clo f caps, v3, v4]).heap[w.heap.size]? = some (.cells z40 47 (0, 0))) := ⟨i2', i5.below bx, i6.trans (bx.mono i6.size), (bx.block _ (Array.getElem?_eq_some_iff.1 i7).1).trans i7⟩
            have h3 : (bxw wr [v0, v1, clo f caps, v3, v4]).cell? ⟨wr.heap.size, 2, none⟩ = some (clo f caps) := rangeOf (bxw_heap _ _) 2 _ rfl
            have hg0 := heapNew wr (.cells nil5 144)
            obtain ⟨ua, uc, rfl, _⟩ := id i1
            clear hc hv2 hv hfa i1 i2 i3 i4 i5 i6 i7 hI bx hok i2' hcall
            go_wp2_with (first | (refine wpList_load_mid rfl 144 _ rfl GF (n * 5) rfl _ _ hrr Tryz.underlying144 rfl hi5 ?_) | (refine wpList_store_row rfl 144 _ _ rfl wr.heap.size _ rfl rfl 144 nil5 hg0 hi5' rfl hone ?_))
            refine HX.out.mono ?_
            rintro e w4 ⟨v', d', h', rfl, t2, t3, t4, t5, t6⟩
            have HE : Hid (DIN w w4 M v' (.slice (some ⟨GF, 0, none⟩) len vc) r l (n + 1)) := DIN.next hx HM.out HP.out.1 t2 t3 t4 t5 t6 HP.out.2.1 HP.out.2.2.1 HP.out.2.2.2
            clear t2 t3 t4 t5 t6 HX HP h3 hg0 hrr
            go_wp2
            exact ⟨⟨n + 1, by omega, by go_num, HE⟩, by simp [intOf]; omega⟩
          · obtain rfl : n = len := by omega
            have hN : decN r l n = decR r l := by
              unfold decN decR
              rw [List.take_of_length_le (by have := HN.out; omega)]
            obtain ⟨d, h, i1, i2, i3, i4, i5, i6, i7⟩ := hI.out
            rw [hN] at i2 i3 i4
            have hok : Mv.ok { (decR r l).m with d := d, h := h } := by
              have h9 := decN_r r l n HD.out
              rw [hN] at h9
              exact ⟨h9, i3.form3, i4.form⟩
            have HJ : Hid (MB wr M { (decR r l).m with d := d, h := h } ∧ OW w.heap.size wr d (decR r l).D ∧ OH w.heap.size wr h (decR r l).hb ∧ FS wr (.slice va n vc) r.cs ∧ Below w.heap.size w wr ∧ wr.heap[w.heap.size]? = some (.cells z40 47 (0, 0)) ∧ Mv.ok { (decR r l).m with d := d, h := h }) := ⟨i2, i3, i4, i5, i6, i7, hok⟩
            clear i1 i2 i3 i4 i5 i6 i7 hok hN hI
            go_wp2_with fail
            refine (allowedT wr _ r.cs M _ HJ.out.1 HJ.out.2.2.2.2.2.2 HJ.out.2.2.2.1 (by have := HN.out; omega)).mono ?_
            rintro e w5 ⟨rfl, b5⟩
            have HK : Hid (MB w5 M { (decR r l).m with d := d, h := h } ∧ OW w.heap.size w5 d (decR r l).D ∧ OH w.heap.size w5 h (decR r l).hb ∧ Below w.heap.size w w5 ∧ w5.heap[w.heap.size]? = some (.cells z40 47 (0, 0)) ∧ Mv.ok { (decR r l).m with d := d, h := h }) := ⟨HJ.out.1.below b5, HJ.out.2.1.grow b5, HJ.out.2.2.1.grow b5, HJ.out.2.2.2.2.1.trans (b5.mono HJ.out.2.2.2.2.1.size), (b5.block _ (Array.getElem?_eq_some_iff.1 HJ.out.2.2.2.2.2.1).1).trans HJ.out.2.2.2.2.2.1, HJ.out.2.2.2.2.2.2⟩
            clear b5 HJ
            rw [lks_same]
            have hz := HK.out.2.2.2.2.1
            by_cases q2 : lks r.cs (decR r l).m = true
            · have HE : Hid (decE l = 0 ∧ decS l = decR r l) := by
                have hE : decE l = 0 := by unfold decE; rw [if_neg h1, HQ.out.1]; simp [HF.out, q2]
                refine ⟨hE, ?_⟩
                unfold decS
                rw [if_pos hE, HQ.out.1]
              rw [q2]
              clear q2
              have hm := HK.out.1.cells
              have him := info_msg HK.out.2.2.2.2.2
              have hone := HK.out.2.2.2.2.2.one
              have hsz : z40.size = (Mv.cs { (decR r l).m with d := d, h := h }).size := HK.out.2.2.2.2.2.size.symm
              have HS := MB.setRow (m := zm) (m' := { (decR r l).m with d := d, h := h }) hz
              have HT : Hid (DCR w (w5.setRow w.heap.size (Mv.cs { (decR r l).m with d := d, h := h })) (.returned (.tuple #[.agg (Mv.cs { (decR r l).m with d := d, h := h }), .int .i64 0])) l) := by
                unfold DCR
                rw [HE.out.1, HE.out.2]
                refine ⟨d, h, rfl, ?_, ?_, belowSetRow HK.out.2.2.2.1 (Nat.le_refl _) _⟩
                · exact HK.out.2.1.besides (m := zm) hz (Besides.setRow _ _ _)
                · exact HK.out.2.2.1.besides (m := zm) hz (Besides.setRow _ _ _)
              have ok := HK.out.2.2.2.2.2
              clear HK
              generalize Mv.mk _ _ _ _ _ _ _ _ _ = mm at *
              go_wp2_with (first | (refine wpList_load_row rfl 47 _ rfl M rfl 47 mm.cs (0, 0) _ hm Tryz.underlying47 rfl him ?_) | (refine wpList_store_row rfl 47 _ _ rfl w.heap.size mm.cs rfl rfl 47 z40 hz him hsz hone ?_))
              exact bodyPost_ret (results_msg2 Tryz.results61 _ _ w.heap.size mm rfl HS ok) rfl HT.out
            · have q2' : lks r.cs (decR r l).m = false := by simpa using q2
              have HE : Hid (decE l = 112) := by unfold Hid decE; rw [if_neg h1, HQ.out.1]; simp [HF.out, q2']
              rw [q2']
              clear q2 q2'
              go_wp2_with (first | (refine wpList_store_row rfl 47 _ _ rfl w.heap.size z40 rfl rfl 47 z40 hz z40_info rfl z40_one ?_))
              exact bodyPost_ret (results_msg2 Tryz.results61 _ _ w.heap.size zm rfl (heapSetRow _ _ _ _ _ hz) zm_ok) rfl (DCR.err (by rw [HE.out]; decide) (by rw [HE.out]; rfl) (belowSetRow HK.out.2.2.2.1 (Nat.le_refl _) _))
      · have q1' : r.fit (l.length : Int) = false := by simpa using q1
        have HE : Hid (decE l = 111) := by unfold Hid decE; rw [if_neg h1, HQ.out.1]; simp [q1']
        rw [q1']
        clear q1 q1'
        go_wp2_with (first | (refine wpList_store_row rfl 47 _ _ rfl w.heap.size z40 rfl rfl 47 z40 hz z40_info rfl z40_one ?_))
        exact bodyPost_ret (results_msg2 Tryz.results61 _ _ w.heap.size zm rfl (heapSetRow _ _ _ _ _ hz) zm_ok) rfl (DCR.err (by rw [HE.out]; decide) (by rw [HE.out]; rfl) (belowSetRow HY.out.2.1 (Nat.le_refl _) _))
end Go.Proofs.YtnmeohacdbmplaaGreatDoor
namespace Go.Proofs.YtnmeohacdbmplaaGreatDoor
open Go.RowKit
theorem drop_snoc (l : List UInt8) (i j : Nat) (h : i + j < l.length) : (l.drop i).take (j + 1) = (l.drop i).take j ++ [byt l (i + j)] := by
  rw [take_snoc _ _ (by rw [List.length_drop]; omega), byt_drop]
theorem results_hash {fn : Func} {p : Tmp} (h : fn.results = #[.cell p 25]) (tmps : Array Value) (w : World) (g : Nat) (r : List UInt8)
    (hp : tmps.getD p undef = .pointer (some ⟨g, 0, none⟩)) (hg : w.heap[g]? = some (.cells (bc r) 25 (0, 0))) (hs : r.length = 32) : (results fn tmps).run Tryz.prog w = .ok (.agg (bc r)) w := by
  have hp' : tmps[p]?.getD undef = .pointer (some ⟨g, 0, none⟩) := by simpa using hp
  have hi : (Tryz.prog.info? 25).map (·.size) = some (bc r).size := by rw [bc_size, hs]; exact info_hash
  simp [results, h, hp', asAddr, run_loadVar_row w g 25 25 (bc r) (0, 0) _ hg Tryz.underlying25 rfl hi]
end Go.Proofs.YtnmeohacdbmplaaGreatDoor
namespace Go.Proofs.YtnmeohacdbmplaaGreatDoor
open Go.RowKit
/-- the reference's reading under way: its message lies in block M, the answer's box is the first new block -/
structure RS (w X : World) (M : Nat) (m : Mv) (D hb : List UInt8) : Prop where
  ok : m.ok
  mb : MB X M m
  z : X.heap[w.heap.size]? = some (.cells z40 47 (0, 0))
  b : Below w.heap.size w X
  lt : w.heap.size < M
  d : OW w.heap.size X m.d D
  h : OH w.heap.size X m.h hb
theorem RS.move {w X X' : World} {M : Nat} {m m' : Mv} {D hb : List UInt8} (h : RS w X M m D hb) (hb' : Besides M X X') (hm : MB X' M m') (ok : m'.ok) (hd : m'.d = m.d) (hh : m'.h = m.h) : RS w X' M m' D hb :=
  ⟨ok, hm, (hb'.block _ (Array.getElem?_eq_some_iff.1 h.z).1 (Nat.ne_of_lt h.lt)).trans h.z, hb'.below h.b (Nat.le_of_lt h.lt) h.b.size, h.lt, by rw [hd]; exact h.d.besides h.mb hb', by rw [hh]; exact h.h.besides h.mb hb'⟩
theorem RS.below {w X X' : World} {M : Nat} {m : Mv} {D hb : List UInt8} (h : RS w X M m D hb) (hb' : Below X.heap.size X X') : RS w X' M m D hb :=
  h.move (Besides.of_below hb') (h.mb.below hb') h.ok rfl rfl
theorem RS.num {w X : World} {M : Nat} {m m' : Mv} {D hb : List UInt8} (h : RS w X M m D hb) (n j : Nat) (x : Int) (hm : m.ls.set j (.int .i64 x) = m'.ls) (ok : m'.ok) (hd : m'.d = m.d) (hh : m'.h = m.h) : RS w ((X.drewN n).setCell ⟨M, j, none⟩ (.int .i64 x)) M m' D hb := by
  have h1 := h.below (belowDrew X n)
  exact h1.move (Besides.setCell _ _ _ _) (h1.mb.set j _ hm) ok hd hh
theorem RS.data {w X X' : World} {M : Nat} {m : Mv} {D D' hb : List UInt8} {v : Value} (h : RS w X M m D hb) (hb' : Below X.heap.size X X') (ho : OW X.heap.size X' v D') : RS w (X'.setCell ⟨M, 4, none⟩ v) M { m with d := v } D' hb := by
  have h1 := h.below hb'
  have bb := Besides.setCell X' M 4 v
  have hv := ho.form3
  refine ⟨⟨h.ok.r, hv, h.ok.h⟩, h1.mb.set 4 _ rfl, (bb.block _ (Array.getElem?_eq_some_iff.1 h1.z).1 (Nat.ne_of_lt h.lt)).trans h1.z, bb.below h1.b (Nat.le_of_lt h.lt) h1.b.size, h.lt, ?_, h1.h.besides h1.mb bb⟩
  exact (ho.mono h.b.size).besides h1.mb bb
theorem RS.root {w X X' : World} {M : Nat} {m : Mv} {D hb r : List UInt8} (h : RS w X M m D hb) (hb' : Below X.heap.size X X') (hr : r.length = 32) : RS w (X'.setCells M 5 (Lib.byteCells r)) M { m with r := r } D hb := by
  have h1 := h.below hb'
  exact h1.move (besides_setCells M _ 5 X') (h1.mb.setRoot h1.ok r hr) ⟨hr, h.ok.d, h.ok.h⟩ rfl rfl
theorem RS.done {w X : World} {M : Nat} {m : Mv} {D hb l : List UInt8} (h : RS w X M m D hb) (hE : decE l = 0) (hD : (decS l).D = D) (hH : (decS l).hb = hb) (hm : { (decS l).m with d := m.d, h := m.h } = m) : DCR w (X.setRow w.heap.size m.cs) (.returned (.tuple #[.agg m.cs, .int .i64 0])) l := by
  unfold DCR
  rw [hE, hD, hH]
  exact ⟨m.d, m.h, by rw [hm], h.d.besides (m := zm) h.z (Besides.setRow _ _ _), h.h.besides (m := zm) h.z (Besides.setRow _ _ _), belowSetRow h.b (Nat.le_refl _) _⟩
theorem RS.start {w : World} (k : Int) (X : World) (hX : Below w.heap.size w X) (hz : X.heap[w.heap.size]? = some (.cells z40 47 (0, 0))) : RS w ((X.alloc (.cells z40 47)).setRow X.heap.size (zk40 k)) X.heap.size (zmk k) [] [] := by
  have hlt := (Array.getElem?_eq_some_iff.1 hz).1
  have hs := heapSetRow _ _ _ (zk40 k) _ (heapNew X (.cells z40 47))
  exact ⟨zmk_ok k, hs, (setRow_other _ _ _ _ (Nat.ne_of_lt hlt)).trans ((heapOld _ _ _ hlt).trans hz), belowSetRow (hX.alloc (Nat.le_of_lt hlt) _) (Nat.le_of_lt hlt) _, hlt, World.ownsRow_nil _ _ _ _, OH.nil _ _⟩
theorem decS_of {l : List UInt8} {r : Kr} (h1 : ¬ 32768 < l.length) (hr : rowFor (kindB l) = some r) (hf : r.fit (l.length : Int) = true) (hl : lks r.cs (decR r l).m = true) : decE l = 0 ∧ decS l = decR r l := by
  have hE : decE l = 0 := by unfold decE; rw [if_neg h1, hr]; simp [hf, hl]
  refine ⟨hE, ?_⟩
  unfold decS
  rw [if_pos hE, hr]

end Go.Proofs.YtnmeohacdbmplaaGreatDoor
namespace Go.Proofs.YtnmeohacdbmplaaGreatDoor
open Go.RowKit
theorem foldl_setN (N : Nat) : ∀ (xs : List Value) (k : Nat) (cs : Array Value), k + xs.length = cs.size → ((xs.zipIdx k).foldl (fun cs (p : Value × Nat) => cs.setIfInBounds (0 * N + p.2) p.1) cs).toList = cs.toList.take k ++ xs
  | [], k, cs, h => by simp at h ⊢; rw [h, ← Array.length_toList, List.take_length]
  | x :: xs, k, cs, h => by
    simp only [List.zipIdx_cons, List.foldl_cons]
    rw [foldl_setN N xs (k + 1) _ (by simp at h ⊢; omega)]
    have hk : k < cs.toList.length := by simp at h ⊢; omega
    rw [Array.toList_setIfInBounds, Nat.zero_mul, Nat.zero_add, List.take_succ_eq_append_getElem (by simpa using hk), List.take_set_of_le (Nat.le_refl _)]
    simp
theorem fillN (N : Nat) (cs : Array Value) (hs : cs.size = N) (Z : Array Value) (hZ : Z.size = N) : Instr.fill (fun i => some (i * N, N)) Z [(0, .agg cs)] = some cs := by
  have hc : (Value.agg cs).cells = cs := rfl
  unfold Instr.fill
  simp only [hc, hs, hZ]
  rw [if_neg (by simp)]
  unfold Instr.fill
  congr 1
  apply Array.ext'
  rw [← Array.foldl_toList, Array.toList_zipIdx]
  have := foldl_setN N cs.toList 0 Z (by rw [Array.length_toList, hs, hZ]; omega)
  rw [List.take_zero, List.nil_append] at this
  exact this
theorem build_hash {ops : Array Oper} {rest : List Oper} {o : Oper} {a : Act} {w : World} {Q : Exit → Act → World → Prop} (hg : o.guard = none) (x : Operand) (ho : o.op = .buildSlice 45 1 #[(0, x)]) (cs : Array Value) (hv : a.eval x = .agg cs) (hl : cs.size = 32)
    (h : wpList Tryz.prog ops Q rest (a.put o.dst (.slice (some ⟨w.heap.size, 0, none⟩) 1 1)) (w.alloc (.cells cs 25))) : wpList Tryz.prog ops Q (o :: rest) a w := by
  obtain ⟨i0, hi, hz0, hz1, hz2⟩ := info_parts info_hashP
  refine wpList_buildSlice hg 45 25 1 _ ho cs i0 _ Tryz.underlying45 hi hz0 (by rw [hz1]; decide) (by rw [hz1]; decide) ?_ h
  rw [hz1]
  have e : (#[(0, x)].map fun (i, y) => (i, a.eval y)).toList = [(0, .agg cs)] := by simp [hv]
  rw [e]
  exact fillN 32 cs hl _ (by rw [Array.size_map, Array.size_range])
/-- one more hash joins a list of hashes -/
theorem append_hash {ops : Array Oper} {rest : List Oper} {o : Oper} {a : Act} {Q : Exit → Act → World → Prop} {w : World} {B : Nat} {sv : Value} {l r : List UInt8} (hgd : o.guard = none) (s x : Operand)
    (ho : o.op = .call { callee := .builtin .append, args := #[s, x], argTypes := #[45, 45] }) (hs : a.eval s = sv) (hown : OH B w sv l) (b : Nat) (hx : a.eval x = .slice (some ⟨b, 0, none⟩) 1 1)
    (hc : w.heap[b]? = some (.cells (bc r) 25 (0, 0))) (hr : r.length = 32) (hB : B ≤ w.heap.size) (hlim : l.length < 1000000)
    (h : ∀ v' w', OH B w' v' (l ++ r) → Below B w w' → (∀ (k : Nat) (cs : Array Value) (t : TypeId), w.heap[k]? = some (.cells cs t (0, 0)) → t ≠ 25 → w'.heap[k]? = some (.cells cs t (0, 0))) → wpList Tryz.prog ops Q rest (a.put o.dst v') w') : wpList Tryz.prog ops Q (o :: rest) a w := by
  obtain ⟨i0, hi, hz0, hz1, hz2⟩ := info_parts info_hashP
  obtain ⟨n, hn, hown⟩ := hown
  refine wpList_append_own w hgd s x 45 ho B 25 i0 _ 32 32 Tryz.underlying45 hi hz0 hz1 hz2 rfl (by omega) sv n (Lib.byteCells l) hs hown ⟨b, 0, none⟩ 1 1 (Lib.byteCells r) hx (by rw [bcl_len, hr]) (fun j u hu => ?_) (Lib.byteCells_one _) (by unfold maxLen; omega) (by omega) hB (fun v' w' h1 h2 _ => ?_)
  · have hj' : j < r.length := by
      have := (List.getElem?_eq_some_iff.1 hu).1
      rwa [bcl_len] at this
    rw [Addr.add_mid, Nat.zero_add, cell_bc hc j hj', ← hu, bcl_get r j hj']
  · refine h v' w' ⟨n + 1, by rw [List.length_append, hn, hr]; omega, ?_⟩ ((Below.refl B w).grown h2 hB (fun k hk => (World.ownsRow.lt hown k hk).1)) (fun k cs t hk ht => ?_)
    · rw [bcl_append]; exact h1
    · refine (h2.block k (Array.getElem?_eq_some_iff.1 hk).1 fun e' => ?_).trans hk
      rcases hown.2 with ⟨rfl, _⟩ | ⟨g, cap, cur, rfl, _, hg, _⟩
      · simp [Value.ownBlock] at e'
      · simp [Value.ownBlock] at e'
        subst e'
        rw [hk] at hg
        simp at hg
        exact ht hg.2
theorem RS.hash {w X X' : World} {M : Nat} {m : Mv} {hb hb2 : List UInt8} {v : Value} (h : RS w X M m [] hb) (hd : m.d = .slice none 0 0) (ho : OH w.heap.size X' v hb2) (hb' : Below w.heap.size X X')
    (hrow : ∀ (k : Nat) (cs : Array Value) (t : TypeId), X.heap[k]? = some (.cells cs t (0, 0)) → t ≠ 25 → X'.heap[k]? = some (.cells cs t (0, 0))) : RS w (X'.setCell ⟨M, 39, none⟩ v) M { m with h := v } [] hb2 := by
  have hm : MB X' M m := hrow _ _ _ h.mb (by decide)
  have hz := hrow _ _ _ h.z (by decide)
  have bb := Besides.setCell X' M 39 v
  have b1 : Below w.heap.size w X' := h.b.trans hb'
  exact ⟨⟨h.ok.r, h.ok.d, ho.form⟩, hm.set 39 _ (Mv.set39 h.ok _), (bb.block _ (Array.getElem?_eq_some_iff.1 hz).1 (Nat.ne_of_lt h.lt)).trans hz, bb.below b1 (Nat.le_of_lt h.lt) b1.size, h.lt, by show OW _ _ m.d []; rw [hd]; exact World.ownsRow_nil _ _ _ _, ho.besides hm bb⟩
end Go.Proofs.YtnmeohacdbmplaaGreatDoor
namespace Go.Proofs.YtnmeohacdbmplaaGreatDoor
open Go.RowKit
end Go.Proofs.YtnmeohacdbmplaaGreatDoor
