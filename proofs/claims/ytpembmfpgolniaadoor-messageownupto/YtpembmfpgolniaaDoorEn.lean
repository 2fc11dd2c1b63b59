import Derived.Test.YtpembmfpgolniaaDoorLy
namespace Go.Proofs.YtpembmfpgolniaaDoor
open Go.RowKit
/-- the body of a message with these fields -/
def lays (cs : List Nat) (m : Mv) (D hb : List UInt8) : List UInt8 := (cs.map fun c => lay c m D hb).flatten
/-- what Encode writes -/
def encB (m : Mv) (D hb : List UInt8) : List UInt8 :=
  if valE m = 0 then (match rowFor m.k with | some r => lays r.cs m D hb | none => []) else []
theorem val_small (m : Mv) (h : valE m = 0) : sln m.d ≤ 32767 ∧ sln m.h ≤ 560 := by
  rw [← ref_val] at h
  unfold refE at h
  split at h
  · simp at h
  · split at h
    · simp at h
    · rename_i h1 h2
      split at h
      · split at h
        · simp at h
        · rename_i h3 h4
          have h2' : fR m = false := by simpa using h2
          have h4' : szb m (sln m.d) (sln m.h) = false := by simpa using h4
          simp [fR, fc4, fc6] at h2'
          simp [szb] at h4'
          generalize sln m.d = nd at *
          generalize sln m.h = nh at *
          obtain ⟨⟨⟨_, h24⟩, _⟩, h26⟩ := h2'
          obtain ⟨⟨⟨q5, q7⟩, q9⟩, q22⟩ := h4'
          constructor
          · by_cases hn : 0 < nd
            · have := h24 hn
              by_cases k5 : m.k = 5
              · have := q5 k5; omega
              · by_cases k7 : m.k = 7
                · have := q7 k7; omega
                · have := q9 (this k5 k7); omega
            · omega
          · by_cases hn : 0 < nh
            · have := q22 (h26 hn); omega
            · omega
      · simp at h
theorem rws_mo : ∀ r ∈ rws, r.mo ≤ 32768 ∧ 0 ≤ r.mo := by decide
theorem fit_le {r : Kr} {n : Int} (h : r.fit n = true) : n ≤ r.mo := by
  unfold Kr.fit at h
  simp at h
  exact h.1.2
theorem lay_le (c : Nat) (m : Mv) (ok : m.ok) (D hb : List UInt8) (hD : D.length ≤ 1000000) (hH : hb.length ≤ 1000000) : (lay c m D hb).length ≤ 1000000 := by
  unfold lay
  split <;> first | (simp [be4]; done) | (rw [ok.r]; omega) | assumption | simp
theorem lays_le (cs : List Nat) (m : Mv) (ok : m.ok) (D hb : List UInt8) (hD : D.length ≤ 1000000) (hH : hb.length ≤ 1000000) : (lays cs m D hb).length ≤ cs.length * 1000000 := by
  induction cs with
  | nil => simp [lays]
  | cons c l ih =>
    have := lay_le c m ok D hb hD hH
    have e : lays (c :: l) m D hb = lay c m D hb ++ lays l m D hb := rfl
    rw [e, List.length_append, List.length_cons, Nat.succ_mul]
    omega
theorem lays_snoc (cs : List Nat) (c : Nat) (m : Mv) (D hb : List UInt8) : lays (cs ++ [c]) m D hb = lays cs m D hb ++ lay c m D hb := by
  simp [lays]
set_option maxHeartbeats 2000000 in
set_option maxRecDepth 100000 in
theorem encodeT (w : World) (m : Mv) (D HBB : List UInt8) (hm : MM w m D HBB) (hk : KT w) :
    Calls Tryd.prog 8 #[.agg m.cs] w fun e w' => ∃ v, e = .returned (.tuple #[v, .int .i64 (valE m)]) ∧ OW w.heap.size w' v (encB m D HBB) ∧ Below w.heap.size w w' := by
  have b0 : Below w.heap.size w (w.alloc (.cells m.cs 27)) := (Below.refl _ _).alloc (Nat.le_refl _) _
  have HA : Hid (KT (w.alloc (.cells m.cs 27)) ∧ MB (w.alloc (.cells m.cs 27)) w.heap.size m ∧ MM (w.alloc (.cells m.cs 27)) m D HBB ∧ Below w.heap.size w (w.alloc (.cells m.cs 27)) ∧ w.heap.size < (w.alloc (.cells m.cs 27)).heap.size) := ⟨hk.below b0 hk.pos, heapNew w _, hm.keep b0, b0, by simp⟩
  have hc := HA.out.2.1.cells
  have him := info_msg hm.ok
  have HS : Hid (MM w m D HBB) := hm
  clear b0 hk hm
  go_enter Tryd.func8, Tryd.ntmps8
  go_wp2_with (first | (refine wpList_load_row rfl 27 _ rfl w.heap.size rfl 27 m.cs (0, 0) _ hc Tryd.underlying27 rfl him ?_))
  generalize w.alloc (.cells m.cs 27) = w0 at *
  refine (checkedT w0 m HS.out.ok HA.out.1 HS.out.big.1 HS.out.big.2).mono ?_
  rintro e w1 ⟨v, rfl, hv, b1⟩
  have HB : Hid (MB w1 w.heap.size m ∧ MM w1 m D HBB ∧ Below w.heap.size w w1 ∧ w.heap.size < w1.heap.size) := ⟨HA.out.2.1.below b1, HA.out.2.2.1.keep b1, HA.out.2.2.2.1.trans (b1.mono (Nat.le_of_lt HA.out.2.2.2.2)), Nat.lt_of_lt_of_le HA.out.2.2.2.2 b1.size⟩
  clear b1 hc HA him
  by_cases h0 : valE m = 0
  · obtain ⟨r, hr, hfs, hlk, hfit, _⟩ := hv h0
    have hsm := val_small m h0
    have hmem := (rowFor_mem hr).1
    have hmo := rws_mo r hmem
    have hfl := fit_le hfit
    have hcs : r.cs.length ≤ 7 := (rws_all r hmem).2.2.2.2.2
    have HR : Hid (encB m D HBB = lays r.cs m D HBB ∧ valE m = 0 ∧ lks r.cs m = true ∧ FS w1 v r.cs ∧ D.length ≤ 1000000 ∧ HBB.length ≤ 1000000 ∧ r.cs.length ≤ 7) := by
      refine ⟨by unfold encB; rw [if_pos h0, hr], h0, hlk, hfs, ?_, ?_, hcs⟩
      · have := HS.out.sd; omega
      · have := HS.out.sh; omega
    have hsz : szs r.cs m ≤ 32768 := by omega
    obtain ⟨va, vc, rfl, _⟩ := id hfs
    rw [h0]
    clear hv h0 hfs hlk hfit hr hmem hmo hfl hsm
    go_wp2_with fail
    refine (sizeT w1 _ r.cs w.heap.size m HB.out.1 HS.out.ok HR.out.2.2.2.1 (by omega) HS.out.big.1 HS.out.big.2).mono ?_
    rintro e w2 ⟨rfl, b2⟩
    have HC : Hid (MB w2 w.heap.size m ∧ MM w2 m D HBB ∧ Below w.heap.size w w2 ∧ w.heap.size < w2.heap.size ∧ FS w2 (.slice va r.cs.length vc) r.cs) := ⟨HB.out.1.below b2, HB.out.2.1.keep b2, HB.out.2.2.1.trans (b2.mono (Nat.le_of_lt HB.out.2.2.2)), Nat.lt_of_lt_of_le HB.out.2.2.2 b2.size, HR.out.2.2.2.1.below b2⟩
    clear b2 HB
    generalize szs r.cs m = S at *
    have hmk : ∀ u : World, (Instr.makeSlice 22 (.int .i64 0) (.int .i64 (S : Int))).run Tryd.prog u = .ok (.slice (some ⟨u.heap.size, 0, none⟩) 0 S) (u.alloc (.cells (madeCells #[.int .u8 0] S) 5)) := fun u => by
      obtain ⟨i0, hi, hz0, hz1, hz2⟩ := info_parts info5
      have h := run_make (P := Tryd.prog) u 22 5 i0 (.int .u8 0) Tryd.underlying22 hi hz0 .i64 .i64 0 (S : Int) (by omega) (by omega) (by rw [hz2]; omega) (by omega)
      simpa [hz1, Value.cells] using h
    go_wp2
    have HD : Hid (OW w2.heap.size (w2.alloc (.cells (madeCells #[.int .u8 0] S) 5)) (.slice (some ⟨w2.heap.size, 0, none⟩) 0 S) [] ∧ Below w2.heap.size w2 (w2.alloc (.cells (madeCells #[.int .u8 0] S) 5))) := ⟨World.ownsRow_made w2 _ S (Nat.le_refl _) (by unfold maxLen; omega) (by simp [size_madeCells]), (Below.refl _ _).alloc (Nat.le_refl _) _⟩
    generalize w2.alloc (.cells (madeCells #[.int .u8 0] S) 5) = w3 at *
    generalize hln : r.cs.length = len at *
    have HN : Hid (r.cs.length = len) := hln
    clear hln hmk
    generalize m.cs = mcs at *
    go_loopw [6, 22] (fun u t wr => ∃ n : Nat, n ≤ len ∧ t = .int .i64 n ∧ Hid (OW w2.heap.size wr u (lays (r.cs.take n) m D HBB) ∧ Below w2.heap.size w2 wr)) (fun _ t _ => len - (intOf t).toNat)
    case atStart => exact ⟨0, by omega, rfl, HD.out⟩
    case round =>
      obtain ⟨n, hn, rfl, hI⟩ := hrel
      by_cases hlt : n < len
      · have hl2 : n < r.cs.length := by rw [HN.out]; exact hlt
        have hx : r.cs[n]? = some r.cs[n] := List.getElem?_eq_getElem hl2
        generalize r.cs[n] = c at hx
        obtain ⟨a', cap', e', hfa⟩ := HC.out.2.2.2.2
        simp only [Value.slice.injEq] at e'
        obtain ⟨rfl, -, rfl⟩ := e'
        rcases hfa with h | ⟨G, cur, rfl, hG, hfa⟩
        · rw [h] at hl2; simp at hl2
        obtain ⟨vs, hv, hr⟩ := hfa n c hx
        obtain ⟨v0, v1, v2, v3, v4, rfl⟩ := hv.len
        have hGlt := (Array.getElem?_eq_some_iff.1 hG).1
        have hb := hI.out.2
        have hr' : wr.rangeAt G (n * 5) [v0, v1, v2, v3, v4] := fun j y hj => (hb.cell (p := ⟨G, n * 5 + j, none⟩) hGlt).trans (hr j y hj)
        have hi5 : (Tryd.prog.info? 64).map (·.size) = some [v0, v1, v2, v3, v4].length := info_field
        have hi5' : (Tryd.prog.info? 64).map (·.size) = some ([v0, v1, v2, v3, v4] : List Value).toArray.size := info_field
        have hone : ([v0, v1, v2, v3, v4] : List Value).toArray.all (·.oneCell') = true := hv.one
        have hb2 : Below w2.heap.size w2 (bxw wr [v0, v1, v2, v3, v4]) := hb.trans ((bxw_below _ _).mono hb.size)
        have ho2 := hI.out.1.grow (bxw_below wr [v0, v1, v2, v3, v4])
        have hv2 : FLD (bxw wr [v0, v1, v2, v3, v4]) c [v0, v1, v2, v3, v4] := hv.below hb2
        obtain ⟨f, caps, rfl, he, hc⟩ := hv2.lay
        have hlkc : lk c m = true := by
          have := HR.out.2.2.1
          unfold lks at this
          exact List.all_eq_true.1 this c (List.mem_of_getElem? hx)
        have hll : (lays (r.cs.take n) m D HBB).length ≤ 100000000 := by
          have h1 := lays_le (r.cs.take n) m HS.out.ok D HBB HR.out.2.2.2.2.1 HR.out.2.2.2.2.2.1
          have h2 : (r.cs.take n).length ≤ 7 := by rw [List.length_take]; have := HR.out.2.2.2.2.2.2; omega
          have h3 := Nat.mul_le_mul_right 1000000 h2
          omega
        have HX : Hid (Calls Tryd.prog f (#[u6, ptr w.heap.size] ++ caps) (bxw wr [v0, clo f caps, v2, v3, v4]) (fun e w' => LYR w2.heap.size (bxw wr [v0, clo f caps, v2, v3, v4]) w' e (lays (r.cs.take n) m D HBB ++ lay c m D HBB)) ∧ Below w2.heap.size w2 (bxw wr [v0, clo f caps, v2, v3, v4])) :=
          ⟨hc w2 w.heap.size m D HBB u6 _ HC.out.1 HC.out.2.1 hlkc hb2 ho2 hll HR.out.2.2.2.2.1 HR.out.2.2.2.2.2.1, hb2⟩
        have h3 : (bxw wr [v0, clo f caps, v2, v3, v4]).cell? ⟨wr.heap.size, 1, none⟩ = some (clo f caps) := rangeOf (bxw_heap _ _) 1 _ rfl
        have hg0 := heapNew wr (.cells nil5 64)
        obtain ⟨ua, uc, rfl⟩ := hI.out.1.form
        have HT : Hid (lays (r.cs.take (n + 1)) m D HBB = lays (r.cs.take n) m D HBB ++ lay c m D HBB) := by
          unfold Hid
          rw [← lays_snoc]
          congr 1
          rw [List.take_add_one, hx]; rfl
        clear hc hb2 hv2 hv hr hfa hb ho2 hI hll hlkc
        generalize hLL : lays (r.cs.take n) m D HBB = LL at *
        go_wp2_with (first | (refine wpList_load_mid rfl 64 _ rfl G (n * 5) rfl _ _ hr' Tryd.underlying64 rfl hi5 ?_) | (refine wpList_store_row rfl 64 _ _ rfl wr.heap.size _ rfl rfl 64 nil5 hg0 hi5' rfl hone ?_))
        refine HX.out.1.mono ?_
        rintro e w4 ⟨v', rfl, o4, b4⟩
        have HE : Hid (OW w2.heap.size w4 v' (lays (r.cs.take (n + 1)) m D HBB) ∧ Below w2.heap.size w2 w4) := ⟨by rw [HT.out]; exact o4, HX.out.2.trans b4⟩
        clear o4 b4 HX h3 hg0 hr'
        go_wp2
        exact ⟨⟨n + 1, by omega, by go_num, HE.out⟩, by simp [intOf]; omega⟩
      · have HE : Hid (OW w.heap.size wr u6 (encB m D HBB) ∧ Below w.heap.size w wr) := by
          have h1 := hI.out.1
          rw [List.take_of_length_le (by have := HN.out; omega)] at h1
          rw [HR.out.1]
          exact ⟨h1.mono (Nat.le_of_lt HC.out.2.2.2.1), HC.out.2.2.1.trans (hI.out.2.mono (Nat.le_of_lt HC.out.2.2.2.1))⟩
        go_wp2
        go_ret2
        exact ⟨_, by rw [HR.out.2.1]; rfl, HE.out⟩
  · have HE : Hid (encB m D HBB = []) := by unfold Hid encB; rw [if_neg h0]
    obtain ⟨ve, hve⟩ : ∃ ve, valE m = ve := ⟨_, rfl⟩
    rw [hve] at h0 ⊢
    have HVE : Hid (valE m = ve) := hve
    clear hv hve
    go_wp2
    go_ret2
    exact ⟨_, by rw [HVE.out]; rfl, by rw [HE.out]; exact World.ownsRow_nil _ _ _ _, HB.out.2.2.1⟩
end Go.Proofs.YtpembmfpgolniaaDoor
