import Derived.Test.YtnpcbcfjnhjmmaaGreatDoorV36
import Derived.Test.YtnpcbcfjnhjmmaaGreatDoorV37
namespace Go.Proofs.YtnpcbcfjnhjmmaaGreatDoor
open Go.Shelf Go.RowKit Go.Deep
theorem bs_app (a b : List UInt8) : bs a ++ bs b = bs (a ++ b) := app_str a b
theorem lit_app (st : ByteArray) (a b : List UInt8) (h : st = bs a) : st ++ bs b = bs (a ++ b) := by rw [h, bs_app]
theorem lit_app2 (st : ByteArray) (a b c : List UInt8) (h : st = bs a) : st ++ bs b ++ bs c = bs (a ++ b ++ c) := by rw [h, bs_app, bs_app]
theorem kv_small {k : Lk} {pre : List KV} {x : KV} (h : pre ++ [x] <+: prm k) (hN : (wS (prm k)).length ≤ 1099511627776) :
    x.2.size ≤ 1099511627776 ∧ (esc x.2.data.toList).length ≤ 1099511627776 ∧ (wS (pre ++ [x])).length ≤ 1099511627776 := by
  have h1 := wS_pre h
  have h2 := wS_last pre x
  have h3 := pcT_ge x
  have h4 : (esc x.2.data.toList).length ≤ (pcT x).length := by unfold pcT; simp only [List.length_append, List.length_cons, List.length_nil]; omega
  omega
theorem kv_small1 {k : Lk} {pre : List KV} {x : KV} (h : pre ++ [x] <+: prm k) (hN : (wS (prm k)).length ≤ 1099511627776) :
    x.1.size ≤ 1099511627776 ∧ (esc x.1.data.toList).length ≤ 1099511627776 := by
  have h1 := wS_pre h
  have h2 := wS_last pre x
  have h3 := pcT_ge x
  have h4 : (esc x.1.data.toList).length ≤ (pcT x).length := by unfold pcT; simp only [List.length_append, List.length_cons, List.length_nil]; omega
  omega
theorem reads_of_rb {w : World} {v : Value} {l : List UInt8} (h : RB w v l) : Hx2.Reads w v (l.map fun x => (x.toNat : Int)) := by
  obtain ⟨a, c, rfl, _, h⟩ := h
  refine ⟨a, c, by rw [List.length_map], ?_⟩
  rcases h with rfl | ⟨g, o, h1, h2, h3⟩
  · exact .inl rfl
  · refine .inr ⟨g, o, h1, h2, fun i hi => ?_⟩
    rw [List.length_map] at hi
    rw [h3 i hi, getD_byt l i hi]
    simp [List.getD, List.getElem?_eq_getElem hi]
theorem rsI_len (rs : List (Int × Int)) (i : Nat) (h : i ≤ 4096) (hok : ∀ x ∈ rs, RnOk x ∧ x.1 + x.2 ≤ 4096) : (rsI rs i).length ≤ 200000 := by
  unfold rsI
  split
  · simp
  · have h1 := rsT_len (rs.take i) fun x hx => hok x (List.mem_of_mem_take hx)
    have h2 : (rs.take i).length ≤ i := by rw [List.length_take]; omega
    simp only [List.length_append, List.length_cons, List.length_nil]
    omega
end Go.Proofs.YtnpcbcfjnhjmmaaGreatDoor
namespace Go.Proofs.YtnpcbcfjnhjmmaaGreatDoor
open Go.Shelf Go.RowKit Go.Deep
theorem load_link_if {ops : Array Oper} {rest : List Oper} {o : Oper} {a : Act} {w : World} {Q : Exit → Act → World → Prop} (hw : Region.wanted o (yielded ops a.tmps) = true) (x : Operand) (ho : o.op = .load 28 x)
    (g : Nat) (hx : a.eval x = .pointer (some ⟨g, 0, none⟩)) {l : List UInt8} {nm : ByteArray} {tr pe on mo : Value} (hg : LB w g l nm tr pe on mo) (hl : l.length = 32)
    (h : wpList Tryz.prog ops Q rest (a.put o.dst (.agg (lkC l nm tr pe on mo))) w) : wpList Tryz.prog ops Q (o :: rest) a w := by
  unfold wpList
  rw [if_pos hw]
  exact .inl (wp_load_row 28 x ho g hx 28 _ (0, 0) _ hg Tryz.underlying28 rfl (infoLk hl) h)
theorem fm_rs {k : Lk} (h : fmB k = true) : ∀ x ∈ k.rs, RnOk x ∧ x.1 + x.2 ≤ 4096 := by
  intro x hx
  have h2 : k.rs.any srB = false := by
    cases hq : k.rs.any srB with
    | false => rfl
    | true => unfold fmB at h; rw [hq] at h; simp at h
  rw [List.any_eq_false] at h2
  have h3 := h2 x hx
  unfold srB at h3
  simp only [Bool.or_eq_true, decide_eq_true_eq, not_or] at h3
  unfold RnOk
  omega
theorem ap_ge {rs : List (Int × Int)} (h1 : ∀ x ∈ rs, RnOk x ∧ x.1 + x.2 ≤ 4096) (h2 : apB rs = true) : ∀ (j : Nat) (x : Int × Int), rs[j]? = some x → 2 * (j : Int) ≤ x.1
  | 0, x, hx => by have := (h1 x (List.mem_of_getElem? hx)).1.1.1; omega
  | j + 1, x, hx => by
    have hj : j < rs.length := by have := (List.getElem?_eq_some_iff.1 hx).1; omega
    have h3 := ap_ge h1 h2 j rs[j] (List.getElem?_eq_getElem hj)
    have h4 := apB_iff.1 h2 j rs[j] x (List.getElem?_eq_getElem hj) hx
    have h5 := (h1 rs[j] (List.getElem_mem hj)).1.2.1
    omega
theorem ap_len {rs : List (Int × Int)} (h1 : ∀ x ∈ rs, RnOk x ∧ x.1 + x.2 ≤ 4096) (h2 : apB rs = true) : rs.length ≤ 4096 := by
  apply Nat.le_of_not_lt
  intro h
  have h3 := ap_ge h1 h2 4096 rs[4096] (List.getElem?_eq_getElem h)
  have h4 := (h1 rs[4096] (List.getElem_mem h)).1.1.2
  omega
/-- what a check of the link finds -/
def ckN (k : Lk) : Int := if fmB k = false then 226 else if odB k = false then 227 else if dbB k = true then 225 else if 4096 < (wS (prm k)).length then 221 else 0
def prE (k : Lk) : Ending := if ckN k = 0 then .returned (.tuple #[.string (bs (wS (prm k))), .int .i64 0]) else .returned (.tuple #[.string ⟨#[]⟩, .int .i64 (ckN k)])
theorem ck_form {k : Lk} (h : fmB k = false) : ckN k = 226 := by unfold ckN; rw [if_pos h]
theorem ck_order {k : Lk} (h : fmB k = true) (h2 : odB k = false) : ckN k = 227 := by unfold ckN; rw [if_neg (by rw [h]; decide), if_pos h2]
theorem ck_twice {k : Lk} (h : fmB k = true) (h2 : odB k = true) (h3 : dbB k = true) : ckN k = 225 := by unfold ckN; rw [if_neg (by rw [h]; decide), if_neg (by rw [h2]; decide), if_pos h3]
theorem ck_long {k : Lk} (h : fmB k = true) (h2 : odB k = true) (h3 : dbB k = false) (h4 : 4096 < (wS (prm k)).length) : ckN k = 221 := by unfold ckN; rw [if_neg (by rw [h]; decide), if_neg (by rw [h2]; decide), if_neg (by rw [h3]; decide), if_pos h4]
theorem ck_ok {k : Lk} (h : fmB k = true) (h2 : odB k = true) (h3 : dbB k = false) (h4 : ¬ 4096 < (wS (prm k)).length) : ckN k = 0 := by unfold ckN; rw [if_neg (by rw [h]; decide), if_neg (by rw [h2]; decide), if_neg (by rw [h3]; decide), if_neg h4]
theorem pr_no {k : Lk} {e : Int} (h : ckN k = e) (he : e ≠ 0) : Ending.returned (.tuple #[.string ⟨#[]⟩, .int .i64 e]) = prE k := by unfold prE; rw [if_neg (by rw [h]; exact he), h]
theorem pr_yes {k : Lk} (h : ckN k = 0) : Ending.returned (.tuple #[.string (bs (wS (prm k))), .int .i64 0]) = prE k := by unfold prE; rw [if_pos h]
set_option maxHeartbeats 4000000 in
set_option maxRecDepth 100000 in
theorem print10 (k : Lk) (tr pe on mo : Value) (w : World) (hk : k.ok) (hs : k.small) (hi : ∀ x ∈ k.rs, I64 x.1 ∧ I64 x.2) (hT : IT w) (hBT : BT w) (hr : RL4 (fun _ => True) w k tr pe on mo) :
    Calls Tryz.prog 8 #[.agg (lkC k.l k.nm tr pe on mo)] w fun e w' => e = prE k ∧ Below w.heap.size w w' := by
  have hl := hk.l
  have B0 : Hid (Below w.heap.size w (w.alloc (Obj.cells (lkC k.l k.nm tr pe on mo) 28))) := (Below.refl _ _).alloc (Nat.le_refl _) _
  have LA : Hid (LB (w.alloc (Obj.cells (lkC k.l k.nm tr pe on mo) 28)) w.heap.size k.l k.nm tr pe on mo) := heap_new _ _
  have HA : Hid (k.ok ∧ k.small ∧ (∀ x ∈ k.rs, I64 x.1 ∧ I64 x.2) ∧ ∀ u, Below w.heap.size w u → RL4 (fun _ => True) u k tr pe on mo ∧ IT u ∧ BT u) := ⟨hk, hs, hi, fun u hu => ⟨hr.move (fun _ h _ => h) hu.size (fun b _ hl => hu.block b hl), hT.below hu, hBT.keep hu⟩⟩
  clear hk hs hi hT hBT hr
  go_enter Tryz.func8, Tryz.ntmps8
  go_upto_region 1 with fail
  generalize (w.alloc (Obj.cells (lkC k.l k.nm tr pe on mo) 28)) = w0 at *
  generalize hvb : w.heap.size = H at *
  have HS : Hid (w.heap.size = H) := hvb
  clear hvb
  have HW0 := Lib.hid (And.intro B0.out LA.out)
  clear B0 LA
  go_wp2_with (first | (refine load_link_if rfl _ rfl H rfl HW0.out.2 hl ?_))
  refine (isFormed k tr pe on mo w0 HA.out.1 HA.out.2.2.1 (HA.out.2.2.2 w0 HW0.out.1).1).mono ?_
  rintro e w1 ⟨rfl, b1⟩
  have HW1 : Hid (Below H w w1 ∧ LB w1 H k.l k.nm tr pe on mo) := ⟨HW0.out.1.trans (b1.mono (by have := HW0.out.2.lt; omega)), HW0.out.2.keep (b1.block H HW0.out.2.lt)⟩
  clear b1 HW0
  cases hq1 : fmB k with
  | false =>
    have HE := Lib.hid (pr_no (ck_form hq1) (by decide))
    clear hq1
    go_wp2
    go_ret2
    exact ⟨HE.out, HS.out ▸ HW1.out.1⟩
  | true =>
    have HQ1 := Lib.hid hq1
    have HRS := Lib.hid (fm_rs hq1)
    clear hq1
    go_wp2_with (first | (refine load_link_if rfl _ rfl H rfl HW1.out.2 hl ?_))
    refine (isOrdered k tr pe on mo w1 HA.out.1 HA.out.2.1.rs (fun x hx => (HRS.out x hx).1) (HA.out.2.2.2 w1 HW1.out.1).1).mono ?_
    rintro e w2 ⟨rfl, b1⟩
    have HW2 : Hid (Below H w w2 ∧ LB w2 H k.l k.nm tr pe on mo) := ⟨HW1.out.1.trans (b1.mono (by have := HW1.out.2.lt; omega)), HW1.out.2.keep (b1.block H HW1.out.2.lt)⟩
    clear b1 HW1
    cases hq2 : odB k with
    | false =>
      have HE := Lib.hid (pr_no (ck_order HQ1.out hq2) (by decide))
      clear hq2
      go_wp2
      go_ret2
      exact ⟨HE.out, HS.out ▸ HW2.out.1⟩
    | true =>
      have HQ2 := Lib.hid hq2
      have hap : apB k.rs = true := by unfold odB at hq2; cases h : apB k.rs with | true => rfl | false => rw [h] at hq2; exact hq2
      have HAL := Lib.hid (ap_len HRS.out hap)
      clear hq2 hap
      go_wp2_with (first | (refine load_link_if rfl _ rfl H rfl HW2.out.2 hl ?_))
      refine (isDouble k tr pe on mo w2 HA.out.1 HA.out.2.1.ts HA.out.2.1.ps (HA.out.2.2.2 w2 HW2.out.1).1).mono ?_
      rintro e w3 ⟨rfl, b1⟩
      have HW3 : Hid (Below H w w3 ∧ LB w3 H k.l k.nm tr pe on mo) := ⟨HW2.out.1.trans (b1.mono (by have := HW2.out.2.lt; omega)), HW2.out.2.keep (b1.block H HW2.out.2.lt)⟩
      clear b1 HW2
      cases hq3 : dbB k with
      | true =>
        have HE := Lib.hid (pr_no (ck_twice HQ1.out HQ2.out hq3) (by decide))
        clear hq3
        go_wp2
        go_ret2
        exact ⟨HE.out, HS.out ▸ HW3.out.1⟩
      | false =>
        have HQ3 := Lib.hid hq3
        clear hq3
        have HWR := Lib.hid (written k tr pe on mo w3 HA.out.1 HAL.out HRS.out (HA.out.2.2.2 w3 HW3.out.1).2.1 (HA.out.2.2.2 w3 HW3.out.1).2.2 (HA.out.2.2.2 w3 HW3.out.1).1)
        by_cases hz : 4096 < (wS (prm k)).length
        · have HE := Lib.hid (pr_no (ck_long HQ1.out HQ2.out HQ3.out hz) (by decide))
          have HE2 : Hid (wrE k = .returned (.tuple #[.string ⟨#[]⟩, .bool false])) := by
            have h9 : wrE k = .returned (.tuple #[.string ⟨#[]⟩, .bool false]) := by unfold wrE; rw [if_neg (by omega)]
            exact h9
          clear hz
          go_wp2_with (first | (refine load_link_if rfl _ rfl H rfl HW3.out.2 hl ?_))
          refine HWR.out.mono ?_
          rintro e w4 ⟨rfl, b1⟩
          have HW4 : Hid (Below H w w4) := HW3.out.1.trans (b1.mono (by have := HW3.out.2.lt; omega))
          rw [HE2.out]
          clear b1 HW3 HWR
          go_wp2
          go_ret2
          exact ⟨HE.out, HS.out ▸ HW4.out⟩
        · have HE := Lib.hid (pr_yes (ck_ok HQ1.out HQ2.out HQ3.out hz))
          have HE2 : Hid (wrE k = .returned (.tuple #[.string (bs (wS (prm k))), .bool true])) := by
            have h9 : wrE k = .returned (.tuple #[.string (bs (wS (prm k))), .bool true]) := by unfold wrE; rw [if_pos (by omega)]
            exact h9
          clear hz
          go_wp2_with (first | (refine load_link_if rfl _ rfl H rfl HW3.out.2 hl ?_))
          refine HWR.out.mono ?_
          rintro e w4 ⟨rfl, b1⟩
          have HW4 : Hid (Below H w w4) := HW3.out.1.trans (b1.mono (by have := HW3.out.2.lt; omega))
          rw [HE2.out]
          generalize bs (wS (prm k)) = tx at *
          clear b1 HW3 HWR
          go_wp2
          go_ret2
          exact ⟨HE.out, HS.out ▸ HW4.out⟩
set_option maxHeartbeats 1000000 in
set_option maxRecDepth 100000 in
theorem check7 (k : Lk) (tr pe on mo : Value) (w : World) (hk : k.ok) (hs : k.small) (hi : ∀ x ∈ k.rs, I64 x.1 ∧ I64 x.2) (hT : IT w) (hBT : BT w) (hr : RL4 (fun _ => True) w k tr pe on mo) :
    Calls Tryz.prog 9 #[.agg (lkC k.l k.nm tr pe on mo)] w fun e w' => e = .returned (.int .i64 (ckN k)) ∧ Below w.heap.size w w' := by
  have hl := hk.l
  have B0 : Hid (Below w.heap.size w (w.alloc (Obj.cells (lkC k.l k.nm tr pe on mo) 28))) := (Below.refl _ _).alloc (Nat.le_refl _) _
  have LA : Hid (LB (w.alloc (Obj.cells (lkC k.l k.nm tr pe on mo) 28)) w.heap.size k.l k.nm tr pe on mo) := heap_new _ _
  have HP : Hid (Calls Tryz.prog 8 #[.agg (lkC k.l k.nm tr pe on mo)] (w.alloc (Obj.cells (lkC k.l k.nm tr pe on mo) 28)) fun e w' => e = prE k ∧ Below (w.alloc (Obj.cells (lkC k.l k.nm tr pe on mo) 28)).heap.size (w.alloc (Obj.cells (lkC k.l k.nm tr pe on mo) 28)) w') :=
    print10 k tr pe on mo _ hk hs hi (hT.below B0.out) (hBT.keep B0.out) (hr.move (fun _ h _ => h) B0.out.size (fun b _ hl => B0.out.block b hl))
  clear hk hs hi hT hBT hr
  go_enter Tryz.func9, Tryz.ntmps9
  go_upto_region 1 with fail
  generalize (w.alloc (Obj.cells (lkC k.l k.nm tr pe on mo) 28)) = w0 at *
  generalize hvb : w.heap.size = H at *
  have HS : Hid (w.heap.size = H) := hvb
  clear hvb
  go_wp2_with (first | (refine load_link_if rfl _ rfl H rfl LA.out hl ?_))
  refine HP.out.mono ?_
  rintro e w1 ⟨rfl, b1⟩
  have HW1 : Hid (Below H w w1) := B0.out.trans (b1.mono (by have := LA.out.lt; omega))
  clear b1 HP B0 LA
  by_cases h0 : ckN k = 0
  · have HE : Hid (prE k = .returned (.tuple #[.string (bs (wS (prm k))), .int .i64 0])) := (pr_yes h0).symm
    rw [HE.out]
    have H0 := Lib.hid h0
    generalize bs (wS (prm k)) = tx at *
    clear h0
    go_wp2
    go_ret
    exact ⟨by rw [H0.out]; rfl, HS.out ▸ HW1.out⟩
  · have HE : Hid (prE k = .returned (.tuple #[.string ⟨#[]⟩, .int .i64 (ckN k)])) := (pr_no rfl h0).symm
    rw [HE.out]
    generalize hce : ckN k = ce at *
    have HCE := Lib.hid hce
    clear h0 hce
    go_wp2
    go_ret
    exact ⟨ret_i HCE.out.symm, HS.out ▸ HW1.out⟩
end Go.Proofs.YtnpcbcfjnhjmmaaGreatDoor
