import Derived.Test.YtjfgpplomldeiaaGreatDoorRg
namespace Go.Proofs.YtjfgpplomldeiaaGreatDoor
open Go.RowKit Go.Deep
theorem any_of_none {α : Type} {l : List α} {p : α → Bool} (h : ∀ (j : Nat) (x : α), j < l.length → l[j]? = some x → p x = false) : l.any p = false := by
  rw [List.any_eq_false]
  intro x hx
  obtain ⟨j, hj⟩ := List.mem_iff_getElem?.1 hx
  have := h j x (List.getElem?_eq_some_iff.1 hj).1 hj
  simp [this]
set_option maxHeartbeats 4000000 in
set_option maxRecDepth 100000 in
theorem rform (k : Lk) (tr pe on mo : Value) (w : World) (hk : k.ok) (hi : ∀ x ∈ k.rs, I64 x.1 ∧ I64 x.2) (hr : RL4 (fun _ => True) w k tr pe on mo) :
    Calls Tryz.prog 16 #[.agg (lkC k.l k.nm tr pe on mo)] w fun e w' => e = .returned (.bool (fmB k)) ∧ Below w.heap.size w w' := by
  obtain ⟨oa, oc, rfl⟩ : ∃ a c, on = .slice a k.rs.length c := by obtain ⟨p, q, e, _⟩ := hr.2.2.1; exact ⟨p, q, e⟩
  obtain ⟨ma, mc, rfl⟩ : ∃ a c, mo = .slice a k.dn c := by obtain ⟨p, q, e, _⟩ := hr.2.2.2; exact ⟨p, q, e⟩
  have hl := hk.l
  have B0 : Hid (Below w.heap.size w (w.alloc (Obj.cells (lkC k.l k.nm tr pe (.slice oa k.rs.length oc) (.slice ma k.dn mc)) 28))) := (Below.refl _ _).alloc (Nat.le_refl _) _
  have LA : Hid (LB (w.alloc (Obj.cells (lkC k.l k.nm tr pe (.slice oa k.rs.length oc) (.slice ma k.dn mc)) 28)) w.heap.size k.l k.nm tr pe (.slice oa k.rs.length oc) (.slice ma k.dn mc)) := heap_new _ _
  have HF : Hid (fmB k = (!winB k.ts ⟨#[]⟩ && (!winB k.ps ⟨#[]⟩ && (!k.rs.any srB && !spA k.dn k.ky k.dv)))) := rfl
  have HR : Hid (RL4 (fun _ => True) (w.alloc (Obj.cells (lkC k.l k.nm tr pe (.slice oa k.rs.length oc) (.slice ma k.dn mc)) 28)) k tr pe (.slice oa k.rs.length oc) (.slice ma k.dn mc)) := hr.move (fun _ h _ => h) B0.out.size (fun b _ hl => B0.out.block b hl)
  have HR0 : Hid (RR (fun _ => True) w (.slice oa k.rs.length oc) k.rs ∧ RD (fun _ => True) w k.dn k.ky k.dv (.slice ma k.dn mc)) := hr.2.2
  have HI0 : Hid (k.ok ∧ ∀ x ∈ k.rs, I64 x.1 ∧ I64 x.2) := ⟨hk, hi⟩
  have hrl : k.rs.length ≤ 140737488351232 := hk.rs
  have hdl : k.dn ≤ 140737488351232 := hk.dn.1
  clear hr hi hk
  go_enter Tryz.func16, Tryz.ntmps16
  go_upto_region 1 with fail
  generalize (w.alloc (Obj.cells (lkC k.l k.nm tr pe (.slice oa k.rs.length oc) (.slice ma k.dn mc)) 28)) = w0 at *
  generalize hvb : w.heap.size = H at *
  have HS : Hid (w.heap.size = H) := hvb
  clear hvb
  obtain ⟨a32, a33, a34, a35, a36⟩ := LA.out.cells hl
  clear a32 a35 a36
  go_wp2_with fail
  refine (rwithin tr k.ts ⟨#[]⟩ _ HR.out.1 HI0.out.1.ts.1).mono ?_
  rintro e w1 ⟨rfl, rfl⟩
  generalize winB k.ts ⟨#[]⟩ = q1 at *
  cases q1 with
  | true =>
    clear LA HR
    go_wp2
    go_ret
    exact ⟨ret_b (by rw [HF.out]; rfl), HS.out ▸ B0.out⟩
  | false =>
  go_wp2_with fail
  refine (rwithin pe k.ps ⟨#[]⟩ _ HR.out.2.1 HI0.out.1.ps.1).mono ?_
  rintro e w1 ⟨rfl, rfl⟩
  generalize winB k.ps ⟨#[]⟩ = q2 at *
  cases q2 with
  | true =>
    clear LA HR
    go_wp2
    go_ret
    exact ⟨ret_b (by rw [HF.out]; rfl), HS.out ▸ B0.out⟩
  | false =>
  clear HR a33 a34
  generalize hn : k.rs.length = n at *
  have HN : Hid (k.rs.length = n) := hn
  clear hn
  go_wp2
  go_loopw [4] (fun t wr => ∃ i : Nat, i ≤ n ∧ t = .int .i64 i ∧ Hid (Below H w wr ∧ LB wr H k.l k.nm tr pe (.slice oa n oc) (.slice ma k.dn mc) ∧ ∀ (j : Nat) (y : Int × Int), j < i → k.rs[j]? = some y → srB y = false)) (fun t _ => n - (intOf t).toNat)
  case atStart => exact ⟨0, Nat.zero_le _, rfl, B0.out, LA.out, fun j y hj => absurd hj (Nat.not_lt_zero _)⟩
  case round =>
    clear B0 LA
    obtain ⟨i, hi, rfl, HI⟩ := hrel
    have a35 := (HI.out.2.1.cells hl).2.2.2.1
    by_cases hlt : i < n
    · obtain ⟨x, hx⟩ : ∃ x, k.rs[i]? = some x := ⟨_, List.getElem?_eq_getElem (by rw [HN.out]; exact hlt)⟩
      obtain ⟨p, q, e9, hc⟩ := HR0.out.1
      rw [HN.out] at e9 hc
      simp only [Value.slice.injEq, true_and] at e9
      obtain ⟨rfl, rfl⟩ := e9
      rcases hc with h | ⟨g, o, rfl, _, hg, hc⟩
      · omega
      have hle : w.heap.size ≤ H := Nat.le_of_eq HS.out
      have g0 := Below.cellS HI.out.1 hle (hc i x hx).1
      have g1 := Below.cellS HI.out.1 hle (hc i x hx).2
      have HXI := Lib.hid hx
      obtain ⟨⟨r1, r2⟩, r3, r4⟩ := HI0.out.2 x (List.mem_of_getElem? hx)
      have HHB : Hid (srB x = (decide (x.1 < 0) || (decide (x.2 < 1) || decide (4096 - x.2 < x.1)))) := rfl
      clear hc hx hle
      obtain ⟨xa, xb⟩ := x
      simp only at g0 g1 r1 r2 r3 r4 HHB
      have HST : Hid (∀ ob, Below H w (wr.alloc ob) ∧ LB (wr.alloc ob) H k.l k.nm tr pe (.slice (some ⟨g, o, none⟩) n oc) (.slice ma k.dn mc)) := fun ob => ⟨HI.out.1.alloc (by have := HI.out.1.size; have := HS.out; omega) _, HI.out.2.1.keep (Below.heap_alloc _ _ _ HI.out.2.1.lt)⟩
      have HT : Hid (srB (xa, xb) = true → false = fmB k) := fun hid => by
        have h9 : k.rs.any srB = true := List.any_eq_true.2 ⟨_, List.mem_of_getElem? HXI.out, hid⟩
        rw [HF.out, h9]; rfl
      have HJ : Hid (srB (xa, xb) = false → ∀ (j : Nat) (y : Int × Int), j < i + 1 → k.rs[j]? = some y → srB y = false) := fun hid j y hj hy => by
        rcases Nat.lt_succ_iff_lt_or_eq.1 hj with h | rfl
        · exact HI.out.2.2 j y h hy
        · have h9 := HXI.out
          rw [hy] at h9
          cases h9
          exact hid
      clear HI
      by_cases c1 : xa < 0
      · have HE : Hid (false = fmB k) := HT.out (by rw [HHB.out, decide_eq_true c1]; rfl)
        clear HHB HT HJ r1 r2 r3 r4
        go_wp2
        go_ret
        exact ⟨ret_b HE.out, HS.out ▸ (HST.out _).1⟩
      · by_cases c2 : 4096 ≤ xa
        · have HE : Hid (false = fmB k) := HT.out (by
            rw [HHB.out]
            by_cases c3 : xb < 1
            · rw [decide_eq_true c3]; simp
            · rw [decide_eq_true (show 4096 - xb < xa by omega)]; simp)
          clear HHB HT HJ
          go_wp2
          go_ret
          exact ⟨ret_b HE.out, HS.out ▸ (HST.out _).1⟩
        · by_cases c3 : xb < 1
          · have HE : Hid (false = fmB k) := HT.out (by rw [HHB.out, decide_eq_true c3]; simp)
            clear HHB HT HJ
            go_wp2
            go_ret
            exact ⟨ret_b HE.out, HS.out ▸ (HST.out _).1⟩
          · by_cases c4 : 4096 - xa < xb
            · have HE : Hid (false = fmB k) := HT.out (by rw [HHB.out, decide_eq_true (show 4096 - xb < xa by omega)]; simp)
              clear HHB HT HJ
              go_wp2
              go_ret
              exact ⟨ret_b HE.out, HS.out ▸ (HST.out _).1⟩
            · have HK : Hid (∀ (j : Nat) (y : Int × Int), j < i + 1 → k.rs[j]? = some y → srB y = false) := HJ.out (by rw [HHB.out, decide_eq_false c1, decide_eq_false c3, decide_eq_false (show ¬ 4096 - xb < xa by omega)]; rfl)
              clear HHB HT HJ
              go_wp2
              exact ⟨⟨i + 1, by omega, by go_num, (HST.out _).1, (HST.out _).2, HK.out⟩, by simp [intOf]; omega⟩
    · obtain rfl : i = n := by omega
      have HG : Hid (fmB k = !spA k.dn k.ky k.dv) := by
        have h9 : k.rs.any srB = false := any_of_none fun j x h1 h2 => HI.out.2.2 j x (by have := HN.out; omega) h2
        have h8 := HF.out
        rw [h9] at h8
        exact h8
      have B1 : Hid (Below H w wr) := HI.out.1
      have L1 : Hid (LB wr H k.l k.nm tr pe (.slice oa i oc) (.slice ma k.dn mc)) := HI.out.2.1
      clear HI HF
      go_wp2
      clear a35
      go_loopw [6] (fun t wr => ∃ p : Nat, p ≤ k.dn ∧ t = .int .i64 p ∧ Hid (Below H w wr ∧ LB wr H k.l k.nm tr pe (.slice oa i oc) (.slice ma k.dn mc) ∧ ∀ (j : Nat), j < p → spB (k.ky j) (k.dv j) = false)) (fun t _ => k.dn - (intOf t).toNat)
      case atStart => exact ⟨0, Nat.zero_le _, rfl, B1.out, L1.out, fun j hj => absurd hj (Nat.not_lt_zero _)⟩
      case round =>
        clear B1 L1
        obtain ⟨p, hp, rfl, HI⟩ := hrel
        have a36 := (HI.out.2.1.cells hl).2.2.2.2
        by_cases hlt : p < k.dn
        · obtain ⟨p0, q0, e9, hc⟩ := HR0.out.2
          simp only [Value.slice.injEq, true_and] at e9
          obtain ⟨rfl, rfl⟩ := e9
          rcases hc with h | ⟨g, o, rfl, _, hg, hc⟩
          · omega
          have hle : w.heap.size ≤ H := Nat.le_of_eq HS.out
          obtain ⟨x1, y1, hrv, e0, e1, e2, e3, e4, e5⟩ := hc p hlt
          obtain ⟨a1, c1, a2, c2, rfl, rfl⟩ := hrv.sl
          have g0 := Below.cellS HI.out.1 hle e0
          have g1 := Below.cellS HI.out.1 hle e1
          have g2 := Below.cellS HI.out.1 hle e2
          have g3 := Below.cellS HI.out.1 hle e3
          have g4 := Below.cellS HI.out.1 hle e4
          have g5 := Below.cellS HI.out.1 hle e5
          have HHB : Hid (spB (k.ky p) (k.dv p) = ((k.ky p).toList == [] || (!((k.dv p).k == 2) || (!((k.dv p).n == 0) || (decide (0 < (k.dv p).ln) || decide (0 < (k.dv p).dn)))))) := rfl
          clear hc hle e0 e1 e2 e3 e4 e5 hrv
          have HST : Hid (∀ ob, Below H w (wr.alloc ob) ∧ LB (wr.alloc ob) H k.l k.nm tr pe (.slice oa i oc) (.slice (some ⟨g, o, none⟩) k.dn mc)) := fun ob => ⟨HI.out.1.alloc (by have := HI.out.1.size; have := HS.out; omega) _, HI.out.2.1.keep (Below.heap_alloc _ _ _ HI.out.2.1.lt)⟩
          have HT : Hid (spB (k.ky p) (k.dv p) = true → false = fmB k) := fun hid => by
            have h9 : spA k.dn k.ky k.dv = true := List.any_eq_true.2 ⟨p, List.mem_range.2 hlt, hid⟩
            rw [HG.out, h9]; rfl
          have HJ : Hid (spB (k.ky p) (k.dv p) = false → ∀ (j : Nat), j < p + 1 → spB (k.ky j) (k.dv j) = false) := fun hid j hj => by
            rcases Nat.lt_succ_iff_lt_or_eq.1 hj with h | rfl
            · exact HI.out.2.2 j h
            · exact hid
          clear HI
          generalize k.ky p = key at *
          generalize (k.dv p).k = kd at *
          generalize (k.dv p).n = nn at *
          generalize (k.dv p).s = ss at *
          generalize (k.dv p).ln = ll at *
          generalize (k.dv p).dn = dd at *
          have a36b := cell_alloc_old (o := Obj.cells #[.int .i64 kd, .int .i64 nn, .string ss, .slice a1 ll c1, .slice a2 dd c2] 46) a36
          have g0b := cell_alloc_old (o := Obj.cells #[.int .i64 kd, .int .i64 nn, .string ss, .slice a1 ll c1, .slice a2 dd c2] 46) g0
          cases h0 : (key.toList == []) with
          | true =>
            have HE : Hid (false = fmB k) := HT.out (by rw [HHB.out, h0]; rfl)
            clear HHB HT HJ
            go_wp2
            go_ret
            exact ⟨ret_b HE.out, HS.out ▸ (HST.out _).1⟩
          | false =>
            by_cases h1 : kd = 2
            · subst h1
              by_cases h2 : nn = 0
              · subst h2
                by_cases h3 : ll = 0
                · subst h3
                  by_cases h4 : dd = 0
                  · subst h4
                    have HK : Hid (∀ (j : Nat), j < p + 1 → spB (k.ky j) (k.dv j) = false) := HJ.out (by rw [HHB.out, h0]; rfl)
                    clear HHB HT HJ
                    go_wp2
                    exact ⟨⟨p + 1, by omega, by go_num, (HST.out _).1, (HST.out _).2, HK.out⟩, by simp [intOf]; omega⟩
                  · have h5 : 0 < dd := by omega
                    have HE : Hid (false = fmB k) := HT.out (by rw [HHB.out, decide_eq_true h5]; simp)
                    clear HHB HT HJ
                    go_wp2
                    go_ret
                    exact ⟨ret_b HE.out, HS.out ▸ (HST.out _).1⟩
                · have h5 : 0 < ll := by omega
                  have HE : Hid (false = fmB k) := HT.out (by rw [HHB.out, decide_eq_true h5]; simp)
                  clear HHB HT HJ
                  go_wp2
                  go_ret
                  exact ⟨ret_b HE.out, HS.out ▸ (HST.out _).1⟩
              · have HE : Hid (false = fmB k) := HT.out (by rw [HHB.out]; simp [h2])
                clear HHB HT HJ
                go_wp2
                go_ret
                exact ⟨ret_b HE.out, HS.out ▸ (HST.out _).1⟩
            · have HE : Hid (false = fmB k) := HT.out (by rw [HHB.out]; simp [h1])
              clear HHB HT HJ
              go_wp2
              go_ret
              exact ⟨ret_b HE.out, HS.out ▸ (HST.out _).1⟩
        · obtain rfl : p = k.dn := by omega
          have HE : Hid (true = fmB k) := by
            have h9 : spA k.dn k.ky k.dv = false := by
              rw [spA, List.any_eq_false]
              intro j hj
              simp [HI.out.2.2 j (List.mem_range.1 hj)]
            rw [HG.out, h9]; rfl
          have B1 : Hid (Below H w wr) := HI.out.1
          clear HI
          go_wp2
          go_ret
          exact ⟨ret_b HE.out, HS.out ▸ B1.out⟩
end Go.Proofs.YtjfgpplomldeiaaGreatDoor
