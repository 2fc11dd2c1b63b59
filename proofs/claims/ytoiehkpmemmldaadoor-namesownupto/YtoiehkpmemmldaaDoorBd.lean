import Derived.Test.YtoiehkpmemmldaaDoorBc
import Derived.Deep.RegionHeld3
namespace Go.Proofs.YtoiehkpmemmldaaDoor
open Go.RowKit
theorem drewN2 (w : World) (a b : Nat) : (w.drewN a).drewN b = w.drewN (a + b) := by simp [World.drewN, Nat.add_assoc]
/-- the lists with other strings: as many, and none too long -/
structure Like (M : Nat) (L L' : List (List ByteArray)) : Prop where
  len : L'.length = L.length
  lens : ∀ j, (la L' j).length = (la L j).length
  sz : ∀ j k, k < (la L' j).length → (sa (la L' j) k).size ≤ M
theorem Like.set {M : Nat} {L L' : List (List ByteArray)} (h : Like M L L') (i k : Nat) (s : ByteArray) (hs : s.size ≤ M) : Like M L (L'.set i ((la L' i).set k s)) := by
  have key : ∀ j, la (L'.set i ((la L' i).set k s)) j = if j = i ∧ i < L'.length then (la L' i).set k s else la L' j := fun j => by
    show (L'.set i ((la L' i).set k s)).getD j [] = _
    rw [List.getD_eq_getElem?_getD, List.getElem?_set]
    by_cases h1 : i = j
    · subst h1
      by_cases h2 : i < L'.length
      · simp [h2]
      · simp only [h2, if_true, if_false, and_false, Option.getD_none]
        show [] = L'.getD i []
        rw [List.getD_eq_getElem?_getD, List.getElem?_eq_none (by omega)]; rfl
    · rw [if_neg h1, if_neg (fun e => h1 e.1.symm), ← List.getD_eq_getElem?_getD]; rfl
  refine ⟨by rw [List.length_set]; exact h.len, fun j => ?_, fun j q hq => ?_⟩
  · rw [key]
    split
    · rename_i e; rw [List.length_set, h.lens, e.1]
    · exact h.lens j
  · rw [key] at hq ⊢
    split
    · rename_i e
      rw [if_pos e] at hq
      rw [List.length_set] at hq
      unfold sa
      rw [List.getD_eq_getElem?_getD, List.getElem?_set]
      by_cases h1 : k = q
      · subst h1; simp [hq]; exact hs
      · rw [if_neg h1, ← List.getD_eq_getElem?_getD]
        exact h.sz i q hq
    · rename_i e
      rw [if_neg e] at hq
      exact h.sz j q hq
theorem tot_like {L L' : List (List ByteArray)} (h1 : L'.length = L.length) (h2 : ∀ j, (la L' j).length = (la L j).length) : tot L' = tot L := by
  have : L'.map List.length = L.map List.length := by
    refine List.ext_getElem (by simpa using h1) (fun i g1 g2 => ?_)
    have := h2 i
    simp only [List.length_map] at g1 g2
    rw [la_get g1, la_get g2] at this
    simpa using this
  unfold tot
  rw [this]
theorem tot_rev {L L' : List (List ByteArray)} (h1 : L'.length = L.length) (h2 : ∀ j, j < L.length → la L' j = la L (L.length - 1 - j)) : tot L' = tot L := by
  have : L' = L.reverse := by
    refine List.ext_getElem (by simpa using h1) (fun i g1 g2 => ?_)
    have hi : i < L.length := by omega
    have := h2 i hi
    rw [la_get g1, la_get (by omega)] at this
    rw [this, List.getElem_reverse]
  subst this
  unfold tot
  rw [List.map_reverse, List.sum_reverse]
theorem la_set_ne (L : List (List ByteArray)) (l : List ByteArray) {i j : Nat} (h : j ≠ i) : la (L.set i l) j = la L j := by
  show (L.set i l).getD j [] = L.getD j []
  simp [List.getD, List.getElem?_set_ne (fun x => h x.symm)]
theorem la_set_eq (L : List (List ByteArray)) (l : List ByteArray) {i : Nat} (h : i < L.length) : la (L.set i l) i = l := by
  show (L.set i l).getD i [] = l
  simp [List.getD, h]
theorem sa_set_ne (l : List ByteArray) (s : ByteArray) {k q : Nat} (h : q ≠ k) : sa (l.set k s) q = sa l q := by
  show (l.set k s).getD q ByteArray.empty = l.getD q ByteArray.empty
  simp [List.getD, List.getElem?_set_ne (fun x => h x.symm)]
theorem mem_tot : ∀ (L : List (List ByteArray)) (l : List ByteArray), l ∈ L → l.length ≤ tot L
  | [], _, h => by cases h
  | a :: L, l, h => by
    have e : tot (a :: L) = a.length + tot L := by simp [tot]
    rw [e]
    rcases List.mem_cons.1 h with rfl | h
    · omega
    · have := mem_tot L l h; omega
theorem pf_of {L : List (List ByteArray)} {M : Nat} (h1 : L.length + tot L ≤ 1000000000000) (h2 : ∀ j, j < L.length → ∀ k, k < (la L j).length → (sa (la L j) k).size ≤ M) (hM : M ≤ 140737488351232) : PF L := by
  refine ⟨h1, fun l hl => ?_⟩
  obtain ⟨j, hj, e⟩ := List.getElem_of_mem hl
  have hjl : la L j = l := by rw [la_get hj]; exact e
  refine ⟨?_, fun s hs => ?_⟩
  · have := mem_tot L l hl
    omega
  · obtain ⟨k, hk, e2⟩ := List.getElem_of_mem hs
    have := h2 j hj k (by rw [hjl]; exact hk)
    rw [hjl, sa_get hk, e2] at this
    omega
set_option maxHeartbeats 8000000 in
set_option maxRecDepth 100000 in
theorem anew17 (ORD : ∀ (v : Value) (L : List (List ByteArray)) (w : World), PF L → PR w L v → Calls Tryd.prog 10 #[v] w (OO L w)) (B : Nat) (gi cap gl n : Nat) (vs : List Value) (L : List (List ByteArray)) (gp pc pn : Nat) (p : List ByteArray) (w : World) (hB : B ≤ w.heap.size)
    (h : IN B w gi cap gl n vs L) (hp : Piece B w (.slice (some ⟨gp, 0, none⟩) pn pc) p) (hd : ∀ q, inS gi gl vs q → q ≠ gp) (hn : n + tot L ≤ 1048576) (hM : ∀ j k, k < (la L j).length → (sa (la L j) k).size ≤ 1048576) (hpn : pn ≤ 1048576) (hpM : ∀ k, k < p.length → (sa p k).size ≤ 1048576) :
    Calls Tryd.prog 17 #[.slice (some ⟨gi, 0, none⟩) n cap, .slice (some ⟨gp, 0, none⟩) pn pc] w fun e w' => e = .returned (.bool true) ∧ Below B w w' := by
  have hcap := h.cap
  have HI : Hid (IN B w gi cap gl n vs L ∧ Piece B w (.slice (some ⟨gp, 0, none⟩) pn pc) p ∧ Like 1048577 L L ∧ Below B w w ∧ B ≤ w.heap.size) := ⟨h, hp, ⟨rfl, fun _ => rfl, fun j k hk => by have := hM j k hk; omega⟩, Below.refl _ _, hB⟩
  have HD : Hid (∀ q, inS gi gl vs q → q ≠ gp) := hd
  have HM : Hid ((∀ j k, k < (la L j).length → (sa (la L j) k).size ≤ 1048576) ∧ (∀ k, k < p.length → (sa p k).size ≤ 1048576) ∧ n + tot L ≤ 1048576) := ⟨hM, hpM, hn⟩
  have hn' : n ≤ 1048576 := by omega
  have HI0 : Hid (B ≤ w.heap.size) := hB
  clear h hp hd hM hpM hB hn
  go_enter Tryd.func17, Tryd.ntmps17
  go_wp2
  go_loopw [5] (fun t wr => ∃ (i : Nat) (L' : List (List ByteArray)), i ≤ n ∧ t = .int .i64 i ∧ Hid (IN B wr gi cap gl n vs L' ∧ Piece B wr (.slice (some ⟨gp, 0, none⟩) pn pc) p ∧ Like 1048577 L L' ∧ Below B w wr ∧ ∀ j, i ≤ j → la L' j = la L j)) (fun t _ => n - (intOf t).toNat)
  case atStart => exact ⟨0, L, Nat.zero_le _, rfl, HI.out.1, HI.out.2.1, HI.out.2.2.1, HI.out.2.2.2.1, fun _ _ => rfl⟩
  case round =>
    obtain ⟨i, L', hi, rfl, H⟩ := hrel
    by_cases hlt : i < n
    · obtain ⟨m, hm⟩ : ∃ m, m = (la L i).length := ⟨_, rfl⟩
      have hml : m ≤ 1048576 := by
        have h1 := HM.out.2.2
        have hiL : i < L.length := by have := H.out.2.2.1.len; rw [H.out.1.ll] at this; omega
        have := mem_tot L (la L i) (la_mem hiL)
        omega
      obtain ⟨g, c, ev, ep⟩ := H.out.1.each i hlt
      rw [H.out.2.2.1.lens, ← hm] at ev
      go_wp2
      go_loopw [6] (fun t wr => ∃ (k : Nat) (L2 : List (List ByteArray)), k ≤ m ∧ t = .int .i64 k ∧ Hid (IN B wr gi cap gl n vs L2 ∧ Piece B wr (.slice (some ⟨gp, 0, none⟩) pn pc) p ∧ Like 1048577 L L2 ∧ Below B w wr ∧ (∀ j, i + 1 ≤ j → la L2 j = la L j) ∧ ∀ q, k ≤ q → sa (la L2 i) q = sa (la L i) q)) (fun t _ => m - (intOf t).toNat)
      case atStart => exact ⟨0, L', Nat.zero_le _, rfl, H.out.1, H.out.2.1, H.out.2.2.1, H.out.2.2.2.1, fun j hj => H.out.2.2.2.2 j (by omega), fun q _ => by rw [H.out.2.2.2.2 i (Nat.le_refl _)]⟩
      case round =>
        clear H ep
        obtain ⟨k, L2, hk, rfl, H2⟩ := hrel
        have hcl := H2.out.1.cell i hlt
        rw [ev] at hcl
        by_cases hkl : k < m
        · have HDr : IN B wr.drew gi cap gl n vs L2 := H2.out.1.fr (S := fun _ => True) (Fr.of_below (drN wr 1)) (fun _ _ => trivial)
          obtain ⟨g', c', e1, e2, e3, e4⟩ := HDr.setS i k hlt (by rw [H2.out.2.2.1.lens, ← hm]; exact hkl)
          rw [ev] at e1
          simp only [Value.slice.injEq, Option.some.injEq, Addr.mk.injEq, and_true] at e1
          obtain ⟨rfl, _, rfl⟩ := e1
          have hne0 : gi ≠ g := fun e => by
            obtain ⟨_, t1⟩ := (ownsRow_lt H2.out.1.row gi rfl).2
            obtain ⟨_, _, t2⟩ := (H2.out.1.each i hlt).blk g (by rw [ev]; rfl)
            exact tag_ne t1 t2 (by decide) e
          have hxs : (sa (la L2 i) k).size ≤ 1048576 := by
            rw [H2.out.2.2.2.2.2 k (Nat.le_refl _)]
            exact HM.out.1 i k (by rw [← hm]; exact hkl)
          have hx1 : ((sa (la L2 i) k) ++ (⟨#[113]⟩ : ByteArray)).size ≤ 1048577 := by
            rw [ByteArray.size_append]
            show _ + 1 ≤ _
            omega
          have HN : Hid (IN B (wr.drew.setCell ⟨g, k, none⟩ (.string (sa (la L2 i) k ++ ⟨#[113]⟩))) gi cap gl n vs (L2.set i ((la L2 i).set k (sa (la L2 i) k ++ ⟨#[113]⟩))) ∧ B ≤ g) := e4 _
          have HL : Hid (Like 1048577 L (L2.set i ((la L2 i).set k (sa (la L2 i) k ++ ⟨#[113]⟩)))) := H2.out.2.2.1.set i k _ hx1
          clear e4 HDr
          generalize sa (la L2 i) k = x at *
          go_wp2
          refine wp_region_held_drew (S := fun u => u.cell? ⟨gi, i, none⟩ = some (.slice (some ⟨g, 0, none⟩) m c)) (by kernel_rfl) (hcl) (fun hHeld => ?_)
          refine wpAnyH_take (i := 0) (v := .slice (some ⟨gi, 0, none⟩) n cap) rfl (by kernel_rfl) (by kernel_rfl) (by kernel_rfl) (fun _ _ _ h => h) (Or.inl ⟨by rfl, fun w hw => by go_simp⟩) hHeld ?_
          simp only [Act.put, List.getElem_toArray, List.getElem_cons_zero, List.setIfInBounds_toArray, List.set_cons_zero, List.set_cons_succ]
          refine wpAnyH_take (i := 1) (v := .int .i64 i) rfl (by kernel_rfl) (by kernel_rfl) (by kernel_rfl) (fun _ _ _ h => h) (Or.inl ⟨by rfl, fun w hw => by go_simp⟩) hHeld ?_
          simp only [Act.put, List.getElem_toArray, List.getElem_cons_zero, List.getElem_cons_succ, List.setIfInBounds_toArray, List.set_cons_zero, List.set_cons_succ]
          refine wpAnyH_take (i := 2) (v := .pointer (some ⟨gi, i, none⟩)) rfl (by kernel_rfl) (by kernel_rfl) (by kernel_rfl) (fun _ _ _ h => h) (Or.inl ⟨by rfl, fun w hw => by go_simp⟩) hHeld ?_
          simp only [Act.put, List.getElem_toArray, List.getElem_cons_zero, List.getElem_cons_succ, List.setIfInBounds_toArray, List.set_cons_zero, List.set_cons_succ]
          refine wpAnyH_take (i := 3) (v := .slice (some ⟨g, 0, none⟩) m c) rfl (by kernel_rfl) (by kernel_rfl) (by kernel_rfl) (fun _ _ _ h => h) (Or.inl ⟨by rfl, fun w hw => by have hw2 : w.cell? ⟨gi, i, none⟩ = some (.slice (some ⟨g, 0, none⟩) m c) := hw; go_simp⟩) hHeld ?_
          simp only [Act.put, List.getElem_toArray, List.getElem_cons_zero, List.getElem_cons_succ, List.setIfInBounds_toArray, List.set_cons_zero, List.set_cons_succ]
          refine wpAnyH_take (i := 4) (v := .int .i64 k) rfl (by kernel_rfl) (by kernel_rfl) (by kernel_rfl) (fun _ _ _ h => h) (Or.inl ⟨by rfl, fun w hw => by go_simp⟩) hHeld ?_
          simp only [Act.put, List.getElem_toArray, List.getElem_cons_zero, List.getElem_cons_succ, List.setIfInBounds_toArray, List.set_cons_zero, List.set_cons_succ]
          refine wpAnyH_take (i := 5) (v := .slice (some ⟨gi, 0, none⟩) n cap) rfl (by kernel_rfl) (by kernel_rfl) (by kernel_rfl) (fun _ _ _ h => h) (Or.inl ⟨by rfl, fun w hw => by go_simp⟩) hHeld ?_
          simp only [Act.put, List.getElem_toArray, List.getElem_cons_zero, List.getElem_cons_succ, List.setIfInBounds_toArray, List.set_cons_zero, List.set_cons_succ]
          refine wpAnyH_take (i := 6) (v := .int .i64 i) rfl (by kernel_rfl) (by kernel_rfl) (by kernel_rfl) (fun _ _ _ h => h) (Or.inl ⟨by rfl, fun w hw => by go_simp⟩) hHeld ?_
          simp only [Act.put, List.getElem_toArray, List.getElem_cons_zero, List.getElem_cons_succ, List.setIfInBounds_toArray, List.set_cons_zero, List.set_cons_succ]
          refine wpAnyH_take (i := 7) (v := .pointer (some ⟨gi, i, none⟩)) rfl (by kernel_rfl) (by kernel_rfl) (by kernel_rfl) (fun _ _ _ h => h) (Or.inl ⟨by rfl, fun w hw => by go_simp⟩) hHeld ?_
          simp only [Act.put, List.getElem_toArray, List.getElem_cons_zero, List.getElem_cons_succ, List.setIfInBounds_toArray, List.set_cons_zero, List.set_cons_succ]
          refine wpAnyH_take (i := 8) (v := .slice (some ⟨g, 0, none⟩) m c) rfl (by kernel_rfl) (by kernel_rfl) (by kernel_rfl) (fun _ _ _ h => h) (Or.inl ⟨by rfl, fun w hw => by have hw2 : w.cell? ⟨gi, i, none⟩ = some (.slice (some ⟨g, 0, none⟩) m c) := hw; go_simp⟩) hHeld ?_
          simp only [Act.put, List.getElem_toArray, List.getElem_cons_zero, List.getElem_cons_succ, List.setIfInBounds_toArray, List.set_cons_zero, List.set_cons_succ]
          refine wpAnyH_take (i := 9) (v := .int .i64 k) rfl (by kernel_rfl) (by kernel_rfl) (by kernel_rfl) (fun _ _ _ h => h) (Or.inl ⟨by rfl, fun w hw => by go_simp⟩) hHeld ?_
          simp only [Act.put, List.getElem_toArray, List.getElem_cons_zero, List.getElem_cons_succ, List.setIfInBounds_toArray, List.set_cons_zero, List.set_cons_succ]
          refine wpAnyH_take (i := 10) (v := .pointer (some ⟨g, k, none⟩)) rfl (by kernel_rfl) (by kernel_rfl) (by kernel_rfl) (fun _ _ _ h => h) (Or.inl ⟨by rfl, fun w hw => by go_simp⟩) hHeld ?_
          simp only [Act.put, List.getElem_toArray, List.getElem_cons_zero, List.getElem_cons_succ, List.setIfInBounds_toArray, List.set_cons_zero, List.set_cons_succ]
          refine wpAnyH_ready (rs := [11]) (by kernel_rfl) (by simp) ?_
          refine AllReadyH.cons (o := _) rfl (fun K hK => ?_) AllReadyH.nil
          go_simp
          refine hK.out _ _ (hHeld) (fun hHeld => ?_)
          clear hK K
          refine wpAnyH_take (i := 12) (v := .string (x ++ ⟨#[113]⟩)) rfl (by kernel_rfl) (by kernel_rfl) (by kernel_rfl) (fun _ _ _ h => h) (Or.inl ⟨by rfl, fun w hw => by go_simp; omega⟩) hHeld ?_
          simp only [Act.put, List.getElem_toArray, List.getElem_cons_zero, List.getElem_cons_succ, List.setIfInBounds_toArray, List.set_cons_zero, List.set_cons_succ]
          refine wpAnyH_take (i := 13) (v := .pointer (some ⟨g, k, none⟩)) rfl (by kernel_rfl) (by kernel_rfl) (by kernel_rfl) (fun _ _ _ h => h) (Or.inl ⟨by rfl, fun w hw => by go_simp⟩) hHeld ?_
          simp only [Act.put, List.getElem_toArray, List.getElem_cons_zero, List.getElem_cons_succ, List.setIfInBounds_toArray, List.set_cons_zero, List.set_cons_succ]
          refine wpAnyH_ready (rs := [14]) (by kernel_rfl) (by simp) ?_
          refine AllReadyH.cons (o := _) rfl (fun K hK => ?_) AllReadyH.nil
          go_simp
          refine hK.out _ _ (by first | exact hHeld | exact (World.cell?_of_block (setCell_other hne0)).trans hHeld) (fun hHeld => ?_)
          clear hK K
          refine wpAnyH_done (by kernel_rfl) ?_ _
          go_wp2
          refine ⟨⟨k + 1, L2.set i ((la L2 i).set k (x ++ (⟨#[113]⟩ : ByteArray))), by omega, by go_num, HN.out.1, ?_, HL.out, ?_, fun j hj => ?_, fun q hq => ?_⟩, by simp [intOf]; omega⟩
          · refine H2.out.2.1.fr (S := fun q => q ≠ g) (((Fr.refl _ _).setCell g k _ (fun _ x => x rfl)).trans (Fr.of_below (drN _ 1)) (fun _ _ x => x)) (fun q hq hqg => ?_)
            simp only [Value.ownBlock, Option.some.injEq] at hq
            exact HD.out g (.inr (.inr ⟨i, by rw [H2.out.1.vl]; exact hlt, by rw [ev]; rfl⟩)) (by rw [← hqg, hq])
          · exact (H2.out.2.2.2.1.setCell (p := ⟨g, k, none⟩) HN.out.2 _).drew
          · rw [la_set_ne _ _ (by omega)]; exact H2.out.2.2.2.2.1 j hj
          · rw [la_set_eq _ _ (by rw [H2.out.1.ll]; exact hlt), sa_set_ne _ _ (by omega)]
            exact H2.out.2.2.2.2.2 q (by omega)
        · obtain rfl : k = m := by omega
          have H3 : Hid (IN B wr gi cap gl n vs L2 ∧ Piece B wr (.slice (some ⟨gp, 0, none⟩) pn pc) p ∧ Like 1048577 L L2 ∧ Below B w wr ∧ ∀ j, i + 1 ≤ j → la L2 j = la L j) := ⟨H2.out.1, H2.out.2.1, H2.out.2.2.1, H2.out.2.2.2.1, H2.out.2.2.2.2.1⟩
          clear H2 hm
          go_wp2
          exact ⟨⟨i + 1, L2, by omega, by go_num, H3⟩, by simp [intOf]; omega⟩
    · obtain rfl : i = n := by omega
      obtain ⟨w1, hw1⟩ : ∃ x, x = wr := ⟨_, rfl⟩
      subst hw1
      have H1 : Hid (IN B w1 gi cap gl i vs L' ∧ Piece B w1 (.slice (some ⟨gp, 0, none⟩) pn pc) p ∧ Like 1048577 L L' ∧ Below B w w1) := ⟨H.out.1, H.out.2.1, H.out.2.2.1, H.out.2.2.2.1⟩
      clear H hi hlt HI
      go_wp2
      obtain ⟨n, hin⟩ : ∃ n, n = i := ⟨_, rfl⟩
      rw [← hin] at H1 ⊢
      rw [← hin] at hn' hcap HM
      clear hin
      go_loopw [7] (fun t wr => ∃ (i : Nat) (vs2 : List Value) (L2 : List (List ByteArray)), 2 * i ≤ n ∧ t = .int .i64 i ∧ Hid (IN B wr gi cap gl n vs2 L2 ∧ Piece B wr (.slice (some ⟨gp, 0, none⟩) pn pc) p ∧ Below B w wr ∧ (∀ q, inS gi gl vs2 q → q ≠ gp) ∧ ∀ j, j < n → la L2 j = if j < i ∨ n - i ≤ j then la L' (n - 1 - j) else la L' j)) (fun t _ => n - (intOf t).toNat)
      case atStart => exact ⟨0, vs, L', by omega, rfl, H1.out.1, H1.out.2.1, H1.out.2.2.2, HD.out, fun j hj => by rw [if_neg (by omega)]⟩
      case round =>
        obtain ⟨i, vs2, L2, hi, rfl, H⟩ := hrel
        by_cases hlt : 2 * i + 1 < n
        · obtain ⟨j, hj⟩ : ∃ j, j = n - 1 - i := ⟨_, rfl⟩
          have hjn : j < n := by omega
          have hij : i ≠ j := by omega
          have hin : i < n := by omega
          obtain ⟨f1, f2, f3, f4, f5, f6⟩ := H.out.1.swap i j hin hjn hij
          have hci := H.out.1.cell i hin
          have hcj := H.out.1.cell j hjn
          obtain ⟨ai, ni, ci, evi⟩ : ∃ a n c, vs2.getD i nv = .slice a n c := by obtain ⟨g, c, e, _⟩ := H.out.1.each i hin; exact ⟨_, _, _, e⟩
          obtain ⟨aj, nj, cj, evj⟩ : ∃ a n c, vs2.getD j nv = .slice a n c := by obtain ⟨g, c, e, _⟩ := H.out.1.each j hjn; exact ⟨_, _, _, e⟩
          have hjz : (n : Int) - 1 - (i : Int) = (j : Int) := by omega
          have HS : Hid (IN B ((wr.setCell ⟨gi, i, none⟩ (vs2.getD j nv)).setCell ⟨gi, j, none⟩ (vs2.getD i nv)) gi cap gl n ((vs2.set i (vs2.getD j nv)).set j (vs2.getD i nv)) ((L2.set i (la L2 j)).set j (la L2 i)) ∧ (∀ q, inS gi gl ((vs2.set i (vs2.getD j nv)).set j (vs2.getD i nv)) q → q ≠ gp) ∧ Below B w ((wr.setCell ⟨gi, i, none⟩ (vs2.getD j nv)).setCell ⟨gi, j, none⟩ (vs2.getD i nv)) ∧ Piece B ((wr.setCell ⟨gi, i, none⟩ (vs2.getD j nv)).setCell ⟨gi, j, none⟩ (vs2.getD i nv)) (.slice (some ⟨gp, 0, none⟩) pn pc) p) :=
            ⟨f4, fun q hq => H.out.2.2.2.1 q (f5 q hq), (H.out.2.2.1.setCell (p := ⟨gi, i, none⟩) f3 _).setCell (p := ⟨gi, j, none⟩) f3 _, H.out.2.1.fr (S := fun q => q ≠ gi) (((Fr.refl _ _).setCell gi i _ (fun _ x => x rfl)).setCell gi j _ (fun _ x => x rfl)) (fun q hq hqg => by
              simp only [Value.ownBlock, Option.some.injEq] at hq
              exact H.out.2.2.2.1 gi (.inl rfl) (by rw [← hqg, hq]))⟩
          have HF : Hid (∀ q, q < n → la ((L2.set i (la L2 j)).set j (la L2 i)) q = if q < i + 1 ∨ n - (i + 1) ≤ q then la L' (n - 1 - q) else la L' q) := fun q hq => by
            rw [f6 q hq]
            have k1 := H.out.2.2.2.2 i hin
            have k2 := H.out.2.2.2.2 j hjn
            have k3 := H.out.2.2.2.2 q hq
            rw [if_neg (by omega)] at k1 k2
            by_cases h1 : q = j
            · rw [if_pos h1, if_pos (by omega), k1, h1, show n - 1 - j = i by omega]
            · rw [if_neg h1]
              by_cases h2 : q = i
              · rw [if_pos h2, if_pos (by omega), k2, h2, ← hj]
              · rw [if_neg h2, k3]
                by_cases h3 : q < i ∨ n - i ≤ q
                · rw [if_pos h3, if_pos (by omega)]
                · rw [if_neg h3, if_neg (by omega)]
          clear f4 f5 f6 H hj
          rw [evi, evj] at HS
          rw [evi] at hci
          rw [evj] at hcj
          generalize (vs2.set i (.slice aj nj cj)).set j (.slice ai ni ci) = vs3 at *
          generalize (L2.set i (la L2 j)).set j (la L2 i) = L3 at *
          have hwr1 : IntKind.i64.wrap (2 * (i : Int)) = 2 * (i : Int) := IntWalk.i64_in _ (by omega)
          go_wp2
          exact ⟨⟨i + 1, vs3, L3, by omega, by go_num, HS.out.1, HS.out.2.2.2, HS.out.2.2.1, HS.out.2.1, HF.out⟩, by simp [intOf]; omega⟩
        · have HPF : Hid (PF L2 ∧ L2.length = n) := by
            have hll : L'.length = n := H1.out.1.ll
            have hl2 : L2.length = n := H.out.1.ll
            have hrev : ∀ j, j < L'.length → la L2 j = la L' (L'.length - 1 - j) := fun j hj => by
              rw [hll] at hj ⊢
              rw [H.out.2.2.2.2 j hj]
              by_cases h1 : j < i ∨ n - i ≤ j
              · rw [if_pos h1]
              · rw [if_neg h1, show n - 1 - j = j by omega]
            have ht := tot_rev (hl2.trans hll.symm) hrev
            have ht2 := tot_like H1.out.2.2.1.len H1.out.2.2.1.lens
            refine ⟨pf_of (M := 1048577) (by rw [ht, ht2, hl2]; have := HM.out.2.2; omega) (fun j hj k hk => ?_) (by omega), hl2⟩
            rw [hrev j (by omega)] at hk ⊢
            exact H1.out.2.2.1.sz _ k hk
          have H2 : Hid (IN B wr gi cap gl n vs2 L2 ∧ Piece B wr (.slice (some ⟨gp, 0, none⟩) pn pc) p ∧ Below B w wr ∧ (∀ q, inS gi gl vs2 q → q ≠ gp)) := ⟨H.out.1, H.out.2.1, H.out.2.2.1, H.out.2.2.2.1⟩
          obtain ⟨w2, hw2⟩ : ∃ x, x = wr := ⟨_, rfl⟩
          subst hw2
          have hne : ¬ ((n : Int) > 2 * (i : Int) + 1) := by omega
          have hwr1 : IntKind.i64.wrap (2 * (i : Int)) = 2 * (i : Int) := IntWalk.i64_in _ (by omega)
          clear H H1 HD
          go_wp2
          go_loopw [9] (fun t wr => ∃ (k : Nat) (p' : List ByteArray), k ≤ pn ∧ t = .int .i64 k ∧ Hid (IN B wr gi cap gl n vs2 L2 ∧ Piece B wr (.slice (some ⟨gp, 0, none⟩) pn pc) p' ∧ Below B w wr ∧ (∀ q, q < p'.length → (sa p' q).size ≤ 1048577) ∧ p'.length = pn ∧ ∀ q, k ≤ q → sa p' q = sa p q)) (fun t _ => pn - (intOf t).toNat)
          case atStart => exact ⟨0, p, Nat.zero_le _, rfl, H2.out.1, H2.out.2.1, H2.out.2.2.1, fun q hq => by have := HM.out.2.1 q hq; omega, by have := H2.out.2.1.cap.1; omega, fun _ _ => rfl⟩
          case round =>
            obtain ⟨k, p', hk, rfl, H⟩ := hrel
            by_cases hkl : k < pn
            · obtain ⟨e1, e2, e3, e4⟩ := H.out.2.1.setS k hkl
              have hxs : (sa p' k).size ≤ 1048576 := by
                rw [H.out.2.2.2.2.2 k (Nat.le_refl _)]
                exact HM.out.2.1 k (by rw [← H2.out.2.1.cap.1]; exact hkl)
              have hx1 : ((sa p' k) ++ (⟨#[113]⟩ : ByteArray)).size ≤ 1048577 := by
                rw [ByteArray.size_append]
                show _ + 1 ≤ _
                omega
              have HN : Hid (IN B (wr.setCell ⟨gp, k, none⟩ (.string (sa p' k ++ (⟨#[113]⟩ : ByteArray)))) gi cap gl n vs2 L2 ∧ Piece B (wr.setCell ⟨gp, k, none⟩ (.string (sa p' k ++ (⟨#[113]⟩ : ByteArray)))) (.slice (some ⟨gp, 0, none⟩) pn pc) (p'.set k (sa p' k ++ (⟨#[113]⟩ : ByteArray))) ∧ Below B w (wr.setCell ⟨gp, k, none⟩ (.string (sa p' k ++ (⟨#[113]⟩ : ByteArray)))) ∧ (∀ q, q < (p'.set k (sa p' k ++ (⟨#[113]⟩ : ByteArray))).length → (sa (p'.set k (sa p' k ++ (⟨#[113]⟩ : ByteArray))) q).size ≤ 1048577) ∧ (p'.set k (sa p' k ++ (⟨#[113]⟩ : ByteArray))).length = pn ∧ ∀ q, k + 1 ≤ q → sa (p'.set k (sa p' k ++ (⟨#[113]⟩ : ByteArray))) q = sa p q) := by
                refine ⟨H.out.1.fr (S := fun q => q ≠ gp) ((Fr.refl _ _).setCell gp k _ (fun _ x => x rfl)) (fun q hq => H2.out.2.2.2 q hq), e4 _, H.out.2.2.1.setCell (p := ⟨gp, k, none⟩) e3 _, fun q hq => ?_, by rw [List.length_set]; exact H.out.2.2.2.2.1, fun q hq => by rw [sa_set_ne _ _ (by omega)]; exact H.out.2.2.2.2.2 q (by omega)⟩
                rw [List.length_set] at hq
                by_cases hqk : q = k
                · subst hqk
                  have : sa (p'.set q (sa p' q ++ (⟨#[113]⟩ : ByteArray))) q = sa p' q ++ (⟨#[113]⟩ : ByteArray) := by
                    show (p'.set q _).getD q ByteArray.empty = _
                    simp [List.getD, hq]
                  rw [this]; exact hx1
                · rw [sa_set_ne _ _ hqk]; exact H.out.2.2.2.1 q hq
              clear e4 H
              generalize p'.set k (sa p' k ++ (⟨#[113]⟩ : ByteArray)) = p2 at *
              generalize sa p' k = x at *
              go_wp2
              exact ⟨⟨k + 1, p2, by omega, by go_num, HN⟩, by simp [intOf]; omega⟩
            · obtain rfl : k = pn := by omega
              have H3 : Hid (IN B wr gi cap gl n vs2 L2 ∧ Piece B wr (.slice (some ⟨gp, 0, none⟩) k pc) p' ∧ Below B w wr ∧ FL p' ∧ p'.length = k) := ⟨H.out.1, H.out.2.1, H.out.2.2.1, ⟨by rw [H.out.2.2.2.2.1]; omega, fun s hs => by
                obtain ⟨q, hq, e⟩ := List.getElem_of_mem hs
                have := H.out.2.2.2.1 q hq
                rw [sa_get hq, e] at this
                omega⟩, H.out.2.2.2.2.1⟩
              obtain ⟨w3, hw3⟩ : ∃ x, x = wr := ⟨_, rfl⟩
              subst hw3
              clear H H2 hk hkl
              go_wp2_with fail
              refine (twins5 _ L2 w3 HPF.out.1 H3.out.1.pr).mono ?_
              rintro e w4 ⟨tv, rfl, ot, b4⟩
              obtain ⟨ta, tc, htv⟩ := ot.form
              rw [HPF.out.2] at htv
              subst htv
              have S4 : Hid (PR w4 L2 (.slice (some ⟨gi, 0, none⟩) n cap) ∧ SR w4 p' (.slice (some ⟨gp, 0, none⟩) k pc) ∧ PR w4 L2 (.slice ta n tc) ∧ Below B w w4) := ⟨H3.out.1.pr.keep b4, H3.out.2.1.sr.keep b4, ot.pr, H3.out.2.2.1.trans (b4.mono (Nat.le_trans (HI0.out) H3.out.2.2.1.size))⟩
              have HFL : Hid (FL p' ∧ p'.length = k ∧ PF L2) := ⟨H3.out.2.2.2.1, H3.out.2.2.2.2, HPF.out.1⟩
              clear ot b4 H3
              go_wp2_with fail
              refine (twin11 _ p' w4 HFL.out.1.1 S4.out.2.1).mono ?_
              rintro e w5 ⟨qv, rfl, oq, b5⟩
              obtain ⟨qa, qc, hqv⟩ := oq.form
              rw [HFL.out.2.1] at hqv
              subst hqv
              have S5 : Hid (PR w5 L2 (.slice (some ⟨gi, 0, none⟩) n cap) ∧ PR w5 L2 (.slice ta n tc) ∧ SR w5 p' (.slice (some ⟨gp, 0, none⟩) k pc) ∧ SR w5 p' (.slice qa k qc) ∧ Below B w w5) := ⟨S4.out.1.keep b5, S4.out.2.2.1.keep b5, S4.out.2.1.keep b5, oq.sr, S4.out.2.2.2.trans (b5.mono (Nat.le_trans HI0.out S4.out.2.2.2.size))⟩
              clear oq b5 S4
              go_wp2_with fail
              refine (ORD _ L2 w5 HFL.out.2.2 S5.out.1).mono ?_
              rintro e w6 ⟨la1, lc1, z1, l1, rfl, k1, k2, k3, k4, k5, b6⟩
              have S6 : Hid (PR w6 L2 (.slice (some ⟨gi, 0, none⟩) n cap) ∧ PR w6 L2 (.slice ta n tc) ∧ SR w6 p' (.slice (some ⟨gp, 0, none⟩) k pc) ∧ SR w6 p' (.slice qa k qc) ∧ Below B w w6 ∧ IR w6 l1 (.slice la1 l1.length lc1)) := ⟨S5.out.1.keep b6, S5.out.2.1.keep b6, S5.out.2.2.1.keep b6, S5.out.2.2.2.1.keep b6, S5.out.2.2.2.2.trans (b6.mono (Nat.le_trans HI0.out S5.out.2.2.2.2.size)), k2.ir⟩
              have HO1 : Hid (OE L2 z1 ∧ (z1 = 0 → SP L2 l1) ∧ (z1 ≠ 0 → l1 = []) ∧ l1.length ≤ 4096) := ⟨k1, k3, k4, k5⟩
              clear k1 k2 k3 k4 k5 b6 S5
              go_wp2_with fail
              refine (ORD _ L2 w6 HFL.out.2.2 S6.out.2.1).mono ?_
              rintro e w7 ⟨la2, lc2, z2, l2, rfl, k1, k2, k3, k4, k5, b7⟩
              obtain ⟨rfl, rfl⟩ := oo_same HO1.out.1 k1 HO1.out.2.1 HO1.out.2.2.1 k3 k4
              have S7 : Hid (PR w7 L2 (.slice (some ⟨gi, 0, none⟩) n cap) ∧ PR w7 L2 (.slice ta n tc) ∧ SR w7 p' (.slice (some ⟨gp, 0, none⟩) k pc) ∧ SR w7 p' (.slice qa k qc) ∧ Below B w w7 ∧ IR w7 l1 (.slice la1 l1.length lc1) ∧ IR w7 l1 (.slice la2 l1.length lc2)) := ⟨S6.out.1.keep b7, S6.out.2.1.keep b7, S6.out.2.2.1.keep b7, S6.out.2.2.2.1.keep b7, S6.out.2.2.2.2.1.trans (b7.mono (Nat.le_trans HI0.out S6.out.2.2.2.2.1.size)), S6.out.2.2.2.2.2.keep b7, k2.ir⟩
              clear k1 k2 k3 k4 k5 b7 S6
              go_wp2_with fail
              refine (clash6 _ L2 w7 HFL.out.2.2 S7.out.1).mono ?_
              rintro e w8 ⟨ci, cj, cz, rfl, k1, b8⟩
              have S8 : Hid (PR w8 L2 (.slice ta n tc) ∧ SR w8 p' (.slice (some ⟨gp, 0, none⟩) k pc) ∧ SR w8 p' (.slice qa k qc) ∧ Below B w w8 ∧ IR w8 l1 (.slice la1 l1.length lc1) ∧ IR w8 l1 (.slice la2 l1.length lc2)) := ⟨S7.out.2.1.keep b8, S7.out.2.2.1.keep b8, S7.out.2.2.2.1.keep b8, S7.out.2.2.2.2.1.trans (b8.mono (Nat.le_trans HI0.out S7.out.2.2.2.2.1.size)), S7.out.2.2.2.2.2.1.keep b8, S7.out.2.2.2.2.2.2.keep b8⟩
              have HC1 : Hid (CL L2 ci cj cz) := k1
              clear k1 b8 S7
              go_wp2_with fail
              refine (clash6 _ L2 w8 HFL.out.2.2 S8.out.1).mono ?_
              rintro e w9 ⟨ci2, cj2, cz2, rfl, k1, b9⟩
              obtain ⟨rfl, rfl, rfl⟩ := CL.unique HC1.out k1
              have S9 : Hid (SR w9 p' (.slice (some ⟨gp, 0, none⟩) k pc) ∧ SR w9 p' (.slice qa k qc) ∧ Below B w w9 ∧ IR w9 l1 (.slice la1 l1.length lc1) ∧ IR w9 l1 (.slice la2 l1.length lc2)) := ⟨S8.out.2.1.keep b9, S8.out.2.2.1.keep b9, S8.out.2.2.2.1.trans (b9.mono (Nat.le_trans HI0.out S8.out.2.2.2.1.size)), S8.out.2.2.2.2.1.keep b9, S8.out.2.2.2.2.2.keep b9⟩
              clear k1 b9 S8 HC1
              have HSI : Hid (Calls Tryd.prog 15 #[.slice la1 l1.length lc1, .slice la2 l1.length lc2] w9 fun e w' => e = .returned (.bool true) ∧ ∃ n, w' = w9.drewN n) := sameInts15 _ _ l1 w9 HO1.out.2.2.2 S9.out.2.2.2.1 S9.out.2.2.2.2
              have HNUM : Hid (∀ (z : Int) (w : World), Calls Tryd.prog 8 #[.int .i64 z] w fun e w' => e = .returned (.int .i64 z) ∧ w = w') := fun z w => (num13 z w).mono (fun _ _ h => ⟨h.1, h.2.symm⟩)
              generalize l1.length = ll at *
              go_wp2_with (go_at_call 8; refine (HNUM.out _ _).mono ?_; rintro e wx ⟨rfl, rfl⟩)
              refine HSI.out.mono ?_
              rintro e wx ⟨rfl, nq, rfl⟩
              have S10 : Hid (SR (w9.drewN nq) p' (.slice (some ⟨gp, 0, none⟩) k pc) ∧ SR (w9.drewN nq) p' (.slice qa k qc) ∧ Below B w (w9.drewN nq)) := ⟨S9.out.1.keep (drN _ _), S9.out.2.1.keep (drN _ _), S9.out.2.2.1.trans ((drN _ _).mono (Nat.le_trans HI0.out S9.out.2.2.1.size))⟩
              generalize w9.drewN nq = w10 at *
              clear S9 HSI
              go_wp2_with (go_at_call 8; refine (HNUM.out _ _).mono ?_; rintro e wx ⟨rfl, rfl⟩)
              refine (join23 p' _ w10 HFL.out.1 S10.out.1).mono ?_
              rintro e w11 ⟨rfl, b11⟩
              have S11 : Hid (SR w11 p' (.slice (some ⟨gp, 0, none⟩) k pc) ∧ SR w11 p' (.slice qa k qc) ∧ Below B w w11) := ⟨S10.out.1.keep b11, S10.out.2.1.keep b11, S10.out.2.2.trans (b11.mono (Nat.le_trans HI0.out S10.out.2.2.size))⟩
              have HJ : Hid (∀ w', SR w' p' (.slice qa k qc) → Calls Tryd.prog 16 #[.slice qa k qc] w' fun e w2 => e = .returned (.tuple #[.string (if pe p' = 0 then jo p' else ⟨#[]⟩), .int .i64 (pe p')]) ∧ Below w'.heap.size w' w2) := fun w' h => join23 p' _ w' HFL.out.1 h
              have HPA : Hid (∀ w' v', SR w' p' v' → Calls Tryd.prog 11 #[v'] w' fun e w2 => e = .returned (.int .i64 (pe p')) ∧ Below w'.heap.size w' w2) := fun w' v' h => path21 v' p' w' HFL.out.1 h
              generalize (if pe p' = 0 then jo p' else (⟨#[]⟩ : ByteArray)) = js at *
              generalize pe p' = pz at *
              clear b11 S10
              go_wp2_with fail
              refine (HJ.out _ S11.out.2.1).mono ?_
              rintro e w12 ⟨rfl, b12⟩
              have S12 : Hid (SR w12 p' (.slice (some ⟨gp, 0, none⟩) k pc) ∧ SR w12 p' (.slice qa k qc) ∧ Below B w w12) := ⟨S11.out.1.keep b12, S11.out.2.1.keep b12, S11.out.2.2.trans (b12.mono (Nat.le_trans HI0.out S11.out.2.2.size))⟩
              clear b12 S11 HJ
              go_wp2_with fail
              have b13 := al_bel w12 (.cells #[.string ⟨#[97, 113]⟩] 9)
              have S13 : Hid (SR (w12.alloc (.cells #[.string ⟨#[97, 113]⟩] 9)) p' (.slice (some ⟨gp, 0, none⟩) k pc) ∧ SR (w12.alloc (.cells #[.string ⟨#[97, 113]⟩] 9)) p' (.slice qa k qc) ∧ Below B w (w12.alloc (.cells #[.string ⟨#[97, 113]⟩] 9)) ∧ SR (w12.alloc (.cells #[.string ⟨#[97, 113]⟩] 9)) [⟨#[97, 113]⟩] (.slice (some ⟨w12.heap.size, 0, none⟩) 1 1)) := ⟨S12.out.1.keep b13, S12.out.2.1.keep b13, S12.out.2.2.trans (b13.mono (Nat.le_trans HI0.out S12.out.2.2.size)), one_sr w12 _⟩
              have HLE : Hid (∀ w' v1 v2, SR w' p' v1 → SR w' [⟨#[97, 113]⟩] v2 → Calls Tryd.prog 12 #[v1, v2] w' fun e w2 => e = .returned (.bool (lx p' [⟨#[97, 113]⟩])) ∧ w' = w2) := fun w' v1 v2 h1 h2 => (less12 v1 v2 p' [⟨#[97, 113]⟩] w' HFL.out.1.1 (by simp) h1 h2).mono (fun _ _ h => ⟨h.1, h.2.symm⟩)
              generalize lx p' [⟨#[97, 113]⟩] = lb at *
              refine (HLE.out _ _ _ S13.out.1 S13.out.2.2.2).mono ?_
              rintro e wx ⟨rfl, rfl⟩
              clear S12 b13
              have S14 : Hid (SR (w12.alloc (.cells #[.string ⟨#[97, 113]⟩] 9)) p' (.slice (some ⟨gp, 0, none⟩) k pc) ∧ SR (w12.alloc (.cells #[.string ⟨#[97, 113]⟩] 9)) p' (.slice qa k qc) ∧ Below B w (w12.alloc (.cells #[.string ⟨#[97, 113]⟩] 9))) := ⟨S13.out.1, S13.out.2.1, S13.out.2.2.1⟩
              clear S13
              generalize w12.alloc (.cells #[.string ⟨#[97, 113]⟩] 9) = w14 at *
              go_wp2_with fail
              have b15 := al_bel w14 (.cells #[.string ⟨#[97, 113]⟩] 9)
              have S15 : Hid (SR (w14.alloc (.cells #[.string ⟨#[97, 113]⟩] 9)) p' (.slice (some ⟨gp, 0, none⟩) k pc) ∧ SR (w14.alloc (.cells #[.string ⟨#[97, 113]⟩] 9)) p' (.slice qa k qc) ∧ Below B w (w14.alloc (.cells #[.string ⟨#[97, 113]⟩] 9)) ∧ SR (w14.alloc (.cells #[.string ⟨#[97, 113]⟩] 9)) [⟨#[97, 113]⟩] (.slice (some ⟨w14.heap.size, 0, none⟩) 1 1)) := ⟨S14.out.1.keep b15, S14.out.2.1.keep b15, S14.out.2.2.trans (b15.mono (Nat.le_trans HI0.out S14.out.2.2.size)), one_sr w14 _⟩
              refine (HLE.out _ _ _ S15.out.2.1 S15.out.2.2.2).mono ?_
              rintro e wx ⟨rfl, rfl⟩
              clear S14 b15
              have S16 : Hid (SR (w14.alloc (.cells #[.string ⟨#[97, 113]⟩] 9)) p' (.slice (some ⟨gp, 0, none⟩) k pc) ∧ SR (w14.alloc (.cells #[.string ⟨#[97, 113]⟩] 9)) p' (.slice qa k qc) ∧ Below B w (w14.alloc (.cells #[.string ⟨#[97, 113]⟩] 9))) := ⟨S15.out.1, S15.out.2.1, S15.out.2.2.1⟩
              clear S15
              generalize w14.alloc (.cells #[.string ⟨#[97, 113]⟩] 9) = w16 at *
              go_wp2_with (go_at_call 8; refine (HNUM.out _ _).mono ?_; rintro e wx ⟨rfl, rfl⟩)
              refine (HPA.out _ _ S16.out.1).mono ?_
              rintro e w17 ⟨rfl, b17⟩
              have S17 : Hid (SR w17 p' (.slice qa k qc) ∧ Below B w w17) := ⟨S16.out.2.1.keep b17, S16.out.2.2.trans (b17.mono (Nat.le_trans HI0.out S16.out.2.2.size))⟩
              clear S16 b17
              go_wp2_with (go_at_call 8; refine (HNUM.out _ _).mono ?_; rintro e wx ⟨rfl, rfl⟩)
              refine (HPA.out _ _ S17.out.1).mono ?_
              rintro e w18 ⟨rfl, b18⟩
              have S18 : Hid (Below B w w18) := S17.out.2.trans (b18.mono (Nat.le_trans HI0.out S17.out.2.size))
              clear S17 b18
              go_wp2_with (go_at_call 8; refine (HNUM.out _ _).mono ?_; rintro e wx ⟨rfl, rfl⟩)
              go_ret
              exact ⟨by simp, S18.out⟩
end Go.Proofs.YtoiehkpmemmldaaDoor
