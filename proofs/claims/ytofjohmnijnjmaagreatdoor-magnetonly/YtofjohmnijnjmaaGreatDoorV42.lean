import Derived.Test.YtofjohmnijnjmaaGreatDoorV24
import Derived.Test.YtofjohmnijnjmaaGreatDoorV39
import Derived.Test.YtofjohmnijnjmaaGreatDoorV41
namespace Go.Proofs.YtofjohmnijnjmaaGreatDoor
open Go.Shelf Go.RowKit Go.Deep
/-- runs as they may be read -/
def RsOk (rs : List (Int × Int)) : Prop := (∀ x ∈ rs, RnOk x ∧ x.1 + x.2 ≤ 4096) ∧ apB rs = true
theorem RsOk.nil : RsOk [] := ⟨fun x hx => (by cases hx), rfl⟩
theorem plO_le {s : ByteArray} {n : Nat} (h : plO s = some n) : n ≤ 4095 := by
  unfold plO at h
  split at h
  · split at h
    · rename_i h2
      have h3 := Option.some.inj h
      omega
    · cases h
  · cases h
theorem rrO_ok4 {s : ByteArray} {r : Int × Int} (h : rrO s = some r) : RnOk r ∧ r.1 + r.2 ≤ 4096 := by
  unfold rrO at h
  split at h
  · cases h
  · rename_i a ha
    have h1 := plO_le ha
    split at h
    · have h2 := Option.some.inj h
      subst h2
      unfold RnOk
      simp only
      omega
    · split at h
      · cases h
      · rename_i b hb
        have h3 := plO_le hb
        split at h
        · rename_i h4
          have h2 := Option.some.inj h
          subst h2
          unfold RnOk
          simp only
          omega
        · cases h
theorem rdGk_ok : ∀ (n : Nat) (l : List Pc) (rs : List (Int × Int)), l.length = n → rdG l = some rs → ∀ x ∈ rs, RnOk x ∧ x.1 + x.2 ≤ 4096
  | 0, l, rs, hl, h => by
    obtain rfl := List.length_eq_zero_iff.1 hl
    have e : rs = [] := (Option.some.inj h).symm
    subst e
    intro x hx; cases hx
  | n + 1, l, rs, hl, h => by
    have hne : l ≠ [] := fun e => by rw [e] at hl; cases hl
    obtain ⟨l', y, rfl⟩ : ∃ l' y, l = l' ++ [y] := ⟨l.dropLast, l.getLast hne, (List.dropLast_concat_getLast hne).symm⟩
    have ih := rdGk_ok n l'
    rw [rdG_snoc] at h
    cases h1 : rdG l' with
    | none => rw [h1] at h; cases h
    | some rs' =>
      cases h2 : rrO y.1.2 with
      | none => rw [h1, h2] at h; cases h
      | some r =>
        rw [h1, h2] at h
        have e := Option.some.inj h
        subst e
        intro x hx
        rcases List.mem_append.1 hx with hx | hx
        · exact ih rs' (by simpa using hl) h1 x hx
        · rw [List.mem_singleton] at hx
          rw [hx]
          exact rrO_ok4 h2
theorem lyR_rs {p : Ps} (h : RsOk p.rs) (k : Nat) (key value : ByteArray) (hk : 1 ≤ k) : RsOk (lyR p k key value).1.rs := by
  unfold lyR
  split
  · cases hf : fstR value.data.toList with
    | none => rw [liR_no hf]; exact h
    | some x => rw [liR_yes hf]; exact h
  split
  · unfold loR
    cases hr : rdG (pieces value 44) with
    | none => exact h
    | some rs =>
      simp only
      split
      · rename_i ha
        exact ⟨rdGk_ok _ _ _ rfl hr, ha⟩
      · exact h
  · rename_i h1 h3
    have hj : k - 1 ≠ 2 := by omega
    unfold jnV
    repeat' split
    all_goals first | exact h | exact absurd (by assumption) hj
theorem tkR_rs {p : Ps} (h : RsOk p.rs) (ah : Nat) (s : ByteArray) : RsOk (tkR p ah s).1.rs := by
  unfold tkR
  split
  · exact h
  split
  · exact h
  split
  · exact h
  unfold tk3
  split
  · exact h
  · exact lyR_rs h _ _ _ (by omega)
theorem prS_rs : ∀ (n : Nat) (l : List Pc), l.length = n → RsOk (prS l).1.rs
  | 0, l, hl => by
    obtain rfl := List.length_eq_zero_iff.1 hl
    exact RsOk.nil
  | n + 1, l, hl => by
    have hne : l ≠ [] := fun e => by rw [e] at hl; cases hl
    obtain ⟨l', y, rfl⟩ : ∃ l' y, l = l' ++ [y] := ⟨l.dropLast, l.getLast hne, (List.dropLast_concat_getLast hne).symm⟩
    have ih := prS_rs n l' (by simpa using hl)
    rw [prS_snoc]
    cases h : (prS l').2.2 with
    | some q =>
      have e : stQ (prS l') y = prS l' := by rw [stQ, h]
      rw [e]; exact ih
    | none =>
      rw [stQ_no _ h]
      exact tkR_rs ih _ _
theorem pgR_rs (s : ByteArray) : RsOk (pgR s).1.rs := by
  unfold pgR
  split
  · exact RsOk.nil
  · split
    · exact RsOk.nil
    · unfold pgM
      split
      · exact RsOk.nil
      · exact prS_rs _ _ rfl
end Go.Proofs.YtofjohmnijnjmaaGreatDoor
namespace Go.Proofs.YtofjohmnijnjmaaGreatDoor
open Go.Shelf Go.RowKit Go.Deep
def hasN (x : Int × Int) (f : Int) : Bool := decide (x.1 ≤ f ∧ f < x.1 + x.2)
theorem hasN_eq {x : Int × Int} (f : Int) (h : 1 ≤ x.2) : hasB x f = hasN x f := by
  unfold hasB hasN
  rw [Bool.eq_iff_iff]
  simp only [Bool.and_eq_true, decide_eq_true_eq]
  omega
theorem any_snoc {rs : List (Int × Int)} {i : Nat} {x : Int × Int} (hx : rs[i]? = some x) (f : Int) : ((rs.take (i + 1)).any fun x => hasN x f) = (((rs.take i).any fun x => hasN x f) || hasN x f) := by
  rw [List.take_add_one, hx, List.any_append]
  simp
theorem want_any {rs : List (Int × Int)} (h : RsOk rs) (f : Int) (h0 : rs.length ≠ 0) : wantB rs f = rs.any fun x => hasN x f := by
  have e : (rs.any fun x => hasB x f) = rs.any fun x => hasN x f := by
    rw [Bool.eq_iff_iff, List.any_eq_true, List.any_eq_true]
    constructor
    · rintro ⟨x, hx, h2⟩; exact ⟨x, hx, by rw [← hasN_eq f (h.1 x hx).1.2.1]; exact h2⟩
    · rintro ⟨x, hx, h2⟩; exact ⟨x, hx, by rw [hasN_eq f (h.1 x hx).1.2.1]; exact h2⟩
  unfold wantB
  split
  · rename_i hf
    symm
    rw [List.any_eq_false]
    intro x hx
    have := (h.1 x hx).1.1.1
    unfold hasN
    simp only [decide_eq_true_eq]
    omega
  · rw [e]
    have e2 : (rs.length == 0) = false := by simpa using h0
    rw [e2]; rfl
theorem want_nil {rs : List (Int × Int)} (f : Int) (h0 : rs.length = 0) : wantB rs f = decide (0 ≤ f) := by
  unfold wantB
  rw [h0]
  split
  · rename_i h; exact (decide_eq_false (by omega)).symm
  · rename_i h; rw [decide_eq_true (show 0 ≤ f by omega)]; rfl
set_option maxHeartbeats 4000000 in
set_option maxRecDepth 100000 in
theorem onlyLaw (s : ByteArray) (f : Int) (w : World) (hf : I64 f) (hTG : TG w) (hBT : BT w) : Calls Tryz.prog 6 #[.string s, .int .i64 f] w fun e w' => e = .returned (.bool true) ∧ Below w.heap.size w w' := by
  have H0 := Lib.hid (awake7 w hTG hBT)
  have H1 : Hid (∀ u, Below w.heap.size w u → Calls Tryz.prog 8 #[.string s] u fun e w' => RP u.heap.size u (pgR s) e w') := fun u h => parse4 s u (hTG.below h) (hBT.keep h)
  have HB := Lib.hid (pg_bd s)
  have HRS := Lib.hid (pgR_rs s)
  generalize pgR s = q at *
  obtain ⟨p, at0, er0⟩ := q
  have hh32 := HB.out.1.h
  simp only at hh32 HRS
  clear hTG hBT
  go_enter Tryz.func6, Tryz.ntmps6
  go_wp2_with fail
  refine H0.out.mono ?_
  rintro e w0 ⟨rfl, b0⟩
  have B0 := Lib.hid b0
  clear b0 H0
  go_wp2_with fail
  refine (H1.out w0 B0.out).mono ?_
  rintro e w1 ⟨t2, p2, o2, m2, rfl, lo1, b1⟩
  simp only at lo1 ⊢
  obtain ⟨ta, tc, rfl⟩ := ownForm lo1.o1
  obtain ⟨pa, pc, rfl⟩ := ownForm lo1.o2
  obtain ⟨oa, oc, rfl⟩ := ownForm lo1.o3
  obtain ⟨ma, mc, rfl⟩ := ownForm lo1.o4
  have hnew := heap_new w1 (Obj.cells #[.int .u8 0, .int .u8 0, .int .u8 0, .int .u8 0, .int .u8 0, .int .u8 0, .int .u8 0, .int .u8 0, .int .u8 0, .int .u8 0, .int .u8 0, .int .u8 0, .int .u8 0, .int .u8 0, .int .u8 0, .int .u8 0, .int .u8 0, .int .u8 0, .int .u8 0, .int .u8 0, .int .u8 0, .int .u8 0, .int .u8 0, .int .u8 0, .int .u8 0, .int .u8 0, .int .u8 0, .int .u8 0, .int .u8 0, .int .u8 0, .int .u8 0, .int .u8 0, .string { data := #[] }, .slice none 0 0, .slice none 0 0, .slice none 0 0, .slice none 0 0] 29)
  have ba : Below w1.heap.size w1 (w1.alloc (Obj.cells #[.int .u8 0, .int .u8 0, .int .u8 0, .int .u8 0, .int .u8 0, .int .u8 0, .int .u8 0, .int .u8 0, .int .u8 0, .int .u8 0, .int .u8 0, .int .u8 0, .int .u8 0, .int .u8 0, .int .u8 0, .int .u8 0, .int .u8 0, .int .u8 0, .int .u8 0, .int .u8 0, .int .u8 0, .int .u8 0, .int .u8 0, .int .u8 0, .int .u8 0, .int .u8 0, .int .u8 0, .int .u8 0, .int .u8 0, .int .u8 0, .int .u8 0, .int .u8 0, .string { data := #[] }, .slice none 0 0, .slice none 0 0, .slice none 0 0, .slice none 0 0] 29)) := (Below.refl _ _).alloc (Nat.le_refl _) _
  have bs : Below w1.heap.size w1 ((w1.alloc (Obj.cells #[.int .u8 0, .int .u8 0, .int .u8 0, .int .u8 0, .int .u8 0, .int .u8 0, .int .u8 0, .int .u8 0, .int .u8 0, .int .u8 0, .int .u8 0, .int .u8 0, .int .u8 0, .int .u8 0, .int .u8 0, .int .u8 0, .int .u8 0, .int .u8 0, .int .u8 0, .int .u8 0, .int .u8 0, .int .u8 0, .int .u8 0, .int .u8 0, .int .u8 0, .int .u8 0, .int .u8 0, .int .u8 0, .int .u8 0, .int .u8 0, .int .u8 0, .int .u8 0, .string { data := #[] }, .slice none 0 0, .slice none 0 0, .slice none 0 0, .slice none 0 0] 29)).setRow w1.heap.size (lkC p.h p.nm (.slice ta p.ts.length tc) (.slice pa p.ps.length pc) (.slice oa p.rs.length oc) (.slice ma p.mo.length mc))) := below_setRow ba (Nat.le_refl _) _
  have J1 : Hid (LO w0.heap.size ((w1.alloc (Obj.cells #[.int .u8 0, .int .u8 0, .int .u8 0, .int .u8 0, .int .u8 0, .int .u8 0, .int .u8 0, .int .u8 0, .int .u8 0, .int .u8 0, .int .u8 0, .int .u8 0, .int .u8 0, .int .u8 0, .int .u8 0, .int .u8 0, .int .u8 0, .int .u8 0, .int .u8 0, .int .u8 0, .int .u8 0, .int .u8 0, .int .u8 0, .int .u8 0, .int .u8 0, .int .u8 0, .int .u8 0, .int .u8 0, .int .u8 0, .int .u8 0, .int .u8 0, .int .u8 0, .string { data := #[] }, .slice none 0 0, .slice none 0 0, .slice none 0 0, .slice none 0 0] 29)).setRow w1.heap.size (lkC p.h p.nm (.slice ta p.ts.length tc) (.slice pa p.ps.length pc) (.slice oa p.rs.length oc) (.slice ma p.mo.length mc))) p (.slice ta p.ts.length tc) (.slice pa p.ps.length pc) (.slice oa p.rs.length oc) (.slice ma p.mo.length mc) ∧ Below w.heap.size w ((w1.alloc (Obj.cells #[.int .u8 0, .int .u8 0, .int .u8 0, .int .u8 0, .int .u8 0, .int .u8 0, .int .u8 0, .int .u8 0, .int .u8 0, .int .u8 0, .int .u8 0, .int .u8 0, .int .u8 0, .int .u8 0, .int .u8 0, .int .u8 0, .int .u8 0, .int .u8 0, .int .u8 0, .int .u8 0, .int .u8 0, .int .u8 0, .int .u8 0, .int .u8 0, .int .u8 0, .int .u8 0, .int .u8 0, .int .u8 0, .int .u8 0, .int .u8 0, .int .u8 0, .int .u8 0, .string { data := #[] }, .slice none 0 0, .slice none 0 0, .slice none 0 0, .slice none 0 0] 29)).setRow w1.heap.size (lkC p.h p.nm (.slice ta p.ts.length tc) (.slice pa p.ps.length pc) (.slice oa p.rs.length oc) (.slice ma p.mo.length mc))) ∧ LB ((w1.alloc (Obj.cells #[.int .u8 0, .int .u8 0, .int .u8 0, .int .u8 0, .int .u8 0, .int .u8 0, .int .u8 0, .int .u8 0, .int .u8 0, .int .u8 0, .int .u8 0, .int .u8 0, .int .u8 0, .int .u8 0, .int .u8 0, .int .u8 0, .int .u8 0, .int .u8 0, .int .u8 0, .int .u8 0, .int .u8 0, .int .u8 0, .int .u8 0, .int .u8 0, .int .u8 0, .int .u8 0, .int .u8 0, .int .u8 0, .int .u8 0, .int .u8 0, .int .u8 0, .int .u8 0, .string { data := #[] }, .slice none 0 0, .slice none 0 0, .slice none 0 0, .slice none 0 0] 29)).setRow w1.heap.size (lkC p.h p.nm (.slice ta p.ts.length tc) (.slice pa p.ps.length pc) (.slice oa p.rs.length oc) (.slice ma p.mo.length mc))) w1.heap.size p.h p.nm (.slice ta p.ts.length tc) (.slice pa p.ps.length pc) (.slice oa p.rs.length oc) (.slice ma p.mo.length mc)) := ⟨lo1.below bs, B0.out.trans ((b1.trans (bs.mono b1.size)).mono B0.out.size), setRow_heap _ w1.heap.size _ _ _ _ hnew⟩
  have hiL := infoLk (nm := p.nm) (tr := .slice ta p.ts.length tc) (pe := .slice pa p.ps.length pc) (on := .slice oa p.rs.length oc) (mo := .slice ma p.mo.length mc) hh32
  have hsz1 : (#[.int .u8 0, .int .u8 0, .int .u8 0, .int .u8 0, .int .u8 0, .int .u8 0, .int .u8 0, .int .u8 0, .int .u8 0, .int .u8 0, .int .u8 0, .int .u8 0, .int .u8 0, .int .u8 0, .int .u8 0, .int .u8 0, .int .u8 0, .int .u8 0, .int .u8 0, .int .u8 0, .int .u8 0, .int .u8 0, .int .u8 0, .int .u8 0, .int .u8 0, .int .u8 0, .int .u8 0, .int .u8 0, .int .u8 0, .int .u8 0, .int .u8 0, .int .u8 0, .string { data := #[] }, .slice none 0 0, .slice none 0 0, .slice none 0 0, .slice none 0 0] : Array Value).size = (lkC p.h p.nm (.slice ta p.ts.length tc) (.slice pa p.ps.length pc) (.slice oa p.rs.length oc) (.slice ma p.mo.length mc)).size := by rw [lkC_size hh32]; rfl
  clear lo1 b1 ba bs H1 B0
  go_upto_region 5 with (refine wpList_store_row rfl 29 _ _ rfl w1.heap.size (lkC p.h p.nm (.slice ta p.ts.length tc) (.slice pa p.ps.length pc) (.slice oa p.rs.length oc) (.slice ma p.mo.length mc)) rfl rfl 29 _ hnew hiL hsz1 lkC_one ?_)
  generalize ((w1.alloc (Obj.cells #[.int .u8 0, .int .u8 0, .int .u8 0, .int .u8 0, .int .u8 0, .int .u8 0, .int .u8 0, .int .u8 0, .int .u8 0, .int .u8 0, .int .u8 0, .int .u8 0, .int .u8 0, .int .u8 0, .int .u8 0, .int .u8 0, .int .u8 0, .int .u8 0, .int .u8 0, .int .u8 0, .int .u8 0, .int .u8 0, .int .u8 0, .int .u8 0, .int .u8 0, .int .u8 0, .int .u8 0, .int .u8 0, .int .u8 0, .int .u8 0, .int .u8 0, .int .u8 0, .string { data := #[] }, .slice none 0 0, .slice none 0 0, .slice none 0 0, .slice none 0 0] 29)).setRow w1.heap.size (lkC p.h p.nm (.slice ta p.ts.length tc) (.slice pa p.ps.length pc) (.slice oa p.rs.length oc) (.slice ma p.mo.length mc))) = u1 at *
  generalize w1.heap.size = G1 at *
  clear hnew hsz1
  by_cases hE : er0 = 0
  · subst hE
    go_wp2_with (first | (go_at_call 9; refine (num9 _ _).mono ?_; rintro e w9 ⟨rfl, rfl⟩))
    have HG := Lib.hid (rl4_of J1.out.1)
    have HW : Hid (Below w.heap.size w w9 ∧ LB w9 G1 p.h p.nm (.slice ta p.ts.length tc) (.slice pa p.ps.length pc) (.slice oa p.rs.length oc) (.slice ma p.mo.length mc)) := J1.out.2
    have HR1 : Hid (RR (fun _ => True) w9 (.slice oa p.rs.length oc) p.rs) := HG.out.2.2.1
    have HSM : Hid (p.rs.length ≤ 4096) := ap_len HRS.out.1 HRS.out.2
    generalize hn : p.rs.length = n at *
    have HN : Hid (p.rs.length = n) := hn
    clear hn J1
    go_loopw [9, 10, 11] (fun a b t wr => ∃ (i : Nat) (q : Bool) (nd : Int), i ≤ n ∧ a = .bool q ∧ b = .int .i64 nd ∧ t = .int .i64 i ∧ -1 ≤ nd ∧ nd ≤ 4096 ∧ Hid (q = ((p.rs.take i).any fun x => hasN x f) ∧ (∀ x, p.rs[i]? = some x → nd < x.1) ∧ Below w9.heap.size w9 wr)) (fun _ _ t _ => n - (intOf t).toNat)
    case atStart => exact ⟨0, false, -1, Nat.zero_le _, rfl, rfl, rfl, by omega, by omega, by simp, fun x hx => by have := (HRS.out.1 x (List.mem_of_getElem? hx)).1.1.1; omega, Below.refl _ _⟩
    case round =>
      obtain ⟨i, q, nd, hi, rfl, rfl, rfl, hn1, hn2, HI⟩ := hrel
      have HLB : Hid (LB wr G1 p.h p.nm (.slice ta p.ts.length tc) (.slice pa p.ps.length pc) (.slice oa n oc) (.slice ma p.mo.length mc)) := HW.out.2.keep (HI.out.2.2.block G1 HW.out.2.lt)
      have a35 := (HLB.out.cells hh32).2.2.2.1
      by_cases hlt : i < n
      · obtain ⟨x, hx⟩ : ∃ x, p.rs[i]? = some x := ⟨_, List.getElem?_eq_getElem (by rw [HN.out]; exact hlt)⟩
        obtain ⟨p9, q9, e9, hc⟩ := HR1.out
        rw [HN.out] at e9 hc
        simp only [Value.slice.injEq, true_and] at e9
        obtain ⟨rfl, rfl⟩ := e9
        rcases hc with h | ⟨g, o, rfl, _, hg, hc⟩
        · omega
        have g0 := Below.cellS HI.out.2.2 (Nat.le_refl _) (hc i x hx).1
        have g1 := Below.cellS HI.out.2.2 (Nat.le_refl _) (hc i x hx).2
        have hnd := HI.out.2.1 x hx
        obtain ⟨⟨⟨r1, r2⟩, r3, r4⟩, r5⟩ := HRS.out.1 x (List.mem_of_getElem? hx)
        have HQ : Hid (((p.rs.take (i + 1)).any fun x => hasN x f) = (q || decide (x.1 ≤ f ∧ f < x.1 + x.2))) := by
          have h9 := any_snoc hx f
          rw [← HI.out.1] at h9
          exact h9
        have HX : Hid (∀ y, p.rs[i + 1]? = some y → x.1 + x.2 < y.1) := fun y hy => apB_iff.1 HRS.out.2 i x y hx hy
        clear hc hx
        obtain ⟨xa, xb⟩ := x
        simp only at g0 g1 r1 r2 r3 r4 r5 hnd HQ HX
        have BA : Hid (∀ ob, Below w9.heap.size w9 (wr.alloc ob)) := fun ob => HI.out.2.2.alloc HI.out.2.2.size _
        clear HI
        go_wp2
        have d0 : (wr.alloc (Obj.cells #[.int .i64 xa, .int .i64 xb] 46)).cell? ⟨wr.heap.size, 0, none⟩ = some (.int .i64 xa) := by go_simp
        have d1 : (wr.alloc (Obj.cells #[.int .i64 xa, .int .i64 xb] 46)).cell? ⟨wr.heap.size, 1, none⟩ = some (.int .i64 xb) := by go_simp
        have BX := Lib.hid (BA.out (Obj.cells #[.int .i64 xa, .int .i64 xb] 46))
        clear BA g0 g1 a35 HLB
        generalize (wr.alloc (Obj.cells #[.int .i64 xa, .int .i64 xb] 46)) = W1 at *
        generalize wr.heap.size = GB at *
        go_loopw [9, 13] (fun a t wv => ∃ (m : Nat) (q' : Bool), (m : Int) ≤ xb ∧ a = .bool q' ∧ t = .int .i64 (xa + m) ∧ Hid (q' = (q || decide (xa ≤ f ∧ f < xa + m))) ∧ wv = W1) (fun _ t _ => (xa + xb - intOf t).toNat)
        case atStart => exact ⟨0, q, by omega, rfl, by simp, by
          have h9 : q = (q || decide (xa ≤ f ∧ f < xa + ((0 : Nat) : Int))) := by rw [decide_eq_false (by omega), Bool.or_false]
          exact h9, rfl⟩
        case round =>
          obtain ⟨m, q', hm, rfl, rfl, HQ2, rfl⟩ := hrel
          by_cases hlt2 : (m : Int) < xb
          · have HQ3 : Hid ((q' || decide (xa + m = f)) = (q || decide (xa ≤ f ∧ f < xa + ((m + 1 : Nat) : Int)))) := by
              have h9 : (q' || decide (xa + m = f)) = (q || decide (xa ≤ f ∧ f < xa + ((m + 1 : Nat) : Int))) := by
                rw [HQ2.out, Bool.or_assoc]
                congr 1
                rw [Bool.eq_iff_iff]
                simp only [Bool.or_eq_true, decide_eq_true_eq]
                omega
              exact h9
            clear HQ2
            cases q'
            · have HQ4 : Hid ((xa + (m : Int) == f) = (q || decide (xa ≤ f ∧ f < xa + ((m + 1 : Nat) : Int)))) := by
                have h9 : (xa + (m : Int) == f) = (q || decide (xa ≤ f ∧ f < xa + ((m + 1 : Nat) : Int))) := by
                  rw [← HQ3.out, Bool.false_or, Bool.eq_iff_iff, beq_iff_eq, decide_eq_true_eq]
                exact h9
              clear HQ3
              go_wp2
              exact ⟨⟨m + 1, _, by omega, rfl, by go_num, HQ4, trivial⟩, by simp [intOf]; omega⟩
            · go_wp2
              go_roundw
              case rel => exact ⟨m + 1, true, by omega, rfl, by go_num, HQ3, trivial⟩
              case measure => simp [intOf]; omega
          · have HQ3 : Hid (q' = ((p.rs.take (i + 1)).any fun x => hasN x f)) := by
              rw [HQ.out]
              have e : xb = m := by omega
              rw [e]
              exact HQ2.out
            clear HQ2 HQ
            have hsm := HSM.out
            go_wp2
            exact ⟨⟨i + 1, q', xa + xb, by omega, rfl, rfl, by go_num, by omega, by omega, HQ3.out, HX.out, BX.out⟩, by simp [intOf]; omega⟩
      · have hin : i = n := by omega
        have HWt : Hid (Calls Tryz.prog 17 #[.agg (lkC p.h p.nm (.slice ta p.ts.length tc) (.slice pa p.ps.length pc) (.slice oa n oc) (.slice ma p.mo.length mc)), .int .i64 f] wr fun e w' => e = .returned (.bool (wantB p.rs f)) ∧ Below wr.heap.size wr w') :=
          wanted (lkOf p) _ _ _ _ f wr (lkOf_ok HB.out.1 HB.out.2.1 HB.out.2.2.1 HB.out.2.2.2) (fun x hx => by have h9 := HRS.out.1 x hx; unfold RnOk at h9; unfold I64; omega) hf (HG.out.move (fun _ h _ => h) HI.out.2.2.size (fun b _ hl => HI.out.2.2.block b hl))
        have HF : Hid ((i ≠ 0 → wantB p.rs f = q) ∧ (i = 0 → wantB p.rs f = decide (0 ≤ f))) := by
          have h9 : (i ≠ 0 → wantB p.rs f = q) ∧ (i = 0 → wantB p.rs f = decide (0 ≤ f)) := by
            constructor
            · intro h
              rw [want_any HRS.out f (by rw [HN.out]; omega), HI.out.1, hin, ← HN.out, List.take_length]
            · intro h
              exact want_nil f (by rw [HN.out]; omega)
          exact h9
        generalize wantB p.rs f = v at *
        have HBW : Hid (Below w.heap.size w wr) := HW.out.1.trans (HI.out.2.2.mono HW.out.1.size)
        have hlb := HLB.out
        clear HI HW HG HRS
        go_wp2_with (first | (refine wpList_load_row rfl 29 _ rfl G1 rfl 29 (lkC p.h p.nm (.slice ta p.ts.length tc) (.slice pa p.ps.length pc) (.slice oa n oc) (.slice ma p.mo.length mc)) (0, 0) _ hlb Tryz.underlying29 rfl hiL ?_))
        refine HWt.out.mono ?_
        rintro e w3 ⟨rfl, b3⟩
        have b35 := ((hlb.keep (b3.block G1 hlb.lt)).cells hh32).2.2.2.1
        have HB3 : Hid (Below w.heap.size w w3) := HBW.out.trans (b3.mono HBW.out.size)
        clear b3 hlb HLB HWt HBW a35
        by_cases h0 : i = 0
        · have hv := HF.out.2 h0
          have hn0 : n = 0 := by omega
          subst hn0
          go_wp2
          go_ret
          exact ⟨by simp, HB3.out⟩
        · have hv := HF.out.1 h0
          have hn0 : ¬ (n : Int) = 0 := by omega
          go_wp2
          go_ret
          exact ⟨by simp, HB3.out⟩
  · have hE2 : (er0 == 0) = false := by simp [hE]
    go_wp2_with (first | (go_at_call 9; refine (num9 _ _).mono ?_; rintro e w9 ⟨rfl, rfl⟩))
    go_ret
    exact ⟨rfl, J1.out.2.1⟩
end Go.Proofs.YtofjohmnijnjmaaGreatDoor
