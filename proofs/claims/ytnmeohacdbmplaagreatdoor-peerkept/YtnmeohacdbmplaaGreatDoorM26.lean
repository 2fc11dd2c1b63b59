import Derived.Test.YtnmeohacdbmplaaGreatDoorM25
import Derived.BigQuiet
import Derived.Deep.QuietTactic
namespace Go.Proofs.YtnmeohacdbmplaaGreatDoor
open Go.RowKit
theorem rowCell {w : World} {B m n c : Nat} {a : Option Addr} {vs : List Value} (h : w.ownsRow B 31 1 (.slice a m c) n vs) (i : Nat) (hi : i < n) : ∃ g0, a = some ⟨g0, 0, none⟩ ∧ w.cell? ⟨g0, i, none⟩ = some (vs.getD i nv) ∧ (∃ cs, w.heap[g0]? = some (.cells cs 31 (0, 0))) := by
  have hl := h.1
  rcases h.2 with ⟨_, h2⟩ | ⟨g, cap, cur, h1, _, h3, _⟩
  · omega
  · simp only [Value.slice.injEq] at h1
    obtain ⟨rfl, rfl, rfl⟩ := h1
    refine ⟨g, rfl, ?_, cur, h3⟩
    have := World.ownsRow.cellAt h i (by omega)
    rw [this]
    have hi' : i < vs.length := by omega
    simp [List.getD, List.getElem?_eq_getElem hi']
theorem rowForm {w : World} {B e size n : Nat} {v : Value} {us : List Value} (h : w.ownsRow B e size v n us) : ∃ a c, v = .slice a n c := by
  rcases h.2 with ⟨h1, h2⟩ | ⟨g, cap, cur, h1, _⟩
  · exact ⟨none, 0, by rw [h1, h2]⟩
  · exact ⟨_, _, h1⟩
theorem or_at {w : World} {B n c : Nat} {a : Option Addr} {bs : List (List UInt8)} (h : Fm.OR B w (.slice a n c) bs) (i : Nat) (hi : i < bs.length) : ∃ g ai ci, a = some ⟨g, 0, none⟩ ∧ w.cell? ⟨g, i, none⟩ = some (.slice ai (bs.getD i []).length ci) ∧ RB w (.slice ai (bs.getD i []).length ci) (bs.getD i []) := by
  obtain ⟨us, h1, h2, h3⟩ := h
  obtain ⟨g, rfl, hc, _⟩ := rowCell h2 i hi
  obtain ⟨ai, ci, e⟩ := (h3 i hi).form
  have e2 : us.getD i nv = us.getD i undef := by
    have hi' : i < us.length := by omega
    simp [List.getD, List.getElem?_eq_getElem hi']
  have hr := (h3 i hi).rb
  rw [e] at hr
  exact ⟨g, ai, ci, rfl, by rw [hc, e2, e], hr⟩
/-- the marks behind a list -/
def mkp (k t : Nat) : List UInt8 := (List.range (2 * t)).map fun i => if i % 2 = 0 then UInt8.ofNat k else UInt8.ofNat (k / 256)
theorem mkp_len (k t : Nat) : (mkp k t).length = 2 * t := by simp [mkp]
theorem mkp_succ (k t : Nat) : mkp k (t + 1) = mkp k t ++ [UInt8.ofNat k, UInt8.ofNat (k / 256)] := by
  unfold mkp
  rw [show 2 * (t + 1) = 2 * t + 1 + 1 by omega, List.range_succ, List.range_succ]
  simp
theorem byt_mkp (k t i : Nat) (h : i < 2 * t) : byt (mkp k t) i = if i % 2 = 0 then UInt8.ofNat k else UInt8.ofNat (k / 256) := by simp [byt, mkp, List.getD, h]
theorem two_new (w : World) (x0 x1 : UInt8) (y0 y1 : Int) (h0 : (x0.toNat : Int) = y0) (h1 : (x1.toNat : Int) = y1) : ∀ q u, (Lib.byteCells [x0, x1])[q]? = some u → (w.alloc (.cells #[.int .u8 y0, .int .u8 y1] 5)).cell? ((⟨w.heap.size, 0, none⟩ : Addr).add q) = some u := fun q u hu => by
  subst h0 h1
  rw [Addr.add_mid, Nat.zero_add]
  have := heapNew w (.cells #[.int .u8 (x0.toNat : Int), .int .u8 (x1.toNat : Int)] 5)
  simp only [World.cell?, this]
  have e : (#[Value.int .u8 (x0.toNat : Int), .int .u8 (x1.toNat : Int)])[q]? = (Lib.byteCells [x0, x1])[q]? := by
    rw [← Array.getElem?_toList]; rfl
  rw [e]; exact hu
theorem rowKeep {w w' : World} {B B0 n : Nat} {v0 zv : Value} {xs : List Value} {l : List UInt8} (h : w.ownsRow B0 31 1 v0 n xs) (h3 : w.grownBy w' zv.ownBlock) (ho : OW B w zv l) : w'.ownsRow B0 31 1 v0 n xs := by
  refine rowFr h (S := fun k => zv.ownBlock ≠ some k) ⟨h3.os, h3.tape, h3.output, h3.size, fun k hk hs => h3.block k hk (fun e => hs e.symm)⟩ (fun g hg e => ?_)
  obtain ⟨_, _, cs, t1⟩ := rowTag h hg
  obtain ⟨_, _, cs', t2⟩ := rowTag ho e
  exact tag_ne t1 t2 (by decide) rfl
theorem MF.rowed {w1 : World} {B : Nat} {vs : List Value} {L : List (List UInt8)} {mk : Nat → List UInt8} {j : Nat} {ms : List Value} {w5 w6 : World} {mv : Value} {n : Nat} {xs : List Value} (h : MF w1 B vs L mk j ms w5) (hj : j ≤ L.length) (hr : w5.ownsRow w1.heap.size 31 1 mv n xs) (h4 : w5.grownBy w6 mv.ownBlock) : MF w1 B vs L mk j ms w6 := by
  refine h.frm hj (S := fun k => mv.ownBlock ≠ some k) ⟨h4.os, h4.tape, h4.output, h4.size, fun k hk hs => h4.block k hk (fun e => hs e.symm)⟩ (fun k cs hk e => ?_) (fun k hk e => ?_)
  · obtain ⟨_, _, cs', t1⟩ := rowTag hr e
    exact tag_ne hk t1 (by decide) rfl
  · have := (rowTag hr e).1
    omega
/-- two more marks -/
theorem append_mark {ops : Array Oper} {rest : List Oper} {o : Oper} {a : Act} {Q : Exit → Act → World → Prop} {w1 w3 w : World} {B : Nat} {vs : List Value} {L : List (List UInt8)} {mk : Nat → List UInt8} {j t : Nat} {ms : List Value} {zv gv : Value} (hgd : o.guard = none) (s x : Operand)
    (ho : o.op = .call { callee := .builtin .append, args := #[s, x], argTypes := #[31, 31] }) (hs : a.eval s = zv) (h : CG w1 w3 B vs L mk j ms zv (mkp j t) w ∧ w.ownsRow w1.heap.size 31 1 gv j ms) (hj : j < L.length) (h255 : j ≤ 255) (ht : t ≤ 35) (hl : (L.getD j []).length ≤ 1048576) (hB : B ≤ w.heap.size) (hx : a.eval x = .slice (some ⟨w.heap.size, 0, none⟩) 2 2)
    (K : ∀ v' w', CG w1 w3 B vs L mk j ms v' (mkp j (t + 1)) w' ∧ w'.ownsRow w1.heap.size 31 1 gv j ms → wpList Tryz.prog ops Q rest (a.put o.dst v') w') : wpList Tryz.prog ops Q (o :: rest) a (w.alloc (.cells #[.int .u8 (j : Int), .int .u8 ((j : Int) / 256)] 5)) := by
  obtain ⟨i5, hi5, hz0, hz1, hz2⟩ := info_parts info5b
  have bA : Below w.heap.size w (w.alloc (.cells #[.int .u8 (j : Int), .int .u8 ((j : Int) / 256)] 5)) := (Below.refl _ _).alloc (Nat.le_refl _) _
  have hc := h.1.below (Nat.le_of_lt hj) bA
  have hr := rowFr h.2 (Fm.Fr.of_below (S := fun _ => True) bA) (fun _ _ => trivial)
  have hlen : (L.getD j [] ++ mkp j t).length = (L.getD j []).length + 2 * t := by rw [List.length_append, mkp_len]
  refine append_bothL i5 _ 1 hgd s x ho Tryz.underlying31 hi5 hz0 hz1 hz2 rfl (by omega) (m := 2) (by omega) hs hc.ow ⟨w.heap.size, 0, none⟩ 2 hx (us := Lib.byteCells [UInt8.ofNat j, UInt8.ofNat (j / 256)]) (by rw [bcl_len]; rfl) (two_new w _ _ _ _ (by rw [u8v]; omega) (by rw [u8v]; omega)) (Lib.byteCells_one _) (Nat.le_trans hB bA.size) (by unfold maxLen; omega) (by omega) (fun v' w' r1 r2 r3 r4 => K v' w' ⟨?_, rowKeep hr r3 hc.ow⟩)
  have := hc.step hj [UInt8.ofNat j, UInt8.ofNat (j / 256)] v' r1 r2 r3 r4
  rwa [← mkp_succ] at this
/-- the first k of the lists have been written over -/
structure SO (w4 : World) (B : Nat) (vs : List Value) (k : Nat) (wr : World) : Prop where
  fr : Fm.Fr (fun g => ∀ q, q < k → (vs.getD q nv).ownBlock ≠ some g) w4 wr
theorem setCell_other {w : World} {g k j : Nat} {v : Value} (h : j ≠ g) : (w.setCell ⟨g, k, none⟩ v).heap[j]? = w.heap[j]? := Below.heap_setCell _ _ _ _ (fun e => h e)
theorem drew_drew (w : World) (a b : Nat) : (w.drewN a).drewN b = w.drewN (a + b) := by
  unfold World.drewN
  simp [Nat.add_assoc]
theorem drew_fr {S : Nat → Prop} {w u : World} (h : Fm.Fr S w u) (n : Nat) : Fm.Fr S w (u.drewN n) := ⟨h.os, h.tape, h.output, h.size, h.block⟩
set_option maxHeartbeats 4000000 in
set_option maxRecDepth 100000 in
theorem apartT (v : Value) (B : Nat) (vs : List Value) (L : List (List UInt8)) (w : World) (hrow : w.ownsRow B 31 1 v L.length vs) (h : FL B w vs L) (hB : B ≤ w.heap.size) (hn : L.length ≤ 255) (hl : ∀ j, (L.getD j []).length ≤ 1048576) :
    Calls Tryz.prog 52 #[v] w fun e w' => e = .returned (.bool true) ∧ Fm.Fr (fun k => ¬ bks vs k) w w' := by
  obtain ⟨i5, hi5, hz0, hz1, hz2⟩ := info_parts info5b
  obtain ⟨i1, hi1, hy0, hy1, hy2⟩ := info_parts info31
  obtain ⟨a, c, rfl⟩ : ∃ a c, v = .slice a L.length c := by
    rcases hrow.2 with ⟨h1, h2⟩ | ⟨g, cap, cur, h1, _⟩
    · exact ⟨none, 0, by rw [h1, h2]⟩
    · exact ⟨_, _, h1⟩
  have H0 : Hid (w.ownsRow B 31 1 (.slice a L.length c) L.length vs ∧ FL B w vs L ∧ B ≤ w.heap.size ∧ (∀ j, (L.getD j []).length ≤ 1048576)) := ⟨hrow, h, hB, hl⟩
  have HY : Hid ((Tryz.prog.info? 31 = some i1 ∧ i1.zero = some (.slice none 0 0) ∧ i1.size = 1 ∧ i1.bytes = 24) ∧ (Tryz.prog.info? 5 = some i5 ∧ i5.zero = some (.int .u8 0) ∧ i5.size = 1 ∧ i5.bytes = 1)) := ⟨⟨hi1, hy0, hy1, hy2⟩, hi5, hz0, hz1, hz2⟩
  clear hrow h hB hl hi1 hy0 hy1 hy2 hi5 hz0 hz1 hz2
  generalize hnn : L.length = n at *
  have HN : Hid (L.length = n) := hnn
  clear hnn
  go_enter Tryz.func52, Tryz.ntmps52
  go_wp2
  go_loopw [3, 4] (fun mv t w3 => ∃ (j : Nat) (ma : Option Addr) (mc : Nat), j ≤ n ∧ t = .int .i64 j ∧ mv = .slice ma j mc ∧ Hid (Fm.OR w.heap.size w3 (.slice ma j mc) (L.take j) ∧ Below w.heap.size w w3)) (fun _ t _ => n - (intOf t).toNat)
  case atStart => exact ⟨0, none, 0, Nat.zero_le _, rfl, rfl, Fm.OR.nil _ _, Below.refl _ _⟩
  case round =>
    obtain ⟨j, ma, mc, hj, rfl, rfl, HM⟩ := hrel
    obtain ⟨w3, hw3⟩ : ∃ x, x = wr := ⟨_, rfl⟩
    subst hw3
    by_cases hlt : j < n
    · as_aux_lemma =>
      have hrow3 : w3.ownsRow B 31 1 (.slice a n c) n vs := rowFr H0.out.1 (Fm.Fr.of_below (S := fun _ => True) HM.out.2) (fun _ _ => trivial)
      obtain ⟨g0, rfl, hcell, _⟩ := rowCell hrow3 j hlt
      have oj : OW B w3 (vs.getD j nv) (L.getD j []) := (H0.out.2.1.each j (by rw [HN.out]; exact hlt)).frS (Fm.Fr.of_below (S := fun _ => True) HM.out.2) (fun _ _ => trivial)
      obtain ⟨ai, ci, evj⟩ := oj.form
      rw [evj] at hcell oj
      have HR : Hid (RB w3 (.slice ai (L.getD j []).length ci) (L.getD j [])) := oj.rb
      have hml := H0.out.2.2.2 j
      have HL1 : Hid (L.take j ++ [L.getD j []] = L.take (j + 1)) := by
        have hj' : j < L.length := by rw [HN.out]; exact hlt
        show _ = _
        rw [List.take_add_one, List.getElem?_eq_getElem hj', List.getD_eq_getElem?_getD, List.getElem?_eq_getElem hj']
        rfl
      have hltk : (L.take j).length < 1073741824 := by rw [List.length_take]; omega
      have hnil : OW w3.heap.size w3 (.slice none 0 0) [] := World.ownsRow_nil _ _ _ _
      have HNl := Lib.hid hnil
      clear hnil oj hrow3
      generalize hlj : (L.getD j []).length = m at *
      have HLJ : Hid ((L.getD j []).length = m) := hlj
      clear hlj
      go_wp2_with (first
        | (at_builtin; refine append_bytes rfl _ _ rfl rfl HNl.out rfl HR.out (Nat.le_refl _) (by rw [HLJ.out]; simp; omega) ?_; intro v5 w5 r1 r2; rw [List.nil_append] at r1; obtain ⟨ya, yn, yc, rfl⟩ := r1.form3; have HZ : Hid (Fm.OR w.heap.size (w5.alloc (.cells #[.slice ya yn yc] 31)) (.slice ma j mc) (L.take j) ∧ OW w.heap.size (w5.alloc (.cells #[.slice ya yn yc] 31)) (.slice ya yn yc) (L.getD j []) ∧ Below w.heap.size w (w5.alloc (.cells #[.slice ya yn yc] 31))) := ⟨(HM.out.1.keep (fun k _ hl => r2.block k hl)).keep (fun k _ hl => heapOld _ _ _ hl), (r1.mono HM.out.2.size).alloc _, (HM.out.2.trans (r2.mono HM.out.2.size)).alloc (Nat.le_trans HM.out.2.size r2.size) _⟩; clear r1 r2 HNl HR)
        | (at_builtin; refine Fm.append_own rfl _ _ rfl rfl HZ.out.1 w5.heap.size (.slice ya yn yc) _ rfl (by rw [World.cell?, heapNew]; rfl) HZ.out.2.1 HZ.out.2.2.size hltk ?_; intro v' w6 s1 s2; rw [HL1.out] at s1; have HW : Hid (Fm.OR w.heap.size w6 v' (L.take (j + 1)) ∧ Below w.heap.size w w6) := ⟨s1, HZ.out.2.2.trans s2⟩; obtain ⟨va, vc, hv⟩ := s1.form; rw [List.length_take, HN.out, Nat.min_eq_left (by omega)] at hv; subst hv; clear s1 s2 HZ))
      exact ⟨⟨j + 1, va, vc, by omega, by go_num, rfl, HW⟩, by simp [intOf]; omega⟩
    · obtain rfl : n = j := by omega
      obtain ⟨w1, hw1⟩ : ∃ x, x = w3 := ⟨_, rfl⟩
      subst hw1
      have HM' : Hid (Fm.OR w.heap.size w1 (.slice ma n mc) L ∧ Below w.heap.size w w1) := by
        have := HM.out
        rw [List.take_of_length_le (by rw [HN.out]; exact Nat.le_refl _)] at this
        exact this
      have HF1 : Hid (w1.ownsRow B 31 1 (.slice a n c) n vs ∧ FL B w1 vs L) := ⟨rowFr H0.out.1 (Fm.Fr.of_below (S := fun _ => True) HM'.out.2) (fun _ _ => trivial), H0.out.2.1.fr (Fm.Fr.of_below (S := fun _ => True) HM'.out.2) (fun _ _ => trivial)⟩
      clear HM hlt hj
      go_wp2
      go_loopw [6, 7] (fun mv t w3 => ∃ (j : Nat) (ms : List Value) (ga : Option Addr) (gc : Nat), j ≤ n ∧ t = .int .i64 j ∧ mv = .slice ga j gc ∧ Hid (w3.ownsRow w1.heap.size 31 1 (.slice ga j gc) j ms ∧ MF w1 B vs L (fun k => mkp k 35) j ms w3)) (fun _ t _ => n - (intOf t).toNat)
      case atStart => exact ⟨0, [], none, 0, Nat.zero_le _, rfl, rfl, World.ownsRow_nil _ _ _ _, MF.start _ HF1.out.2⟩
      case round =>
        obtain ⟨j, ms, ga, gc, hj, rfl, rfl, HM⟩ := hrel
        obtain ⟨w3, hw3⟩ : ∃ x, x = wr := ⟨_, rfl⟩
        subst hw3
        by_cases hlt : j < n
        · have hjL : j < L.length := by rw [HN.out]; exact hlt
          have hrow3 : w3.ownsRow B 31 1 (.slice a n c) n vs := rowFr HF1.out.1 HM.out.2.fr (fun g hg hb => by
            obtain ⟨_, _, cs, t1⟩ := rowTag HF1.out.1 hg
            obtain ⟨_, _, cs', t2⟩ := HF1.out.2.lt hb
            exact tag_ne t1 t2 (by decide) rfl)
          obtain ⟨g0, rfl, hcell, _⟩ := rowCell hrow3 j hlt
          obtain ⟨ai, ci, evj⟩ := (HM.out.2.fl.each j hjL).form
          have HCG : Hid (CG w1 w3 B vs L (fun k => mkp k 35) j ms (.slice ai (L.getD j []).length ci) (mkp j 0) w3) := by
            have := CG.start HM.out.2 hjL
            rw [evj] at this
            exact this
          rw [evj] at hcell
          have hml := H0.out.2.2.2 j
          have HCR : Hid ((CG w1 w3 B vs L (fun k => mkp k 35) j ms (.slice ai (L.getD j []).length ci) (mkp j 0) w3 ∧ w3.ownsRow w1.heap.size 31 1 (.slice ga j gc) j ms) ∧ B ≤ w3.heap.size) := ⟨⟨HCG.out, HM.out.1⟩, Nat.le_trans (Nat.le_trans H0.out.2.2.1 HM'.out.2.size) HM.out.2.fr.size⟩
          clear hrow3 HCG evj
          generalize hlj : (L.getD j []).length = m at *
          have HLJ : Hid ((L.getD j []).length = m) := hlj
          have HJL : Hid (j < L.length) := hjL
          clear hlj hjL
          go_wp2_with (at_builtin; refine append_mark rfl _ _ rfl rfl HCR.out.1 HJL.out (by omega) (by omega) (by rw [HLJ.out]; exact hml) HCR.out.2 rfl ?_; intro v5 w5 r1; obtain ⟨ya, yn, yc, rfl⟩ := r1.1.ow.form3; have HZ : Hid (CG w1 w3 B vs L (fun k => mkp k 35) j ms (.slice ya yn yc) (mkp j (0 + 1)) w5 ∧ w5.ownsRow w1.heap.size 31 1 (.slice ga j gc) j ms) := r1; clear r1)
          go_loopw [8, 9] (fun zv t wr => ∃ (k : Nat) (za : Option Addr) (zn zc : Nat), 1 ≤ k ∧ k ≤ 35 ∧ t = .int .i64 (2 * k : Nat) ∧ zv = .slice za zn zc ∧ Hid (CG w1 w3 B vs L (fun k => mkp k 35) j ms (.slice za zn zc) (mkp j k) wr ∧ wr.ownsRow w1.heap.size 31 1 (.slice ga j gc) j ms)) (fun _ t _ => 70 - (intOf t).toNat)
          case atStart => exact ⟨1, ya, yn, yc, by omega, by omega, rfl, rfl, HZ⟩
          case round =>
            obtain ⟨k, za, zn, zc, hk1, hk, rfl, rfl, HK⟩ := hrel
            generalize hk2 : 2 * k = k2 at *
            by_cases hkl : k2 < 70
            · have HB2 : Hid (B ≤ wr.heap.size) := Nat.le_trans HCR.out.2 HK.out.1.sz
              have HK2 := Lib.hid hk2
              clear hk2
              go_wp2_with (at_builtin; refine append_mark rfl _ _ rfl rfl HK.out HJL.out (by omega) hk (by rw [HLJ.out]; exact hml) HB2.out rfl ?_; intro v6 w6 r1; obtain ⟨xa, xn, xc, rfl⟩ := r1.1.ow.form3; have HX : Hid (CG w1 w3 B vs L (fun k => mkp k 35) j ms (.slice xa xn xc) (mkp j (k + 1)) w6 ∧ w6.ownsRow w1.heap.size 31 1 (.slice ga j gc) j ms) := r1; clear r1)
              exact ⟨⟨k + 1, xa, xn, xc, by omega, by have := HK2.out; omega, by have := HK2.out; rw [show 2 * (k + 1) = k2 + 2 by omega]; go_num, rfl, HX⟩, by simp [intOf]; omega⟩
            · obtain rfl : k = 35 := by omega
              obtain ⟨w4, hw4⟩ : ∃ x, x = wr := ⟨_, rfl⟩
              subst hw4
              have bA : Below w4.heap.size w4 (w4.alloc (.cells #[.slice za zn zc] 31)) := (Below.refl _ _).alloc (Nat.le_refl _) _
              have HD : Hid (MF w1 B vs L (fun k => mkp k 35) (j + 1) (ms ++ [.slice za zn zc]) (w4.alloc (.cells #[.slice za zn zc] 31)) ∧ (w4.alloc (.cells #[.slice za zn zc] 31)).ownsRow w1.heap.size 31 1 (.slice ga j gc) j ms) := ⟨(CG.done HK.out.1).below HJL.out bA, rowFr HK.out.2 (Fm.Fr.of_below (S := fun _ => True) bA) (fun _ _ => trivial)⟩
              have HSZ : Hid (w1.heap.size ≤ (w4.alloc (.cells #[.slice za zn zc] 31)).heap.size) := HD.out.1.fr.size
              subst hk2
              clear HK bA
              go_wp2_with (at_builtin; refine wpList_append_own _ rfl _ _ 74 rfl w1.heap.size 31 i1 _ 1 24 Tryz.underlying74 HY.out.1.1 HY.out.1.2.1 HY.out.1.2.2.1 HY.out.1.2.2.2 rfl (by omega) _ j ms rfl HD.out.2 ⟨w4.heap.size, 0, none⟩ 1 1 [.slice za zn zc] rfl rfl (cell_one_new _ _ _) (by simp [Value.oneCell']) (by unfold maxLen; omega) (by omega) HSZ.out ?_; intro v' w6 s1 s2 _; have HW : Hid (w6.ownsRow w1.heap.size 31 1 v' (j + 1) (ms ++ [.slice za zn zc]) ∧ MF w1 B vs L (fun k => mkp k 35) (j + 1) (ms ++ [.slice za zn zc]) w6) := ⟨s1, HD.out.1.rowed HJL.out HD.out.2 s2⟩; obtain ⟨va, vc, hv⟩ := rowForm s1; subst hv; clear s1 s2)
              exact ⟨⟨j + 1, _, va, vc, by omega, by go_num, rfl, HW⟩, by simp [intOf]; omega⟩
        · obtain rfl : n = j := by omega
          obtain ⟨w5, hw5⟩ : ∃ x, x = w3 := ⟨_, rfl⟩
          subst hw5
          have HG : Hid ((w5.ownsRow w1.heap.size 31 1 (.slice ga n gc) n ms ∧ MF w1 B vs L (fun k => mkp k 35) n ms w5) ∧ w5.ownsRow B 31 1 (.slice a n c) n vs ∧ Fm.OR w.heap.size w5 (.slice ma n mc) L ∧ Fm.Fr (fun k => ¬ bks vs k) w w5) := by
            refine ⟨HM.out, rowFr HF1.out.1 HM.out.2.fr (fun g hg hb => ?_), HM'.out.1.keep (fun k hk hlt => HM.out.2.fr.block k hlt (fun hb => ?_)), (Fm.Fr.of_below HM'.out.2).trans HM.out.2.fr (fun _ _ x => x)⟩
            · obtain ⟨_, _, cs, t1⟩ := rowTag HF1.out.1 hg
              obtain ⟨_, _, cs', t2⟩ := HF1.out.2.lt hb
              exact tag_ne t1 t2 (by decide) rfl
            · have := (H0.out.2.1.lt hb).2.1
              omega
          clear HM hlt hj HF1 HM'
          go_wp2
          go_loopw [10] (fun t wr => ∃ (i nq : Nat), i ≤ n ∧ t = .int .i64 i ∧ wr = w5.drewN nq) (fun t _ => n - (intOf t).toNat)
          case atStart => exact ⟨0, 0, Nat.zero_le _, rfl, rfl⟩
          case round =>
            obtain ⟨i, nq, hi, rfl, hw⟩ := hrel
            by_cases hlt : i < n
            · as_aux_lemma =>
              have hiL : i < L.length := by rw [HN.out]; exact hlt
              obtain ⟨g0, rfl, hcell, _⟩ := rowCell HG.out.2.1 i hlt
              obtain ⟨ai, ci, evi⟩ := (HG.out.1.2.fl.each i hiL).form
              have oi := HG.out.1.2.fl.each i hiL
              rw [evi] at hcell oi
              obtain ⟨gm, rfl, hmc, _⟩ := rowCell HG.out.1.1 i hlt
              have omi := HG.out.1.2.each i hlt
              obtain ⟨ua, uc, eu⟩ := omi.form
              rw [eu] at hmc omi
              rw [List.length_append, mkp_len] at hmc omi
              obtain ⟨ug, rfl⟩ : ∃ ug, ua = some ⟨ug, 0, none⟩ := by
                rcases omi.2 with ⟨e, h0⟩ | ⟨ug, cap, cur, e, _⟩
                · rw [List.length_append, mkp_len] at h0; omega
                · simp only [Value.slice.injEq] at e
                  exact ⟨ug, e.1⟩
              obtain ⟨gw, wa, wc, rfl, hwc, hwr⟩ := or_at HG.out.2.2.1 i hiL
              generalize hm : (L.getD i []).length = m at *
              have hml : m ≤ 1048576 := by rw [← hm]; exact H0.out.2.2.2 i
              have HB : Hid (∀ k nq, k < 35 → (w5.drewN nq).cell? ⟨ug, m + 2 * k, none⟩ = some (.int .u8 (i : Int)) ∧ (w5.drewN nq).cell? ⟨ug, m + 2 * k + 1, none⟩ = some (.int .u8 ((i : Int) / 256))) := fun k nq hk => by
                have h1 := (omi.atP (m + 2 * k) (by rw [List.length_append, mkp_len]; omega)).1
                have h2 := (omi.atP (m + 2 * k + 1) (by rw [List.length_append, mkp_len]; omega)).1
                rw [Fm.byt_right _ _ _ (by omega), hm, byt_mkp _ _ _ (by omega), if_pos (by omega), u8v, show (i : Int) % 256 = i by omega] at h1
                rw [Fm.byt_right _ _ _ (by omega), hm, byt_mkp _ _ _ (by omega), if_neg (by omega), u8v, show ((i / 256 : Nat) : Int) % 256 = (i : Int) / 256 by omega] at h2
                exact ⟨by simpa using h1, by simpa using h2⟩
              have hc0 : ∀ nq, (w5.drewN nq).cell? ⟨g0, i, none⟩ = some (.slice ai m ci) := fun nq => hcell
              have hc1 : ∀ nq, (w5.drewN nq).cell? ⟨gm, i, none⟩ = some (.slice (some ⟨ug, 0, none⟩) (m + 70) uc) := fun nq => hmc
              have hc2 : ∀ nq, (w5.drewN nq).cell? ⟨gw, i, none⟩ = some (.slice wa m wc) := fun nq => hwc
              have SMu : Hid (∀ u, Below w5.heap.size w5 u → Calls Tryz.prog 23 #[.slice ai m ci, .slice wa m wc] u fun e w' => e = .returned (.bool true) ∧ ∃ m, w' = u.drewN m) := fun u hu => same _ _ (L.getD i []) _ (by omega) (oi.rb.keep hu) (hwr.keep hu)
              subst hw
              have q0 := hc0 nq
              clear hcell hmc hwc oi omi evi eu hwr
              have HM := Lib.hid hm
              clear hm
              go_wp2
              clear q0
              go_loopw [12] (fun t wr => ∃ (k nq : Nat), k ≤ 35 ∧ t = .int .i64 (2 * k : Nat) ∧ wr = w5.drewN nq) (fun t _ => 70 - (intOf t).toNat)
              case atStart => exact ⟨0, _, Nat.zero_le _, rfl, rfl⟩
              case round =>
                obtain ⟨k, nq, hk, rfl, hw⟩ := hrel
                have HW : Hid (wr = w5.drewN nq) := hw
                by_cases hkl : k < 35
                · have q0 := hc1 nq
                  obtain ⟨q1, q2⟩ := HB.out k nq hkl
                  rw [← hw] at q0 q1 q2
                  generalize hk2 : 2 * k = k2 at *
                  have HK2 := Lib.hid hk2
                  have hk3 : k2 < 69 := by omega
                  clear hw hc0 hc1 hc2 hk2
                  go_wp2
                  exact ⟨⟨k + 1, nq, by omega, by have := HK2.out; rw [show 2 * (k + 1) = k2 + 2 by omega]; go_num, HW.out⟩, by simp [intOf]; omega⟩
                · obtain rfl : k = 35 := by omega
                  have SM : Hid (∀ n, Calls Tryz.prog 23 #[.slice ai m ci, .slice wa m wc] (wr.drewN n) fun e w' => e = .returned (.bool true) ∧ ∃ m, w' = (wr.drewN n).drewN m) := fun n => SMu.out _ (by rw [hw, World.drewN_drewN]; exact belowDrew _ _)
                  have HW2 : Hid (∀ m, ∃ nq, wr.drewN m = w5.drewN nq) := fun m => ⟨nq + m, by rw [hw, World.drewN_drewN]⟩
                  have d0 : ∀ n, (wr.drewN n).cell? ⟨g0, i, none⟩ = some (.slice ai m ci) := fun n => by rw [hw]; exact hc0 nq
                  have d2 : ∀ n, (wr.drewN n).cell? ⟨gw, i, none⟩ = some (.slice wa m wc) := fun n => by rw [hw]; exact hc2 nq
                  have e0 := d0 0
                  have e2 := d2 0
                  clear hc0 hc1 hc2 hw HW SMu
                  go_wp2
                  go_quiet ((go_at_call 23; exact Calls.quiet_of (SM.out _)))
                  obtain ⟨nq9, e9⟩ := HW2.out nq
                  have HE9 := Lib.hid e9
                  clear e9 d0 d2 e0 e2 SM
                  generalize wr.drewN nq = wz at *
                  go_wp2
                  exact ⟨⟨i + 1, nq9, by omega, by go_num, HE9.out⟩, by simp [intOf]; omega⟩
            · obtain rfl : n = i := by omega
              have HP : Hid (FL B wr vs L ∧ wr.ownsRow B 31 1 (.slice a n c) n vs ∧ Fm.OR w.heap.size wr (.slice ma n mc) L ∧ Fm.Fr (fun k => ¬ bks vs k) w wr ∧ ∀ g, bks vs g → g < w.heap.size) := by
                rw [hw]
                have bd := belowDrew w5 nq
                exact ⟨HG.out.1.2.fl.fr (Fm.Fr.of_below (S := fun _ => True) bd) (fun _ _ => trivial), rowFr HG.out.2.1 (Fm.Fr.of_below (S := fun _ => True) bd) (fun _ _ => trivial), HG.out.2.2.1.keep (fun k _ hl => bd.block k hl), HG.out.2.2.2.trans (Fm.Fr.of_below bd) (fun _ _ x => x), fun g hg => (H0.out.2.1.lt hg).2.1⟩
              obtain ⟨w6, hw6⟩ : ∃ x, x = wr := ⟨_, rfl⟩
              subst hw6
              clear HG hw hlt hi
              go_wp2
              go_loopw [13] (fun t wr => ∃ i : Nat, i ≤ n ∧ t = .int .i64 i ∧ Hid (Fm.Fr (fun g => ∀ q, q < i → (vs.getD q nv).ownBlock ≠ some g) w6 wr)) (fun t _ => n - (intOf t).toNat)
              case atStart => exact ⟨0, Nat.zero_le _, rfl, Fm.Fr.refl _ _⟩
              case round =>
                obtain ⟨i, hi, rfl, HI⟩ := hrel
                by_cases hlt : i < n
                · as_aux_lemma =>
                  have hiL : i < L.length := by rw [HN.out]; exact hlt
                  obtain ⟨ai, ci, evi⟩ := (HP.out.1.each i hiL).form
                  have HO : Hid (OW B wr (.slice ai (L.getD i []).length ci) (L.getD i [])) := by
                    have := (HP.out.1.each i hiL).frS HI.out (fun g hg q hq => HP.out.1.ap i q g hiL (by omega) (by omega) hg)
                    rwa [evi] at this
                  have HRW : Hid (∀ u, Fm.Fr (fun g => ∀ q, q < i + 1 → (vs.getD q nv).ownBlock ≠ some g) w6 u → u.ownsRow B 31 1 (.slice a n c) n vs) := fun u hu => rowFr HP.out.2.1 hu (fun g hg q hq hb => by
                    obtain ⟨_, _, cs, t1⟩ := rowTag HP.out.2.1 hg
                    obtain ⟨_, _, cs', t2⟩ := HP.out.1.lt ⟨q, by rw [HP.out.1.len, HN.out]; omega, hb⟩
                    exact tag_ne t1 t2 (by decide) rfl)
                  have HI1 : Hid (Fm.Fr (fun g => ∀ q, q < i + 1 → (vs.getD q nv).ownBlock ≠ some g) w6 wr) := HI.out.mono (fun k _ h q hq => h q (by omega))
                  obtain ⟨g0, hg0, hcell, hgt⟩ := rowCell (HRW.out wr HI1.out) i hlt
                  subst hg0
                  have hml := H0.out.2.2.2 i
                  generalize hm : (L.getD i []).length = m at *
                  have HSTART : Hid ((∃ M : List UInt8, M.length = m ∧ OW B wr (.slice ai m ci) M) ∧ Fm.Fr (fun g => ∀ q, q < i + 1 → (vs.getD q nv).ownBlock ≠ some g) w6 wr) := ⟨⟨_, hm, HO.out⟩, HI1.out⟩
                  have HEV := Lib.hid evi
                  have HMM := Lib.hid hm
                  rw [evi] at hcell
                  clear evi hm HO HI HI1
                  go_wp2
                  go_loopw [14] (fun t wr => ∃ k : Nat, k ≤ m ∧ t = .int .i64 k ∧ Hid ((∃ M : List UInt8, M.length = m ∧ OW B wr (.slice ai m ci) M) ∧ Fm.Fr (fun g => ∀ q, q < i + 1 → (vs.getD q nv).ownBlock ≠ some g) w6 wr)) (fun t _ => m - (intOf t).toNat)
                  case atStart => exact ⟨0, Nat.zero_le _, rfl, HSTART⟩
                  case round =>
                    clear hcell HSTART hgt
                    obtain ⟨k, hk, rfl, HK⟩ := hrel
                    obtain ⟨g0', hg0', hcl, cs0, hgt⟩ := rowCell (HRW.out wr HK.out.2) i hlt
                    simp only [Option.some.injEq, Addr.mk.injEq, and_true] at hg0'
                    subst hg0'
                    rw [HEV.out] at hcl
                    by_cases hkl : k < m
                    · obtain ⟨⟨M, hM, hO⟩, hF⟩ := HK.out
                      obtain ⟨sg, rfl⟩ : ∃ sg, ai = some ⟨sg, 0, none⟩ := by
                        rcases hO.2 with ⟨e, h0⟩ | ⟨sg, cap, cur, e, _⟩
                        · omega
                        · simp only [Value.slice.injEq] at e
                          exact ⟨sg, e.1⟩
                      obtain ⟨_, _, cs1, hst⟩ := rowTag hO (g := sg) rfl
                      have hne0 : g0 ≠ sg := tag_ne hgt hst (by decide)
                      obtain ⟨hcx, hfx⟩ := hO.atP k (by omega)
                      have hbx := (byt M k).toNat_lt
                      have HSX : Hid (∀ z : Int, 0 ≤ z → z < 256 → (∃ M : List UInt8, M.length = m ∧ OW B (wr.setCell ⟨sg, k, none⟩ (.int .u8 z)) (.slice (some ⟨sg, 0, none⟩) m ci) M) ∧ Fm.Fr (fun g => ∀ q, q < i + 1 → (vs.getD q nv).ownBlock ≠ some g) w6 (wr.setCell ⟨sg, k, none⟩ (.int .u8 z))) := fun z hz0 hz1 => by
                        have ez : z = (((UInt8.ofNat z.toNat).toNat : Nat) : Int) := by rw [UInt8.toNat_ofNat', Nat.mod_eq_of_lt (by omega)]; omega
                        have hp := hO.putP k (UInt8.ofNat z.toNat)
                        rw [← ez] at hp
                        refine ⟨⟨_, by rw [List.length_set]; exact hM, hp⟩, hF.setCell sg k _ (fun h => h i (by omega) (by rw [HEV.out]; rfl))⟩
                      obtain ⟨x, hx0, hx1, hcx⟩ : ∃ x : Int, 0 ≤ x ∧ x < 256 ∧ wr.cell? ⟨sg, k, none⟩ = some (.int .u8 x) := ⟨_, by omega, by omega, hcx⟩
                      have hsub : IntKind.u8.wrap (255 - x) = 255 - x := by
                        unfold IntKind.wrap
                        simp [IntKind.signed, IntKind.bits]
                        omega
                      have HZ := Lib.hid (HSX.out (255 - x) (by omega) (by omega))
                      have hcx2 : wr.drew.cell? ⟨sg, k, none⟩ = some (.int .u8 x) := hcx
                      have hfx2 : wr.drew.frozen? ⟨sg, k, none⟩ = false := hfx
                      clear HK hF hO hbx hgt hst HSX
                      go_wp2
                      refine wp_region_held_drew (S := fun u => u.cell? ⟨g0, i, none⟩ = some (.slice (some ⟨sg, 0, none⟩) m ci)) (by kernel_rfl) (hcl) (fun hHeld => ?_)
                      refine wpAnyH_take (i := 0) (v := .slice (some ⟨g0, 0, none⟩) n c) rfl (by kernel_rfl) (by kernel_rfl) (by kernel_rfl) (fun _ _ _ h => h) (Or.inl ⟨by rfl, fun w hw => by go_simp⟩) hHeld ?_
                      simp only [Act.put, List.getElem_toArray, List.getElem_cons_zero, List.setIfInBounds_toArray, List.set_cons_zero, List.set_cons_succ]
                      refine wpAnyH_take (i := 1) (v := .int .i64 i) rfl (by kernel_rfl) (by kernel_rfl) (by kernel_rfl) (fun _ _ _ h => h) (Or.inl ⟨by rfl, fun w hw => by go_simp⟩) hHeld ?_
                      simp only [Act.put, List.getElem_toArray, List.getElem_cons_zero, List.getElem_cons_succ, List.setIfInBounds_toArray, List.set_cons_zero, List.set_cons_succ]
                      refine wpAnyH_take (i := 2) (v := .pointer (some ⟨g0, i, none⟩)) rfl (by kernel_rfl) (by kernel_rfl) (by kernel_rfl) (fun _ _ _ h => h) (Or.inl ⟨by rfl, fun w hw => by go_simp⟩) hHeld ?_
                      simp only [Act.put, List.getElem_toArray, List.getElem_cons_zero, List.getElem_cons_succ, List.setIfInBounds_toArray, List.set_cons_zero, List.set_cons_succ]
                      refine wpAnyH_take (i := 3) (v := .slice (some ⟨sg, 0, none⟩) m ci) rfl (by kernel_rfl) (by kernel_rfl) (by kernel_rfl) (fun _ _ _ h => h) (Or.inl ⟨by rfl, fun w hw => by have hw2 : w.cell? ⟨g0, i, none⟩ = _ := hw; go_simp⟩) hHeld ?_
                      simp only [Act.put, List.getElem_toArray, List.getElem_cons_zero, List.getElem_cons_succ, List.setIfInBounds_toArray, List.set_cons_zero, List.set_cons_succ]
                      refine wpAnyH_take (i := 4) (v := .int .i64 k) rfl (by kernel_rfl) (by kernel_rfl) (by kernel_rfl) (fun _ _ _ h => h) (Or.inl ⟨by rfl, fun w hw => by go_simp⟩) hHeld ?_
                      simp only [Act.put, List.getElem_toArray, List.getElem_cons_zero, List.getElem_cons_succ, List.setIfInBounds_toArray, List.set_cons_zero, List.set_cons_succ]
                      refine wpAnyH_take (i := 5) (v := .slice (some ⟨g0, 0, none⟩) n c) rfl (by kernel_rfl) (by kernel_rfl) (by kernel_rfl) (fun _ _ _ h => h) (Or.inl ⟨by rfl, fun w hw => by go_simp⟩) hHeld ?_
                      simp only [Act.put, List.getElem_toArray, List.getElem_cons_zero, List.getElem_cons_succ, List.setIfInBounds_toArray, List.set_cons_zero, List.set_cons_succ]
                      refine wpAnyH_take (i := 6) (v := .int .i64 i) rfl (by kernel_rfl) (by kernel_rfl) (by kernel_rfl) (fun _ _ _ h => h) (Or.inl ⟨by rfl, fun w hw => by go_simp⟩) hHeld ?_
                      simp only [Act.put, List.getElem_toArray, List.getElem_cons_zero, List.getElem_cons_succ, List.setIfInBounds_toArray, List.set_cons_zero, List.set_cons_succ]
                      refine wpAnyH_take (i := 7) (v := .pointer (some ⟨g0, i, none⟩)) rfl (by kernel_rfl) (by kernel_rfl) (by kernel_rfl) (fun _ _ _ h => h) (Or.inl ⟨by rfl, fun w hw => by go_simp⟩) hHeld ?_
                      simp only [Act.put, List.getElem_toArray, List.getElem_cons_zero, List.getElem_cons_succ, List.setIfInBounds_toArray, List.set_cons_zero, List.set_cons_succ]
                      refine wpAnyH_take (i := 8) (v := .slice (some ⟨sg, 0, none⟩) m ci) rfl (by kernel_rfl) (by kernel_rfl) (by kernel_rfl) (fun _ _ _ h => h) (Or.inl ⟨by rfl, fun w hw => by have hw2 : w.cell? ⟨g0, i, none⟩ = _ := hw; go_simp⟩) hHeld ?_
                      simp only [Act.put, List.getElem_toArray, List.getElem_cons_zero, List.getElem_cons_succ, List.setIfInBounds_toArray, List.set_cons_zero, List.set_cons_succ]
                      refine wpAnyH_take (i := 9) (v := .int .i64 k) rfl (by kernel_rfl) (by kernel_rfl) (by kernel_rfl) (fun _ _ _ h => h) (Or.inl ⟨by rfl, fun w hw => by go_simp⟩) hHeld ?_
                      simp only [Act.put, List.getElem_toArray, List.getElem_cons_zero, List.getElem_cons_succ, List.setIfInBounds_toArray, List.set_cons_zero, List.set_cons_succ]
                      refine wpAnyH_take (i := 10) (v := .pointer (some ⟨sg, k, none⟩)) rfl (by kernel_rfl) (by kernel_rfl) (by kernel_rfl) (fun _ _ _ h => h) (Or.inl ⟨by rfl, fun w hw => by go_simp⟩) hHeld ?_
                      simp only [Act.put, List.getElem_toArray, List.getElem_cons_zero, List.getElem_cons_succ, List.setIfInBounds_toArray, List.set_cons_zero, List.set_cons_succ]
                      refine wpAnyH_ready (rs := [11]) (by kernel_rfl) (by simp) ?_
                      refine AllReadyH.cons (o := _) rfl (fun K hK => ?_) AllReadyH.nil
                      go_simp
                      refine hK.out _ _ (by first | exact hHeld | exact (World.cell?_of_block (setCell_other hne0)).trans hHeld) (fun hHeld => ?_)
                      clear hK K
                      refine wpAnyH_take (i := 12) (v := .int .u8 (255 - x)) rfl (by kernel_rfl) (by kernel_rfl) (by kernel_rfl) (fun _ _ _ h => h) (Or.inl ⟨by rfl, fun w hw => by go_simp⟩) hHeld ?_
                      simp only [Act.put, List.getElem_toArray, List.getElem_cons_zero, List.getElem_cons_succ, List.setIfInBounds_toArray, List.set_cons_zero, List.set_cons_succ]
                      refine wpAnyH_take (i := 13) (v := .pointer (some ⟨sg, k, none⟩)) rfl (by kernel_rfl) (by kernel_rfl) (by kernel_rfl) (fun _ _ _ h => h) (Or.inl ⟨by rfl, fun w hw => by go_simp⟩) hHeld ?_
                      simp only [Act.put, List.getElem_toArray, List.getElem_cons_zero, List.getElem_cons_succ, List.setIfInBounds_toArray, List.set_cons_zero, List.set_cons_succ]
                      refine wpAnyH_ready (rs := [14]) (by kernel_rfl) (by simp) ?_
                      refine AllReadyH.cons (o := _) rfl (fun K hK => ?_) AllReadyH.nil
                      go_simp
                      refine hK.out _ _ (by first | exact hHeld | exact (World.cell?_of_block (setCell_other hne0)).trans hHeld) (fun hHeld => ?_)
                      clear hK K
                      refine wpAnyH_done (by kernel_rfl) ?_ _
                      clear hHeld
                      have HZ2 : Hid ((∃ M : List UInt8, M.length = m ∧ OW B (wr.setCell ⟨sg, k, none⟩ (.int .u8 (255 - x))).drew (.slice (some ⟨sg, 0, none⟩) m ci) M) ∧ Fm.Fr (fun g => ∀ q, q < i + 1 → (vs.getD q nv).ownBlock ≠ some g) w6 (wr.setCell ⟨sg, k, none⟩ (.int .u8 (255 - x))).drew) := by
                        obtain ⟨⟨M', h1, h2⟩, h3⟩ := HZ.out
                        exact ⟨⟨M', h1, h2.grow (belowDrew _ 1)⟩, drew_fr h3 1⟩
                      clear HZ
                      go_wp2
                      exact ⟨⟨k + 1, by omega, by go_num, HZ2⟩, by simp [intOf]; omega⟩
                    · obtain rfl : m = k := by omega
                      have HF7 := Lib.hid HK.out.2
                      obtain ⟨gw, hma⟩ : ∃ gw, ma = some ⟨gw, 0, none⟩ := by
                        obtain ⟨gw, _, _, e, _⟩ := or_at HP.out.2.2.1 i (by rw [HN.out]; exact hlt)
                        exact ⟨gw, e⟩
                      subst hma
                      have HQ : Hid (∀ q, i < q → q < n → ∃ aq cq wq wc', (∀ nn, (wr.drewN nn).cell? ⟨g0, q, none⟩ = some (.slice aq (L.getD q []).length cq)) ∧ (∀ nn, (wr.drewN nn).cell? ⟨gw, q, none⟩ = some (.slice wq (L.getD q []).length wc')) ∧ ∀ u, Below wr.heap.size wr u → Calls Tryz.prog 23 #[.slice aq (L.getD q []).length cq, .slice wq (L.getD q []).length wc'] u fun e w' => e = .returned (.bool true) ∧ ∃ m, w' = u.drewN m) := fun q hq1 hq2 => by
                        have hqL : q < L.length := by rw [HN.out]; exact hq2
                        obtain ⟨g0', e0, hc, _⟩ := rowCell (HRW.out wr HF7.out) q hq2
                        simp only [Option.some.injEq, Addr.mk.injEq, and_true] at e0
                        subst e0
                        have oq := (HP.out.1.each q hqL).frS HF7.out (fun g hg q' hq' => HP.out.1.ap q q' g hqL (by rw [HN.out]; omega) (by omega) hg)
                        obtain ⟨aq, cq, eq⟩ := oq.form
                        rw [eq] at hc oq
                        have hor : Fm.OR w.heap.size wr (.slice (some ⟨gw, 0, none⟩) n mc) L := HP.out.2.2.1.keep (fun k hk hlt => HF7.out.block k hlt (fun q' hq' hb => by have := HP.out.2.2.2.2 k ⟨q', by rw [HP.out.1.len, HN.out]; omega, hb⟩; omega))
                        obtain ⟨gw', wq, wc', e1, hc2, hr2⟩ := or_at hor q hqL
                        simp only [Option.some.injEq, Addr.mk.injEq, and_true] at e1
                        subst e1
                        exact ⟨aq, cq, wq, wc', fun _ => hc, fun _ => hc2, fun u hu => same _ _ (L.getD q []) _ (by have := H0.out.2.2.2 q; omega) (oq.rb.keep hu) (hr2.keep hu)⟩
                      have HNX : Hid (∀ nn, Fm.Fr (fun g => ∀ q, q < i + 1 → (vs.getD q nv).ownBlock ≠ some g) w6 (wr.drewN nn)) := fun nn => drew_fr HF7.out nn
                      clear hgt HK HF7
                      by_cases h1 : i + 1 < n
                      · obtain ⟨a1, c1, x1, y1, d1, d2, S1⟩ := HQ.out (i + 1) (by omega) h1
                        generalize (L.getD (i + 1) []).length = l1 at *
                        have e1 := d1 0
                        have e2 := d2 0
                        have t1 : ((i : Int) + 1 < (n : Int)) = True := eq_true (by omega)
                        have SM : Hid (∀ nn, Calls Tryz.prog 23 #[.slice a1 l1 c1, .slice x1 l1 y1] (wr.drewN nn) fun e w' => e = .returned (.bool true) ∧ ∃ m, w' = (wr.drewN nn).drewN m) := fun nn => S1 _ (belowDrew _ _)
                        clear S1
                        by_cases h2 : i + 2 < n
                        · obtain ⟨n1, hn1⟩ : ∃ n1 : Nat, n1 + 1 = n := ⟨n - 1, by omega⟩
                          have HN1 : Hid (n1 + 1 = n) := hn1
                          obtain ⟨a2, c2, x2, y2, d3, d4, S2⟩ := HQ.out n1 (by omega) (by omega)
                          generalize (L.getD n1 []).length = l2 at *
                          have t2 : ((i : Int) + 2 < (n : Int)) = True := eq_true (by omega)
                          have t3 : (n : Int) - 1 = (n1 : Int) := by omega
                          have t4 : n1 < n := by omega
                          have HS2 : Hid (∀ u, Below wr.heap.size wr u → Calls Tryz.prog 23 #[.slice a2 l2 c2, .slice x2 l2 y2] u fun e w' => e = .returned (.bool true) ∧ ∃ m, w' = u.drewN m) := S2
                          have HD34 := Lib.hid (And.intro d3 d4)
                          clear S2 hn1 d3 d4 HQ
                          go_wp2
                          go_quiet ((go_at_call 23; exact Calls.quiet_of (SM.out _)))
                          obtain ⟨wz, hwz⟩ : ∃ x, x = wr.drewN nq := ⟨_, rfl⟩
                          have d5 : ∀ nn, (wz.drewN nn).cell? ⟨g0, n1, none⟩ = some (.slice a2 l2 c2) := fun nn => by rw [hwz]; exact HD34.out.1 nq
                          have d6 : ∀ nn, (wz.drewN nn).cell? ⟨gw, n1, none⟩ = some (.slice x2 l2 y2) := fun nn => by rw [hwz]; exact HD34.out.2 nq
                          have e5 := d5 0
                          have e6 := d6 0
                          have SM2 : Hid (∀ nn, Calls Tryz.prog 23 #[.slice a2 l2 c2, .slice x2 l2 y2] (wz.drewN nn) fun e w' => e = .returned (.bool true) ∧ ∃ m, w' = (wz.drewN nn).drewN m) := fun nn => HS2.out _ (by rw [hwz, World.drewN_drewN]; exact belowDrew _ _)
                          have HN2 : Hid (∀ nn, Fm.Fr (fun g => ∀ q, q < i + 1 → (vs.getD q nv).ownBlock ≠ some g) w6 (wz.drewN nn)) := fun nn => by rw [hwz, World.drewN_drewN]; exact HNX.out _
                          rw [← hwz]
                          clear hcl hwz d1 d2 e1 e2 SM HS2 HD34 HNX t1
                          go_wp2
                          go_quiet ((go_at_call 23; exact Calls.quiet_of (SM2.out _)))
                          have HN3 := Lib.hid (HN2.out nq)
                          generalize wz.drewN nq = wy at *
                          clear d5 d6 e5 e6 SM2 HN2 t2 t3
                          go_wp2
                          exact ⟨⟨i + 1, by omega, by go_num, HN3⟩, by simp [intOf]; omega⟩
                        · have t2 : ((i : Int) + 2 < (n : Int)) = False := eq_false (by omega)
                          clear HQ
                          go_wp2
                          go_quiet ((go_at_call 23; exact Calls.quiet_of (SM.out _)))
                          have HN3 : Hid (∀ nn, Fm.Fr (fun g => ∀ q, q < i + 1 → (vs.getD q nv).ownBlock ≠ some g) w6 ((wr.drewN nq).drewN nn)) := fun nn => by rw [World.drewN_drewN]; exact HNX.out _
                          generalize wr.drewN nq = wz at *
                          clear hcl d1 d2 e1 e2 SM HNX t1
                          go_wp2
                          go_quiet (fail)
                          have HN4 := Lib.hid (HN3.out nq)
                          generalize wz.drewN nq = wy at *
                          clear HN3 t2
                          go_wp2
                          exact ⟨⟨i + 1, by omega, by go_num, HN4⟩, by simp [intOf]; omega⟩
                      · have t1 : ((i : Int) + 1 < (n : Int)) = False := eq_false (by omega)
                        have t2 : ((i : Int) + 2 < (n : Int)) = False := eq_false (by omega)
                        clear HQ
                        go_wp2
                        go_quiet (fail)
                        have HN3 : Hid (∀ nn, Fm.Fr (fun g => ∀ q, q < i + 1 → (vs.getD q nv).ownBlock ≠ some g) w6 ((wr.drewN nq).drewN nn)) := fun nn => by rw [World.drewN_drewN]; exact HNX.out _
                        generalize wr.drewN nq = wz at *
                        clear hcl HNX t1
                        go_wp2
                        go_quiet (fail)
                        have HN4 := Lib.hid (HN3.out nq)
                        generalize wz.drewN nq = wy at *
                        clear HN3 t2
                        go_wp2
                        exact ⟨⟨i + 1, by omega, by go_num, HN4⟩, by simp [intOf]; omega⟩
                · have HE : Hid (Fm.Fr (fun k => ¬ bks vs k) w wr) := HP.out.2.2.2.1.trans HI.out (fun k hk hn q hq hb => hn ⟨q, by rw [HP.out.1.len, HN.out]; omega, hb⟩)
                  clear HI
                  go_wp2
                  go_ret
                  exact ⟨rfl, HE.out⟩
end Go.Proofs.YtnmeohacdbmplaaGreatDoor
