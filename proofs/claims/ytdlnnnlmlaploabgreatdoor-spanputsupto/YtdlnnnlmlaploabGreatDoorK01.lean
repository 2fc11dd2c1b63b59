import Derived.Test.YtdlnnnlmlaploabGreatDoorK00
import Derived.Deep.AppendLies
import Derived.OwnWalk
import Derived.Deep.RegionLaw
import Derived.Lib.ParseIntBTie
namespace Go.Proofs.YtdlnnnlmlaploabGreatDoor
open Go.RowKit Go.Deep
theorem below_drewN {B:Nat} {a w:World} (h:Below B a w) (n:Nat):Below B a (w.drewN n):=⟨h.os,h.tape,h.output,h.size,h.block⟩
def fstE (f:Nat → Int):Nat → Int
  | 0=>0
  | n + 1=>if fstE f n = 0 then f n else fstE f n
theorem fstE_stop {f:Nat → Int} {j n:Nat} (h:j < n) (h0:fstE f j = 0) (h1:f j ≠ 0):fstE f n = f j:=by
  induction n with
  | zero=>omega
  | succ n ih =>
    unfold fstE
    by_cases hj:j = n
    · subst hj; rw [if_pos h0]
    · rw [ih (by omega),if_neg h1]
theorem fstE_go {f:Nat → Int} {j:Nat} (h0:fstE f j = 0) (h1:f j = 0):fstE f (j + 1) = 0:=by unfold fstE; rw [if_pos h0,h1]
def ownB (k n:Int) (s:ByteArray) (ln dn:Nat):Bool:=decide (1 ≤ k∧k ≤ 4∧(k = 1 ∨ n = 0)∧(k = 2 ∨ s.toList = [])∧(k = 3 ∨ ln = 0)∧(k = 4 ∨ dn = 0))
theorem ownB_iff (k n:Int) (s:ByteArray) (ln dn:Nat):ownB k n s ln dn = true ↔ 1 ≤ k∧k ≤ 4∧Own k n s ln dn:=by unfold ownB Own; simp
def keyBad (ky:Nat → ByteArray):Nat → Bool
  | 0=>false
  | p + 1=>Op.bytesLess (ky (p + 1)).toList (ky p).toList || (ky (p + 1)).toList == (ky p).toList
def wk:T → Int → Int
  | .no=>fun _=>0
  | .mk k n s ln l dn ky dv=>fun ar =>
    if ownB k n s ln dn = false then 27 else if k < 3 then 0 else if 32 ≤ ar then 24
    else if fstE (fun i=>wk (l i) (ar + 1)) ln ≠ 0 then fstE (fun i=>wk (l i) (ar + 1)) ln
    else fstE (fun i=>if keyBad ky i = true then 25 else wk (dv i) (ar + 1)) dn
def WC (f:Nat) (t:T):Prop:=∀ (x y:Value) (w:World) (ar:Int),0 ≤ ar → ar ≤ 32 → t.ok → RV (fun _=>True) w t x y →
  Calls Tryz.prog f #[vv t x y,.int .i64 ar] w fun e w'=>e = .returned (.int .i64 (wk t ar))∧Below w.heap.size w w'
set_option maxHeartbeats 2000000 in
theorem fault22 (t:T):WC 66 t:=by
  induction t with
  | no=>intro x y w ar _ _ _ h; exact h.elim
  | mk k n s ln l dn ky dv il id =>
    intro x y w ar ar0 ar1 hok hr
    obtain ⟨ok1,ok2,ok3,ok4,ok5⟩:=hok
    obtain ⟨⟨a,ca,rfl,hL⟩,⟨a',ca',rfl,hD⟩⟩:=hr
    show Calls Tryz.prog 66 #[.agg #[.int .i64 k,.int .i64 n,.string s,.slice a ln ca,.slice a' dn ca'],.int .i64 ar] w _
    have HI:Hid ((∀ i,WC 66 (l i))∧(∀ i,WC 66 (dv i))∧(∀ i,i < ln → (l i).ok)∧(∀ i,i < dn → (dv i).ok) ∧
        (ln = 0 ∨ ∃ b o,a = some ⟨b,o,none⟩∧True∧b < w.heap.size∧∀ i,i < ln → ∃ x' y',RV (fun _=>True) w (l i) x' y'∧five w b (o + i * 5) (l i) x' y') ∧
        (dn = 0 ∨ ∃ b o,a' = some ⟨b,o,none⟩∧True∧b < w.heap.size∧∀ i,i < dn → ∃ x' y',RV (fun _=>True) w (dv i) x' y'∧w.cell? ⟨b,o + i * 6,none⟩ = some (.string (ky i))∧five w b (o + i * 6 + 1) (dv i) x' y')):=
      ⟨il,id,ok4,fun i hi=>(ok5 i hi).2,hL,hD⟩
    clear il id ok4 ok5 hL hD
    have HW:Hid (∀ r,wk (.mk k n s ln l dn ky dv) ar = r ↔ (if ownB k n s ln dn = false then 27 else if k < 3 then 0 else if 32 ≤ ar then 24
      else if fstE (fun i=>wk (l i) (ar + 1)) ln ≠ 0 then fstE (fun i=>wk (l i) (ar + 1)) ln
      else fstE (fun i=>if keyBad ky i = true then 25 else wk (dv i) (ar + 1)) dn) = r):=fun r=>by rw [wk]
    generalize wk (.mk k n s ln l dn ky dv) ar = R at *
    go_enter Tryz.func66,Tryz.ntmps66
    go_wp2_with fail
    refine (pure32 k n s ln dn a a' ca ca' _).mono ?_
    rintro e w0 ⟨r,rfl,hp,hb0⟩
    have hw0:Hid (Below w.heap.size w w0):=((Below.refl _ _).alloc (Nat.le_refl _) _).trans (hb0.mono (by simp))
    obtain ⟨c0,c1,c2,c3,c4⟩:w0.cell? ⟨w.heap.size,0,none⟩ = some (.int .i64 k)∧w0.cell? ⟨w.heap.size,1,none⟩ = some (.int .i64 n)∧w0.cell? ⟨w.heap.size,2,none⟩ = some (.string s)∧w0.cell? ⟨w.heap.size,3,none⟩ = some (.slice a ln ca)∧w0.cell? ⟨w.heap.size,4,none⟩ = some (.slice a' dn ca'):=
      ⟨Below.cellS hb0 (Nat.le_refl _) (by go_simp),Below.cellS hb0 (Nat.le_refl _) (by go_simp),Below.cellS hb0 (Nat.le_refl _) (by go_simp),Below.cellS hb0 (Nat.le_refl _) (by go_simp),Below.cellS hb0 (Nat.le_refl _) (by go_simp)⟩
    clear hb0
    rw [← ownB_iff] at hp
    cases r with
    | false =>
      have hown:ownB k n s ln dn = false:=by
        cases h:ownB k n s ln dn with
        | false=>rfl
        | true=>exact absurd (hp.2 h) (by simp)
      have hR:R = 27:=(HW.out 27).2 (if_pos hown)
      subst hR
      go_wp2
      go_ret
      exact ⟨rfl,hw0.out⟩
    | true =>
      have hown:ownB k n s ln dn = true:=hp.1 rfl
      obtain ⟨k1,k4,_⟩:=(ownB_iff k n s ln dn).1 hown
      have HO:Hid (ownB k n s ln dn ≠ false):=fun h=>by rw [hown] at h; cases h
      clear hown hp
      by_cases hk:k < 3
      · have n3:(k != 3) = true:=by simp; omega
        have n4:(k != 4) = true:=by simp; omega
        have hR:R = 0:=(HW.out 0).2 ((if_neg HO.out).trans (if_pos hk))
        subst hR
        go_wp2
        go_ret
        exact ⟨rfl,hw0.out⟩
      have e34:k = 3 ∨ k = 4:=by omega
      by_cases har:32 ≤ ar
      · have hR:R = 24:=(HW.out 24).2 ((if_neg HO.out).trans ((if_neg hk).trans (if_pos har)))
        subst hR
        rcases e34 with rfl | rfl
        · go_wp2
          go_ret
          exact ⟨rfl,hw0.out⟩
        · go_wp2
          go_ret
          exact ⟨rfl,hw0.out⟩
      have HX:Hid (∀ r,R = r ↔ (if fstE (fun i=>wk (l i) (ar + 1)) ln ≠ 0 then fstE (fun i=>wk (l i) (ar + 1)) ln
          else fstE (fun i=>if keyBad ky i = true then 25 else wk (dv i) (ar + 1)) dn) = r):=fun r=>by
        rw [HW.out r,if_neg HO.out,if_neg hk,if_neg har]
      have H34:Hid (k = 3 ∨ k = 4):=e34
      clear HW HO e34 c1 c2 hk k1 k4
      have har':ar < 32:=by omega
      clear har
      rcases H34.out with rfl | rfl
      all_goals
        clear H34
        go_wp2
        go_loopw [27] (fun i wr=>∃ j:Nat,j ≤ ln∧i = .int .i64 j∧Hid (Below w0.heap.size w0 wr)∧Hid (fstE (fun i=>wk (l i) (ar + 1)) j = 0)) (fun i _=>ln - (intOf i).toNat)
        case atStart=>exact ⟨0,Nat.zero_le _,rfl,Below.refl _ _,rfl⟩
        case round =>
          obtain ⟨j,hj,rfl,hb,hz⟩:=hrel
          replace c4:=Below.cellS hb.out (Nat.le_refl _) c4
          have hw:Hid (Below w.heap.size w wr):=hw0.out.trans (hb.out.mono hw0.out.size)
          by_cases hlt:j < ln
          · obtain ⟨il,_,ok4,_,hL,_⟩:=HI.out
            rcases hL with h | ⟨b,o,rfl,_,hbl,hL⟩
            · omega
            obtain ⟨x1,y1,hv,g1,g2,g3,g4,g5⟩:=hL j hlt
            replace g1:=Below.cellS hw.out (Nat.le_refl _) g1
            replace g2:=Below.cellS hw.out (Nat.le_refl _) g2
            replace g3:=Below.cellS hw.out (Nat.le_refl _) g3
            replace g4:=Below.cellS hw.out (Nat.le_refl _) g4
            replace g5:=Below.cellS hw.out (Nat.le_refl _) g5
            obtain ⟨⟨xa,xn,xc,rfl⟩,⟨ya,yn,yc,rfl⟩⟩:=hv.slices
            have HV:Hid (WC 66 (l j)∧(l j).ok∧RV (fun _=>True) wr (l j) (.slice xa xn xc) (.slice ya yn yc)):=⟨il j,ok4 j hlt,Below.rv hw.out (Nat.le_refl _) hv⟩
            clear il ok4 hL hv hbl
            go_wp2_with fail
            have hbA:Below wr.heap.size wr (wr.alloc (Obj.cells #[.int .i64 (l j).k,.int .i64 (l j).n,.string (l j).s,.slice xa xn xc,.slice ya yn yc] 55)):=(Below.refl _ _).alloc (Nat.le_refl _) _
            refine (HV.out.1 _ _ _ (ar + 1) (by omega) (by omega) HV.out.2.1 (Below.rv hbA (Nat.le_refl _) HV.out.2.2)).mono ?_
            rintro e w2 ⟨rfl,hb2⟩
            have hb3:Hid (Below w0.heap.size w0 w2):=hb.out.trans ((hbA.trans (hb2.mono hbA.size)).mono hb.out.size)
            clear HV hbA hb2 g1 g2 g3 g4 g5
            by_cases he:wk (l j) (ar + 1) = 0
            · rw [he]
              go_wp2
              go_roundw
              case rel=>exact ⟨j + 1,by omega,by go_num,hb3,fstE_go hz.out he⟩
              case measure=>simp [intOf]; omega
            · have hst:=fstE_stop hlt hz.out he
              have hR:R = wk (l j) (ar + 1):=(HX.out _).2 (by rw [if_pos (by rw [hst]; exact he),hst])
              clear hst HX
              generalize wk (l j) (ar + 1) = q at *
              subst hR
              go_wp2
              go_ret
              exact ⟨rfl,hw0.out.trans (hb3.out.mono hw0.out.size)⟩
          · obtain rfl:j = ln:=by omega
            have HX2:Hid (R = fstE (fun i=>if keyBad ky i = true then 25 else wk (dv i) (ar + 1)) dn):=(HX.out _).2 (by rw [if_neg (by rw [hz.out]; simp)])
            clear HX
            go_wp2
            clear hz hlt hj ok2
            rename World=>w1
            go_loopw [42] (fun i w9=>∃ j2:Nat,j2 ≤ dn∧i = .int .i64 j2∧Hid (Below w1.heap.size w1 w9)∧Hid (fstE (fun i=>if keyBad ky i = true then 25 else wk (dv i) (ar + 1)) j2 = 0)) (fun i _=>dn - (intOf i).toNat)
            case atStart=>exact ⟨0,Nat.zero_le _,rfl,Below.refl _ _,rfl⟩
            case round =>
              obtain ⟨j2,hj2,rfl,hb9,hz⟩:=hrel
              replace c4:=Below.cellS hb9.out (Nat.le_refl _) c4
              have hw1:=hw
              replace hw:Hid (Below w.heap.size w wr):=hw.out.trans (hb9.out.mono hw.out.size)
              by_cases hlt:j2 < dn
              · obtain ⟨_,id,_,ok5,_,hD⟩:=HI.out
                rcases hD with h | ⟨b,o,rfl,_,hbl,hD⟩
                · omega
                obtain ⟨x1,y1,hv,g0,g1,g2,g3,g4,g5⟩:=hD j2 hlt
                have hpk:∀ p,p < dn → wr.cell? ⟨b,o + p * 6,none⟩ = some (.string (ky p)):=fun p hp=>by
                  obtain ⟨_,_,_,h,_⟩:=hD p hp
                  exact Below.cellS hw.out (Nat.le_refl _) h
                replace g0:=Below.cellS hw.out (Nat.le_refl _) g0
                replace g1:=Below.cellS hw.out (Nat.le_refl _) g1
                replace g2:=Below.cellS hw.out (Nat.le_refl _) g2
                replace g3:=Below.cellS hw.out (Nat.le_refl _) g3
                replace g4:=Below.cellS hw.out (Nat.le_refl _) g4
                replace g5:=Below.cellS hw.out (Nat.le_refl _) g5
                obtain ⟨⟨xa,xn,xc,rfl⟩,⟨ya,yn,yc,rfl⟩⟩:=hv.slices
                have HV:Hid (WC 66 (dv j2)∧(dv j2).ok∧RV (fun _=>True) wr (dv j2) (.slice xa xn xc) (.slice ya yn yc)):=⟨id j2,ok5 j2 hlt,Below.rv hw.out (Nat.le_refl _) hv⟩
                clear id ok5 hD hv hbl
                have c4':=fun ob=>cell_alloc_old (o:=ob) c4
                have HB:Hid (Below wr.heap.size wr (wr.alloc (Obj.cells #[.string (ky j2),.int .i64 (dv j2).k,.int .i64 (dv j2).n,.string (dv j2).s,.slice xa xn xc,.slice ya yn yc] 67))):=(Below.refl _ _).alloc (Nat.le_refl _) _
                have HG:Hid (∀ q:Int,q = wk (dv j2) (ar + 1) → keyBad ky j2 = false → (q = 0 → fstE (fun i=>if keyBad ky i = true then 25 else wk (dv i) (ar + 1)) (j2 + 1) = 0)∧(q ≠ 0 → R = q)):=by
                  intro q hq hkb
                  have hf:(fun i=>if keyBad ky i = true then (25:Int) else wk (dv i) (ar + 1)) j2 = q:=by simp only [hkb]; simp [hq]
                  exact ⟨fun h=>fstE_go hz.out (hf.trans h),fun h=>HX2.out.trans ((fstE_stop hlt hz.out (fun hc=>h (hf.symm.trans hc))).trans hf)⟩
                have HF:Hid (keyBad ky j2 = true → R = 25):=by
                  intro hkb
                  have hf:(fun i=>if keyBad ky i = true then (25:Int) else wk (dv i) (ar + 1)) j2 = 25:=by simp only [hkb]; simp
                  exact HX2.out.trans ((fstE_stop hlt hz.out (fun hc=>absurd (hf.symm.trans hc) (by omega))).trans hf)
                clear hz HX2 c3
                cases j2 with
                | zero =>
                  clear hpk
                  rw [show o + 0 * 6 = o by omega] at g0
                  rw [show o + 0 * 6 + 1 = o + 1 by omega] at g1
                  rw [show o + 0 * 6 + 1 + 1 = o + 2 by omega] at g2
                  rw [show o + 0 * 6 + 1 + 2 = o + 3 by omega] at g3
                  rw [show o + 0 * 6 + 1 + 3 = o + 4 by omega] at g4
                  rw [show o + 0 * 6 + 1 + 4 = o + 5 by omega] at g5
                  have HG2:=HG.out _ rfl rfl
                  have HG3:Hid _:=HG2
                  clear HF HG HG2
                  go_wp2
                  go_quiet (fail)
                  go_wp2_with fail
                  refine (HV.out.1 _ _ _ (ar + 1) (by omega) (by omega) HV.out.2.1 (Below.rv (below_drewN HB.out nq) (Nat.le_refl _) HV.out.2.2)).mono ?_
                  rintro e w2 ⟨rfl,hb2⟩
                  have hb3:Hid (Below w1.heap.size w1 w2):=hb9.out.trans ((HB.out.trans ((show Below wr.heap.size _ w2 from ⟨hb2.os,hb2.tape,hb2.output,hb2.size,fun q hq=>hb2.block q (Nat.lt_of_lt_of_le hq HB.out.size)⟩))).mono hb9.out.size)
                  clear HV HB hb2 g0 g1 g2 g3 g4 g5 c4 c4'
                  generalize wk (dv 0) (ar + 1) = q at *
                  by_cases he:q = 0
                  · have HG4:Hid _:=HG3.out.1 he
                    clear HG3
                    subst he
                    go_wp2
                    go_roundw
                    case rel=>exact ⟨1,by omega,by go_num,hb3,HG4.out⟩
                    case measure=>simp [intOf]; omega
                  · have hR:=HG3.out.2 he
                    clear HG3
                    subst hR
                    go_wp2
                    go_ret
                    exact ⟨rfl,hw1.out.trans (hb3.out.mono hw1.out.size)⟩
                | succ p =>
                  have hk1:=hpk p (by omega)
                  have hk1':=fun ob=>cell_alloc_old (o:=ob) hk1
                  clear hpk
                  have p0:(0:Int) ≤ (p:Int):=by omega
                  have p1:(p:Int) < (dn:Int):=by omega
                  by_cases hkb:keyBad ky (p + 1) = true
                  · have hR:R = 25:=HF.out hkb
                    have hkb':Op.bytesLess (ky (p + 1)).toList (ky p).toList = true ∨ ((ky (p + 1)).toList == (ky p).toList) = true:=by simpa [keyBad] using hkb
                    clear HF HG HV hkb
                    subst hR
                    rcases hkb' with hkb' | hkb'
                    all_goals
                      go_wp2
                      go_quiet (fail)
                      go_wp2
                      go_ret
                      exact ⟨rfl,hw.out.trans ((show Below w.heap.size wr _ from ⟨rfl,rfl,rfl,HB.out.size,fun q hq=>HB.out.block q (Nat.lt_of_lt_of_le hq hw.out.size)⟩))⟩
                  · have hkb2:Op.bytesLess (ky (p + 1)).toList (ky p).toList = false∧((ky (p + 1)).toList == (ky p).toList) = false:=by simpa [keyBad] using hkb
                    obtain ⟨hkA,hkB⟩:=hkb2
                    have hkb3:keyBad ky (p + 1) = false:=by simpa using hkb
                    have HG2:=HG.out _ rfl hkb3
                    have HG3:Hid _:=HG2
                    clear HF HG HG2 hkb hkb3
                    go_wp2
                    go_quiet (fail)
                    go_wp2_with fail
                    refine (HV.out.1 _ _ _ (ar + 1) (by omega) (by omega) HV.out.2.1 (Below.rv (below_drewN HB.out nq) (Nat.le_refl _) HV.out.2.2)).mono ?_
                    rintro e w2 ⟨rfl,hb2⟩
                    have hb3:Hid (Below w1.heap.size w1 w2):=hb9.out.trans ((HB.out.trans ((show Below wr.heap.size _ w2 from ⟨hb2.os,hb2.tape,hb2.output,hb2.size,fun q hq=>hb2.block q (Nat.lt_of_lt_of_le hq HB.out.size)⟩))).mono hb9.out.size)
                    clear HV HB hb2 g0 g1 g2 g3 g4 g5 c4 c4' hk1 hk1' hkA hkB
                    generalize wk (dv (p + 1)) (ar + 1) = q at *
                    by_cases he:q = 0
                    · have HG4:Hid _:=HG3.out.1 he
                      clear HG3
                      subst he
                      go_wp2
                      go_roundw
                      case rel=>exact ⟨p + 1 + 1,by omega,by go_num,hb3,HG4.out⟩
                      case measure=>simp [intOf]; omega
                    · have hR:=HG3.out.2 he
                      clear HG3
                      subst hR
                      go_wp2
                      go_ret
                      exact ⟨rfl,hw1.out.trans (hb3.out.mono hw1.out.size)⟩
              · obtain rfl:j2 = dn:=by omega
                have hR:R = 0:=HX2.out.trans hz.out
                subst hR
                clear hz HX2
                go_wp2
                go_ret
                exact ⟨rfl,hw.out⟩
theorem bytes_tri:∀ x y:List UInt8,(!Op.bytesLess y x) = (Op.bytesLess x y || x == y)
  | [], []=>rfl
  | [],b :: y=>rfl
  | a :: x, []=>rfl
  | a :: x,b :: y=>by
    have ih:=bytes_tri x y
    simp only [Op.bytesLess]
    rcases Nat.lt_trichotomy a.toNat b.toNat with h | h | h
    · have h1:a < b:=UInt8.lt_iff_toNat_lt.2 h
      have h2:¬ b < a:=fun hc=>by have:=UInt8.lt_iff_toNat_lt.1 hc; omega
      have h3:¬ b = a:=fun hc=>by subst hc; omega
      simp [h1,h2,h3]
    · have h1:a = b:=UInt8.toNat_inj.1 h
      subst h1
      simp only [show ¬ (a < a) from fun hc=>by have:=UInt8.lt_iff_toNat_lt.1 hc; omega,decide_false,Bool.false_or,beq_self_eq_true,Bool.true_and,ih]
      simp
    · have h1:b < a:=UInt8.lt_iff_toNat_lt.2 h
      have h2:¬ a < b:=fun hc=>by have:=UInt8.lt_iff_toNat_lt.1 hc; omega
      have h3:¬ a = b:=fun hc=>by subst hc; omega
      simp [h1,h2,h3]
def cv (t:T) (x y:Value):List Value:=[.int .i64 t.k,.int .i64 t.n,.string t.s,x,y]
def upd (X:Nat → Value) (j:Nat) (x:Value):Nat → Value:=fun i=>if i = j then x else X i
theorem upd_lt {X:Nat → Value} {j i:Nat} {x:Value} (h:i < j):upd X j x i = X i:=by unfold upd; rw [if_neg (by omega)]
theorem upd_eq {X:Nat → Value} {j:Nat} {x:Value}:upd X j x j = x:=by unfold upd; rw [if_pos rfl]
def obj (w:World) (b:Nat) (c0 c1 c2 c3 c4:Value):Prop:=w.heap[b]? = some (.cells #[c0,c1,c2,c3,c4] 55 (0,0))
theorem obj.cells {w:World} {b:Nat} {c0 c1 c2 c3 c4:Value} (h:obj w b c0 c1 c2 c3 c4) :
    w.cell? ⟨b,0,none⟩ = some c0∧w.cell? ⟨b,1,none⟩ = some c1∧w.cell? ⟨b,2,none⟩ = some c2∧w.cell? ⟨b,3,none⟩ = some c3∧w.cell? ⟨b,4,none⟩ = some c4:=by
  unfold obj at h
  refine ⟨?_,?_,?_,?_,?_⟩ <;> simp [World.cell?,h]
theorem obj.frozen {w:World} {b:Nat} {c0 c1 c2 c3 c4:Value} (h:obj w b c0 c1 c2 c3 c4) (i:Nat):w.frozen? ⟨b,i,none⟩ = false:=by
  unfold obj at h
  simp [World.frozen?,h]
theorem obj.set0 {w:World} {b:Nat} {c0 c1 c2 c3 c4:Value} (h:obj w b c0 c1 c2 c3 c4) (u:Value):obj (w.setCell ⟨b,0,none⟩ u) b u c1 c2 c3 c4:=by
  unfold obj at h ⊢
  simp [World.setCell,Array.getElem?_modify,h]
theorem obj.set1 {w:World} {b:Nat} {c0 c1 c2 c3 c4:Value} (h:obj w b c0 c1 c2 c3 c4) (u:Value):obj (w.setCell ⟨b,1,none⟩ u) b c0 u c2 c3 c4:=by
  unfold obj at h ⊢
  simp [World.setCell,Array.getElem?_modify,h]
theorem obj.set2 {w:World} {b:Nat} {c0 c1 c2 c3 c4:Value} (h:obj w b c0 c1 c2 c3 c4) (u:Value):obj (w.setCell ⟨b,2,none⟩ u) b c0 c1 u c3 c4:=by
  unfold obj at h ⊢
  simp [World.setCell,Array.getElem?_modify,h]
theorem obj.set3 {w:World} {b:Nat} {c0 c1 c2 c3 c4:Value} (h:obj w b c0 c1 c2 c3 c4) (u:Value):obj (w.setCell ⟨b,3,none⟩ u) b c0 c1 c2 u c4:=by
  unfold obj at h ⊢
  simp [World.setCell,Array.getElem?_modify,h]
theorem obj.set4 {w:World} {b:Nat} {c0 c1 c2 c3 c4:Value} (h:obj w b c0 c1 c2 c3 c4) (u:Value):obj (w.setCell ⟨b,4,none⟩ u) b c0 c1 c2 c3 u:=by
  unfold obj at h ⊢
  simp [World.setCell,Array.getElem?_modify,h]
theorem obj.keep {w w':World} {b:Nat} {c0 c1 c2 c3 c4:Value} (h:obj w b c0 c1 c2 c3 c4) (hb:w'.heap[b]? = w.heap[b]?):obj w' b c0 c1 c2 c3 c4:=hb.trans h
theorem obj.lt {w:World} {b:Nat} {c0 c1 c2 c3 c4:Value} (h:obj w b c0 c1 c2 c3 c4):b < w.heap.size:=(Array.getElem?_eq_some_iff.1 h).1
theorem info25:(Tryz.prog.info? 55).map (fun i=>(i.zero,i.size,i.bytes)) = some (some (.agg #[.int .i64 0,.int .i64 0,.string ByteArray.empty,.slice none 0 0,.slice none 0 0]),5,80):=by kernel_rfl
theorem ownForm {w:World} {B:Nat} {e:TypeId} {sz:Nat} {v:Value} {n:Nat} {xs:List Value} (h:w.ownsRow B e sz v n xs):∃ a c,v = .slice a n c:=by
  rcases h.2 with ⟨rfl,rfl⟩ | ⟨g,cap,cur,rfl,_⟩
  · exact ⟨_,_,rfl⟩
  · exact ⟨_,_,rfl⟩
theorem heap_new (w:World) (o:Obj):(w.alloc o).heap[w.heap.size]? = some o:=by show (w.heap.push o)[w.heap.size]? = _; simp
theorem grown_cell {W w4:World} {row:Option Nat} {p:Addr} {v:Value} (hg:W.grownBy w4 row) (hc:W.cell? p = some v) (hne:some p.block ≠ row):w4.cell? p = some v:=
  (World.cell?_of_block (w:=W) (hg.block p.block (World.block_lt_of_cell? W p hc) hne)).trans hc
theorem grown_frozen {W w4:World} {row:Option Nat} {p:Addr} {v:Value} (hg:W.grownBy w4 row) (hc:W.cell? p = some v) (hf:W.frozen? p = false) (hne:some p.block ≠ row):w4.frozen? p = false:=
  (World.frozen?_of_block (w:=W) (hg.block p.block (World.block_lt_of_cell? W p hc) hne)).trans hf
theorem info42:(Tryz.prog.info? 67).map (fun i=>(i.zero,i.size,i.bytes)) = some (some (.agg #[.string ByteArray.empty,.int .i64 0,.int .i64 0,.string ByteArray.empty,.slice none 0 0,.slice none 0 0]),6,96):=by kernel_rfl
theorem info25s:(Tryz.prog.info? 55).map (·.size) = some 5:=by kernel_rfl
theorem besides5 (w:World) (b:Nat) (c0 c1 c2 c3 c4:Value):Besides b w (((((w.setCell ⟨b,0,none⟩ c0).setCell ⟨b,1,none⟩ c1).setCell ⟨b,2,none⟩ c2).setCell ⟨b,3,none⟩ c3).setCell ⟨b,4,none⟩ c4):=
  ((((Besides.setCell w ⟨b,0,none⟩ c0).trans (Besides.setCell _ ⟨b,1,none⟩ c1)).trans (Besides.setCell _ ⟨b,2,none⟩ c2)).trans (Besides.setCell _ ⟨b,3,none⟩ c3)).trans (Besides.setCell _ ⟨b,4,none⟩ c4)
theorem info55:(Tryz.prog.info? 87).map (fun i=>(i.zero,i.size,i.bytes)) = some (some .nilIface,1,16):=by kernel_rfl
theorem info57:(Tryz.prog.info? 130).map (fun i=>(i.zero,i.size,i.bytes)) = some (some (.agg #[.string ByteArray.empty,.nilIface]),2,32):=by kernel_rfl
def blk (w:World) (g:Nat) (ty:TypeId) (cs:Array Value):Prop:=w.heap[g]? = some (.cells cs ty (0,0))
theorem blk.cell {w:World} {g:Nat} {ty:TypeId} {cs:Array Value} (h:blk w g ty cs) (i:Nat):w.cell? ⟨g,i,none⟩ = cs[i]?:=by
  unfold blk at h
  simp [World.cell?,h]
theorem blk.frozen {w:World} {g:Nat} {ty:TypeId} {cs:Array Value} (h:blk w g ty cs) (i:Nat):w.frozen? ⟨g,i,none⟩ = false:=by
  unfold blk at h
  simp [World.frozen?,h]
theorem blk.set {w:World} {g:Nat} {ty:TypeId} {cs:Array Value} (h:blk w g ty cs) (i:Nat) (u:Value):blk (w.setCell ⟨g,i,none⟩ u) g ty (cs.setIfInBounds i u):=by
  unfold blk at h ⊢
  simp [World.setCell,Array.getElem?_modify,h]
theorem blk.keep {w w':World} {g:Nat} {ty:TypeId} {cs:Array Value} (h:blk w g ty cs) (hb:w'.heap[g]? = w.heap[g]?):blk w' g ty cs:=hb.trans h
theorem blk.lt {w:World} {g:Nat} {ty:TypeId} {cs:Array Value} (h:blk w g ty cs):g < w.heap.size:=(Array.getElem?_eq_some_iff.1 h).1
def RN (S:Nat → Prop) (w:World):T → Value → Prop
  | .no=>fun _=>False
  | .mk k n s ln l dn ky dv=>fun v =>
    (k = 1∧v = .iface 101 (.int .i64 n)) ∨ (k = 2∧v = .iface 102 (.string s)) ∨
    (k = 3∧∃ b c,v = .iface 104 (.slice (some ⟨b,0,none⟩) ln c)∧S b∧b < w.heap.size∧∀ i,i < ln → ∃ u,w.cell? ⟨b,i,none⟩ = some u∧RN S w (l i) u) ∨
    (k = 4∧∃ b c,v = .iface 107 (.slice (some ⟨b,0,none⟩) dn c)∧S b∧b < w.heap.size∧∀ i,i < dn → ∃ u,w.cell? ⟨b,i * 2,none⟩ = some (.string (ky i))∧w.cell? ⟨b,i * 2 + 1,none⟩ = some u∧RN S w (dv i) u)
theorem RN.move {S S':Nat → Prop} {w w':World} (hS:∀ b,S b → b < w.heap.size → S' b) (hs:w.heap.size ≤ w'.heap.size) (hb:∀ b,S b → b < w.heap.size → w'.heap[b]? = w.heap[b]?) :
    ∀ (t:T) (v:Value),RN S w t v → RN S' w' t v:=by
  intro t
  induction t with
  | no=>intro v h; exact h
  | mk k n s ln l dn ky dv il id =>
    rintro v (h | h | ⟨hk,b,c,rfl,h1,h2,h3⟩ | ⟨hk,b,c,rfl,h1,h2,h3⟩)
    · exact .inl h
    · exact .inr (.inl h)
    · refine .inr (.inr (.inl ⟨hk,b,c,rfl,hS b h1 h2,Nat.lt_of_lt_of_le h2 hs,fun i hi=>?_⟩))
      obtain ⟨u,g1,g2⟩:=h3 i hi
      exact ⟨u,(World.cell?_of_block (w:=w) (hb b h1 h2)).trans g1,il i _ g2⟩
    · refine .inr (.inr (.inr ⟨hk,b,c,rfl,hS b h1 h2,Nat.lt_of_lt_of_le h2 hs,fun i hi=>?_⟩))
      obtain ⟨u,g0,g1,g2⟩:=h3 i hi
      exact ⟨u,(World.cell?_of_block (w:=w) (hb b h1 h2)).trans g0,(World.cell?_of_block (w:=w) (hb b h1 h2)).trans g1,id i _ g2⟩
theorem RN.iface {S:Nat → Prop} {w:World} {t:T} {v:Value} (h:RN S w t v):∃ ty u,v = .iface ty u:=by
  cases t with
  | no=>exact h.elim
  | mk k n s ln l dn ky dv =>
    rcases h with ⟨_,rfl⟩ | ⟨_,rfl⟩ | ⟨_,b,c,rfl,_⟩ | ⟨_,b,c,rfl,_⟩ <;> exact ⟨_,_,rfl⟩
def VT:T → Prop
  | .no=>True
  | .mk k n s ln l dn ky dv=>ownB k n s ln dn = true∧(∀ i,i < ln → VT (l i))∧(∀ i,i < dn → keyBad ky i = false∧VT (dv i))
theorem fstE_zero {f:Nat → Int} {n:Nat} (h:fstE f n = 0):∀ i,i < n → f i = 0:=by
  induction n with
  | zero=>intro i hi; omega
  | succ n ih =>
    unfold fstE at h
    by_cases h0:fstE f n = 0
    · rw [if_pos h0] at h
      intro i hi
      by_cases e:i = n
      · subst e; exact h
      · exact ih h0 i (by omega)
    · rw [if_neg h0] at h; exact absurd h h0
theorem vt_of_wk:∀ (t:T) (ar:Int),wk t ar = 0 → VT t:=by
  intro t
  induction t with
  | no=>intro _ _; trivial
  | mk k n s ln l dn ky dv il id =>
    intro ar h
    rw [wk] at h
    dsimp only at h
    by_cases h1:ownB k n s ln dn = false
    · rw [if_pos h1] at h; omega
    rw [if_neg h1] at h
    have ho:ownB k n s ln dn = true:=by simpa using h1
    refine ⟨ho,?_⟩
    obtain ⟨k1,k4,o1,o2,o3,o4⟩:=(ownB_iff _ _ _ _ _).1 ho
    by_cases h2:k < 3
    · have e1:ln = 0:=by omega
      have e2:dn = 0:=by omega
      exact ⟨fun i hi=>by omega,fun i hi=>by omega⟩
    rw [if_neg h2] at h
    by_cases h3:32 ≤ ar
    · rw [if_pos h3] at h; omega
    rw [if_neg h3] at h
    by_cases h4:fstE (fun i=>wk (l i) (ar + 1)) ln ≠ 0
    · rw [if_pos h4] at h; exact absurd h h4
    rw [if_neg h4] at h
    have h4':fstE (fun i=>wk (l i) (ar + 1)) ln = 0:=by simpa using h4
    refine ⟨fun i hi=>il i (ar + 1) (fstE_zero h4' i hi),fun i hi=>?_⟩
    have h5:=fstE_zero h i hi
    by_cases h6:keyBad ky i = true
    · simp only [h6] at h5; simp at h5
    · have h6':keyBad ky i = false:=by simpa using h6
      simp only [h6'] at h5
      exact ⟨h6',id i (ar + 1) (by simpa using h5)⟩
def NB (w:World) (b:Nat):Prop:=∀ c fz,w.heap[b]? ≠ some (.cells c 5 fz)
def NB5 (H:Nat) (w:World):Prop:=∀ b,H ≤ b → NB w b
theorem NB5.alloc {H:Nat} {w:World} (h:NB5 H w) (o:Obj) (ho:∀ c fz,o ≠ .cells c 5 fz):NB5 H (w.alloc o):=fun b hb c fz hc=>by
  by_cases e:b < w.heap.size
  · rw [Below.heap_alloc _ _ _ e] at hc; exact h b hb c fz hc
  · by_cases e2:b = w.heap.size
    · subst e2; rw [heap_new] at hc; exact ho c fz (Option.some.inj hc)
    · rw [Array.getElem?_eq_none (by simp; omega)] at hc; cases hc
theorem NB5.self (w:World):NB5 w.heap.size w:=fun b hb c fz hc=>by
  rw [Array.getElem?_eq_none hb] at hc; cases hc
theorem NB5.next {H:Nat} {w w':World} (h:NB5 H w) (hb:Below w.heap.size w w') (k:NB5 w.heap.size w'):NB5 H w':=fun b hH=>by
  by_cases e:b < w.heap.size
  · intro c fz hc; rw [hb.block b e] at hc; exact h b hH c fz hc
  · exact k b (by omega)
theorem NB5.set {H g i:Nat} {w:World} {ty:TypeId} {cs:Array Value} {v:Value} (h:NB5 H w) (hg:blk w g ty cs) (ht:ty ≠ 5):NB5 H (w.setCell ⟨g,i,none⟩ v):=fun b hH c fz hc=>by
  by_cases e:b = g
  · subst e
    have:=hg.set i v
    rw [this] at hc
    cases hc; exact ht rfl
  · rw [Below.heap_setCell _ _ _ _ e] at hc; exact h b hH c fz hc
def NC (t:T):Prop:=∀ (x y:Value) (w:World),t.ok → t.small → VT t → RV (fun _=>True) w t x y →
  Calls Tryz.prog 55 #[vv t x y] w fun e w'=>∃ u,e = .returned u∧RN (fun b=>w.heap.size ≤ b) w' t u∧Below w.heap.size w w'∧NB5 w.heap.size w'
def NInv (g:Nat) (w:World) (l:Nat → T) (ln j:Nat) (cs:Array Value):Prop:=blk w g 87 cs∧cs.size = ln∧∀ i,i < j → ∃ u,cs[i]? = some u∧RN (fun b=>g < b) w (l i) u
set_option maxHeartbeats 2000000 in
theorem listOf39 (ln:Nat) (l:Nat → T) (x:Value) (w:World) (ih:∀ i,NC (l i)) (hs:ln ≤ 2147483647) (ok4:∀ i,i < ln → (l i).ok∧(l i).small∧VT (l i)) (hL:RL (fun _=>True) w ln l x) :
    Calls Tryz.prog 68 #[x] w fun e w'=>∃ c,e = .returned (.slice (some ⟨w.heap.size,0,none⟩) ln c)∧(∀ i,i < ln → ∃ u,w'.cell? ⟨w.heap.size,i,none⟩ = some u∧RN (fun b=>w.heap.size ≤ b) w' (l i) u)∧w.heap.size < w'.heap.size∧Below w.heap.size w w'∧NB5 w.heap.size w':=by
  obtain ⟨a,ca,rfl,hL⟩:=hL
  obtain ⟨i0,hi,hz0,hz1,hz2⟩:=info_parts info55
  have hmk:∀ u:World,(Instr.makeSlice 104 (.int .i64 (ln:Int)) (.int .i64 (ln:Int))).run Tryz.prog u =
      .ok (.slice (some ⟨u.heap.size,0,none⟩) ln ln) (u.alloc (.cells (madeCells #[.nilIface] ln) 87)):=fun u=>by
    have h:=run_make (P:=Tryz.prog) u 104 87 i0 .nilIface Tryz.underlying104 hi hz0 .i64 .i64 ln ln (by omega) (by omega) (by rw [hz2]; omega) (by omega)
    simpa [hz1,Value.cells] using h
  have HI:Hid ((∀ i,NC (l i))∧(∀ i,i < ln → (l i).ok∧(l i).small∧VT (l i))∧(ln = 0 ∨ ∃ b o,a = some ⟨b,o,none⟩∧True∧b < w.heap.size∧∀ i,i < ln → ∃ x' y',RV (fun _=>True) w (l i) x' y'∧five w b (o + i * 5) (l i) x' y')):=⟨ih,ok4,hL⟩
  clear ih ok4 hL hi hz0 hz1 hz2
  go_enter Tryz.func68,Tryz.ntmps68
  go_wp2
  clear hmk
  have HB0:Hid (Below w.heap.size w (w.alloc (.cells (madeCells #[.nilIface] ln) 87))∧NInv w.heap.size (w.alloc (.cells (madeCells #[.nilIface] ln) 87)) l ln 0 (madeCells #[.nilIface] ln)∧NB5 w.heap.size (w.alloc (.cells (madeCells #[.nilIface] ln) 87))):=
    ⟨(Below.refl _ _).alloc (Nat.le_refl _) _,⟨heap_new _ _,by rw [size_madeCells],fun i hi=>absurd hi (Nat.not_lt_zero _)⟩,(NB5.self w).alloc _ (fun c fz h=>by cases h)⟩
  generalize w.alloc (.cells (madeCells #[.nilIface] ln) 87) = w0 at *
  generalize hg:w.heap.size = g at *
  have HG:Hid (w.heap.size = g):=hg
  clear hg
  go_loopw [11] (fun i wr=>∃ (j:Nat) (cs:Array Value),j ≤ ln∧i = .int .i64 j∧Hid (Below g w wr∧NInv g wr l ln j cs∧NB5 g wr)) (fun i _=>ln - (intOf i).toNat)
  case atStart=>exact ⟨0,_,Nat.zero_le _,rfl,HB0⟩
  case round =>
    obtain ⟨j,cs,hj,rfl,hinv⟩:=hrel
    by_cases hlt:j < ln
    · obtain ⟨il,ok4,hL⟩:=HI.out
      rcases hL with h | ⟨b,o,rfl,_,hbl,hL⟩
      · omega
      obtain ⟨x1,y1,hv,g1,g2,g3,g4,g5⟩:=hL j hlt
      have hw:=hinv.out.1
      have hle:w.heap.size ≤ g:=Nat.le_of_eq HG.out
      replace g1:=Below.cellS hw hle g1
      replace g2:=Below.cellS hw hle g2
      replace g3:=Below.cellS hw hle g3
      replace g4:=Below.cellS hw hle g4
      replace g5:=Below.cellS hw hle g5
      obtain ⟨⟨xa,xn,xc,rfl⟩,⟨ya,yn,yc,rfl⟩⟩:=hv.slices
      have HA:Hid (Below wr.heap.size wr (wr.alloc (Obj.cells #[.int .i64 (l j).k,.int .i64 (l j).n,.string (l j).s,.slice xa xn xc,.slice ya yn yc] 55))):=(Below.refl _ _).alloc (Nat.le_refl _) _
      have HV:Hid (NC (l j)∧(l j).ok∧(l j).small∧VT (l j)∧RV (fun _=>True) wr (l j) (.slice xa xn xc) (.slice ya yn yc)):=⟨il j,(ok4 j hlt).1,(ok4 j hlt).2.1,(ok4 j hlt).2.2,Below.rv hw hle hv⟩
      clear il ok4 hL hv hbl hw hle
      go_wp2_with fail
      refine (HV.out.1 _ _ _ HV.out.2.1 HV.out.2.2.1 HV.out.2.2.2.1 (Below.rv HA.out (Nat.le_refl _) HV.out.2.2.2.2)).mono ?_
      rintro e w2 ⟨u,rfl,hrn,hb2,hn2⟩
      obtain ⟨ty,uu,rfl⟩:=hrn.iface
      obtain ⟨hbw,⟨hblk,hsz,hel⟩,hnb⟩:=hinv.out
      have hn3:=(hnb.alloc (Obj.cells #[.int .i64 (l j).k,.int .i64 (l j).n,.string (l j).s,.slice xa xn xc,.slice ya yn yc] 55) (fun c fz h=>by cases h)).next hb2 hn2
      have hb3:Below wr.heap.size wr w2:=HA.out.trans (hb2.mono HA.out.size)
      have hblk2:=hblk.keep (hb3.block _ hblk.lt)
      have cj:∃ z,w2.cell? ⟨g,j,none⟩ = some z:=⟨cs[j],by rw [hblk2.cell]; exact Array.getElem?_eq_getElem (by omega)⟩
      obtain ⟨z,cj⟩:=cj
      have fj:=hblk2.frozen j
      have HN:Hid (Below g w (w2.setCell ⟨g,j,none⟩ (.iface ty uu))∧NInv g (w2.setCell ⟨g,j,none⟩ (.iface ty uu)) l ln (j + 1) (cs.setIfInBounds j (.iface ty uu))∧NB5 g (w2.setCell ⟨g,j,none⟩ (.iface ty uu))):=by
        have hglt:=hblk.lt
        refine ⟨(hbw.trans (hb3.mono (by omega))).setCell (Nat.le_refl _) _,⟨hblk2.set j _,by simp [hsz],fun i hi=>?_⟩,hn3.set hblk2 (by decide)⟩
        rcases Nat.lt_succ_iff_lt_or_eq.1 hi with h | rfl
        · obtain ⟨u,q1,q2⟩:=hel i h
          refine ⟨u,by rw [Array.getElem?_setIfInBounds_ne (by omega)]; exact q1,RN.move (fun b hb _=>hb) (by have:=hb3.size; simp [World.setCell]; omega) (fun b hb hl=>?_) _ _ q2⟩
          rw [Below.heap_setCell _ _ _ _ (show b ≠ g by omega),hb3.block b hl]
        · refine ⟨_,Array.getElem?_setIfInBounds_self_of_lt (by omega),RN.move (fun b hb _=>?_) (by simp [World.setCell]) (fun b hb hl=>Below.heap_setCell _ _ _ _ ?_) _ _ hrn⟩
          · have:=HA.out.size; omega
          · have:=HA.out.size; show b ≠ g; omega
      clear hinv HV HA hrn hb2 hn2 hn3 hnb hb3 hblk hblk2 hel hbw hsz g1 g2 g3 g4 g5
      go_wp2
      go_roundw
      case rel=>exact ⟨j + 1,_,by omega,by go_num,HN⟩
      case measure=>simp [intOf]; omega
    · obtain rfl:j = ln:=by omega
      go_wp2
      go_ret
      obtain ⟨hbw,⟨hblk,hsz,hel⟩,hnb⟩:=hinv.out
      refine ⟨j,by rw [HG.out]; rfl,fun i hi=>?_,HG.out ▸ hblk.lt,HG.out ▸ hbw,HG.out ▸ hnb⟩
      obtain ⟨u,q1,q2⟩:=hel i hi
      exact ⟨u,by rw [HG.out,hblk.cell]; exact q1,RN.move (fun b hb _=>by have:=HG.out; omega) (Nat.le_refl _) (fun _ _ _=>rfl) _ _ q2⟩
inductive Pc (α:Type) where
  | ok (a:α) (j:Nat)
  | bad (p:Nat) (e:Int)
def byt (b:List UInt8) (i:Nat):UInt8:=b.getD i 0
def dig (c:UInt8):Bool:=48 ≤ c && c ≤ 57
def run (b:List UInt8) (i:Nat):Nat:=((b.drop i).takeWhile dig).length
def cut (b:List UInt8) (i j:Nat):List UInt8:=(b.drop i).take (j - i)
def digs (b:List UInt8) (en:UInt8) (i:Nat):Pc (List UInt8):=
  if b.length ≤ i + run b i then .bad b.length 21
  else if run b i = 0 ∨ byt b (i + run b i) ≠ en then .bad (i + run b i) 22
  else .ok (cut b i (i + run b i)) (i + run b i + 1)
def padd (l:List UInt8):Bool:=decide (1 < l.length) && byt l 0 == 48
def strg (b:List UInt8) (i:Nat):Pc ByteArray:=
  match digs b 58 i with
  | .bad p e=>.bad p e
  | .ok d j=>if padd d = true then .bad i 23 else
    match Lib.atoiAll d with
    | .ok n=>if (b.length:Int) - j < n then .bad b.length 21 else .ok ⟨(cut b j (j + n.toNat)).toArray⟩ (j + n.toNat)
    | _=>.bad b.length 21
def numb (b:List UInt8) (i:Nat):Pc Int:=
  if b.length ≤ i + 1 then .bad b.length 21 else
  let sg:List UInt8:=if byt b (i + 1) = 45 then [45] else []
  match digs b 101 (i + 1 + sg.length) with
  | .bad p e=>.bad p e
  | .ok d j=>match Lib.atoiAll (sg ++ d) with
    | .ok n=>if padd d = true ∨ sg ++ d = [45,48] then .bad i 23 else .ok n j
    | _=>.bad i 23
structure Fr where
  d:Bool
  ls:List T:=[]
  ps:List (ByteArray × T):=[]
  key:ByteArray:=ByteArray.empty
  has:Bool:=false
def tNum (n:Int):T:=.mk 1 n ByteArray.empty 0 (fun _=>.no) 0 (fun _=>ByteArray.empty) (fun _=>.no)
def tStr (s:ByteArray):T:=.mk 2 0 s 0 (fun _=>.no) 0 (fun _=>ByteArray.empty) (fun _=>.no)
def tList (l:List T):T:=.mk 3 0 ByteArray.empty l.length (fun i=>l.getD i .no) 0 (fun _=>ByteArray.empty) (fun _=>.no)
def tDict (l:List (ByteArray × T)):T:=.mk 4 0 ByteArray.empty 0 (fun _=>.no) l.length (fun i=>(l.getD i (ByteArray.empty,.no)).1) (fun i=>(l.getD i (ByteArray.empty,.no)).2)
def Fr.close (f:Fr):T:=if f.d = true then tDict f.ps else tList f.ls
def Fr.join (f:Fr) (t:T):Fr:=if f.d = true then { d:=true,ps:=f.ps ++ [(f.key,t)] } else { d:=false,ls:=f.ls ++ [t] }
inductive Out where
  | go (st:List Fr) (i:Nat)
  | val (t:T) (i:Nat)
  | bad (p:Nat) (e:Int)
def deliver:List Fr → T → Nat → Out
  | [],t,i=>.val t i
  | f :: r,t,i=>.go (f.join t :: r) i
def scal (b:List UInt8) (st:List Fr) (i:Nat):Out:=
  if byt b i = 105 then (match numb b i with | .bad p e=>.bad p e | .ok n j=>deliver st (tNum n) j)
  else if dig (byt b i) = true then (match strg b i with | .bad p e=>.bad p e | .ok s j=>deliver st (tStr s) j)
  else .bad i 22
def opn (b:List UInt8) (st:List Fr) (i:Nat):Out:=
  if byt b i = 108 then (if 32 ≤ st.length then .bad i 24 else .go ({ d:=false } :: st) (i + 1))
  else if byt b i = 100 then (if 32 ≤ st.length then .bad i 24 else .go ({ d:=true } :: st) (i + 1))
  else scal b st i
def leB (s p:ByteArray):Bool:=Op.bytesLess s.toList p.toList || s.toList == p.toList
def keyy (b:List UInt8) (f:Fr) (r:List Fr) (i:Nat):Out:=
  if dig (byt b i) = false then .bad i 22 else
  match strg b i with
  | .bad p e=>.bad p e
  | .ok s j=>if f.ps ≠ []∧leB s (f.ps.getLastD (ByteArray.empty,.no)).1 = true then .bad i 25 else .go ({ f with key:=s,has:=true } :: r) j
def step (b:List UInt8) (st:List Fr) (i:Nat):Out:=
  if b.length ≤ i then .bad b.length 21 else
  match st with
  | []=>opn b [] i
  | f :: r =>
    if f.d = true∧f.has = false then (if byt b i = 101 then deliver r f.close (i + 1) else keyy b f r i)
    else if f.d = false∧byt b i = 101 then deliver r f.close (i + 1)
    else opn b (f :: r) i
inductive Run (b:List UInt8):Out → Out → Prop where
  | refl (o:Out):Run b o o
  | more {st:List Fr} {i:Nat} {o:Out}:Run b (step b st i) o → Run b (.go st i) o
theorem Run.trans {b:List UInt8} {o p q:Out} (h:Run b o p) (k:Run b p q):Run b o q:=by
  induction h with
  | refl=>exact k
  | more _ ih=>exact .more (ih k)
theorem Run.one {b:List UInt8} {st:List Fr} {i:Nat} {o:Out} (h:step b st i = o):Run b (.go st i) o:=.more (h ▸ .refl _)
def Out.fin:Out → Prop
  | .go _ _=>False
  | _=>True
theorem Run.unique {b:List UInt8} {o p q:Out} (h:Run b o p) (k:Run b o q) (hp:p.fin) (hq:q.fin):p = q:=by
  induction h with
  | refl o=>cases k with
    | refl=>rfl
    | more _=>exact hp.elim
  | more h ih=>cases k with
    | refl=>exact hq.elim
    | more k=>exact ih k hp
theorem byt_drop (b:List UInt8) (i k:Nat):byt b (i + k) = byt (b.drop i) k:=by
  simp [byt,List.getD,List.getElem?_drop]
theorem takeWhile_dig (l:List UInt8):∀ k,k < (l.takeWhile dig).length → k < l.length∧dig (byt l k) = true:=by
  induction l with
  | nil=>intro k hk; simp at hk
  | cons x l ih =>
    intro k hk
    by_cases hx:dig x = true
    · rw [List.takeWhile_cons_of_pos hx] at hk
      cases k with
      | zero=>exact ⟨by simp,by simpa [byt] using hx⟩
      | succ k =>
        obtain ⟨h1,h2⟩:=ih k (by simpa using hk)
        exact ⟨by simpa using h1,by simpa [byt] using h2⟩
    · rw [List.takeWhile_cons_of_neg hx] at hk; simp at hk
theorem takeWhile_end (l:List UInt8):(l.takeWhile dig).length < l.length → dig (byt l (l.takeWhile dig).length) = false:=by
  induction l with
  | nil=>intro h; simp at h
  | cons x l ih =>
    intro h
    by_cases hx:dig x = true
    · rw [List.takeWhile_cons_of_pos hx] at h ⊢
      have:=ih (by simpa using h)
      simpa [byt] using this
    · rw [List.takeWhile_cons_of_neg hx]
      simpa [byt] using hx
theorem takeWhile_le (l:List UInt8):(l.takeWhile dig).length ≤ l.length:=by
  induction l with
  | nil=>simp
  | cons x l ih =>
    by_cases hx:dig x = true
    · rw [List.takeWhile_cons_of_pos hx]; simpa using ih
    · rw [List.takeWhile_cons_of_neg hx]; simp
theorem run_lt {b:List UInt8} {i k:Nat} (h:k < run b i):i + k < b.length∧dig (byt b (i + k)) = true:=by
  obtain ⟨h1,h2⟩:=takeWhile_dig (b.drop i) k h
  rw [← byt_drop] at h2
  exact ⟨by rw [List.length_drop] at h1; omega,h2⟩
theorem run_end {b:List UInt8} {i:Nat} (h:i + run b i < b.length):dig (byt b (i + run b i)) = false:=by
  rw [byt_drop]
  exact takeWhile_end (b.drop i) (by rw [List.length_drop]; unfold run at h; omega)
theorem run_le {b:List UInt8} {i:Nat} (h:i ≤ b.length):i + run b i ≤ b.length:=by
  have:=takeWhile_le (b.drop i)
  rw [List.length_drop] at this
  unfold run; omega
theorem cut_length {b:List UInt8} {i j:Nat} (h:j ≤ b.length):(cut b i j).length = j - i:=by
  unfold cut; rw [List.length_take,List.length_drop]; omega
theorem byt_cut {b:List UInt8} {i j k:Nat} (h:k < j - i):byt (cut b i j) k = byt b (i + k):=by
  simp [byt,cut,List.getD,h,List.getElem?_drop]
def pnc (p e:Int):Ending:=.panicked [{ v:=.iface 120 (.agg #[.int .i64 p,.int .i64 e]),recovered:=false }]
def TXn (rb:Nat) (w:World) (a:Option Addr) (c:Nat) (b:List UInt8):Prop:=
  b.length ≤ c∧b.length ≤ 1048576∧(b = [] ∨ ∃ g o,a = some ⟨g,o,none⟩∧g ≠ rb∧g < w.heap.size∧∀ i,i < b.length → w.cell? ⟨g,o + i,none⟩ = some (.int .u8 ((byt b i).toNat:Int)))
def EVn (rb:Nat) (w:World):Prop:=3 ≠ rb∧4 ≠ rb∧(∃ t p,w.cell? ⟨3,0,none⟩ = some (.iface t p))∧∃ t p,w.cell? ⟨4,0,none⟩ = some (.iface t p)
def RR (rb:Nat) (w:World) (a:Option Addr) (c:Nat) (b:List UInt8) (i:Nat):Prop:=(blk w rb 123 #[.slice a b.length c,.int .i64 i]∧EVn rb w)∧i ≤ b.length∧TXn rb w a c b
theorem EVn.keep {rb:Nat} {w w':World} (h:EVn rb w) (hb:Besides rb w w'):EVn rb w':=by
  obtain ⟨h1,h2,⟨t,p,h3⟩,⟨t',p',h4⟩⟩:=h
  exact ⟨h1,h2,⟨t,p,hb.cell h1 h3⟩,⟨t',p',hb.cell h2 h4⟩⟩
theorem TXn.keep {rb:Nat} {w w':World} {a:Option Addr} {c:Nat} {b:List UInt8} (h:TXn rb w a c b) (hb:Besides rb w w'):TXn rb w' a c b:=by
  refine ⟨h.1,h.2.1,?_⟩
  rcases h.2.2 with h | ⟨g,o,h1,h2,h3,h4⟩
  · exact .inl h
  · exact .inr ⟨g,o,h1,h2,Nat.lt_of_lt_of_le h3 hb.size,fun i hi=>(World.cell?_of_block (w:=w) (hb.block g h3 h2)).trans (h4 i hi)⟩
theorem RR.heap {rb:Nat} {w w':World} {a:Option Addr} {c:Nat} {b:List UInt8} {i:Nat} (h:RR rb w a c b i) (hb:Below w.heap.size w w'):RR rb w' a c b i:=
  ⟨⟨h.1.1.keep (hb.block _ h.1.1.lt),h.1.2.keep ⟨hb.os,hb.tape,hb.output,hb.size,fun k hk _=>hb.block k hk⟩⟩,h.2.1,h.2.2.keep ⟨hb.os,hb.tape,hb.output,hb.size,fun k hk _=>hb.block k hk⟩⟩
theorem Besides.of_below {rb:Nat} {w w':World} (hb:Below w.heap.size w w'):Besides rb w w':=⟨hb.os,hb.tape,hb.output,hb.size,fun k hk _=>hb.block k hk⟩
theorem Besides.set1 {rb i:Nat} {v:Value} {w w':World} (h:Besides rb w w'):Besides rb w (w'.setCell ⟨rb,i,none⟩ v):=
  ⟨h.os,h.tape,h.output,by simpa [World.setCell] using h.size,fun k hk hn=>by rw [Below.heap_setCell _ _ _ _ hn]; exact h.block k hk hn⟩
theorem RR.set {rb:Nat} {w:World} {a:Option Addr} {c:Nat} {b:List UInt8} {i:Nat} (h:RR rb w a c b i) (j:Nat) (hj:j ≤ b.length):RR rb (w.setCell ⟨rb,1,none⟩ (.int .i64 j)) a c b j:=
  ⟨⟨h.1.1.set 1 _,h.1.2.keep (Besides.refl rb w).set1⟩,hj,h.2.2.keep (Besides.refl rb w).set1⟩
theorem RR.cells {rb:Nat} {w:World} {a:Option Addr} {c:Nat} {b:List UInt8} {i:Nat} (h:RR rb w a c b i):w.cell? ⟨rb,0,none⟩ = some (.slice a b.length c)∧w.cell? ⟨rb,1,none⟩ = some (.int .i64 i)∧w.frozen? ⟨rb,1,none⟩ = false:=⟨h.1.1.cell 0,h.1.1.cell 1,h.1.1.frozen 1⟩
theorem RR.byte {rb:Nat} {w:World} {a:Option Addr} {c:Nat} {b:List UInt8} {i k:Nat} (h:RR rb w a c b i) (hk:k < b.length):∃ g o,a = some ⟨g,o,none⟩∧g ≠ rb∧w.cell? ⟨g,o + k,none⟩ = some (.int .u8 ((byt b k).toNat:Int)):=by
  rcases h.2.2.2.2 with rfl | ⟨g,o,h1,h2,_,h4⟩
  · simp at hk
  · exact ⟨g,o,h1,h2,h4 k hk⟩
def pcEnd {α:Type} (r:Pc α) (rb:Nat) (w w':World) (a:Option Addr) (c:Nat) (b:List UInt8) (val:α → Value) (e:Ending):Prop:=
  Besides rb w w'∧match r with
    | .ok x j=>e = .returned (val x)∧RR rb w' a c b j
    | .bad p er=>e = pnc p er
theorem pcEnd.ok {α:Type} {r:Pc α} {rb:Nat} {w w':World} {a:Option Addr} {c:Nat} {b:List UInt8} {val:α → Value} {x:α} {j:Nat} (h:r = .ok x j) (h1:Besides rb w w') (h2:RR rb w' a c b j):pcEnd r rb w w' a c b val (.returned (val x)):=by
  subst h; exact ⟨h1,rfl,h2⟩
theorem pcEnd.bad {α:Type} {r:Pc α} {rb:Nat} {w w':World} {a:Option Addr} {c:Nat} {b:List UInt8} {val:α → Value} {p:Nat} {er:Int} (h:r = .bad p er) (h1:Besides rb w w'):pcEnd r rb w w' a c b val (pnc p er):=by
  subst h; exact ⟨h1,rfl⟩
theorem pcEnd.cases {α:Type} {r:Pc α} {rb:Nat} {w w':World} {a:Option Addr} {c:Nat} {b:List UInt8} {val:α → Value} {e:Ending} (h:pcEnd r rb w w' a c b val e) :
    Besides rb w w'∧((∃ x j,r = .ok x j∧e = .returned (val x)∧RR rb w' a c b j) ∨ ∃ p er,r = .bad p er∧e = pnc p er):=by
  refine ⟨h.1,?_⟩
  have h2:=h.2
  cases r with
  | ok x j=>exact .inl ⟨x,j,rfl,h2⟩
  | bad p er=>exact .inr ⟨p,er,rfl,h2⟩
theorem digs_ok {b:List UInt8} {en:UInt8} {i j:Nat} {d:List UInt8} (h:digs b en i = .ok d j):d = cut b i (i + run b i)∧j = i + run b i + 1∧0 < run b i∧i + run b i < b.length∧byt b (i + run b i) = en:=by
  unfold digs at h
  split at h
  · cases h
  · split at h
    · cases h
    · rename_i h1 h2
      cases h
      refine ⟨rfl,rfl,?_,by omega,?_⟩
      · rcases Nat.eq_zero_or_pos (run b i) with h0 | h0
        · exact absurd (.inl h0) h2
        · exact h0
      · by_cases e:byt b (i + run b i) = en
        · exact e
        · exact absurd (.inr e) h2
theorem digs_len {b:List UInt8} {en:UInt8} {i j:Nat} {d:List UInt8} (h:digs b en i = .ok d j):d.length = run b i∧∀ k,k < d.length → dig (byt d k) = true:=by
  obtain ⟨rfl,_,h1,h2,_⟩:=digs_ok h
  have hl:(cut b i (i + run b i)).length = run b i:=by rw [cut_length (by omega)]; omega
  refine ⟨hl,fun k hk=>?_⟩
  rw [byt_cut (by omega)]
  exact (run_lt (by omega)).2
theorem dig_iff (c:UInt8):dig c = true ↔ 48 ≤ c.toNat∧c.toNat ≤ 57:=by
  unfold dig
  simp [UInt8.le_iff_toNat_le]
theorem atoi_nonneg {d:List UInt8} {v:Int} (hd:dig (byt d 0) = true) (h:Lib.atoiAll d = .ok v):0 ≤ v:=by
  cases d with
  | nil=>cases h
  | cons x l =>
    have hx:dig x = true:=hd
    rw [dig_iff] at hx
    unfold Lib.atoiAll at h
    dsimp only at h
    rw [if_neg (by omega)] at h
    split at h
    · cases h
    · cases h
    · rename_i u _
      have h45:¬ x.toNat = 45:=by omega
      simp only [h45,not_false_eq_true,true_and,false_and,if_false] at h
      split at h
      · cases h
      · cases h; omega
end Go.Proofs.YtdlnnnlmlaploabGreatDoor
