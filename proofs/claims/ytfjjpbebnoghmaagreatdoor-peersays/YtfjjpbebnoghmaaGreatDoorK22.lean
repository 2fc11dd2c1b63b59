import Derived.Test.YtfjjpbebnoghmaaGreatDoorK00
import Derived.Test.YtfjjpbebnoghmaaGreatDoorK15
import Derived.Laws.BitsAllLaws
import Derived.WalkKit
import Derived.BigQuiet
import Derived.Deep.QuietTactic
import Derived.WalkLawsBesides
import Derived.Lib.Hide
import Derived.Laws.OwnMore
import Derived.Below
import Derived.Lib.OwnKind
import Derived.Lib.AppendStr
import Derived.Laws.IdiomStrings
import Derived.Deep.RegionHeld3
import Derived.Deep.RegionLaw
import Derived.ProofKit
import Derived.OpenShut
import Derived.SizedLaws
import Derived.Carry
import Derived.ChangeSlices
import Derived.LaidMore
import Derived.Lay
import Derived.SevenTiedAt
import Derived.Stop.Joined
import Derived.Stop.LaidErr
import Derived.Lib.AppendIntMem
import Derived.Lib.LaidTab
namespace Go.Proofs.YtfjjpbebnoghmaaGreatDoor.Bs
open Go.RowKit
set_option maxRecDepth 100000 in
set_option maxHeartbeats 400000 in
theorem size29 (n:Nat) (hn:n≤65536) (w:World):Calls Tryz.prog 102 #[.int .i64 n] w fun e w'=>e = .returned (.int .i64 (((n + 7) / 8:Nat):Int))∧w = w':=by
  by_cases h:n % 8 = 0
  · go_enter Tryz.func102,Tryz.ntmps102
    go_wp2
    go_ret
    exact ⟨by go_num,rfl⟩
  · go_enter Tryz.func102,Tryz.ntmps102
    go_wp2
    go_ret
    exact ⟨by go_num,rfl⟩
set_option maxRecDepth 100000 in
set_option maxHeartbeats 400000 in
theorem weight30 (i:Nat) (hi:i≤9223372036854775807) (w:World):Calls Tryz.prog 62 #[.int .i64 i] w fun e w'=>e = .returned (.int .i64 (mk (i % 8):Int))∧w = w':=by
  go_enter Tryz.func62,Tryz.ntmps62
  go_wp2
  go_loop [3,4] (fun x t=>∃ k:Nat,k≤i % 8∧t = .int .i64 k∧x = .int .i64 (mk k:Int)) (fun _ t=>i % 8 - (intOf t).toNat)
  case atStart=>exact ⟨0,Nat.zero_le _,rfl,rfl⟩
  case round =>
    obtain ⟨k,hk,rfl,rfl⟩:=hrel
    by_cases hlt:k < i % 8
    · have e:(mk k:Int) / 2 = (mk (k + 1):Int):=by
        unfold mk
        have:7 - k = (7 - (k + 1)) + 1:=by omega
        rw [this,Nat.pow_succ]; omega
      have hp:=mk_pos k
      have hq:=mk_lt k
      generalize mk k = m at *
      go_wp2
      exact ⟨⟨k + 1,by omega,by go_num,by rw [← e]⟩,by simp [intOf]; omega⟩
    · obtain rfl:k = i % 8:=by omega
      go_wp2
      go_ret
      exact ⟨rfl,rfl⟩
set_option maxRecDepth 100000 in
set_option maxHeartbeats 1000000 in
theorem check11 (n:Int) (h0:-9223372036854775808≤n) (h1:n≤9223372036854775807) (v:Value) (l:List UInt8) (w:World) (hr:RB w v l) (hl:l.length≤140737488351232) :
    Calls Tryz.prog 80 #[.int .i64 n,v] w fun e w'=>e = .returned (.int .i64 (ck n l))∧∃ nq,w' = w.drewN nq:=by
  obtain ⟨a,c,rfl,hr⟩:=hr
  by_cases h:n < 0∨65536 < n
  · rw [ck_bits h]
    rcases h with h | h
    · go_enter Tryz.func80,Tryz.ntmps80
      go_wp2
      go_ret
      exact ⟨rfl,0,rfl⟩
    · go_enter Tryz.func80,Tryz.ntmps80
      go_wp2
      go_ret
      exact ⟨rfl,0,rfl⟩
  · obtain ⟨m,rfl⟩:=Int.eq_ofNat_of_zero_le (show 0≤n by omega)
    have hm:m≤65536:=by omega
    clear h h0 h1
    generalize hz:ck m l = z
    have HZ:Hid (ck m l = z):=hz
    clear hz
    by_cases hlen:l.length = (m + 7) / 8
    · by_cases h8:m % 8 = 0
      · have hz:z = 0:=HZ.out.symm.trans (ck_fine hm hlen fun k h1 h2=>absurd h1 (by omega))
        clear hr
        go_enter Tryz.func80,Tryz.ntmps80
        go_wp2_with (go_at_call 102; refine (size29 m hm _).mono ?_; rintro e w1 ⟨rfl,rfl⟩)
        go_ret
        exact ⟨by subst hz; rfl,0,rfl⟩
      · have hzl:=HZ.out.symm.trans (ck_last hm hlen h8)
        rcases hr with rfl | ⟨g,o,rfl,hg,hc⟩
        · simp at hlen; omega
        have hc1:=hc (l.length - 1) (by omega)
        clear hc
        have hmk:=mk_lt (m % 8)
        have hmp:=mk_pos (m % 8)
        have hx:=UInt8.toNat_lt (byt l (l.length - 1))
        rw [hlen] at hc1 hzl hx
        generalize (byt l ((m + 7) / 8 - 1)).toNat = x at hc1 hzl hx
        have hW:Hid (∀ w,Calls Tryz.prog 62 #[.int .i64 m] w fun e w'=>e = .returned (.int .i64 (mk (m % 8):Int))∧w = w'):=fun w=>weight30 m (by omega) w
        generalize mk (m % 8) = q at *
        clear HZ
        have hcast:(x:Int) % (2 * (q:Int)) = ((x % (2 * q):Nat):Int):=by simp
        by_cases hq:x % (2 * q) = 0
        · rw [if_pos hq] at hzl
          have hqi:((x:Int) % (2 * (q:Int)) != 0) = false:=by rw [hcast,hq]; rfl
          clear hcast hq
          go_enter Tryz.func80,Tryz.ntmps80
          go_wp2_with (first |(go_at_call 102; refine (size29 m hm _).mono ?_; rintro e w1 ⟨rfl,rfl⟩) |(go_at_call 62; refine (hW.out _).mono ?_; rintro e w1 ⟨rfl,rfl⟩))
          go_ret
          exact ⟨by subst hzl; rfl,0,rfl⟩
        · rw [if_neg hq] at hzl
          have hqi:((x:Int) % (2 * (q:Int)) != 0) = true:=by rw [hcast]; simp; omega
          clear hcast hq
          go_enter Tryz.func80,Tryz.ntmps80
          go_wp2_with (first |(go_at_call 102; refine (size29 m hm _).mono ?_; rintro e w1 ⟨rfl,rfl⟩) |(go_at_call 62; refine (hW.out _).mono ?_; rintro e w1 ⟨rfl,rfl⟩))
          go_ret
          exact ⟨by subst hzl; rfl,0,rfl⟩
    · have hz:z = 41:=HZ.out.symm.trans (ck_bytes hm hlen)
      have hl2:((l.length:Int) != (((m + 7) / 8:Nat):Int)) = true:=by simp; omega
      go_enter Tryz.func80,Tryz.ntmps80
      go_wp2_with (go_at_call 102; refine (size29 m hm _).mono ?_; rintro e w1 ⟨rfl,rfl⟩)
      go_ret
      exact ⟨by subst hz; rfl,0,rfl⟩
def lb (L:List Bool) (i:Nat):Bool:=L.getD i false
def RO (w:World) (v:Value) (L:List Bool):Prop:=
  ∃ a c,v = .slice a L.length c∧(L = []∨∃ g o,a = some ⟨g,o,none⟩∧g < w.heap.size∧∀ i,i < L.length→w.cell? ⟨g,o + i,none⟩ = some (.bool (lb L i)))
set_option maxRecDepth 100000 in
theorem add_on (c:UInt8) (j:Nat) (hj:j < 8) (h:c.toNat.testBit (7 - j) = false):IntKind.u8.wrap ((c.toNat:Int) + (mk j:Int)) = ((on c j).toNat:Int):=by
  have:=add_mk c j hj h
  rw [on_toNat, ← this.1]
  unfold IntKind.wrap
  simp [IntKind.signed,IntKind.bits]
  omega
set_option maxRecDepth 100000 in
theorem conv_mk (j:Nat):IntKind.u8.wrap (mk j:Int) = (mk j:Int):=by
  have:=mk_lt j
  unfold IntKind.wrap
  simp [IntKind.signed,IntKind.bits]
  omega
set_option maxRecDepth 100000 in
theorem wrap_nat (p:Nat) (h:p≤9223372036854775807):IntKind.i64.wrap (p:Int) = (p:Int):=by
  unfold IntKind.wrap
  simp [IntKind.signed,IntKind.bits]
  omega
set_option maxRecDepth 100000 in
theorem byt_snoc (l:List UInt8) (i:Nat):byt (l ++ [0]) i = byt l i:=by
  unfold byt
  simp only [List.getD_eq_getElem?_getD,List.getElem?_append]
  by_cases h:i < l.length
  · rw [if_pos h]
  · rw [if_neg h,List.getElem?_eq_none (l:=l) (by omega)]
    by_cases h2:i - l.length = 0
    · rw [h2]; simp
    · rw [List.getElem?_eq_none (by simp; omega)]
set_option maxRecDepth 100000 in
theorem bit_snoc (l:List UInt8) (i:Nat):bit (l ++ [0]) i = bit l i:=by unfold bit; rw [byt_snoc]
set_option maxRecDepth 100000 in
set_option maxHeartbeats 4000000 in
theorem pack31 (v:Value) (L:List Bool) (w:World) (hr:RO w v L) (hl:L.length≤1000000) :
    Calls Tryz.prog 38 #[v] w fun e w'=>∃ v' l,e = .returned v'∧OW w.heap.size w' v' l∧BF L.length (fun i=>lb L i) l∧Below w.heap.size w w':=by
  obtain ⟨va,vc,rfl,hr⟩:=hr
  generalize hN:L.length = N at *
  have HN:Hid (L.length = N):=hN
  clear hN
  have HR:Hid (L = []∨∃ g o,va = some (⟨g,o,none⟩:Addr)∧g < w.heap.size∧∀ i,i < N→w.cell? ⟨g,o + i,none⟩ = some (.bool (lb L i))):=hr
  clear hr
  go_enter Tryz.func38,Tryz.ntmps38
  go_wp2
  go_loopw [3,4] (fun b t wr=>∃ (k:Nat) (l:List UInt8) (a:Option Addr) (c:Nat),k≤N∧t = .int .i64 k∧b = .slice a ((k + 7) / 8) c∧OW w.heap.size wr b l∧l.length = (k + 7) / 8∧(∀ i,bit l i = (decide (i < k) && lb L i))∧Below w.heap.size w wr) (fun _ t _=>N - (intOf t).toNat)
  case atStart=>exact ⟨0, [],none,0,Nat.zero_le _,rfl,rfl,World.ownsRow_nil _ _ _ _,rfl,fun i=>by simp [bit,byt],Below.refl _ _⟩
  case round =>
    obtain ⟨k,l,a,c,hk,rfl,rfl,ho,hlen,hbit,hb⟩:=hrel
    by_cases hlt:k < N
    · rcases HR.out with hnil | ⟨g,o,rfl,hg,hc⟩
      · have:=HN.out; rw [hnil] at this; simp at this; omega
      by_cases hL:lb L k = true
      · have HL:Hid (lb L k = true):=hL
        clear hL
        by_cases h8:k % 8 = 0
        · have h8':((k:Int) % 8 == 0) = true:=by simp; omega
          have hB:=hb.size
          have HP:Hid (OW w.heap.size wr (.slice a ((k + 7) / 8) c) l∧l.length = (k + 7) / 8∧(∀ i,bit l i = (decide (i < k) && lb L i))∧Below w.heap.size w wr∧∀ i,i < N→w.cell? ⟨g,o + i,none⟩ = some (.bool (lb L i))):=⟨ho,hlen,hbit,hb,hc⟩
          clear hc HR HN hb hbit hlen ho
          go_wp2_with (at_builtin; refine append_byte rfl _ _ rfl rfl (HP.out.1.alloc _) wr.heap.size 0 rfl (by go_simp) (by simp; omega) (by rw [HP.out.2.1]; omega) ?_; (
            intro v' w1 hown' hb1
            obtain ⟨a2,c2,rfl⟩:=hown'.form
            have hb2:Below w.heap.size w w1:=(HP.out.2.2.2.1.alloc hB _).trans hb1
            have hlen2:(l ++ [0]).length = k / 8 + 1:=by rw [List.length_append,HP.out.2.1]; simp; omega
            have hbit2:∀ i,bit (l ++ [0]) i = (decide (i < k) && lb L i):=fun i=>(bit_snoc l i).trans (HP.out.2.2.1 i)
            have hck:w1.cell? ⟨g,o + k,none⟩ = some (.bool (lb L k)):=(hb2.cell (p:=⟨g,o + k,none⟩) hg).trans (HP.out.2.2.2.2 k hlt)
            rw [HL.out] at hck
            rw [hlen2] at hown' ⊢
            have ho2:=hown'
            clear hown' hb1 HP
            generalize l ++ [0] = l2 at *
            obtain ⟨g2,rfl,hg2,h1,h2⟩:=ho2.at (k / 8) (by omega)
            have hbf:bit l2 k = false:=by rw [hbit2]; simp
            have h4:=add_on (byt l2 (k / 8)) (k % 8) (Nat.mod_lt _ (by omega)) hbf
            have HS:Hid (∀ j,bit (l2.set (k / 8) (on (byt l2 (k / 8)) (k % 8))) j = (decide (j = k) || bit l2 j)):=fun j=>bit_set_on l2 k j (by omega)
            have HO:Hid (OW w.heap.size w1 (.slice (some ⟨g2,0,none⟩) (k / 8 + 1) c2) l2∧l2.length = k / 8 + 1∧(∀ i,bit l2 i = (decide (i < k) && lb L i))∧Below w.heap.size w w1):=⟨ho2,hlen2,hbit2,hb2⟩
            have HW:Hid (∀ w,Calls Tryz.prog 62 #[.int .i64 k] w fun e w'=>e = .returned (.int .i64 (mk (k % 8):Int))∧w = w'):=fun w=>weight30 k (by omega) w
            have hm1:=mk_lt (k % 8)
            have hc8:=conv_mk (k % 8)
            clear ho2 hlen2 hbit2 hb2 hbf
            generalize on (byt l2 (k / 8)) (k % 8) = y at *
            generalize (byt l2 (k / 8)) = x at *
            generalize mk (k % 8) = m at *
            generalize hp:k / 8 = p at *
            have hk8:(k:Int) / 8 = (p:Int):=by omega
            have HP8:Hid (k / 8 = p):=hp
            generalize hM:p + 1 = M at *
            have HM8:Hid (p + 1 = M):=hM
            have hk9:Int.tdiv (k:Int) 8 = (p:Int):=by rw [Int.tdiv_eq_ediv_of_nonneg (by omega)]; exact hk8
            have hk10:IntKind.i64.wrap (p:Int) = (p:Int):=wrap_nat p (by omega)
            have b1:(0:Int)≤(p:Int):=by omega
            have b2:(p:Int) < (M:Int):=by omega
            clear hp hM h8
          ))
          go_region_with (go_at_call 62; refine (HW.out _).mono ?_; rintro e w' ⟨rfl,rfl⟩)
          all_goals go_wp2
          all_goals
            refine ⟨⟨k + 1,l2.set p y,_,_,by omega,by go_num,by rw [show (k + 1 + 7) / 8 = M by have:=HP8.out; have:=HM8.out; omega],?_,?_,?_,?_⟩,by simp [intOf]; omega⟩
            · exact (HO.out.1.stored _ _).drew 1
            · rw [List.length_set,HO.out.2.1]; have:=HP8.out; have:=HM8.out; omega
            · intro i
              rw [HS.out,HO.out.2.2.1]
              by_cases hik:i = k
              · subst hik; simp [HL.out]
              · rw [decide_eq_false hik,Bool.false_or]
                congr 1
                exact decide_eq_decide.2 (by omega)
            · exact belowN (HO.out.2.2.2.setCell (p:=⟨g2,p,none⟩) hg2 _) 1
        · have h8':((k:Int) % 8 == 0) = false:=by simp; omega
          have hck:wr.cell? ⟨g,o + k,none⟩ = some (.bool (lb L k)):=(hb.cell (p:=⟨g,o + k,none⟩) hg).trans (hc k hlt)
          rw [HL.out] at hck
          have hd:(k + 7) / 8 = k / 8 + 1:=by omega
          rw [hd] at ho hlen
          have ho2:=ho
          have hlen2:=hlen
          have hbit2:=hbit
          have hb2:=hb
          clear hc HR HN hb hbit hlen ho
          rw [hd]
          generalize l = l2 at *
          generalize a = a2 at *
          generalize c = c2 at *
          clear hd
          obtain ⟨g2,rfl,hg2,h1,h2⟩:=ho2.at (k / 8) (by omega)
          have hbf:bit l2 k = false:=by rw [hbit2]; simp
          have h4:=add_on (byt l2 (k / 8)) (k % 8) (Nat.mod_lt _ (by omega)) hbf
          have HS:Hid (∀ j,bit (l2.set (k / 8) (on (byt l2 (k / 8)) (k % 8))) j = (decide (j = k) || bit l2 j)):=fun j=>bit_set_on l2 k j (by omega)
          have HO:Hid (OW w.heap.size wr (.slice (some ⟨g2,0,none⟩) (k / 8 + 1) c2) l2∧l2.length = k / 8 + 1∧(∀ i,bit l2 i = (decide (i < k) && lb L i))∧Below w.heap.size w wr):=⟨ho2,hlen2,hbit2,hb2⟩
          have HW:Hid (∀ w,Calls Tryz.prog 62 #[.int .i64 k] w fun e w'=>e = .returned (.int .i64 (mk (k % 8):Int))∧w = w'):=fun w=>weight30 k (by omega) w
          have hm1:=mk_lt (k % 8)
          have hc8:=conv_mk (k % 8)
          clear ho2 hlen2 hbit2 hb2 hbf
          generalize on (byt l2 (k / 8)) (k % 8) = y at *
          generalize (byt l2 (k / 8)) = x at *
          generalize mk (k % 8) = m at *
          generalize hp:k / 8 = p at *
          have hk8:(k:Int) / 8 = (p:Int):=by omega
          have HP8:Hid (k / 8 = p):=hp
          generalize hM:p + 1 = M at *
          have HM8:Hid (p + 1 = M):=hM
          have hk9:Int.tdiv (k:Int) 8 = (p:Int):=by rw [Int.tdiv_eq_ediv_of_nonneg (by omega)]; exact hk8
          have hk10:IntKind.i64.wrap (p:Int) = (p:Int):=wrap_nat p (by omega)
          have b1:(0:Int)≤(p:Int):=by omega
          have b2:(p:Int) < (M:Int):=by omega
          clear hp hM h8
          go_wp2
          go_region_with (go_at_call 62; refine (HW.out _).mono ?_; rintro e w' ⟨rfl,rfl⟩)
          all_goals go_wp2
          all_goals
            refine ⟨⟨k + 1,l2.set p y,_,_,by omega,by go_num,by rw [show (k + 1 + 7) / 8 = M by have:=HP8.out; have:=HM8.out; omega],?_,?_,?_,?_⟩,by simp [intOf]; omega⟩
            · exact (HO.out.1.stored _ _).drew 1
            · rw [List.length_set,HO.out.2.1]; have:=HP8.out; have:=HM8.out; omega
            · intro i
              rw [HS.out,HO.out.2.2.1]
              by_cases hik:i = k
              · subst hik; simp [HL.out]
              · rw [decide_eq_false hik,Bool.false_or]
                congr 1
                exact decide_eq_decide.2 (by omega)
            · exact belowN (HO.out.2.2.2.setCell (p:=⟨g2,p,none⟩) hg2 _) 1
      · have HL:Hid (lb L k = false):=(show lb L k = false by simpa using hL)
        clear hL
        by_cases h8:k % 8 = 0
        · have h8':((k:Int) % 8 == 0) = true:=by simp; omega
          have hB:=hb.size
          have HP:Hid (OW w.heap.size wr (.slice a ((k + 7) / 8) c) l∧l.length = (k + 7) / 8∧(∀ i,bit l i = (decide (i < k) && lb L i))∧Below w.heap.size w wr∧∀ i,i < N→w.cell? ⟨g,o + i,none⟩ = some (.bool (lb L i))):=⟨ho,hlen,hbit,hb,hc⟩
          clear hc HR HN hb hbit hlen ho
          go_wp2_with (at_builtin; refine append_byte rfl _ _ rfl rfl (HP.out.1.alloc _) wr.heap.size 0 rfl (by go_simp) (by simp; omega) (by rw [HP.out.2.1]; omega) ?_; (
            intro v' w1 hown' hb1
            obtain ⟨a2,c2,rfl⟩:=hown'.form
            have hb2:Below w.heap.size w w1:=(HP.out.2.2.2.1.alloc hB _).trans hb1
            have hlen2:(l ++ [0]).length = k / 8 + 1:=by rw [List.length_append,HP.out.2.1]; simp; omega
            have hbit2:∀ i,bit (l ++ [0]) i = (decide (i < k) && lb L i):=fun i=>(bit_snoc l i).trans (HP.out.2.2.1 i)
            have hck:w1.cell? ⟨g,o + k,none⟩ = some (.bool (lb L k)):=(hb2.cell (p:=⟨g,o + k,none⟩) hg).trans (HP.out.2.2.2.2 k hlt)
            rw [HL.out] at hck
            rw [hlen2] at hown' ⊢
            have ho2:=hown'
            clear hown' hb1 HP
            generalize l ++ [0] = l2 at *
            have HO:Hid (OW w.heap.size w1 (.slice a2 (k / 8 + 1) c2) l2∧l2.length = k / 8 + 1∧(∀ i,bit l2 i = (decide (i < k) && lb L i))∧Below w.heap.size w w1):=⟨ho2,hlen2,hbit2,hb2⟩
            clear ho2 hlen2 hbit2 hb2
          ))
          go_roundw
          case rel =>
            refine ⟨k + 1,l2,_,_,by omega,by go_num,by rw [show (k + 1 + 7) / 8 = k / 8 + 1 by omega],HO.out.1,by rw [HO.out.2.1]; omega,?_,HO.out.2.2.2⟩
            intro i
            rw [HO.out.2.2.1]
            by_cases hik:i = k
            · subst hik; simp [HL.out]
            · congr 1
              exact decide_eq_decide.2 (by omega)
          case measure=>simp [intOf]; omega
        · have h8':((k:Int) % 8 == 0) = false:=by simp; omega
          have hck:wr.cell? ⟨g,o + k,none⟩ = some (.bool (lb L k)):=(hb.cell (p:=⟨g,o + k,none⟩) hg).trans (hc k hlt)
          rw [HL.out] at hck
          have hd:(k + 7) / 8 = k / 8 + 1:=by omega
          rw [hd] at ho hlen
          have ho2:=ho
          have hlen2:=hlen
          have hbit2:=hbit
          have hb2:=hb
          clear hc HR HN hb hbit hlen ho
          rw [hd]
          generalize l = l2 at *
          generalize a = a2 at *
          generalize c = c2 at *
          clear hd
          have HO:Hid (OW w.heap.size wr (.slice a2 (k / 8 + 1) c2) l2∧l2.length = k / 8 + 1∧(∀ i,bit l2 i = (decide (i < k) && lb L i))∧Below w.heap.size w wr):=⟨ho2,hlen2,hbit2,hb2⟩
          clear ho2 hlen2 hbit2 hb2
          go_wp2
          go_roundw
          case rel =>
            refine ⟨k + 1,l2,_,_,by omega,by go_num,by rw [show (k + 1 + 7) / 8 = k / 8 + 1 by omega],HO.out.1,by rw [HO.out.2.1]; omega,?_,HO.out.2.2.2⟩
            intro i
            rw [HO.out.2.2.1]
            by_cases hik:i = k
            · subst hik; simp [HL.out]
            · congr 1
              exact decide_eq_decide.2 (by omega)
          case measure=>simp [intOf]; omega
    · obtain rfl:k = N:=by omega
      go_wp2
      go_ret
      exact ⟨_,l,rfl,ho,⟨hlen,hbit⟩,hb⟩
set_option maxRecDepth 100000 in
theorem info4:(Tryz.prog.info? 4).map (fun i=>(i.zero,i.size,i.bytes)) = some (some (.bool false),1,1):=by kernel_rfl
def OB (B:Nat) (w:World) (v:Value) (L:List Bool):Prop:=w.ownsRow B 4 1 v L.length (L.map Value.bool)
set_option maxRecDepth 100000 in
theorem OB.at {B:Nat} {w:World} {a:Option Addr} {n c:Nat} {L:List Bool} (h:OB B w (.slice a n c) L) (q:Nat) (hq:q < n) :
    ∃ g,a = some ⟨g,0,none⟩∧B≤g∧g < w.heap.size∧w.cell? ⟨g,q,none⟩ = some (.bool (lb L q))∧w.frozen? ⟨g,q,none⟩ = false:=by
  rcases h.2 with ⟨h1,h2⟩ | ⟨g,cap,cur,h1,h2,h3,_⟩
  · simp only [Value.slice.injEq] at h1; omega
  · simp only [Value.slice.injEq] at h1
    obtain ⟨rfl,rfl,rfl⟩:=h1
    refine ⟨g,rfl,h2,(Array.getElem?_eq_some_iff.1 h3).1,?_,World.ownsRow.frozenAt h q⟩
    have:=World.ownsRow.cellAt h q (by omega)
    rw [this]
    simp [lb,List.getElem?_eq_getElem hq]
set_option maxRecDepth 100000 in
theorem OB.len {B:Nat} {w:World} {a:Option Addr} {n c:Nat} {L:List Bool} (h:OB B w (.slice a n c) L):n = L.length:=by
  rcases h.2 with ⟨h1,h2⟩ | ⟨g,cap,cur,h1,h2,h3,_⟩
  · simp only [Value.slice.injEq] at h1; omega
  · simp only [Value.slice.injEq] at h1; exact h1.2.1
set_option maxRecDepth 100000 in
theorem OB.form {B:Nat} {w:World} {v:Value} {L:List Bool} (h:OB B w v L):∃ a c,v = .slice a L.length c:=by
  rcases h.2 with ⟨h1,h2⟩ | ⟨g,cap,cur,h1,h2,h3,_⟩
  · exact ⟨none,0,by rw [h1,h2]⟩
  · exact ⟨_,_,h1⟩
set_option maxRecDepth 100000 in
theorem OB.ro {B:Nat} {w:World} {v:Value} {L:List Bool} (h:OB B w v L):RO w v L:=by
  obtain ⟨a,c,rfl⟩:=h.form
  refine ⟨a,c,rfl,?_⟩
  by_cases hL:L = []
  · exact .inl hL
  · have h0:0 < L.length:=List.length_pos_iff.2 hL
    obtain ⟨g,rfl,_,hg,_⟩:=h.at 0 h0
    refine .inr ⟨g,0,rfl,hg,fun i hi=>?_⟩
    obtain ⟨g',e,_,_,hc,_⟩:=h.at i hi
    simp only [Option.some.injEq,Addr.mk.injEq,and_true] at e
    subst e
    rw [Nat.zero_add,hc]
set_option maxRecDepth 100000 in
theorem OB.grow {B:Nat} {w w':World} {v:Value} {L:List Bool} (h:OB B w v L) (hb:Below w.heap.size w w'):OB B w' v L:=by
  refine ⟨h.1,?_⟩
  rcases h.2 with h1 | ⟨g,cap,cur,h1,h2,h3,h4⟩
  · exact .inl h1
  · exact .inr ⟨g,cap,cur,h1,h2,(hb.block g (Array.getElem?_eq_some_iff.1 h3).1).trans h3,h4⟩
set_option maxRecDepth 100000 in
theorem OB.alloc {B:Nat} {w:World} {v:Value} {L:List Bool} (h:OB B w v L) (o:Obj):OB B (w.alloc o) v L:=h.grow ((Below.refl _ _).alloc (Nat.le_refl _) _)
set_option maxRecDepth 100000 in
theorem OB.drew {B:Nat} {w:World} {v:Value} {L:List Bool} (h:OB B w v L) (n:Nat):OB B (w.drewN n) v L:=h.grow (belowDrew _ _)
set_option maxRecDepth 100000 in
theorem append_bool {ops:Array Oper} {rest:List Oper} {o:Oper} {a:Act} {Q:Exit→Act→World→Prop} {w:World} {B:Nat} {sv:Value} {l:List Bool} (hgd:o.guard = none) (s x:Operand)
    (ho:o.op = .call { callee:=.builtin .append,args:=#[s,x],argTypes:=#[86,86] }) (hs:a.eval s = sv) (hown:OB B w sv l) (b:Nat) (c:Bool) (hx:a.eval x = .slice (some ⟨b,0,none⟩) 1 1)
    (hc:w.cell? ⟨b,0,none⟩ = some (.bool c)) (hB:B≤w.heap.size) (hlim:l.length < 140737488351232)
    (h:∀ v' w',OB B w' v' (l ++ [c])→Below B w w'→wpList Tryz.prog ops Q rest (a.put o.dst v') w'):wpList Tryz.prog ops Q (o :: rest) a w:=by
  obtain ⟨i0,hi,hz0,hz1,hz2⟩:=info_parts info4
  refine wpList_append_own w hgd s x 86 ho B 4 i0 _ 1 1 Tryz.underlying86 hi hz0 hz1 hz2 rfl (by omega) sv l.length (l.map Value.bool) hs hown ⟨b,0,none⟩ 1 1 [.bool c] hx rfl (fun j u hu=>?_) (fun u hu=>?_) (by unfold maxLen; omega) (by omega) hB (fun v' w' h1 h2 _=>?_)
  · match j,hu with
    | 0,hu=>simp at hu; subst hu; simpa [Addr.add] using hc
  · simp at hu; subst hu; rfl
  · refine h v' w' ?_ ((Below.refl B w).grown h2 hB (fun k hk=>(World.ownsRow.lt hown k hk).1))
    have e:l.map Value.bool ++ [Value.bool c] = (l ++ [c]).map Value.bool:=by simp
    rw [e] at h1
    simpa [OB] using h1
set_option maxRecDepth 100000 in
theorem OB.falses (w:World) (m:Nat) (hm:m≤1000000):OB w.heap.size (w.alloc (.cells (madeCells #[.bool false] m) 4)) (.slice (some ⟨w.heap.size,0,none⟩) m m) (List.replicate m false):=by
  unfold OB
  have e:(List.replicate m false).map Value.bool = (madeCells #[Value.bool false] m).toList:=by rw [toList_madeCells_one]; simp
  rw [e,List.length_replicate]
  exact World.ownsRow_lit w _ m (Nat.le_refl _) (by unfold maxLen; omega) (by simp [size_madeCells])
set_option maxRecDepth 100000 in
theorem OW.mono {B B':Nat} {w:World} {v:Value} {l:List UInt8} (h:OW B w v l) (hb:B'≤B):OW B' w v l:=by
  refine ⟨h.1,?_⟩
  rcases h.2 with h1 | ⟨g,cap,cur,h1,h2,h3⟩
  · exact .inl h1
  · exact .inr ⟨g,cap,cur,h1,Nat.le_trans hb h2,h3⟩
set_option maxRecDepth 100000 in
theorem lb_falses (n i:Nat):lb (List.replicate n false) i = false:=by
  unfold lb
  simp only [List.getD_eq_getElem?_getD,List.getElem?_replicate]
  split <;> rfl
theorem pack31B (B n:Nat) (v:Value) (L:List Bool) (w:World) (hr:RO w v L) (hn:L.length = n) (hl:n≤1000000) (hB:B≤w.heap.size) :
    Calls Tryz.prog 38 #[v] w fun e w'=>∃ v' l,e = .returned v'∧OW B w' v' l∧BF n (lb L) l∧Below B w w':=by
  refine (pack31 v L w hr (by omega)).mono ?_
  rintro e w' ⟨v',l,rfl,h1,h2,h3⟩
  exact ⟨v',l,rfl,h1.mono hB,hn ▸ h2,h3.mono hB⟩
set_option maxRecDepth 100000 in
theorem step_call30 {ops:Array Oper} {o:Oper} {a:Act} {w:World} {K:Act→World→Prop} {Q:Exit→Act→World→Prop} {E:Prop} (hg:o.guard = none) (x:Operand) (v r:Value)
    (ho:o.op = .call { callee:=.value (.func 62),args:=#[x],argTypes:=#[3] }) (hx:a.eval x = v) (hc:∀ w,Calls Tryz.prog 62 #[v] w fun e w'=>e = .returned r∧w = w')
    (h:K (a.put o.dst r) w):if Region.wanted o (yielded ops a.tmps) = true then Oper.wp Tryz.prog o a w K Q else E:=by
  have hw:Region.wanted o (yielded ops a.tmps) = true:=by simp [Region.wanted,hg]
  rw [if_pos hw]
  have hr:(execOp a.eval o).run Tryz.prog w = .ok (.enter 62 #[v]) w:=by
    obtain ⟨d,op,t,p,af,gd⟩:=o
    simp only at ho hg
    subst ho hg
    go_simp
    rw [← hx]
    unfold Act.eval
    cases x <;> simp
  unfold Oper.wp
  rw [hr,Oper.upon_enter]
  refine (hc w).mono ?_
  rintro e w' ⟨rfl,rfl⟩
  exact h
set_option maxRecDepth 100000 in
theorem step_append_bool {ops:Array Oper} {o:Oper} {a:Act} {Q:Exit→Act→World→Prop} {K:Act→World→Prop} {E:Prop} {w:World} {B:Nat} {sv:Value} {l:List Bool} (hgd:o.guard = none) (s x:Operand)
    (ho:o.op = .call { callee:=.builtin .append,args:=#[s,x],argTypes:=#[86,86] }) (hs:a.eval s = sv) (hown:OB B w sv l) (b:Nat) (c:Bool) (hx:a.eval x = .slice (some ⟨b,0,none⟩) 1 1)
    (hc:w.cell? ⟨b,0,none⟩ = some (.bool c)) (hB:B≤w.heap.size) (hlim:l.length < 140737488351232)
    (h:∀ v' w',OB B w' v' (l ++ [c])→Below B w w'→K (a.put o.dst v') w'):if Region.wanted o (yielded ops a.tmps) = true then Oper.wp Tryz.prog o a w K Q else E:=by
  have hw:Region.wanted o (yielded ops a.tmps) = true:=by simp [Region.wanted,hgd]
  rw [if_pos hw]
  obtain ⟨i0,hi,hz0,hz1,hz2⟩:=info_parts info4
  refine wp_append_own w s x 86 ho B 4 i0 _ 1 1 Tryz.underlying86 hi hz0 hz1 hz2 rfl (by omega) sv l.length (l.map Value.bool) hs hown ⟨b,0,none⟩ 1 1 [.bool c] hx rfl (fun j u hu=>?_) (fun u hu=>?_) (by unfold maxLen; omega) (by omega) hB (fun v' w' h1 h2 _=>?_)
  · match j,hu with
    | 0,hu=>simp at hu; subst hu; simpa [Addr.add] using hc
  · simp at hu; subst hu; rfl
  · refine h v' w' ?_ ((Below.refl B w).grown h2 hB (fun k hk=>(World.ownsRow.lt hown k hk).1))
    have e:l.map Value.bool ++ [Value.bool c] = (l ++ [c]).map Value.bool:=by simp
    rw [e] at h1
    simpa [OB] using h1
def bl (l:List UInt8) (k:Nat):List Bool:=(List.range k).map (bit l)
set_option maxRecDepth 100000 in
theorem bl_len (l:List UInt8) (k:Nat):(bl l k).length = k:=by simp [bl]
set_option maxRecDepth 100000 in
theorem bl_snoc (l:List UInt8) (k:Nat):bl l (k + 1) = bl l k ++ [bit l k]:=by simp [bl,List.range_succ]
set_option maxRecDepth 100000 in
theorem lb_bl (l:List UInt8) (k i:Nat) (h:i < k):lb (bl l k) i = bit l i:=by
  unfold lb bl
  simp [List.getD,h]
set_option maxRecDepth 100000 in
theorem test_bit (l:List UInt8) (i:Nat):(((byt l (i / 8)).toNat:Int) / (mk (i % 8):Int) % 2 == 1) = bit l i:=by
  have h:=div_mk (byt l (i / 8)) (i % 8) (Nat.mod_lt _ (by omega))
  unfold bit
  rw [← h,Bool.eq_iff_iff,beq_iff_eq,beq_iff_eq]
  have:(((byt l (i / 8)).toNat:Int) / (mk (i % 8):Int) % 2) = (((byt l (i / 8)).toNat / mk (i % 8) % 2:Nat):Int):=by simp
  rw [this]; omega
set_option maxRecDepth 100000 in
set_option maxHeartbeats 1000000 in
theorem open32 (v:Value) (l:List UInt8) (w:World) (hr:RB w v l) (hl:l.length≤100000) :
    Calls Tryz.prog 103 #[v] w fun e w'=>∃ v',e = .returned v'∧OB w.heap.size w' v' (bl l (8 * l.length))∧Below w.heap.size w w':=by
  obtain ⟨va,vc,rfl,hr⟩:=hr
  generalize hN:l.length = N at *
  have HN:Hid (l.length = N):=hN
  clear hN
  have HR:Hid (l = []∨∃ g o,va = some (⟨g,o,none⟩:Addr)∧g < w.heap.size∧∀ i,i < N→w.cell? ⟨g,o + i,none⟩ = some (.int .u8 ((byt l i).toNat:Int))):=hr
  clear hr
  go_enter Tryz.func103,Tryz.ntmps103
  go_wp2
  go_loopw [3,4] (fun b t wr=>∃ (k:Nat) (a:Option Addr) (c:Nat),k≤8 * N∧t = .int .i64 k∧b = .slice a k c∧OB w.heap.size wr b (bl l k)∧Below w.heap.size w wr) (fun _ t _=>8 * N - (intOf t).toNat)
  case atStart=>exact ⟨0,none,0,Nat.zero_le _,rfl,rfl,World.ownsRow_nil _ _ _ _,Below.refl _ _⟩
  case round =>
    obtain ⟨k,a,c,hk,rfl,rfl,ho,hb⟩:=hrel
    by_cases hlt:k < 8 * N
    · rcases HR.out with hnil | ⟨g,o,rfl,hg,hc⟩
      · have:=HN.out; rw [hnil] at this; simp at this; omega
      have hck:wr.cell? ⟨g,o + k / 8,none⟩ = some (.int .u8 ((byt l (k / 8)).toNat:Int)):=(hb.cell (p:=⟨g,o + k / 8,none⟩) hg).trans (hc (k / 8) (by omega))
      have ht:=test_bit l k
      have hm:=mk_pos (k % 8)
      have hm2:=mk_lt (k % 8)
      have hx:=UInt8.toNat_lt (byt l (k / 8))
      have hB:=hb.size
      have HS:Hid (bl l (k + 1) = bl l k ++ [bit l k]∧(bl l k).length = k):=⟨bl_snoc l k,bl_len l k⟩
      have HO:Hid (OB w.heap.size wr (.slice a k c) (bl l k)∧Below w.heap.size w wr):=⟨ho,hb⟩
      clear hc HR HN ho hb
      generalize bit l k = bt at *
      generalize (byt l (k / 8)).toNat = x at *
      generalize hp:k / 8 = p at *
      have hk8:IntKind.i64.wrap ((k:Int) / 8) = (p:Int):=by rw [show (k:Int) / 8 = (p:Int) by omega]; exact wrap_nat p (by omega)
      have b1:(0:Int)≤(p:Int):=by omega
      have b2:(p:Int) < (N:Int):=by omega
      have hx0:IntKind.i64.wrap (x:Int) = (x:Int):=wrap_nat x (by omega)
      have hm0:mk (k % 8)≠0:=by omega
      have hq1:(x:Int).tdiv (mk (k % 8):Int) = ((x / mk (k % 8):Nat):Int):=by rw [Int.tdiv_eq_ediv_of_nonneg (by omega)]; simp
      have hq2:((((x / mk (k % 8):Nat):Int)) % 2 == 1) = bt:=by rw [← ht]; simp
      have hq3:x / mk (k % 8)≤x:=Nat.div_le_self _ _
      generalize x / mk (k % 8) = q at *
      have hq4:IntKind.i64.wrap (q:Int) = (q:Int):=wrap_nat q (by omega)
      have hq5:(q:Int).tmod 2 = (q:Int) % 2:=Int.tmod_eq_emod_of_nonneg (by omega)
      have hq6:IntKind.i64.wrap ((q:Int) % 2) = (q:Int) % 2:=by
        have:=wrap_nat (q % 2) (by omega)
        simpa using this
      clear ht
      have HW:Hid (∀ w,Calls Tryz.prog 62 #[.int .i64 k] w fun e w'=>e = .returned (.int .i64 (mk (k % 8):Int))∧w = w'):=fun w=>weight30 k (by omega) w
      go_wp2
      generalize mk (k % 8) = m at *
      have h13:OB w.heap.size (wr.drew.alloc (Obj.cells #[.bool bt] 4)) (.slice a k c) (bl l k):=(HO.out.1.drew 1).alloc _
      have h14:(wr.drew.alloc (Obj.cells #[.bool bt] 4)).cell? ⟨wr.heap.size,0,none⟩ = some (.bool bt):=by go_simp
      have H15:Hid (w.heap.size≤(wr.drew.alloc (Obj.cells #[.bool bt] 4)).heap.size):=Nat.le_trans hB ((belowDrew wr 1).alloc (Nat.le_refl _) (Obj.cells #[.bool bt] 4)).size
      go_region_law (first
        | (refine step_append_bool (w:=wr.drew.alloc (Obj.cells #[.bool bt] 4)) (sv:=.slice a k c) (l:=bl l k) (B:=w.heap.size) rfl (.tmp 12) (.tmp 24) rfl rfl h13 wr.heap.size bt rfl h14 H15.out (by rw [HS.out.2]; omega) ?_; intro v' w1 ho' hb1; obtain ⟨a',c',rfl⟩:=ho'.form)
        | (refine step_call30 rfl (.tmp 19) (.int .i64 k) (.int .i64 m) rfl rfl HW.out ?_))
      all_goals go_wp2
      all_goals
        have hlen:(bl l k).length + 1 = k + 1:=by rw [HS.out.2]
        have ho2:OB w.heap.size w1 (.slice a' ((bl l k).length + 1) c') (bl l (k + 1)):=by rw [HS.out.1]; simpa using ho'
        refine ⟨⟨k + 1,a',c',by omega,by go_num,by rw [hlen],ho2,?_⟩,by simp [intOf]; omega⟩
        · exact ((belowN HO.out.2 1).alloc hB _).trans hb1
    · obtain rfl:k = 8 * N:=by omega
      go_wp2
      go_ret
      exact ⟨_,rfl,ho,hb⟩
set_option maxRecDepth 100000 in
theorem OB.stored {B g c:Nat} {w:World} {L:List Bool} {n:Nat} (h:OB B w (.slice (some ⟨g,0,none⟩) n c) L) (j:Nat) (y:Bool) :
    OB B (w.setCell ⟨g,j,none⟩ (.bool y)) (.slice (some ⟨g,0,none⟩) n c) (L.set j y):=by
  have hn:=h.len
  subst hn
  have:=(World.ownsRow.stored h j (.bool y)).1
  unfold OB
  rw [List.length_set]
  have e:(L.set j y).map Value.bool = (L.map Value.bool).set j (.bool y):=by simp [List.map_set]
  rw [e]; exact this
set_option maxRecDepth 100000 in
theorem lb_setv (L:List Bool) (j i:Nat) (y:Bool) (hj:j < L.length):lb (L.set j y) i = if i = j then y else lb L i:=by
  unfold lb
  simp only [List.getD_eq_getElem?_getD,List.getElem?_set]
  by_cases h:j = i
  · subst h; simp [hj]
  · rw [if_neg h,if_neg (fun e=>h e.symm)]
set_option maxRecDepth 100000 in
theorem OB.cap {B g c:Nat} {w:World} {L:List Bool} {n:Nat} (h:OB B w (.slice (some ⟨g,0,none⟩) n c) L):n≤c∧g < w.heap.size:=by
  rcases h.2 with ⟨h1,_⟩ | ⟨g',cap,cur,h1,_,h3,h4,_⟩
  · simp at h1
  · have hn:=h.len
    simp only [Value.slice.injEq,Option.some.injEq,Addr.mk.injEq,and_true] at h1
    obtain ⟨rfl,_,rfl⟩:=h1
    exact ⟨by omega,(Array.getElem?_eq_some_iff.1 h3).1⟩
set_option maxRecDepth 100000 in
theorem OB.roTake {B g c:Nat} {w:World} {L:List Bool} {n m c':Nat} (h:OB B w (.slice (some ⟨g,0,none⟩) n c) L) (hm:m≤n):RO w (.slice (some ⟨g,0,none⟩) m c') (L.take m):=by
  have hn:=h.len
  have hl:(L.take m).length = m:=by rw [List.length_take]; omega
  refine ⟨_,c',by rw [hl],?_⟩
  by_cases h0:L.take m = []
  · exact .inl h0
  · refine .inr ⟨g,0,rfl,h.cap.2,fun i hi=>?_⟩
    rw [hl] at hi
    obtain ⟨g',e,_,_,hc,_⟩:=h.at i (by omega)
    simp only [Option.some.injEq,Addr.mk.injEq,and_true] at e
    subst e
    rw [Nat.zero_add,hc]
    unfold lb
    simp [List.getD,hi]
set_option maxRecDepth 100000 in
theorem lb_take (L:List Bool) (m i:Nat) (h:i < m):lb (L.take m) i = lb L i:=by
  unfold lb
  simp [List.getD,h]
set_option maxRecDepth 100000 in
set_option maxHeartbeats 2000000 in
theorem put22 (n:Int) (h0:-9223372036854775808≤n) (h1:n≤9223372036854775807) (v:Value) (l:List UInt8) (i:Int) (g0:-9223372036854775808≤i) (g1:i≤9223372036854775807) (on:Bool) (w:World) (hr:RB w v l) (hl:l.length≤140737488351232) :
    Calls Tryz.prog 83 #[.int .i64 n,v,.int .i64 i,.bool on] w fun e w'=>∃ v' r,e = .returned (.tuple #[v',.int .i64 (gE n l i)])∧OW w.heap.size w' v' r∧PU n l i on r∧Below w.heap.size w w':=by
  have HC:Hid (Calls Tryz.prog 80 #[.int .i64 n,v] w fun e w'=>e = .returned (.int .i64 (ck n l))∧∃ nq,w' = w.drewN nq):=check11 n h0 h1 v l w hr hl
  have HR:Hid (RB w v l):=hr
  obtain ⟨a,c,rfl,_⟩:=hr
  by_cases hck:ck n l = 0
  · rw [hck] at HC
    have hn0:=(ck_ok hck).1
    by_cases hi:i < 0∨n≤i
    · obtain ⟨e1,_⟩:=gE_ix hck hi
      have HPU:Hid (PU n l i on []):=.inl ⟨by rw [e1]; decide,rfl⟩
      rw [e1]
      clear e1 hck
      rcases (by omega:i < 0∨(0≤i∧n≤i)) with hi | ⟨hi0,hi⟩
      · go_enter Tryz.func83,Tryz.ntmps83
        go_wp2_with (go_at_call 80; refine HC.out.mono ?_; rintro e w1 ⟨rfl,nq,rfl⟩)
        go_ret2
        exact ⟨_, [],rfl,World.ownsRow_nil _ _ _ _,HPU.out,belowDrew _ _⟩
      · go_enter Tryz.func83,Tryz.ntmps83
        go_wp2_with (go_at_call 80; refine HC.out.mono ?_; rintro e w1 ⟨rfl,nq,rfl⟩)
        go_ret2
        exact ⟨_, [],rfl,World.ownsRow_nil _ _ _ _,HPU.out,belowDrew _ _⟩
    · obtain ⟨e1,_⟩:=gE_ok hck hi
      obtain ⟨k0,k1,k2,k3⟩:=ck_ok hck
      obtain ⟨m,rfl⟩:=Int.eq_ofNat_of_zero_le k0
      obtain ⟨k,rfl⟩:=Int.eq_ofNat_of_zero_le (show 0≤i by omega)
      have hk:k < m:=by omega
      have k2':l.length = (m + 7) / 8:=by simpa using k2
      have HK:Hid (ck m l = 0∧gE m l k = 0∧l.length = (m + 7) / 8):=⟨hck,e1,k2'⟩
      have hm8:m≤8 * l.length:=by omega
      have hl8:l.length≤100000:=by omega
      have hm6:m≤65536:=by omega
      rw [e1]
      clear e1 hck k3 k2 k2' hi k0 k1 g0 g1 h0 h1 hn0
      go_enter Tryz.func83,Tryz.ntmps83
      go_wp2_with (go_at_call 80; refine HC.out.mono ?_; rintro e w1 ⟨rfl,nq,rfl⟩)
      refine (open32 _ l _ (HR.out.keep (belowDrew _ _)) hl8).mono ?_
      rintro e w2 ⟨v2,rfl,ho,hb2⟩
      obtain ⟨a2,c2,rfl⟩:=ho.form
      rw [bl_len] at *
      obtain ⟨g,rfl,hgw,hgl,hc,hf⟩:=ho.at k (by omega)
      have hcap:=ho.cap.1
      have HB:Hid (OB w.heap.size w2 (.slice (some ⟨g,0,none⟩) (8 * l.length) c2) (bl l (8 * l.length))∧Below w.heap.size w w2):=⟨ho,(belowDrew w nq).trans hb2⟩
      have hgw':w.heap.size≤g:=hgw
      have hmc:m≤c2:=by omega
      clear ho hb2 hgw
      generalize lb (bl l (8 * l.length)) k = old at *
      have HP:Hid (∀ c',Calls Tryz.prog 38 #[.slice (some ⟨g,0,none⟩) m c'] (w2.setCell ⟨g,k,none⟩ (.bool on)) fun e w'=>∃ v' r,e = .returned v'∧OW w.heap.size w' v' r∧BF m (lb (((bl l (8 * l.length)).set k on).take m)) r∧Below w.heap.size (w2.setCell ⟨g,k,none⟩ (.bool on)) w'):=fun c' =>
        pack31B w.heap.size m _ _ _ ((HB.out.1.stored k on).roTake hm8) (by rw [List.length_take,List.length_set,bl_len]; omega) (by omega) (Nat.le_trans HB.out.2.size (by simp [World.setCell]))
      go_wp2_with (go_at_call 38; refine (HP.out _).mono ?_; rintro e w3 ⟨v3,r,rfl,ho3,hbf,hb3⟩; obtain ⟨a3,c3,rfl⟩:=ho3.form)
      go_ret2
      refine ⟨_,r,rfl,ho3,.inr ⟨HK.out.2.1,hbf.1,fun j=>?_⟩,(HB.out.2.setCell (p:=⟨g,k,none⟩) hgw' _).trans hb3⟩
      rw [hbf.2]
      show _ = (decide (j < m) && if j = k then on else bit l j)
      by_cases hj:j < m
      · rw [lb_take _ _ _ hj,lb_setv _ _ _ _ (by rw [bl_len]; omega),lb_bl _ _ _ (by omega)]
      · simp [hj]
  · obtain ⟨e1,_⟩:=gE_ck (i:=i) hck
    have HPU:Hid (PU n l i on []):=.inl ⟨by rw [e1]; exact hck,rfl⟩
    rw [e1]
    have hz:(ck n l != 0) = true:=by simpa using hck
    clear e1 hck
    generalize ck n l = z at *
    go_enter Tryz.func83,Tryz.ntmps83
    go_wp2_with (go_at_call 80; refine HC.out.mono ?_; rintro e w1 ⟨rfl,nq,rfl⟩)
    go_ret2
    exact ⟨_, [],rfl,World.ownsRow_nil _ _ _ _,HPU.out,belowDrew _ _⟩
set_option maxRecDepth 100000 in
set_option maxHeartbeats 1000000 in
theorem make14 (n:Nat) (h:n≤65536) (w:World) :
    Calls Tryz.prog 19 #[.int .i64 n] w fun e w'=>∃ v l,e = .returned (.tuple #[v,.int .i64 0])∧OW w.heap.size w' v l∧BF n (fun _=>false) l∧Below w.heap.size w w':=by
  obtain ⟨i0,hi,hz0,hz1,hz2⟩:=info_parts info4
  have hmk:∀ u:World,(Instr.makeSlice 86 (.int .i64 (n:Int)) (.int .i64 (n:Int))).run Tryz.prog u =
      .ok (.slice (some ⟨u.heap.size,0,none⟩) n n) (u.alloc (.cells (madeCells #[.bool false] n) 4)):=fun u=>by
    have h:=run_make (P:=Tryz.prog) u 86 4 i0 (.bool false) Tryz.underlying86 hi hz0 .i64 .i64 (n:Int) (n:Int) (by omega) (by omega) (by rw [hz2]; omega) (by omega)
    rw [hz1] at h
    simpa only [Value.cells,Int.toNat_natCast,Nat.mul_one] using h
  have HP:Hid (Calls Tryz.prog 38 #[.slice (some ⟨w.heap.size,0,none⟩) n n] (w.alloc (.cells (madeCells #[.bool false] n) 4)) fun e w'=>∃ v' l,e = .returned v'∧OW w.heap.size w' v' l∧BF n (lb (List.replicate n false)) l∧Below w.heap.size (w.alloc (.cells (madeCells #[.bool false] n) 4)) w'):=
    pack31B _ n _ _ _ (OB.falses w n (by omega)).ro (by simp) (by omega) (by simp)
  clear hi hz0 hz1 hz2
  go_enter Tryz.func19,Tryz.ntmps19
  go_wp2_with (go_at_call 38; refine HP.out.mono ?_; rintro e w1 ⟨v',l,rfl,ho,hbf,hb⟩)
  obtain ⟨a,c,rfl⟩:=ho.form
  go_ret2
  refine ⟨_,l,rfl,ho,⟨hbf.1,fun i=>?_⟩,((Below.refl w.heap.size w).alloc (Nat.le_refl _) _).trans hb⟩
  rw [hbf.2,lb_falses]
end Go.Proofs.YtfjjpbebnoghmaaGreatDoor.Bs
