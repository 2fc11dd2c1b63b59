import Derived.Test.YtfjjpbebnoghmaaGreatDoorK00
import Derived.Test.YtfjjpbebnoghmaaGreatDoorK14
import Derived.Test.YtfjjpbebnoghmaaGreatDoorK06
import Derived.Test.YtfjjpbebnoghmaaGreatDoorK04
import Derived.Test.YtfjjpbebnoghmaaGreatDoorRows
import Derived.WalkKit
import Derived.WalkLawsBesides
import Derived.Deep.MidRow
import Derived.Lib.SmallJoins
namespace Go.Proofs.YtfjjpbebnoghmaaGreatDoor.Bs
open Go.RowKit
def gE (n:Int) (l:List UInt8) (i:Int):Int:=if ck n l≠0 then ck n l else if i < 0∨n≤i then 43 else 0
def gB (n:Int) (l:List UInt8) (i:Int):Bool:=if gE n l i = 0 then bit l i.toNat else false
theorem gE_ck {n:Int} {l:List UInt8} {i:Int} (h:ck n l≠0):gE n l i = ck n l∧gB n l i = false:=by
  have e:gE n l i = ck n l:=by unfold gE; rw [if_pos h]
  exact ⟨e,by unfold gB; rw [e,if_neg h]⟩
theorem gE_ix {n:Int} {l:List UInt8} {i:Int} (h:ck n l = 0) (hi:i < 0∨n≤i):gE n l i = 43∧gB n l i = false:=by
  have e:gE n l i = 43:=by unfold gE; rw [if_neg (by simp [h]),if_pos hi]
  exact ⟨e,by unfold gB; rw [e,if_neg (by decide)]⟩
theorem gE_ok {n:Int} {l:List UInt8} {i:Int} (h:ck n l = 0) (hi:¬ (i < 0∨n≤i)):gE n l i = 0∧gB n l i = bit l i.toNat:=by
  have e:gE n l i = 0:=by unfold gE; rw [if_neg (by simp [h]),if_neg hi]
  exact ⟨e,by unfold gB; rw [e,if_pos rfl]⟩
theorem gE_zero {n:Int} {l:List UInt8} {i:Int} (h:gE n l i = 0):ck n l = 0∧0≤i∧i < n:=by
  unfold gE at h
  split at h
  · rename_i h1; exact absurd h h1
  · rename_i h1
    split at h
    · simp at h
    · exact ⟨by simpa using h1,by omega,by omega⟩
set_option maxHeartbeats 1000000 in
theorem get11 (n:Int) (h0:-9223372036854775808≤n) (h1:n≤9223372036854775807) (v:Value) (l:List UInt8) (i:Int) (g0:-9223372036854775808≤i) (g1:i≤9223372036854775807) (w:World) (hr:RB w v l) (hm:MT w) (hl:l.length≤140737488351232) :
    Calls Tryz.prog 113 #[.int .i64 n,v,.int .i64 i] w fun e w'=>e = .returned (.tuple #[.bool (gB n l i),.int .i64 (gE n l i)])∧∃ nq,w' = w.drewN nq:=by
  have HC:Hid (Calls Tryz.prog 106 #[.int .i64 n,v] w fun e w'=>e = .returned (.int .i64 (ck n l))∧∃ nq,w' = w.drewN nq):=check10 n h0 h1 v l w hr hm hl
  have HR:Hid (RB w v l∧MT w):=⟨hr,hm⟩
  obtain ⟨a,c,rfl,_⟩:=hr
  clear hm
  by_cases hck:ck n l = 0
  · rw [hck] at HC
    by_cases hi:i < 0∨n≤i
    · obtain ⟨e1,e2⟩:=gE_ix hck hi
      rw [e1,e2]
      have hn0:=(ck_ok hck).1
      clear e1 e2 hck
      rcases (by omega:i < 0∨(0≤i∧n≤i)) with hi | ⟨hi0,hi⟩
      · go_enter Tryz.func113,Tryz.ntmps113
        go_wp2_with (go_at_call 106; refine HC.out.mono ?_; rintro e w1 ⟨rfl,nq,rfl⟩)
        go_ret2
        exact ⟨rfl,_,rfl⟩
      · go_enter Tryz.func113,Tryz.ntmps113
        go_wp2_with (go_at_call 106; refine HC.out.mono ?_; rintro e w1 ⟨rfl,nq,rfl⟩)
        go_ret2
        exact ⟨rfl,_,rfl⟩
    · obtain ⟨e1,e2⟩:=gE_ok hck hi
      rw [e1,e2]
      obtain ⟨k0,k1,k2,k3⟩:=ck_ok hck
      obtain ⟨m,rfl⟩:=Int.eq_ofNat_of_zero_le k0
      obtain ⟨k,rfl⟩:=Int.eq_ofNat_of_zero_le (show 0≤i by omega)
      have hk:k < m:=by omega
      have hk8 : k < 8 * l.length := by have : (m : Int).toNat = m := by simp
                                        omega
      have HH:Hid (∀ nq,Calls Tryz.prog 116 #[.slice a l.length c,.int .i64 k] (w.drewN nq) fun e w'=>e = .returned (.bool (bit l k))∧∃ n,w' = (w.drewN nq).drewN n):=fun nq =>
        has28 _ l k _ (HR.out.1.keep (belowDrew _ _)) (HR.out.2.keep (belowDrew _ _)) hk8 hl
      show Calls _ _ _ _ fun e w'=>e = .returned (.tuple #[.bool (bit l k),.int .i64 0])∧_
      clear e1 e2 hck k3 k2 hi k0 k1 g0 g1 h0 h1
      generalize bit l k = bt at *
      go_enter Tryz.func113,Tryz.ntmps113
      go_wp2_with (first |(go_at_call 106; refine HC.out.mono ?_; rintro e w1 ⟨rfl,nq,rfl⟩) |(go_at_call 116; refine (HH.out _).mono ?_; rintro e w2 ⟨rfl,nq2,rfl⟩))
      go_ret2
      exact ⟨rfl,_,rfl⟩
  · obtain ⟨e1,e2⟩:=gE_ck (i:=i) hck
    rw [e1,e2]
    have hz:(ck n l != 0) = true:=by simpa using hck
    clear e1 e2 hck
    generalize ck n l = z at *
    go_enter Tryz.func113,Tryz.ntmps113
    go_wp2_with (go_at_call 106; refine HC.out.mono ?_; rintro e w1 ⟨rfl,nq,rfl⟩)
    go_ret2
    exact ⟨rfl,_,rfl⟩
def PU (n:Int) (l:List UInt8) (i:Int) (on:Bool) (r:List UInt8):Prop:=(gE n l i≠0∧r = [])∨(gE n l i = 0∧BF n.toNat (fun k=>if k = i.toNat then on else bit l k) r)
theorem PU.unique {n:Int} {l:List UInt8} {i:Int} {on:Bool} {r r':List UInt8} (h:PU n l i on r) (h':PU n l i on r'):r = r':=by
  rcases h with ⟨h1,rfl⟩ | ⟨h1,h2⟩
  · rcases h' with ⟨_,rfl⟩ | ⟨g1,_⟩
    · rfl
    · exact absurd g1 h1
  · rcases h' with ⟨g1,_⟩ | ⟨_,g2⟩
    · exact absurd h1 g1
    · exact BF.unique h2 g2 (fun _ _=>rfl)
theorem andNot_off (c:UInt8) (j:Nat):bits .andNot .u8 (c.toNat:Int) (mk j:Int) = ((off c j).toNat:Int):=by
  rw [u8_andNot_nat _ _ (UInt8.toNat_lt _) (mk_lt _),off_toNat]
set_option maxHeartbeats 2000000 in
theorem put21 (n:Int) (h0:-9223372036854775808≤n) (h1:n≤9223372036854775807) (v:Value) (l:List UInt8) (i:Int) (g0:-9223372036854775808≤i) (g1:i≤9223372036854775807) (on:Bool) (w:World) (hr:RB w v l) (hm:MT w) (hl:l.length≤140737488351232) :
    Calls Tryz.prog 114 #[.int .i64 n,v,.int .i64 i,.bool on] w fun e w'=>∃ v' r,e = .returned (.tuple #[v',.int .i64 (gE n l i)])∧OW w.heap.size w' v' r∧PU n l i on r∧Below w.heap.size w w':=by
  have HG:Hid (Calls Tryz.prog 113 #[.int .i64 n,v,.int .i64 i] w fun e w'=>e = .returned (.tuple #[.bool (gB n l i),.int .i64 (gE n l i)])∧∃ nq,w' = w.drewN nq):=get11 n h0 h1 v l i g0 g1 w hr hm hl
  have HR:Hid (RB w v l∧MT w):=⟨hr,hm⟩
  obtain ⟨a,c,rfl,_⟩:=hr
  clear hm
  by_cases hg:gE n l i = 0
  · obtain ⟨hck,hi0,hin⟩:=gE_zero hg
    obtain ⟨k0,k1,k2,k3⟩:=ck_ok hck
    obtain ⟨m,rfl⟩:=Int.eq_ofNat_of_zero_le k0
    obtain ⟨k,rfl⟩:=Int.eq_ofNat_of_zero_le hi0
    have HK:Hid (ck m l = 0∧gE m l k = 0∧l.length = (m + 7) / 8):=⟨hck,hg,by simpa using k2⟩
    have hk:k < m:=by omega
    rw [hg] at HG ⊢
    clear k3 k2 hck hg k0 k1 g0 g1 h0 h1
    generalize gB m l k = gb at *
    cases on
    · go_enter Tryz.func114,Tryz.ntmps114
      go_wp2_with (first |(go_at_call 113; refine HG.out.mono ?_; rintro e w1 ⟨rfl,nq,rfl⟩) |(go_at_call 57; refine (clone34 _ l _ (HR.out.1.keep (belowDrew _ _)) hl).mono ?_; rintro e w2 ⟨v2,rfl,ho,hb2⟩; obtain ⟨a2,c2,rfl⟩:=ho.form))
      have hlen:=HK.out.2.2
      obtain ⟨g2,rfl,hg2,q1,q2⟩:=ho.at (k / 8) (by omega)
      have hbw:Below w.heap.size w w2:=(belowDrew w nq).trans hb2
      have q3:=(HR.out.2.keep hbw).2 (k % 8) (Nat.mod_lt _ (by omega))
      have q4:=andNot_off (byt l (k / 8)) (k % 8)
      have HS:Hid (∀ j,bit (l.set (k / 8) (off (byt l (k / 8)) (k % 8))) j = (!decide (j = k) && bit l j)):=fun j=>bit_set_off l k j (by omega)
      have HO:Hid (OW w.heap.size w2 (.slice (some ⟨g2,0,none⟩) l.length c2) l∧Below w.heap.size w w2):=⟨ho,hbw⟩
      have e1:k / 8 < l.length:=by omega
      have hg3:w.heap.size≤g2:=hg2
      clear ho hbw hb2 hlen hg2
      generalize off (byt l (k / 8)) (k % 8) = y at *
      generalize (byt l (k / 8)) = x at *
      generalize mk (k % 8) = mm at *
      go_region
      go_wp2
      go_ret2
      refine ⟨_,l.set (k / 8) y,rfl,(HO.out.1.drew _).stored _ _,.inr ⟨HK.out.2.1,?_,fun j=>?_⟩,(belowN HO.out.2 _).setCell (p:=⟨g2,k / 8,none⟩) hg3 _⟩
      · rw [List.length_set]; exact HK.out.2.2
      · rw [HS.out,(ck_bf HK.out.1).2]
        show _ = (decide (j < m) && if j = k then false else bit l j)
        by_cases hj:j = k
        · subst hj; simp [hk]
        · rw [decide_eq_false hj,if_neg hj]; simp
    · go_enter Tryz.func114,Tryz.ntmps114
      go_wp2_with (first |(go_at_call 113; refine HG.out.mono ?_; rintro e w1 ⟨rfl,nq,rfl⟩) |(go_at_call 57; refine (clone34 _ l _ (HR.out.1.keep (belowDrew _ _)) hl).mono ?_; rintro e w2 ⟨v2,rfl,ho,hb2⟩; obtain ⟨a2,c2,rfl⟩:=ho.form))
      have hlen:=HK.out.2.2
      obtain ⟨g2,rfl,hg2,q1,q2⟩:=ho.at (k / 8) (by omega)
      have hbw:Below w.heap.size w w2:=(belowDrew w nq).trans hb2
      have q3:=(HR.out.2.keep hbw).2 (k % 8) (Nat.mod_lt _ (by omega))
      have q4:=or_on (byt l (k / 8)) (k % 8)
      have HS:Hid (∀ j,bit (l.set (k / 8) (on (byt l (k / 8)) (k % 8))) j = (decide (j = k) || bit l j)):=fun j=>bit_set_on l k j (by omega)
      have HO:Hid (OW w.heap.size w2 (.slice (some ⟨g2,0,none⟩) l.length c2) l∧Below w.heap.size w w2):=⟨ho,hbw⟩
      have e1:k / 8 < l.length:=by omega
      have hg3:w.heap.size≤g2:=hg2
      clear ho hbw hb2 hlen hg2
      generalize on (byt l (k / 8)) (k % 8) = y at *
      generalize (byt l (k / 8)) = x at *
      generalize mk (k % 8) = mm at *
      go_region
      go_wp2
      go_ret2
      refine ⟨_,l.set (k / 8) y,rfl,(HO.out.1.drew _).stored _ _,.inr ⟨HK.out.2.1,?_,fun j=>?_⟩,(belowN HO.out.2 _).setCell (p:=⟨g2,k / 8,none⟩) hg3 _⟩
      · rw [List.length_set]; exact HK.out.2.2
      · rw [HS.out,(ck_bf HK.out.1).2]
        show _ = (decide (j < m) && if j = k then true else bit l j)
        by_cases hj:j = k
        · subst hj; simp [hk]
        · rw [decide_eq_false hj,if_neg hj]; simp
  · have HE:Hid (gE n l i≠0):=hg
    have hz:(gE n l i != 0) = true:=by simpa using hg
    clear hg
    have HPU:Hid (PU n l i on []):=.inl ⟨HE.out,rfl⟩
    clear HE
    generalize gE n l i = z at *
    generalize gB n l i = gb at *
    go_enter Tryz.func114,Tryz.ntmps114
    go_wp2_with (go_at_call 113; refine HG.out.mono ?_; rintro e w1 ⟨rfl,nq,rfl⟩)
    go_ret2
    exact ⟨_, [],rfl,World.ownsRow_nil _ _ _ _,HPU.out,belowDrew _ _⟩
end Go.Proofs.YtfjjpbebnoghmaaGreatDoor.Bs
namespace Go.Proofs.YtfjjpbebnoghmaaGreatDoor
open Go.RowKit
structure Pv where
  info:List UInt8
  b:Int
  ln:Value
  st:Value
  sh:Bool
  why:Int
  wc:Bool
  wi:Bool
  wb:Bool
  ic:Bool
  ii:Bool
  ib:Bool
  hs:Value
def Pv.tl (P:Pv):List Value:=[.int .i64 P.b,P.ln,P.st,.bool P.sh,.int .i64 P.why,.bool P.wc,.bool P.wi,.bool P.wb,.bool P.ic,.bool P.ii,.bool P.ib,P.hs]
def Pv.ls (P:Pv):List Value:=Lib.byteCells P.info ++ P.tl
def PK (w:World) (g:Nat) (P:Pv):Prop:=P.info.length = 20∧w.heap[g]? = some (.cells P.ls.toArray 57 (0,0))
theorem PK.lt {w:World} {g:Nat} {P:Pv} (h:PK w g P):g < w.heap.size:=(Array.getElem?_eq_some_iff.1 h.2).1
theorem PK.at {w:World} {g:Nat} {P:Pv} (h:PK w g P) (j:Nat) {v:Value} (hj:P.tl[j]? = some v):w.cell? ⟨g,20 + j,none⟩ = some v∧w.frozen? ⟨g,20 + j,none⟩ = false:=by
  have e:P.ls[20 + j]? = some v:=by
    unfold Pv.ls
    rw [List.getElem?_append_right (by rw [bcl_len,h.1]; omega),bcl_len,h.1,show 20 + j - 20 = j by omega]
    exact hj
  exact ⟨by simp [World.cell?,h.2,e],by simp [World.frozen?,h.2]⟩
theorem PK.cells {w:World} {g:Nat} {P:Pv} (h:PK w g P):w.cell? ⟨g,20,none⟩ = some (.int .i64 P.b)∧w.cell? ⟨g,21,none⟩ = some P.ln∧w.cell? ⟨g,22,none⟩ = some P.st∧w.cell? ⟨g,23,none⟩ = some (.bool P.sh)∧w.cell? ⟨g,24,none⟩ = some (.int .i64 P.why)∧w.cell? ⟨g,31,none⟩ = some P.hs:=
  ⟨(h.at 0 rfl).1,(h.at 1 rfl).1,(h.at 2 rfl).1,(h.at 3 rfl).1,(h.at 4 rfl).1,(h.at 11 rfl).1⟩
theorem PK.sides {w:World} {g:Nat} {P:Pv} (h:PK w g P):w.cell? ⟨g,25,none⟩ = some (.bool P.wc)∧w.cell? ⟨g,26,none⟩ = some (.bool P.wi)∧w.cell? ⟨g,27,none⟩ = some (.bool P.wb)∧w.cell? ⟨g,28,none⟩ = some (.bool P.ic)∧w.cell? ⟨g,29,none⟩ = some (.bool P.ii)∧w.cell? ⟨g,30,none⟩ = some (.bool P.ib):=
  ⟨(h.at 5 rfl).1,(h.at 6 rfl).1,(h.at 7 rfl).1,(h.at 8 rfl).1,(h.at 9 rfl).1,(h.at 10 rfl).1⟩
theorem PK.fr {w:World} {g:Nat} {P:Pv} (h:PK w g P) (i:Nat):w.frozen? ⟨g,i,none⟩ = false:=by simp [World.frozen?,h.2]
theorem PK.set {w:World} {g:Nat} {P:Pv} (h:PK w g P) (j:Nat) (v:Value) (P':Pv) (hi:P'.info = P.info) (ht:P'.tl = P.tl.set j v):PK (w.setCell ⟨g,20 + j,none⟩ v) g P':=by
  refine ⟨by rw [hi]; exact h.1,?_⟩
  rw [setCell_eq_setRow w g (20 + j) _ _ _ v h.2,setRow_heap w g _ _ _ _ h.2]
  congr 2
  unfold Pv.ls
  rw [hi,ht]
  apply Array.ext'
  rw [Array.toList_setIfInBounds]
  show (Lib.byteCells P.info ++ P.tl).set (20 + j) v = _
  rw [List.set_append_right _ _ (by rw [bcl_len,h.1]; omega),bcl_len,h.1,show 20 + j - 20 = j by omega]
theorem PK.keep {w w':World} {g:Nat} {P:Pv} (h:PK w g P) (hb:w'.heap[g]? = w.heap[g]?):PK w' g P:=⟨h.1,hb.trans h.2⟩
set_option maxHeartbeats 400000 in
theorem missingT (w:World) (g:Nat) (P:Pv) (h:PK w g P) (hb:0 < P.b) :
    Calls Tryz.prog 56 #[.pointer (some ⟨g,0,none⟩)] w fun e w'=>e = .returned (.bool false)∧w' = w:=by
  obtain ⟨c0,_⟩:=h.cells
  have hne:(P.b == 0) = false:=by simp; omega
  generalize P.b = b at *
  clear h
  go_enter Tryz.func56,Tryz.ntmps56
  go_wp2
  go_ret
  exact ⟨rfl,rfl⟩
set_option maxHeartbeats 400000 in
theorem missingN (w:World):Calls Tryz.prog 56 #[.pointer none] w fun e w'=>e = .returned (.bool true)∧w' = w:=by
  go_enter Tryz.func56,Tryz.ntmps56
  go_wp2
  go_ret
  exact ⟨rfl,rfl⟩
set_option maxHeartbeats 400000 in
theorem openT (w:World) (g:Nat) (P:Pv) (h:PK w g P) (hb:0 < P.b) :
    Calls Tryz.prog 39 #[.pointer (some ⟨g,0,none⟩)] w fun e w'=>e = .returned (.int .i64 (if P.why = 0 then 0 else 170))∧w' = w:=by
  have HM:Hid (Calls Tryz.prog 56 #[.pointer (some ⟨g,0,none⟩)] w fun e w'=>e = .returned (.bool false)∧w' = w):=missingT w g P h hb
  obtain ⟨_,_,_,_,c4,_⟩:=h.cells
  by_cases hw:P.why = 0
  · rw [if_pos hw]
    rw [hw] at c4
    clear h hb hw
    go_enter Tryz.func39,Tryz.ntmps39
    go_wp2_with fail
    refine HM.out.mono ?_
    rintro e w1 ⟨rfl,rfl⟩
    go_wp2
    go_ret
    exact ⟨rfl,rfl⟩
  · rw [if_neg hw]
    have hne:(P.why != 0) = true:=by simp [hw]
    generalize P.why = y at *
    clear h hb hw
    go_enter Tryz.func39,Tryz.ntmps39
    go_wp2_with fail
    refine HM.out.mono ?_
    rintro e w1 ⟨rfl,rfl⟩
    go_wp2
    go_ret
    exact ⟨rfl,rfl⟩
set_option maxHeartbeats 400000 in
theorem leaveT (w:World) (g:Nat) (P:Pv) (h:PK w g P) (y:Int) :
    Calls Tryz.prog 42 #[.pointer (some ⟨g,0,none⟩),.int .i64 y] w fun e w'=>e = .returned (.tuple #[])∧PK w' g { P with why:=y,st:=.pointer none,ln:=.slice none 0 0 }∧Fm.Fr (fun k=>k≠g) w w':=by
  have HK:Hid (PK w g P):=h
  obtain ⟨_,c1,c2,_,c4,_⟩:=h.cells
  have f1:=h.fr 21
  have f2:=h.fr 22
  have f4:=h.fr 24
  clear h
  go_enter Tryz.func42,Tryz.ntmps42
  go_wp2
  go_end0
  exact ⟨rfl,((HK.out.set 4 _ { P with why:=y } rfl rfl).set 2 _ { P with why:=y,st:=.pointer none } rfl rfl).set 1 _ _ rfl rfl,(((Fm.Fr.refl (fun k=>k≠g) w).setCell g 24 _ (fun h=>h rfl)).setCell g 22 _ (fun h=>h rfl)).setCell g 21 _ (fun h=>h rfl)⟩
def sy (k:Int) (c i b:Bool):Bool × Bool × Bool:=
  if k = -1∨k = 1000 then (c,i,b) else if k = 0 then (true,i,true) else if k = 1 then (false,i,true) else if k = 2 then (c,true,true) else if k = 3 then (c,false,true) else (c,i,true)
set_option maxHeartbeats 1000000 in
theorem saysI (w:World) (g:Nat) (P:Pv) (h:PK w g P) (k:Int) :
    Calls Tryz.prog 51 #[.pointer (some ⟨g,28,none⟩),.int .i64 k] w fun e w'=>e = .returned (.tuple #[])∧PK w' g { P with ic:=(sy k P.ic P.ii P.ib).1,ii:=(sy k P.ic P.ii P.ib).2.1,ib:=(sy k P.ic P.ii P.ib).2.2 }∧Fm.Fr (fun k=>k≠g) w w':=by
  have HK:Hid (PK w g P):=h
  obtain ⟨_,_,_,c1,c2,c3⟩:=h.sides
  have f1:=h.fr 28
  have f2:=h.fr 29
  have f3:=h.fr 30
  clear h
  by_cases k0:k = -1
  · subst k0
    go_enter Tryz.func51,Tryz.ntmps51
    go_wp2
    (try simp only [Exit.inBlock,Exit.then]); refine bodyPost_ret (results_none rfl _ _ _) rfl ?_
    exact ⟨rfl,HK.out,Fm.Fr.refl _ _⟩
  by_cases k1:k = 1000
  · subst k1
    go_enter Tryz.func51,Tryz.ntmps51
    go_wp2
    (try simp only [Exit.inBlock,Exit.then]); refine bodyPost_ret (results_none rfl _ _ _) rfl ?_
    exact ⟨rfl,HK.out,Fm.Fr.refl _ _⟩
  by_cases k2:k = 0
  · subst k2
    go_enter Tryz.func51,Tryz.ntmps51
    go_wp2
    go_end0
    exact ⟨rfl,(HK.out.set 8 _ { P with ic:=true } rfl rfl).set 10 _ _ rfl rfl,((Fm.Fr.refl (fun k=>k≠g) w).setCell g 28 _ (fun h=>h rfl)).setCell g 30 _ (fun h=>h rfl)⟩
  by_cases k3:k = 1
  · subst k3
    go_enter Tryz.func51,Tryz.ntmps51
    go_wp2
    go_end0
    exact ⟨rfl,(HK.out.set 8 _ { P with ic:=false } rfl rfl).set 10 _ _ rfl rfl,((Fm.Fr.refl (fun k=>k≠g) w).setCell g 28 _ (fun h=>h rfl)).setCell g 30 _ (fun h=>h rfl)⟩
  by_cases k4:k = 2
  · subst k4
    go_enter Tryz.func51,Tryz.ntmps51
    go_wp2
    go_end0
    exact ⟨rfl,(HK.out.set 9 _ { P with ii:=true } rfl rfl).set 10 _ _ rfl rfl,((Fm.Fr.refl (fun k=>k≠g) w).setCell g 29 _ (fun h=>h rfl)).setCell g 30 _ (fun h=>h rfl)⟩
  by_cases k5:k = 3
  · subst k5
    go_enter Tryz.func51,Tryz.ntmps51
    go_wp2
    go_end0
    exact ⟨rfl,(HK.out.set 9 _ { P with ii:=false } rfl rfl).set 10 _ _ rfl rfl,((Fm.Fr.refl (fun k=>k≠g) w).setCell g 29 _ (fun h=>h rfl)).setCell g 30 _ (fun h=>h rfl)⟩
  have e:sy k P.ic P.ii P.ib = (P.ic,P.ii,true):=by unfold sy; rw [if_neg (by omega),if_neg k2,if_neg k3,if_neg k4,if_neg k5]
  rw [e]
  have q0:(k == -1) = false:=by simp [k0]
  have q1:(k == 1000) = false:=by simp [k1]
  have q2:(k == 0) = false:=by simp [k2]
  have q3:(k == 1) = false:=by simp [k3]
  have q4:(k == 2) = false:=by simp [k4]
  have q5:(k == 3) = false:=by simp [k5]
  clear k0 k1 k2 k3 k4 k5 e
  go_enter Tryz.func51,Tryz.ntmps51
  go_wp2
  go_end0
  exact ⟨rfl,HK.out.set 10 _ _ rfl rfl,(Fm.Fr.refl (fun k=>k≠g) w).setCell g 30 _ (fun h=>h rfl)⟩
end Go.Proofs.YtfjjpbebnoghmaaGreatDoor
namespace Go.Proofs.YtfjjpbebnoghmaaGreatDoor.Bs
open Go.RowKit
def oc1 (x:Int):Int:=IntKind.u64.wrap (bits .and .u64 (x / 2) 6148914691236517205 + bits .and .u64 x 6148914691236517205)
def oc2 (y:Int):Int:=IntKind.u64.wrap (bits .and .u64 (y / 4) 3689348814741910323 + bits .and .u64 y 3689348814741910323)
def oc3 (y:Int):Int:=bits .and .u64 (IntKind.u64.wrap (y / 16 + y)) 1085102592571150095
def oc4 (y:Int):Int:=IntKind.u64.wrap (y + y / 256)
def oc5 (y:Int):Int:=IntKind.u64.wrap (y + y / 65536)
def oc6 (y:Int):Int:=IntKind.u64.wrap (y + y / 4294967296)
def oc (x:Int):Int:=bits .and .i64 (wrap64 (oc6 (oc5 (oc4 (oc3 (oc2 (oc1 x))))))) 127
def pw (n:Int):Bool:=n == 64 || n == 128 || n == 256 || n == 512 || n == 1024 || n == 2048 || n == 4096 || n == 8192 || n == 16384
theorem oc_pow0:∀ a:Fin 129, ∀ b:Fin 128,64≤128 * a.val + b.val→128 * a.val + b.val≤16384→(oc ((128 * a.val + b.val:Nat):Int) != 1) = !pw ((128 * a.val + b.val:Nat):Int):=by decide +kernel
theorem oc_pow (x:Int) (h0:64≤x) (h1:x≤16384):(oc x != 1) = !pw x:=by
  have h:=oc_pow0 ⟨x.toNat / 128,by omega⟩ ⟨x.toNat % 128,by omega⟩ (by simp only; omega) (by simp only; omega)
  have e:((128 * (x.toNat / 128) + x.toNat % 128:Nat):Int) = x:=by omega
  simp only [e] at h
  exact h
def pl (n:Int):Bool:=n == 1 || n == 2 || n == 4 || n == 8 || n == 16 || n == 32 || n == 64 || n == 128 || n == 256 || n == 512 || n == 1024
end Go.Proofs.YtfjjpbebnoghmaaGreatDoor.Bs
namespace Go.Proofs.YtfjjpbebnoghmaaGreatDoor.Bs
open Go.RowKit
set_option maxHeartbeats 400000 in
theorem ones64 (x:Int) (_h0:0≤x) (_h1:x≤16384) (w:World) :
    Calls Tryz.prog 61 #[.int .u64 x] w fun e w'=>e = .returned (.int .i64 (oc x))∧w' = w:=by
  go_enter Tryz.func61,Tryz.ntmps61
  go_wp2
  go_ret
  exact ⟨rfl,rfl⟩
theorem ones (x:Int) (h0:0≤x) (h1:x≤16384) (w:World) :
    Calls Tryz.prog 35 #[.int .u64 x] w fun e w'=>e = .returned (.int .i64 (oc x))∧w' = w:=by
  go_enter Tryz.func35,Tryz.ntmps35
  go_wp2_with (go_at_call 61; refine (ones64 _ (by omega) (by omega) _).mono ?_; rintro e w' ⟨rfl,rfl⟩)
  go_ret
  exact ⟨rfl,rfl⟩
def gd (b v:Int):Int:=if pw b = true∧1≤v∧v≤32 then 0 else 10
theorem gd_no {b v:Int} (h:pw b = false∨v < 1∨32 < v):(10:Int) = gd b v:=by
  unfold gd; rw [if_neg]; rintro ⟨a,c,d⟩; rcases h with h | h | h
  · rw [a] at h; cases h
  · omega
  · omega
theorem gd_yes {b v:Int} (h:pw b = true) (h1:1≤v) (h2:v≤32):(0:Int) = gd b v:=by
  unfold gd; rw [if_pos ⟨h,h1,h2⟩]
theorem pw_low {b:Int} (h:b < 64):pw b = false:=by
  unfold pw; simp only [Bool.or_eq_false_iff,beq_eq_false_iff_ne]; omega
theorem pw_high {b:Int} (h:16384 < b):pw b = false:=by
  unfold pw; simp only [Bool.or_eq_false_iff,beq_eq_false_iff_ne]; omega
theorem ret_i {a b:Int} (h:a = b):Ending.returned (.int .i64 a) = .returned (.int .i64 b):=by rw [h]
abbrev sc (b v:Int):Value:=.agg #[.int .i64 b,.int .i64 v]
set_option maxHeartbeats 400000 in
theorem good6 (b v:Int) (w:World) :
    Calls Tryz.prog 11 #[sc b v] w fun e w'=>e = .returned (.int .i64 (gd b v))∧Below w.heap.size w w':=by
  by_cases c1:b < 64
  · go_enter Tryz.func11,Tryz.ntmps11
    go_wp2
    go_ret
    exact ⟨ret_i (gd_no (.inl (pw_low c1))),(Below.refl _ _).alloc (Nat.le_refl _) _⟩
  · by_cases c2:16384 < b
    · go_enter Tryz.func11,Tryz.ntmps11
      go_wp2
      go_ret
      exact ⟨ret_i (gd_no (.inl (pw_high c2))),(Below.refl _ _).alloc (Nat.le_refl _) _⟩
    · have hp:=oc_pow b (by omega) (by omega)
      cases hpw:pw b
      · rw [hpw] at hp
        have H:Hid (pw b = false):=hpw
        clear hpw
        go_enter Tryz.func11,Tryz.ntmps11
        go_wp2_with (go_at_call 35; refine (ones _ (by omega) (by omega) _).mono ?_; rintro e w' ⟨rfl,rfl⟩)
        go_ret
        exact ⟨ret_i (gd_no (.inl H.out)),(Below.refl _ _).alloc (Nat.le_refl _) _⟩
      · rw [hpw] at hp
        have H:Hid (pw b = true):=hpw
        clear hpw
        by_cases c3:v < 1
        · go_enter Tryz.func11,Tryz.ntmps11
          go_wp2_with (go_at_call 35; refine (ones _ (by omega) (by omega) _).mono ?_; rintro e w' ⟨rfl,rfl⟩)
          go_ret
          exact ⟨ret_i (gd_no (.inr (.inl c3))),(Below.refl _ _).alloc (Nat.le_refl _) _⟩
        · by_cases c4:32 < v
          · go_enter Tryz.func11,Tryz.ntmps11
            go_wp2_with (go_at_call 35; refine (ones _ (by omega) (by omega) _).mono ?_; rintro e w' ⟨rfl,rfl⟩)
            go_ret
            exact ⟨ret_i (gd_no (.inr (.inr c4))),(Below.refl _ _).alloc (Nat.le_refl _) _⟩
          · go_enter Tryz.func11,Tryz.ntmps11
            go_wp2_with (go_at_call 35; refine (ones _ (by omega) (by omega) _).mono ?_; rintro e w' ⟨rfl,rfl⟩)
            go_ret
            exact ⟨ret_i (gd_yes H.out (by omega) (by omega)),(Below.refl _ _).alloc (Nat.le_refl _) _⟩
end Go.Proofs.YtfjjpbebnoghmaaGreatDoor.Bs
namespace Go.Proofs.YtfjjpbebnoghmaaGreatDoor.Bs
open Go.RowKit
theorem pw_cases {t:Int} (h:pw t = true):t = 64∨t = 128∨t = 256∨t = 512∨t = 1024∨t = 2048∨t = 4096∨t = 8192∨t = 16384:=by
  unfold pw at h; simp only [Bool.or_eq_true,beq_iff_eq] at h; omega
theorem pw_bd {t:Int} (h:pw t = true):64≤t∧t≤16384:=by have:=pw_cases h; omega
def iz (zs:List Int) (i:Nat):Int:=zs.getD i 0
def RZ (w:World) (v:Value) (zs:List Int):Prop:=
  ∃ a c,v = .slice a zs.length c∧(a = none→zs = [])∧(zs = []∨∃ g o,a = some ⟨g,o,none⟩∧g < w.heap.size∧∀ i,i < zs.length→w.cell? ⟨g,o + i,none⟩ = some (.int .i64 (iz zs i)))
theorem RZ.keep {w w':World} {v:Value} {zs:List Int} (h:RZ w v zs) (hb:Below w.heap.size w w'):RZ w' v zs:=by
  obtain ⟨a,c,rfl,h0,h⟩:=h
  refine ⟨a,c,rfl,h0,?_⟩
  rcases h with h | ⟨g,o,rfl,h1,h2⟩
  · exact .inl h
  · exact .inr ⟨g,o,rfl,Nat.lt_of_lt_of_le h1 hb.size,fun i hi=>(World.cell?_of_block (w:=w) (hb.block g h1)).trans (h2 i hi)⟩
theorem info3:(Tryz.prog.info? 3).map (fun i=>(i.zero,i.size,i.bytes)) = some (some (.int .i64 0),1,8):=by kernel_rfl
def OZ (B:Nat) (w:World) (v:Value) (zs:List Int):Prop:=w.ownsRow B 3 1 v zs.length (zs.map (Value.int .i64))
theorem OZ.form {B:Nat} {w:World} {v:Value} {zs:List Int} (h:OZ B w v zs):∃ a c,v = .slice a zs.length c:=by
  rcases h.2 with ⟨h1,h2⟩ | ⟨g,cap,cur,h1,h2,h3,_⟩
  · exact ⟨none,0,by rw [h1,h2]⟩
  · exact ⟨_,_,h1⟩
theorem OZ.grow {B:Nat} {w w':World} {v:Value} {zs:List Int} (h:OZ B w v zs) (hb:Below w.heap.size w w'):OZ B w' v zs:=by
  refine ⟨h.1,?_⟩
  rcases h.2 with h1 | ⟨g,cap,cur,h1,h2,h3,h4⟩
  · exact .inl h1
  · exact .inr ⟨g,cap,cur,h1,h2,(hb.block g (Array.getElem?_eq_some_iff.1 h3).1).trans h3,h4⟩
theorem OZ.rz {B:Nat} {w:World} {v:Value} {zs:List Int} (h:OZ B w v zs):RZ w v zs:=by
  have h':=h
  rcases h.2 with ⟨rfl,h0⟩ | ⟨g,cap,cur,rfl,_,hg,_⟩
  · have e:=List.length_eq_zero_iff.1 h0
    exact ⟨none,0,by rw [h0],fun _=>e,.inl e⟩
  · refine ⟨_,cap,rfl,(fun hh=>by cases hh),.inr ⟨g,0,rfl,(Array.getElem?_eq_some_iff.1 hg).1,fun i hi=>?_⟩⟩
    have:=World.ownsRow.cellAt h' i (by omega)
    rw [Nat.zero_add,this]
    simp [iz,List.getElem?_eq_getElem hi,List.getD]
theorem OZ.at {B:Nat} {w:World} {a:Option Addr} {n c:Nat} {zs:List Int} (h:OZ B w (.slice a n c) zs) (q:Nat) (hq:q < n) :
    ∃ g,a = some ⟨g,0,none⟩∧B≤g∧g < w.heap.size∧w.cell? ⟨g,q,none⟩ = some (.int .i64 (iz zs q))∧w.frozen? ⟨g,q,none⟩ = false:=by
  have hn:n = zs.length:=by
    rcases h.2 with ⟨h1,h2⟩ | ⟨g,cap,cur,h1,h2,h3,_⟩
    · simp only [Value.slice.injEq] at h1; omega
    · simp only [Value.slice.injEq] at h1; exact h1.2.1
  subst hn
  rcases h.2 with ⟨h1,h2⟩ | ⟨g,cap,cur,h1,h2,h3,_⟩
  · simp only [Value.slice.injEq] at h1; omega
  · simp only [Value.slice.injEq] at h1
    obtain ⟨rfl,_,rfl⟩:=h1
    refine ⟨g,rfl,h2,(Array.getElem?_eq_some_iff.1 h3).1,?_,World.ownsRow.frozenAt h q⟩
    have:=World.ownsRow.cellAt h q (by omega)
    rw [this]
    simp [iz,List.getElem?_eq_getElem hq,List.getD]
theorem OZ.stored {B g c n:Nat} {w:World} {zs:List Int} (h:OZ B w (.slice (some ⟨g,0,none⟩) n c) zs) (j:Nat) (y:Int) :
    OZ B (w.setCell ⟨g,j,none⟩ (.int .i64 y)) (.slice (some ⟨g,0,none⟩) n c) (zs.set j y):=by
  have hn:n = zs.length:=by
    obtain ⟨_,_,h⟩:=h.form
    simp at h; exact h.2.1
  subst hn
  have:=(World.ownsRow.stored h j (.int .i64 y)).1
  unfold OZ
  rw [List.length_set]
  have e:(zs.set j y).map (Value.int .i64) = (zs.map (Value.int .i64)).set j (.int .i64 y):=by simp [List.map_set]
  rw [e]; exact this
theorem append_nothing {w:World} {B:Nat} {v:Value} {n:Nat} {xs:List Value} (ty:TypeId) (c:Nat) (hown:w.ownsRow B 3 1 v n xs) :
    (Builtin.append_ #[26,26] ty #[v,.slice none 0 c]).run Tryz.prog w = .ok v w:=by
  obtain ⟨i0,hi,hz0,hz1,hz2⟩:=info_parts info3
  rcases hown.2 with ⟨rfl,rfl⟩ | ⟨g,cap,cur,rfl,_,_,hnc,_⟩
  · simp [Builtin.append_,run_underlying Tryz.underlying26,sizeOf,typeInfo,hi,Builtin.lenOf,Builtin.firstCells]
  · simp [Builtin.append_,run_underlying Tryz.underlying26,sizeOf,typeInfo,hi,Builtin.lenOf,Builtin.firstCells,hnc,storeCells]
theorem append_ints {ops:Array Oper} {rest:List Oper} {o:Oper} {a:Act} {Q:Exit→Act→World→Prop} {w:World} {B:Nat} {sv xv:Value} {l m:List Int} (hgd:o.guard = none) (s x:Operand)
    (ho:o.op = .call { callee:=.builtin .append,args:=#[s,x],argTypes:=#[26,26] }) (hs:a.eval s = sv) (hown:OZ B w sv l) (hx:a.eval x = xv)
    (hr:RZ w xv m) (hB:B≤w.heap.size) (hlim:(l.length + m.length) * 8≤140737488351232)
    (h:∀ v' w',OZ B w' v' (l ++ m)→Below B w w'→wpList Tryz.prog ops Q rest (a.put o.dst v') w'):wpList Tryz.prog ops Q (o :: rest) a w:=by
  obtain ⟨i0,hi,hz0,hz1,hz2⟩:=info_parts info3
  obtain ⟨ad,c,rfl,_,hr⟩:=hr
  have hm:∀ b off,ad = some ⟨b,off,none⟩∧(∀ i,i < m.length→w.cell? ⟨b,off + i,none⟩ = some (.int .i64 (iz m i)))→wpList Tryz.prog ops Q (o :: rest) a w:=by
    rintro b off ⟨rfl,hc⟩
    refine wpList_append_own w hgd s x 26 ho B 3 i0 _ 1 8 Tryz.underlying26 hi hz0 hz1 hz2 rfl (by omega) sv l.length (l.map (Value.int .i64)) hs hown ⟨b,off,none⟩ m.length c (m.map (Value.int .i64)) hx (by simp) (fun j u hu=>?_) (fun u hu=>?_) (by unfold maxLen; omega) (by omega) hB (fun v' w' h1 h2 _=>?_)
    · have hj':j < m.length:=by
        have:=(List.getElem?_eq_some_iff.1 hu).1
        simpa using this
      have hadd:(⟨b,off,none⟩:Addr).add j = ⟨b,off + j,none⟩:=by unfold Addr.add; split <;> simp_all
      rw [hadd,hc j hj']
      simpa [iz,List.getD,List.getElem?_eq_getElem hj'] using hu
    · obtain ⟨z,_,rfl⟩:=List.mem_map.1 hu
      rfl
    · refine h v' w' ?_ ((Below.refl B w).grown h2 hB (fun k hk=>(World.ownsRow.lt hown k hk).1))
      rw [← List.map_append] at h1
      simpa [OZ] using h1
  rcases hr with rfl | ⟨b,off,rfl,_,hc⟩
  · cases ad with
    | none =>
      refine wpList_plain hgd fun K hK=>?_
      have hrun:=append_nothing o.type c hown
      simp only [List.length_nil] at hx
      unfold Oper.wp
      simp [execOp,ho,resolve,invoke,builtin,hs,hx,hrun,Result.andThen]
      exact hK _ _ (h _ _ (by rw [List.append_nil]; exact hown) (Below.refl _ _))
    | some ad =>
      refine wpList_append_own w hgd s x 26 ho B 3 i0 _ 1 8 Tryz.underlying26 hi hz0 hz1 hz2 rfl (by omega) sv l.length (l.map (Value.int .i64)) hs hown ad 0 c [] hx (by simp) (fun j u hu=>by simp at hu) (fun u hu=>by cases hu) (by unfold maxLen; simp at hlim; omega) (by simp at hlim; omega) hB (fun v' w' h1 h2 _=>?_)
      refine h v' w' ?_ ((Below.refl B w).grown h2 hB (fun k hk=>(World.ownsRow.lt hown k hk).1))
      rw [List.append_nil] at h1 ⊢
      simpa [OZ] using h1
  · exact hm b off ⟨rfl,hc⟩
set_option maxHeartbeats 1000000 in
theorem clone12 (v:Value) (l:List Int) (w:World) (hr:RZ w v l) (hl:l.length * 8≤140737488351232) :
    Calls Tryz.prog 15 #[v] w fun e w'=>∃ v',e = .returned v'∧OZ w.heap.size w' v' l∧Below w.heap.size w w':=by
  have HR:Hid (RZ w v l):=hr
  obtain ⟨a,c,rfl,h0,hr⟩:=hr
  cases a with
  | none =>
    have e:=h0 rfl
    subst e
    have hq:=fun u:World=>Lib.run_eql_slice_nil (P:=Tryz.prog) u 26 3 none 0 c 0 0 Tryz.underlying26
    clear HR hr h0
    go_enter Tryz.func15,Tryz.ntmps15
    go_wp2
    go_ret
    exact ⟨_,rfl,World.ownsRow_nil _ _ _ _,Below.refl _ _⟩
  | some x =>
    have hq:=fun u:World=>Lib.run_eql_slice_nil (P:=Tryz.prog) u 26 3 (some x) l.length c 0 0 Tryz.underlying26
    clear hr h0
    have hb0:Below w.heap.size w (w.alloc (.cells #[] 3)):=(Below.refl _ _).alloc (Nat.le_refl _) _
    have HO:Hid (OZ w.heap.size (w.alloc (.cells #[] 3)) (.slice (some ⟨w.heap.size,0,none⟩) 0 0) []∧RZ (w.alloc (.cells #[] 3)) (.slice (some x) l.length c) l∧Below w.heap.size w (w.alloc (.cells #[] 3))):=
      ⟨World.ownsRow_lit w #[] 0 (Nat.le_refl _) (Nat.zero_le _) rfl,HR.out.keep hb0,hb0⟩
    clear hb0
    go_enter Tryz.func15,Tryz.ntmps15
    go_wp2_with (at_builtin; refine append_ints rfl _ _ rfl rfl HO.out.1 rfl HO.out.2.1 (by simp) (by simp; omega) ?_; intro v' w1 ho1 hb1)
    rw [List.nil_append] at ho1
    obtain ⟨a',c',rfl⟩:=ho1.form
    go_ret
    exact ⟨_,rfl,ho1,HO.out.2.2.trans hb1⟩
def bad (b n:Int):Bool:=decide (n < 1) || decide (1024 * b < n)
set_option maxHeartbeats 1000000 in
theorem wrong9 (n b:Int) (h0:64≤b) (h1:b≤16384) (B:Nat) (w:World) (hc:w.cell? ⟨B,0,none⟩ = some (.int .i64 b)) :
    Calls Tryz.prog 12 #[.int .i64 n,.pointer (some ⟨B,0,none⟩)] w fun e w'=>e = .returned (.bool (bad b n))∧w' = w:=by
  by_cases c1:n < 1
  · have e:bad b n = true:=by unfold bad; simp [c1]
    rw [e]
    clear e
    go_enter Tryz.func12,Tryz.ntmps12
    go_wp2
    go_ret
    exact ⟨rfl,rfl⟩
  · by_cases c2:1024 * b < n
    · have e:bad b n = true:=by unfold bad; simp [c2]
      rw [e]
      clear e
      go_enter Tryz.func12,Tryz.ntmps12
      go_wp2
      go_ret
      exact ⟨rfl,rfl⟩
    · have e:bad b n = false:=by unfold bad; simp [c1,c2]
      rw [e]
      clear e
      go_enter Tryz.func12,Tryz.ntmps12
      go_wp2
      go_ret
      exact ⟨rfl,rfl⟩
end Go.Proofs.YtfjjpbebnoghmaaGreatDoor.Bs
namespace Go.Proofs.YtfjjpbebnoghmaaGreatDoor.Bs
open Go.RowKit
theorem any_step {b:Int} {L:List Int} {k:Nat} (h:∀ a,a < k→bad b (iz L a) = false) (hz:bad b (iz L k) = false):∀ a,a < k + 1→bad b (iz L a) = false:=fun a ha=>by
  by_cases e:a = k
  · rw [e]; exact hz
  · exact h a (by omega)
theorem any_yes {b:Int} {L:List Int} {k:Nat} (hk:k < L.length) (hz:bad b (iz L k) = true):L.any (bad b) = true:=by
  rw [List.any_eq_true]
  refine ⟨L[k],List.getElem_mem _,?_⟩
  simpa [iz,List.getD,List.getElem?_eq_getElem hk] using hz
theorem any_no {b:Int} {L:List Int} (h:∀ a,a < L.length→bad b (iz L a) = false):L.any (bad b) = false:=by
  rw [List.any_eq_false]
  intro x hx
  obtain ⟨i,hi,rfl⟩:=List.getElem_of_mem hx
  have:=h i hi
  simp only [iz,List.getD,List.getElem?_eq_getElem hi,Option.getD_some] at this
  simp [this]
set_option maxHeartbeats 1000000 in
theorem idx33 (v:Value) (L:List Int) (b:Int) (h0:64≤b) (h1:b≤16384) (B:Nat) (w:World) (hl:L.length≤140737488351232) (hr:RZ w v L) (hc:w.cell? ⟨B,0,none⟩ = some (.int .i64 b)) :
    Calls Tryz.prog 36 #[v,.func (.func 12) #[] #[.pointer (some ⟨B,0,none⟩)]] w fun e w'=>∃ r:Int,e = .returned (.int .i64 r)∧decide (0≤r) = L.any (bad b)∧∃ n,w' = w.drewN n:=by
  obtain ⟨a1,c1,rfl,_,hr⟩:=hr
  have HR:Hid (L = []∨∃ g o,a1 = some (⟨g,o,none⟩:Addr)∧g < w.heap.size∧∀ i,i < L.length→w.cell? ⟨g,o + i,none⟩ = some (.int .i64 (iz L i))):=hr
  have HC:Hid (w.cell? ⟨B,0,none⟩ = some (.int .i64 b)):=hc
  clear hr hc
  generalize hn:L.length = n at *
  have HN:Hid (L.length = n):=hn
  clear hn
  go_enter Tryz.func36,Tryz.ntmps36
  go_wp2
  go_loopw [8] (fun i wr=>∃ k nq:Nat,k≤n∧i = .int .i64 k∧wr = w.drewN nq∧Hid (∀ a,a < k→bad b (iz L a) = false)) (fun i _=>n - (intOf i).toNat)
  case atStart=>exact ⟨0,0,Nat.zero_le _,rfl,rfl,fun i h=>by omega⟩
  case round =>
    obtain ⟨k,nq,hk,rfl,rfl,HA⟩:=hrel
    by_cases hlt:k < n
    · rcases HR.out with hnil | ⟨g,o,rfl,hg,hcs⟩
      · have:=HN.out; rw [hnil] at this; simp at this; omega
      have k1:(w.drewN nq).cell? ⟨g,o + k,none⟩ = some (.int .i64 (iz L k)):=hcs k hlt
      have HW:Hid (Calls Tryz.prog 12 #[.int .i64 (iz L k),.pointer (some ⟨B,0,none⟩)] (w.drewN nq) fun e w'=>e = .returned (.bool (bad b (iz L k)))∧w' = w.drewN nq):=wrong9 _ b h0 h1 B _ HC.out
      clear hcs
      cases hz:bad b (iz L k)
      · have HA':Hid (∀ a,a < k + 1→bad b (iz L a) = false):=any_step HA.out hz
        rw [hz] at HW
        clear hz HA
        generalize iz L k = x at *
        go_wp2_with fail
        refine HW.out.mono ?_
        rintro e w1 ⟨rfl,rfl⟩
        go_wp2
        go_roundw
        case rel=>exact ⟨k + 1,_,by omega,by go_num,rfl,HA'⟩
        case measure=>simp [intOf]; omega
      · have HZ:Hid (L.any (bad b) = true):=any_yes (by rw [HN.out]; exact hlt) hz
        rw [hz] at HW
        clear hz HA
        generalize iz L k = x at *
        go_wp2_with fail
        refine HW.out.mono ?_
        rintro e w1 ⟨rfl,rfl⟩
        go_wp2
        go_ret
        exact ⟨k,rfl,by rw [HZ.out]; simp,_,rfl⟩
    · have HZ:Hid (L.any (bad b) = false):=any_no (fun a ha=>HA.out a (by have:=HN.out; omega))
      clear HA
      go_wp2
      go_ret
      exact ⟨-1,rfl,by rw [HZ.out]; simp,_,rfl⟩
set_option maxHeartbeats 1000000 in
theorem contains10 (v:Value) (L:List Int) (b:Int) (h0:64≤b) (h1:b≤16384) (B:Nat) (w:World) (hl:L.length≤140737488351232) (hr:RZ w v L) (hc:w.cell? ⟨B,0,none⟩ = some (.int .i64 b)) :
    Calls Tryz.prog 13 #[v,.func (.func 12) #[] #[.pointer (some ⟨B,0,none⟩)]] w fun e w'=>e = .returned (.bool (L.any (bad b)))∧∃ n,w' = w.drewN n:=by
  have HI:Hid (Calls Tryz.prog 36 #[v,.func (.func 12) #[] #[.pointer (some ⟨B,0,none⟩)]] w fun e w'=>∃ r:Int,e = .returned (.int .i64 r)∧decide (0≤r) = L.any (bad b)∧∃ n,w' = w.drewN n):=idx33 v L b h0 h1 B w hl hr hc
  obtain ⟨a1,c1,rfl,_,_⟩:=hr
  clear hc
  go_enter Tryz.func13,Tryz.ntmps13
  go_wp2_with fail
  refine HI.out.mono ?_
  rintro e w1 ⟨r,rfl,hr,nq,rfl⟩
  have HA:Hid (decide (0≤r) = L.any (bad b)):=hr
  clear hr HI
  go_wp2
  go_ret
  exact ⟨congrArg (fun x=>Ending.returned (.bool x)) HA.out,_,rfl⟩
end Go.Proofs.YtfjjpbebnoghmaaGreatDoor.Bs
