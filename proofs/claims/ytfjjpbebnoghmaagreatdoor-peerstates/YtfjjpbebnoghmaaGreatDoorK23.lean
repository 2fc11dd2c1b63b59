import Derived.Test.YtfjjpbebnoghmaaGreatDoorK00
import Derived.Test.YtfjjpbebnoghmaaGreatDoorK21
import Derived.Test.YtfjjpbebnoghmaaGreatDoorK18
import Derived.Test.YtfjjpbebnoghmaaGreatDoorK22
import Derived.Test.YtfjjpbebnoghmaaGreatDoorK16
namespace Go.Proofs.YtfjjpbebnoghmaaGreatDoor
open Go.RowKit
def rlE (L:List Int) (b:Int) (hd:Bool) (m:Mv) (D:List UInt8):Int:=
  if m.k = 5 then (if hd = true then 172 else if Bs.ck (L.length:Int) D = 0 then 0 else 173)
  else if m.k = 4 then (if (L.length:Int)≤m.i then 174 else 0)
  else if m.k = 6∨m.k = 8 then (if rgp L b m.i m.b m.l = true then 0 else 174)
  else if m.k = 7 then (if blE L b m.i m.b D.length = true then 0 else 174) else 0
set_option maxHeartbeats 4000000 in
set_option maxRecDepth 100000 in
theorem rlegalT (w:World) (g:Nat) (Q:Rv) (L:List Int) (h:PQ w g Q L) (m:Mv) (D:List UInt8) (hd:RB w m.d D) (hm:MBd m D.length) :
    Calls Tryz.prog 46 #[.pointer (some ⟨g,0,none⟩),.agg m.cs] w fun e w'=>e = .returned (.int .i64 (rlE L Q.b Q.hd m D))∧Below w.heap.size w w':=by
  obtain ⟨da,dc,hda,_⟩:=id hd
  obtain ⟨la,lc,hln,_⟩:=id h.rz
  have hL16:=h.ok.1
  have hb:MB (w.alloc (.cells m.cs 40)) w.heap.size m:=heapNew w (.cells m.cs 40)
  have HB:Hid (Below w.heap.size w (w.alloc (.cells m.cs 40))):=(Below.refl _ _).alloc (Nat.le_refl _) _
  have HLies:Hid (∀ n:Int,0≤n→n≤140737488351232→∀ u,Below w.heap.size w u→Calls Tryz.prog 81 #[.pointer (some ⟨g,0,none⟩),.int .i64 m.i,.int .i64 m.b,.int .i64 n] u fun e w'=>e = .returned (.bool (rgp L Q.b m.i m.b n))∧w' = u):=fun n h0 h1 u hu=>liesT u g Q L (h.below hu) m.i m.b n hm.b0 hm.b1 h0 h1
  have HBlk:Hid (∀ n:Int,0≤n→n≤140737488351232→∀ u,Below w.heap.size w u→Calls Tryz.prog 82 #[.pointer (some ⟨g,0,none⟩),.int .i64 m.i,.int .i64 m.b,.int .i64 n] u fun e w'=>e = .returned (.bool (blE L Q.b m.i m.b n))∧w' = u):=fun n h0 h1 u hu=>blockT u g Q L (h.below hu) m.i m.b n hm.b0 hm.b1 h0 h1
  have HChk:Hid (∀ u,Below w.heap.size w u→Calls Tryz.prog 80 #[.int .i64 (L.length:Int),m.d] u fun e w'=>e = .returned (.int .i64 (Bs.ck (L.length:Int) D))∧∃ nq,w' = u.drewN nq):=fun u hu=>Bs.check11 _ (by omega) (by omega) _ _ u (bsRB (hd.keep hu)) hm.n1
  have c0:=hb.c0
  have c1:=hb.cell 1 (show m.ls[1]? = some (.int .i64 m.i) from rfl)
  have c2:=hb.cell 2 (show m.ls[2]? = some (.int .i64 m.b) from rfl)
  have c3:=hb.cell 3 (show m.ls[3]? = some (.int .i64 m.l) from rfl)
  have c4:=hb.cell 4 (show m.ls[4]? = some m.d from rfl)
  have HS0:Hid (MB (w.alloc (.cells m.cs 40)) w.heap.size m):=hb
  have rq0:RQ (w.alloc (.cells m.cs 40)) g Q:=(h.below HB.out).rq
  have cH:=rq0.at 10 (show Q.tl[10]? = some (.bool Q.hd) from rfl)
  rw [hda] at HChk c4
  have hl0:=hm.l0
  have hl1:=hm.l1
  have hn1:=hm.n1
  clear hb h hd hm
  generalize hdn:D.length = dn at *
  generalize hnl:L.length = nl at *
  by_cases k5:m.k = 5
  · rw [k5] at c0
    have hE:rlE L Q.b Q.hd m D = (if Q.hd = true then 172 else if Bs.ck (nl:Int) D = 0 then 0 else 173):=by unfold rlE; rw [if_pos k5,hnl]
    rw [hE]
    clear hE k5 HLies HBlk
    cases hhd:Q.hd
    · rw [hhd] at cH
      simp only [Bool.false_eq_true,if_false]
      by_cases hck:Bs.ck (nl:Int) D = 0
      · rw [if_pos hck]
        rw [hck] at HChk
        clear hck hhd
        go_enter Tryz.func46,Tryz.ntmps46
        go_upto_region 5 with fail
        refine wp_region_held_drew (S:=fun u=>RQ u g Q∧MB u w.heap.size m∧Below w.heap.size w u) (by kernel_rfl) (⟨rq0.keep ((belowDrew _ 1).block g rq0.lt),HS0.out.below (belowDrew _ 1),belowN HB.out 1⟩) (fun hHeld=>?_)
        refine tkB (i:=0) (v:=.pointer (some ⟨g,0,none⟩)) rfl hHeld ?_
        simp only [Act.put,zq1,zq2,zq4,zq5,zq6]
        refine tkB (i:=1) (v:=.pointer (some ⟨g,0,none⟩)) rfl hHeld ?_
        simp only [Act.put,zq1,zq2,zq3,zq4,zq5,zq6]
        refine tkB (i:=2) (v:=.pointer (some ⟨g,22,none⟩)) rfl hHeld ?_
        simp only [Act.put,zq1,zq2,zq3,zq4,zq5,zq6]
        refine tkA (i:=3) (v:=.slice la nl lc) rfl (Or.inl ⟨by rfl,fun w hw=>by have hq:=hw.1.at 0 (show Q.tl[0]? = some Q.ln from rfl); rw [hln] at hq; go_simp⟩) hHeld ?_
        simp only [Act.put,zq1,zq2,zq3,zq4,zq5,zq6]
        refine tkB (i:=4) (v:=.int .i64 (nl:Int)) rfl hHeld ?_
        simp only [Act.put,zq1,zq2,zq3,zq4,zq5,zq6]
        refine tkB (i:=5) (v:=.pointer (some ⟨w.heap.size,4,none⟩)) rfl hHeld ?_
        simp only [Act.put,zq1,zq2,zq3,zq4,zq5,zq6]
        refine tkA (i:=6) (v:=.slice da dn dc) rfl (Or.inl ⟨by rfl,fun w hw=>by have hq:=hw.2.1.cell 4 (show m.ls[4]? = some m.d from rfl); rw [hda] at hq; go_simp⟩) hHeld ?_
        simp only [Act.put,zq1,zq2,zq3,zq4,zq5,zq6]
        refine wpAnyH_ready (rs:=[7]) (by kernel_rfl) (by simp) ?_
        refine AllReadyH.cons (o:=_) rfl (fun K hK=>?_) AllReadyH.nil
        go_simp
        refine (HChk.out _ hHeld.2.2).mono ?_
        rintro e w' ⟨rfl,n2,rfl⟩
        go_wp2_with fail
        refine hK.out _ _ (⟨rq0.keep ((belowDrew _ (1 + n2)).block g rq0.lt),HS0.out.below (belowDrew _ (1 + n2)),belowN HB.out (1 + n2)⟩) (fun hHeld=>?_)
        clear hK K
        refine tkB (i:=8) (v:=.int .i64 0) rfl hHeld ?_
        simp only [Act.put,zq1,zq2,zq3,zq4,zq5,zq6]
        refine wpAnyH_done (by kernel_rfl) ?_ _
        have HS1:=Lib.hid hHeld
        clear hHeld
        go_wp2
        go_ret
        exact ⟨rfl,HS1.out.2.2⟩
      · rw [if_neg hck]
        generalize Bs.ck (nl:Int) D = ck at *
        clear hhd
        go_enter Tryz.func46,Tryz.ntmps46
        go_upto_region 5 with fail
        refine wp_region_held_drew (S:=fun u=>RQ u g Q∧MB u w.heap.size m∧Below w.heap.size w u) (by kernel_rfl) (⟨rq0.keep ((belowDrew _ 1).block g rq0.lt),HS0.out.below (belowDrew _ 1),belowN HB.out 1⟩) (fun hHeld=>?_)
        refine tkB (i:=0) (v:=.pointer (some ⟨g,0,none⟩)) rfl hHeld ?_
        simp only [Act.put,zq1,zq2,zq4,zq5,zq6]
        refine tkB (i:=1) (v:=.pointer (some ⟨g,0,none⟩)) rfl hHeld ?_
        simp only [Act.put,zq1,zq2,zq3,zq4,zq5,zq6]
        refine tkB (i:=2) (v:=.pointer (some ⟨g,22,none⟩)) rfl hHeld ?_
        simp only [Act.put,zq1,zq2,zq3,zq4,zq5,zq6]
        refine tkA (i:=3) (v:=.slice la nl lc) rfl (Or.inl ⟨by rfl,fun w hw=>by have hq:=hw.1.at 0 (show Q.tl[0]? = some Q.ln from rfl); rw [hln] at hq; go_simp⟩) hHeld ?_
        simp only [Act.put,zq1,zq2,zq3,zq4,zq5,zq6]
        refine tkB (i:=4) (v:=.int .i64 (nl:Int)) rfl hHeld ?_
        simp only [Act.put,zq1,zq2,zq3,zq4,zq5,zq6]
        refine tkB (i:=5) (v:=.pointer (some ⟨w.heap.size,4,none⟩)) rfl hHeld ?_
        simp only [Act.put,zq1,zq2,zq3,zq4,zq5,zq6]
        refine tkA (i:=6) (v:=.slice da dn dc) rfl (Or.inl ⟨by rfl,fun w hw=>by have hq:=hw.2.1.cell 4 (show m.ls[4]? = some m.d from rfl); rw [hda] at hq; go_simp⟩) hHeld ?_
        simp only [Act.put,zq1,zq2,zq3,zq4,zq5,zq6]
        refine wpAnyH_ready (rs:=[7]) (by kernel_rfl) (by simp) ?_
        refine AllReadyH.cons (o:=_) rfl (fun K hK=>?_) AllReadyH.nil
        go_simp
        refine (HChk.out _ hHeld.2.2).mono ?_
        rintro e w' ⟨rfl,n2,rfl⟩
        go_wp2_with fail
        refine hK.out _ _ (⟨rq0.keep ((belowDrew _ (1 + n2)).block g rq0.lt),HS0.out.below (belowDrew _ (1 + n2)),belowN HB.out (1 + n2)⟩) (fun hHeld=>?_)
        clear hK K
        refine tkB (i:=8) (v:=.int .i64 ck) rfl hHeld ?_
        simp only [Act.put,zq1,zq2,zq3,zq4,zq5,zq6]
        refine wpAnyH_done (by kernel_rfl) ?_ _
        have HS1:=Lib.hid hHeld
        clear hHeld
        go_wp2
        go_ret
        exact ⟨rfl,HS1.out.2.2⟩
    · rw [hhd] at cH
      rw [if_pos rfl]
      clear hhd HChk
      go_enter Tryz.func46,Tryz.ntmps46
      go_wp2
      go_ret
      exact ⟨rfl,HB.out⟩
  by_cases k4:m.k = 4
  · rw [k4] at c0
    have hE:rlE L Q.b Q.hd m D = (if (nl:Int)≤m.i then 174 else 0):=by unfold rlE; rw [if_neg k5,if_pos k4,hnl]
    rw [hE]
    clear hE k5 k4 HLies HBlk HChk cH
    generalize hmi:m.i = mi at *
    by_cases hle:(nl:Int)≤mi
    · rw [if_pos hle]
      go_enter Tryz.func46,Tryz.ntmps46
      go_upto_region 9 with fail
      refine wp_region_held_drew (S:=fun u=>RQ u g Q∧MB u w.heap.size m∧Below w.heap.size w u) (by kernel_rfl) (⟨rq0.keep ((belowDrew _ 1).block g rq0.lt),HS0.out.below (belowDrew _ 1),belowN HB.out 1⟩) (fun hHeld=>?_)
      refine tkB (i:=0) (v:=.pointer (some ⟨w.heap.size,1,none⟩)) rfl hHeld ?_
      simp only [Act.put,zq1,zq2,zq4,zq5,zq6]
      refine tkA (i:=1) (v:=.int .i64 mi) rfl (Or.inl ⟨by rfl,fun w hw=>by have hq:=hw.2.1.cell 1 (show m.ls[1]? = some (.int .i64 m.i) from rfl); rw [hmi] at hq; go_simp⟩) hHeld ?_
      simp only [Act.put,zq1,zq2,zq3,zq4,zq5,zq6]
      refine tkB (i:=2) (v:=.pointer (some ⟨g,0,none⟩)) rfl hHeld ?_
      simp only [Act.put,zq1,zq2,zq3,zq4,zq5,zq6]
      refine tkB (i:=3) (v:=.pointer (some ⟨g,0,none⟩)) rfl hHeld ?_
      simp only [Act.put,zq1,zq2,zq3,zq4,zq5,zq6]
      refine tkB (i:=4) (v:=.pointer (some ⟨g,22,none⟩)) rfl hHeld ?_
      simp only [Act.put,zq1,zq2,zq3,zq4,zq5,zq6]
      refine tkA (i:=5) (v:=.slice la nl lc) rfl (Or.inl ⟨by rfl,fun w hw=>by have hq:=hw.1.at 0 (show Q.tl[0]? = some Q.ln from rfl); rw [hln] at hq; go_simp⟩) hHeld ?_
      simp only [Act.put,zq1,zq2,zq3,zq4,zq5,zq6]
      refine tkB (i:=6) (v:=.int .i64 (nl:Int)) rfl hHeld ?_
      simp only [Act.put,zq1,zq2,zq3,zq4,zq5,zq6]
      refine tkB (i:=7) (v:=.bool true) rfl hHeld ?_
      simp only [Act.put,zq1,zq2,zq3,zq4,zq5,zq6]
      refine wpAnyH_done (by kernel_rfl) ?_ _
      have HS1:=Lib.hid hHeld
      clear hHeld
      go_wp2
      go_ret
      exact ⟨rfl,HS1.out.2.2⟩
    · rw [if_neg hle]
      go_enter Tryz.func46,Tryz.ntmps46
      go_upto_region 9 with fail
      refine wp_region_held_drew (S:=fun u=>RQ u g Q∧MB u w.heap.size m∧Below w.heap.size w u) (by kernel_rfl) (⟨rq0.keep ((belowDrew _ 1).block g rq0.lt),HS0.out.below (belowDrew _ 1),belowN HB.out 1⟩) (fun hHeld=>?_)
      refine tkB (i:=0) (v:=.pointer (some ⟨w.heap.size,1,none⟩)) rfl hHeld ?_
      simp only [Act.put,zq1,zq2,zq4,zq5,zq6]
      refine tkA (i:=1) (v:=.int .i64 mi) rfl (Or.inl ⟨by rfl,fun w hw=>by have hq:=hw.2.1.cell 1 (show m.ls[1]? = some (.int .i64 m.i) from rfl); rw [hmi] at hq; go_simp⟩) hHeld ?_
      simp only [Act.put,zq1,zq2,zq3,zq4,zq5,zq6]
      refine tkB (i:=2) (v:=.pointer (some ⟨g,0,none⟩)) rfl hHeld ?_
      simp only [Act.put,zq1,zq2,zq3,zq4,zq5,zq6]
      refine tkB (i:=3) (v:=.pointer (some ⟨g,0,none⟩)) rfl hHeld ?_
      simp only [Act.put,zq1,zq2,zq3,zq4,zq5,zq6]
      refine tkB (i:=4) (v:=.pointer (some ⟨g,22,none⟩)) rfl hHeld ?_
      simp only [Act.put,zq1,zq2,zq3,zq4,zq5,zq6]
      refine tkA (i:=5) (v:=.slice la nl lc) rfl (Or.inl ⟨by rfl,fun w hw=>by have hq:=hw.1.at 0 (show Q.tl[0]? = some Q.ln from rfl); rw [hln] at hq; go_simp⟩) hHeld ?_
      simp only [Act.put,zq1,zq2,zq3,zq4,zq5,zq6]
      refine tkB (i:=6) (v:=.int .i64 (nl:Int)) rfl hHeld ?_
      simp only [Act.put,zq1,zq2,zq3,zq4,zq5,zq6]
      refine tkB (i:=7) (v:=.bool false) rfl hHeld ?_
      simp only [Act.put,zq1,zq2,zq3,zq4,zq5,zq6]
      refine wpAnyH_done (by kernel_rfl) ?_ _
      have HS1:=Lib.hid hHeld
      clear hHeld
      go_wp2
      go_ret
      exact ⟨rfl,HS1.out.2.2⟩
  by_cases k68:m.k = 6∨m.k = 8
  · have hE:rlE L Q.b Q.hd m D = (if rgp L Q.b m.i m.b m.l = true then 0 else 174):=by unfold rlE; rw [if_neg k5,if_neg k4,if_pos k68]
    rw [hE]
    have HLI:=HLies.out m.l hl0 (by omega) _ HB.out
    clear hE k5 k4 HLies HBlk HChk cH c4 hda
    generalize m.i = mi at *
    generalize m.b = mb at *
    generalize m.l = ml at *
    generalize m.k = mk at *
    cases hr:rgp L Q.b mi mb ml
    · rw [hr] at HLI
      rw [if_neg (by simp)]
      have HLI:=Lib.hid HLI
      rcases k68 with rfl | rfl
      · go_enter Tryz.func46,Tryz.ntmps46
        go_wp2_with fail
        refine HLI.out.mono ?_
        rintro e w1 ⟨rfl,rfl⟩
        go_wp2
        go_ret
        exact ⟨rfl,HB.out⟩
      · go_enter Tryz.func46,Tryz.ntmps46
        go_wp2_with fail
        refine HLI.out.mono ?_
        rintro e w1 ⟨rfl,rfl⟩
        go_wp2
        go_ret
        exact ⟨rfl,HB.out⟩
    · rw [hr] at HLI
      rw [if_pos rfl]
      have HLI:=Lib.hid HLI
      rcases k68 with rfl | rfl
      · go_enter Tryz.func46,Tryz.ntmps46
        go_wp2_with fail
        refine HLI.out.mono ?_
        rintro e w1 ⟨rfl,rfl⟩
        go_wp2
        go_ret
        exact ⟨rfl,HB.out⟩
      · go_enter Tryz.func46,Tryz.ntmps46
        go_wp2_with fail
        refine HLI.out.mono ?_
        rintro e w1 ⟨rfl,rfl⟩
        go_wp2
        go_ret
        exact ⟨rfl,HB.out⟩
  by_cases k7:m.k = 7
  · have hE:rlE L Q.b Q.hd m D = (if blE L Q.b m.i m.b dn = true then 0 else 174):=by unfold rlE; rw [if_neg k5,if_neg k4,if_neg k68,if_pos k7,hdn]
    rw [hE]
    have HLI:=HBlk.out (dn:Int) (by omega) (by omega) _ HB.out
    rw [k7] at c0
    clear hE k5 k4 k68 k7 HLies HBlk HChk cH c3
    generalize m.i = mi at *
    generalize m.b = mb at *
    cases hr:blE L Q.b mi mb dn
    · rw [hr] at HLI
      rw [if_neg (by simp)]
      have HLI:=Lib.hid HLI
      go_enter Tryz.func46,Tryz.ntmps46
      go_wp2_with fail
      refine HLI.out.mono ?_
      rintro e w1 ⟨rfl,rfl⟩
      go_wp2
      go_ret
      exact ⟨rfl,HB.out⟩
    · rw [hr] at HLI
      rw [if_pos rfl]
      have HLI:=Lib.hid HLI
      go_enter Tryz.func46,Tryz.ntmps46
      go_wp2_with fail
      refine HLI.out.mono ?_
      rintro e w1 ⟨rfl,rfl⟩
      go_wp2
      go_ret
      exact ⟨rfl,HB.out⟩
  have hE:rlE L Q.b Q.hd m D = 0:=by unfold rlE; rw [if_neg k5,if_neg k4,if_neg k68,if_neg k7]
  rw [hE]
  have k6:¬ m.k = 6:=fun h=>k68 (.inl h)
  have k8:¬ m.k = 8:=fun h=>k68 (.inr h)
  clear hE HLies HBlk HChk cH k68 c1 c2 c3 c4
  generalize m.k = mk at *
  go_enter Tryz.func46,Tryz.ntmps46
  go_wp2
  go_ret
  exact ⟨rfl,HB.out⟩
def rmE (L:List Int) (b:Int) (c ac sd:Bool) (m:Mv) (D:List UInt8):Bool:=
  if m.k = 5 then (!sd && (Bs.ck (L.length:Int) D == 0))
  else if m.k = 4 then decide (m.i < (L.length:Int))
  else if m.k = 6 then (rgp L b m.i m.b m.l && !c)
  else if m.k = 8 then rgp L b m.i m.b m.l
  else if m.k = 7 then (rgp L b m.i m.b D.length && !ac) else true
set_option maxHeartbeats 4000000 in
set_option maxRecDepth 100000 in
theorem rmayT (w:World) (g:Nat) (Q:Rv) (L:List Int) (h:PQ w g Q L) (m:Mv) (D:List UInt8) (hd:RB w m.d D) (hm:MBd m D.length) :
    Calls Tryz.prog 53 #[.pointer (some ⟨g,0,none⟩),.agg m.cs] w fun e w'=>e = .returned (.bool (rmE L Q.b Q.c Q.ac Q.sd m D))∧Below w.heap.size w w':=by
  obtain ⟨da,dc,hda,_⟩:=id hd
  obtain ⟨la,lc,hln,_⟩:=id h.rz
  have hL16:=h.ok.1
  have hb:MB (w.alloc (.cells m.cs 40)) w.heap.size m:=heapNew w (.cells m.cs 40)
  have HB:Hid (Below w.heap.size w (w.alloc (.cells m.cs 40))):=(Below.refl _ _).alloc (Nat.le_refl _) _
  have HLies:Hid (∀ n:Int,0≤n→n≤140737488351232→∀ u,Below w.heap.size w u→Calls Tryz.prog 81 #[.pointer (some ⟨g,0,none⟩),.int .i64 m.i,.int .i64 m.b,.int .i64 n] u fun e w'=>e = .returned (.bool (rgp L Q.b m.i m.b n))∧w' = u):=fun n h0 h1 u hu=>liesT u g Q L (h.below hu) m.i m.b n hm.b0 hm.b1 h0 h1
  have HChk:Hid (∀ u,Below w.heap.size w u→Calls Tryz.prog 80 #[.int .i64 (L.length:Int),m.d] u fun e w'=>e = .returned (.int .i64 (Bs.ck (L.length:Int) D))∧∃ nq,w' = u.drewN nq):=fun u hu=>Bs.check11 _ (by omega) (by omega) _ _ u (bsRB (hd.keep hu)) hm.n1
  have c0:=hb.c0
  have c1:=hb.cell 1 (show m.ls[1]? = some (.int .i64 m.i) from rfl)
  have c2:=hb.cell 2 (show m.ls[2]? = some (.int .i64 m.b) from rfl)
  have c3:=hb.cell 3 (show m.ls[3]? = some (.int .i64 m.l) from rfl)
  have c4:=hb.cell 4 (show m.ls[4]? = some m.d from rfl)
  have HS0:Hid (MB (w.alloc (.cells m.cs 40)) w.heap.size m):=hb
  have rq0:RQ (w.alloc (.cells m.cs 40)) g Q:=(h.below HB.out).rq
  have cS:=rq0.at 11 (show Q.tl[11]? = some (.bool Q.sd) from rfl)
  have cC:=rq0.at 7 (show Q.tl[7]? = some (.bool Q.c) from rfl)
  have cA:=rq0.at 5 (show Q.tl[5]? = some (.bool Q.ac) from rfl)
  rw [hda] at HChk c4
  have hl0:=hm.l0
  have hl1:=hm.l1
  have hn1:=hm.n1
  clear hb h hd hm
  generalize hdn:D.length = dn at *
  generalize hnl:L.length = nl at *
  by_cases k5:m.k = 5
  · rw [k5] at c0
    have hE:rmE L Q.b Q.c Q.ac Q.sd m D = (!Q.sd && (Bs.ck (nl:Int) D == 0)):=by unfold rmE; rw [if_pos k5,hnl]
    rw [hE]
    clear hE k5 HLies cC cA
    generalize hckk:Bs.ck (nl:Int) D = ck at *
    clear hckk
    have kS0:∀ n,RQ ((w.alloc (.cells m.cs 40)).drewN n) g Q:=fun n=>rq0.keep ((belowDrew _ n).block g rq0.lt)
    cases hsd:Q.sd
    · rw [hsd] at cS
      clear hsd
      by_cases hck:ck = 0
      · subst hck
        go_enter Tryz.func53,Tryz.ntmps53
        go_upto_region 3 with fail
        refine wp_region_held_drew (S:=fun u=>RQ u g Q∧MB u w.heap.size m∧Below w.heap.size w u) (by kernel_rfl) (⟨rq0.keep ((belowDrew _ 1).block g rq0.lt),HS0.out.below (belowDrew _ 1),belowN HB.out 1⟩) (fun hHeld=>?_)
        refine tkB (i:=0) (v:=.pointer (some ⟨g,0,none⟩)) rfl hHeld ?_
        simp only [Act.put,zq1,zq2,zq4,zq5,zq6]
        refine tkB (i:=1) (v:=.pointer (some ⟨g,0,none⟩)) rfl hHeld ?_
        simp only [Act.put,zq1,zq2,zq3,zq4,zq5,zq6]
        refine tkB (i:=2) (v:=.pointer (some ⟨g,22,none⟩)) rfl hHeld ?_
        simp only [Act.put,zq1,zq2,zq3,zq4,zq5,zq6]
        refine tkA (i:=3) (v:=.slice la nl lc) rfl (Or.inl ⟨by rfl,fun w hw=>by have hq:=hw.1.at 0 (show Q.tl[0]? = some Q.ln from rfl); rw [hln] at hq; go_simp⟩) hHeld ?_
        simp only [Act.put,zq1,zq2,zq3,zq4,zq5,zq6]
        refine tkB (i:=4) (v:=.int .i64 (nl:Int)) rfl hHeld ?_
        simp only [Act.put,zq1,zq2,zq3,zq4,zq5,zq6]
        refine tkB (i:=5) (v:=.pointer (some ⟨w.heap.size,4,none⟩)) rfl hHeld ?_
        simp only [Act.put,zq1,zq2,zq3,zq4,zq5,zq6]
        refine tkA (i:=6) (v:=.slice da dn dc) rfl (Or.inl ⟨by rfl,fun w hw=>by have hq:=hw.2.1.cell 4 (show m.ls[4]? = some m.d from rfl); rw [hda] at hq; go_simp⟩) hHeld ?_
        simp only [Act.put,zq1,zq2,zq3,zq4,zq5,zq6]
        refine wpAnyH_ready (rs:=[7]) (by kernel_rfl) (by simp) ?_
        refine AllReadyH.cons (o:=_) rfl (fun K hK=>?_) AllReadyH.nil
        go_simp
        refine (HChk.out _ hHeld.2.2).mono ?_
        rintro e w' ⟨rfl,n2,rfl⟩
        go_wp2_with fail
        refine hK.out _ _ (⟨rq0.keep ((belowDrew _ (1 + n2)).block g rq0.lt),HS0.out.below (belowDrew _ (1 + n2)),belowN HB.out (1 + n2)⟩) (fun hHeld=>?_)
        clear hK K
        refine tkB (i:=8) (v:=.int .i64 0) rfl hHeld ?_
        simp only [Act.put,zq1,zq2,zq3,zq4,zq5,zq6]
        refine wpAnyH_done (by kernel_rfl) ?_ _
        have HS1:=Lib.hid hHeld
        have cS1:World.cell? _ ⟨g,33,none⟩ = some (.bool false):=cS
        clear hHeld
        go_wp2
        go_ret
        exact ⟨rfl,HS1.out.2.2⟩
      · have hcb:(ck == 0) = false:=beq_eq_false_iff_ne.2 hck
        rw [hcb]
        go_enter Tryz.func53,Tryz.ntmps53
        go_upto_region 3 with fail
        refine wp_region_held_drew (S:=fun u=>RQ u g Q∧MB u w.heap.size m∧Below w.heap.size w u) (by kernel_rfl) (⟨rq0.keep ((belowDrew _ 1).block g rq0.lt),HS0.out.below (belowDrew _ 1),belowN HB.out 1⟩) (fun hHeld=>?_)
        refine tkB (i:=0) (v:=.pointer (some ⟨g,0,none⟩)) rfl hHeld ?_
        simp only [Act.put,zq1,zq2,zq4,zq5,zq6]
        refine tkB (i:=1) (v:=.pointer (some ⟨g,0,none⟩)) rfl hHeld ?_
        simp only [Act.put,zq1,zq2,zq3,zq4,zq5,zq6]
        refine tkB (i:=2) (v:=.pointer (some ⟨g,22,none⟩)) rfl hHeld ?_
        simp only [Act.put,zq1,zq2,zq3,zq4,zq5,zq6]
        refine tkA (i:=3) (v:=.slice la nl lc) rfl (Or.inl ⟨by rfl,fun w hw=>by have hq:=hw.1.at 0 (show Q.tl[0]? = some Q.ln from rfl); rw [hln] at hq; go_simp⟩) hHeld ?_
        simp only [Act.put,zq1,zq2,zq3,zq4,zq5,zq6]
        refine tkB (i:=4) (v:=.int .i64 (nl:Int)) rfl hHeld ?_
        simp only [Act.put,zq1,zq2,zq3,zq4,zq5,zq6]
        refine tkB (i:=5) (v:=.pointer (some ⟨w.heap.size,4,none⟩)) rfl hHeld ?_
        simp only [Act.put,zq1,zq2,zq3,zq4,zq5,zq6]
        refine tkA (i:=6) (v:=.slice da dn dc) rfl (Or.inl ⟨by rfl,fun w hw=>by have hq:=hw.2.1.cell 4 (show m.ls[4]? = some m.d from rfl); rw [hda] at hq; go_simp⟩) hHeld ?_
        simp only [Act.put,zq1,zq2,zq3,zq4,zq5,zq6]
        refine wpAnyH_ready (rs:=[7]) (by kernel_rfl) (by simp) ?_
        refine AllReadyH.cons (o:=_) rfl (fun K hK=>?_) AllReadyH.nil
        go_simp
        refine (HChk.out _ hHeld.2.2).mono ?_
        rintro e w' ⟨rfl,n2,rfl⟩
        go_wp2_with fail
        refine hK.out _ _ (⟨rq0.keep ((belowDrew _ (1 + n2)).block g rq0.lt),HS0.out.below (belowDrew _ (1 + n2)),belowN HB.out (1 + n2)⟩) (fun hHeld=>?_)
        clear hK K
        refine tkB (i:=8) (v:=.int .i64 ck) rfl hHeld ?_
        simp only [Act.put,zq1,zq2,zq3,zq4,zq5,zq6]
        refine wpAnyH_done (by kernel_rfl) ?_ _
        have HS1:=Lib.hid hHeld
        have cS1:World.cell? _ ⟨g,33,none⟩ = some (.bool false):=cS
        clear hHeld
        go_wp2
        go_ret
        exact ⟨rfl,HS1.out.2.2⟩
    · rw [hsd] at cS
      clear hsd
      by_cases hck:ck = 0
      · subst hck
        go_enter Tryz.func53,Tryz.ntmps53
        go_upto_region 3 with fail
        refine wp_region_held_drew (S:=fun u=>RQ u g Q∧MB u w.heap.size m∧Below w.heap.size w u) (by kernel_rfl) (⟨rq0.keep ((belowDrew _ 1).block g rq0.lt),HS0.out.below (belowDrew _ 1),belowN HB.out 1⟩) (fun hHeld=>?_)
        refine tkB (i:=0) (v:=.pointer (some ⟨g,0,none⟩)) rfl hHeld ?_
        simp only [Act.put,zq1,zq2,zq4,zq5,zq6]
        refine tkB (i:=1) (v:=.pointer (some ⟨g,0,none⟩)) rfl hHeld ?_
        simp only [Act.put,zq1,zq2,zq3,zq4,zq5,zq6]
        refine tkB (i:=2) (v:=.pointer (some ⟨g,22,none⟩)) rfl hHeld ?_
        simp only [Act.put,zq1,zq2,zq3,zq4,zq5,zq6]
        refine tkA (i:=3) (v:=.slice la nl lc) rfl (Or.inl ⟨by rfl,fun w hw=>by have hq:=hw.1.at 0 (show Q.tl[0]? = some Q.ln from rfl); rw [hln] at hq; go_simp⟩) hHeld ?_
        simp only [Act.put,zq1,zq2,zq3,zq4,zq5,zq6]
        refine tkB (i:=4) (v:=.int .i64 (nl:Int)) rfl hHeld ?_
        simp only [Act.put,zq1,zq2,zq3,zq4,zq5,zq6]
        refine tkB (i:=5) (v:=.pointer (some ⟨w.heap.size,4,none⟩)) rfl hHeld ?_
        simp only [Act.put,zq1,zq2,zq3,zq4,zq5,zq6]
        refine tkA (i:=6) (v:=.slice da dn dc) rfl (Or.inl ⟨by rfl,fun w hw=>by have hq:=hw.2.1.cell 4 (show m.ls[4]? = some m.d from rfl); rw [hda] at hq; go_simp⟩) hHeld ?_
        simp only [Act.put,zq1,zq2,zq3,zq4,zq5,zq6]
        refine wpAnyH_ready (rs:=[7]) (by kernel_rfl) (by simp) ?_
        refine AllReadyH.cons (o:=_) rfl (fun K hK=>?_) AllReadyH.nil
        go_simp
        refine (HChk.out _ hHeld.2.2).mono ?_
        rintro e w' ⟨rfl,n2,rfl⟩
        go_wp2_with fail
        refine hK.out _ _ (⟨rq0.keep ((belowDrew _ (1 + n2)).block g rq0.lt),HS0.out.below (belowDrew _ (1 + n2)),belowN HB.out (1 + n2)⟩) (fun hHeld=>?_)
        clear hK K
        refine tkB (i:=8) (v:=.int .i64 0) rfl hHeld ?_
        simp only [Act.put,zq1,zq2,zq3,zq4,zq5,zq6]
        refine wpAnyH_done (by kernel_rfl) ?_ _
        have HS1:=Lib.hid hHeld
        have cS1:World.cell? _ ⟨g,33,none⟩ = some (.bool true):=cS
        clear hHeld
        go_wp2
        go_ret
        exact ⟨rfl,HS1.out.2.2⟩
      · have hcb:(ck == 0) = false:=beq_eq_false_iff_ne.2 hck
        rw [hcb]
        go_enter Tryz.func53,Tryz.ntmps53
        go_upto_region 3 with fail
        refine wp_region_held_drew (S:=fun u=>RQ u g Q∧MB u w.heap.size m∧Below w.heap.size w u) (by kernel_rfl) (⟨rq0.keep ((belowDrew _ 1).block g rq0.lt),HS0.out.below (belowDrew _ 1),belowN HB.out 1⟩) (fun hHeld=>?_)
        refine tkB (i:=0) (v:=.pointer (some ⟨g,0,none⟩)) rfl hHeld ?_
        simp only [Act.put,zq1,zq2,zq4,zq5,zq6]
        refine tkB (i:=1) (v:=.pointer (some ⟨g,0,none⟩)) rfl hHeld ?_
        simp only [Act.put,zq1,zq2,zq3,zq4,zq5,zq6]
        refine tkB (i:=2) (v:=.pointer (some ⟨g,22,none⟩)) rfl hHeld ?_
        simp only [Act.put,zq1,zq2,zq3,zq4,zq5,zq6]
        refine tkA (i:=3) (v:=.slice la nl lc) rfl (Or.inl ⟨by rfl,fun w hw=>by have hq:=hw.1.at 0 (show Q.tl[0]? = some Q.ln from rfl); rw [hln] at hq; go_simp⟩) hHeld ?_
        simp only [Act.put,zq1,zq2,zq3,zq4,zq5,zq6]
        refine tkB (i:=4) (v:=.int .i64 (nl:Int)) rfl hHeld ?_
        simp only [Act.put,zq1,zq2,zq3,zq4,zq5,zq6]
        refine tkB (i:=5) (v:=.pointer (some ⟨w.heap.size,4,none⟩)) rfl hHeld ?_
        simp only [Act.put,zq1,zq2,zq3,zq4,zq5,zq6]
        refine tkA (i:=6) (v:=.slice da dn dc) rfl (Or.inl ⟨by rfl,fun w hw=>by have hq:=hw.2.1.cell 4 (show m.ls[4]? = some m.d from rfl); rw [hda] at hq; go_simp⟩) hHeld ?_
        simp only [Act.put,zq1,zq2,zq3,zq4,zq5,zq6]
        refine wpAnyH_ready (rs:=[7]) (by kernel_rfl) (by simp) ?_
        refine AllReadyH.cons (o:=_) rfl (fun K hK=>?_) AllReadyH.nil
        go_simp
        refine (HChk.out _ hHeld.2.2).mono ?_
        rintro e w' ⟨rfl,n2,rfl⟩
        go_wp2_with fail
        refine hK.out _ _ (⟨rq0.keep ((belowDrew _ (1 + n2)).block g rq0.lt),HS0.out.below (belowDrew _ (1 + n2)),belowN HB.out (1 + n2)⟩) (fun hHeld=>?_)
        clear hK K
        refine tkB (i:=8) (v:=.int .i64 ck) rfl hHeld ?_
        simp only [Act.put,zq1,zq2,zq3,zq4,zq5,zq6]
        refine wpAnyH_done (by kernel_rfl) ?_ _
        have HS1:=Lib.hid hHeld
        have cS1:World.cell? _ ⟨g,33,none⟩ = some (.bool true):=cS
        clear hHeld
        go_wp2
        go_ret
        exact ⟨rfl,HS1.out.2.2⟩
  by_cases k4:m.k = 4
  · rw [k4] at c0
    have hE:rmE L Q.b Q.c Q.ac Q.sd m D = decide (m.i < (nl:Int)):=by unfold rmE; rw [if_neg k5,if_pos k4,hnl]
    rw [hE]
    clear hE k5 k4 HLies HChk cS cC cA
    generalize hmi:m.i = mi at *
    by_cases hle:mi < (nl:Int)
    · rw [decide_eq_true hle]
      go_enter Tryz.func53,Tryz.ntmps53
      go_upto_region 6 with fail
      refine wp_region_held_drew (S:=fun u=>RQ u g Q∧MB u w.heap.size m∧Below w.heap.size w u) (by kernel_rfl) (⟨rq0.keep ((belowDrew _ 1).block g rq0.lt),HS0.out.below (belowDrew _ 1),belowN HB.out 1⟩) (fun hHeld=>?_)
      refine tkB (i:=0) (v:=.pointer (some ⟨w.heap.size,1,none⟩)) rfl hHeld ?_
      simp only [Act.put,zq1,zq2,zq4,zq5,zq6]
      refine tkA (i:=1) (v:=.int .i64 mi) rfl (Or.inl ⟨by rfl,fun w hw=>by have hq:=hw.2.1.cell 1 (show m.ls[1]? = some (.int .i64 m.i) from rfl); rw [hmi] at hq; go_simp⟩) hHeld ?_
      simp only [Act.put,zq1,zq2,zq3,zq4,zq5,zq6]
      refine tkB (i:=2) (v:=.pointer (some ⟨g,0,none⟩)) rfl hHeld ?_
      simp only [Act.put,zq1,zq2,zq3,zq4,zq5,zq6]
      refine tkB (i:=3) (v:=.pointer (some ⟨g,0,none⟩)) rfl hHeld ?_
      simp only [Act.put,zq1,zq2,zq3,zq4,zq5,zq6]
      refine tkB (i:=4) (v:=.pointer (some ⟨g,22,none⟩)) rfl hHeld ?_
      simp only [Act.put,zq1,zq2,zq3,zq4,zq5,zq6]
      refine tkA (i:=5) (v:=.slice la nl lc) rfl (Or.inl ⟨by rfl,fun w hw=>by have hq:=hw.1.at 0 (show Q.tl[0]? = some Q.ln from rfl); rw [hln] at hq; go_simp⟩) hHeld ?_
      simp only [Act.put,zq1,zq2,zq3,zq4,zq5,zq6]
      refine tkB (i:=6) (v:=.int .i64 (nl:Int)) rfl hHeld ?_
      simp only [Act.put,zq1,zq2,zq3,zq4,zq5,zq6]
      refine tkB (i:=7) (v:=.bool true) rfl hHeld ?_
      simp only [Act.put,zq1,zq2,zq3,zq4,zq5,zq6]
      refine tkB (i:=8) (v:=.bool true) rfl hHeld ?_
      simp only [Act.put,zq1,zq2,zq3,zq4,zq5,zq6]
      refine wpAnyH_done (by kernel_rfl) ?_ _
      have HS1:=Lib.hid hHeld
      clear hHeld
      go_wp2
      go_ret
      exact ⟨rfl,HS1.out.2.2⟩
    · rw [decide_eq_false hle]
      go_enter Tryz.func53,Tryz.ntmps53
      go_upto_region 6 with fail
      refine wp_region_held_drew (S:=fun u=>RQ u g Q∧MB u w.heap.size m∧Below w.heap.size w u) (by kernel_rfl) (⟨rq0.keep ((belowDrew _ 1).block g rq0.lt),HS0.out.below (belowDrew _ 1),belowN HB.out 1⟩) (fun hHeld=>?_)
      refine tkB (i:=0) (v:=.pointer (some ⟨w.heap.size,1,none⟩)) rfl hHeld ?_
      simp only [Act.put,zq1,zq2,zq4,zq5,zq6]
      refine tkA (i:=1) (v:=.int .i64 mi) rfl (Or.inl ⟨by rfl,fun w hw=>by have hq:=hw.2.1.cell 1 (show m.ls[1]? = some (.int .i64 m.i) from rfl); rw [hmi] at hq; go_simp⟩) hHeld ?_
      simp only [Act.put,zq1,zq2,zq3,zq4,zq5,zq6]
      refine tkB (i:=2) (v:=.pointer (some ⟨g,0,none⟩)) rfl hHeld ?_
      simp only [Act.put,zq1,zq2,zq3,zq4,zq5,zq6]
      refine tkB (i:=3) (v:=.pointer (some ⟨g,0,none⟩)) rfl hHeld ?_
      simp only [Act.put,zq1,zq2,zq3,zq4,zq5,zq6]
      refine tkB (i:=4) (v:=.pointer (some ⟨g,22,none⟩)) rfl hHeld ?_
      simp only [Act.put,zq1,zq2,zq3,zq4,zq5,zq6]
      refine tkA (i:=5) (v:=.slice la nl lc) rfl (Or.inl ⟨by rfl,fun w hw=>by have hq:=hw.1.at 0 (show Q.tl[0]? = some Q.ln from rfl); rw [hln] at hq; go_simp⟩) hHeld ?_
      simp only [Act.put,zq1,zq2,zq3,zq4,zq5,zq6]
      refine tkB (i:=6) (v:=.int .i64 (nl:Int)) rfl hHeld ?_
      simp only [Act.put,zq1,zq2,zq3,zq4,zq5,zq6]
      refine tkB (i:=7) (v:=.bool false) rfl hHeld ?_
      simp only [Act.put,zq1,zq2,zq3,zq4,zq5,zq6]
      refine tkB (i:=8) (v:=.bool false) rfl hHeld ?_
      simp only [Act.put,zq1,zq2,zq3,zq4,zq5,zq6]
      refine wpAnyH_done (by kernel_rfl) ?_ _
      have HS1:=Lib.hid hHeld
      clear hHeld
      go_wp2
      go_ret
      exact ⟨rfl,HS1.out.2.2⟩
  by_cases k6:m.k = 6
  · rw [k6] at c0
    have hE:rmE L Q.b Q.c Q.ac Q.sd m D = (rgp L Q.b m.i m.b m.l && !Q.c):=by unfold rmE; rw [if_neg k5,if_neg k4,if_pos k6]
    rw [hE]
    have HLI:=HLies.out m.l (by omega) (by omega) _ HB.out
    clear hE k5 k4 k6 HLies HChk cS cA c4 hda
    generalize m.i = mi at *
    generalize m.b = mb at *
    generalize m.l = ml at *
    cases hr:rgp L Q.b mi mb ml
    · rw [hr] at HLI
      have HLI:=Lib.hid HLI
      clear hr
      go_enter Tryz.func53,Tryz.ntmps53
      go_wp2_with fail
      refine HLI.out.mono ?_
      rintro e w1 ⟨rfl,rfl⟩
      go_wp2
      go_ret
      exact ⟨rfl,HB.out⟩
    · rw [hr] at HLI
      have HLI:=Lib.hid HLI
      clear hr
      cases hf:Q.c
      · rw [hf] at cC
        clear hf
        go_enter Tryz.func53,Tryz.ntmps53
        go_wp2_with fail
        refine HLI.out.mono ?_
        rintro e w1 ⟨rfl,rfl⟩
        go_wp2
        go_ret
        exact ⟨rfl,HB.out⟩
      · rw [hf] at cC
        clear hf
        go_enter Tryz.func53,Tryz.ntmps53
        go_wp2_with fail
        refine HLI.out.mono ?_
        rintro e w1 ⟨rfl,rfl⟩
        go_wp2
        go_ret
        exact ⟨rfl,HB.out⟩
  by_cases k8:m.k = 8
  · rw [k8] at c0
    have hE:rmE L Q.b Q.c Q.ac Q.sd m D = rgp L Q.b m.i m.b m.l:=by unfold rmE; rw [if_neg k5,if_neg k4,if_neg k6,if_pos k8]
    rw [hE]
    have HLI:=HLies.out m.l (by omega) (by omega) _ HB.out
    clear hE k5 k4 k6 k8 HLies HChk cS cA cC c4 hda
    generalize m.i = mi at *
    generalize m.b = mb at *
    generalize m.l = ml at *
    cases hr:rgp L Q.b mi mb ml
    · rw [hr] at HLI
      have HLI:=Lib.hid HLI
      clear hr
      go_enter Tryz.func53,Tryz.ntmps53
      go_wp2_with fail
      refine HLI.out.mono ?_
      rintro e w1 ⟨rfl,rfl⟩
      go_wp2
      go_ret
      exact ⟨rfl,HB.out⟩
    · rw [hr] at HLI
      have HLI:=Lib.hid HLI
      clear hr
      go_enter Tryz.func53,Tryz.ntmps53
      go_wp2_with fail
      refine HLI.out.mono ?_
      rintro e w1 ⟨rfl,rfl⟩
      go_wp2
      go_ret
      exact ⟨rfl,HB.out⟩
  by_cases k7:m.k = 7
  · rw [k7] at c0
    have hE:rmE L Q.b Q.c Q.ac Q.sd m D = (rgp L Q.b m.i m.b dn && !Q.ac):=by unfold rmE; rw [if_neg k5,if_neg k4,if_neg k6,if_neg k8,if_pos k7,hdn]
    rw [hE]
    have HLI:=HLies.out (dn:Int) (by omega) (by omega) _ HB.out
    clear hE k5 k4 k6 k8 k7 HLies HChk cS cC c3
    generalize m.i = mi at *
    generalize m.b = mb at *
    cases hr:rgp L Q.b mi mb dn
    · rw [hr] at HLI
      have HLI:=Lib.hid HLI
      clear hr
      go_enter Tryz.func53,Tryz.ntmps53
      go_wp2_with fail
      refine HLI.out.mono ?_
      rintro e w1 ⟨rfl,rfl⟩
      go_wp2
      go_ret
      exact ⟨rfl,HB.out⟩
    · rw [hr] at HLI
      have HLI:=Lib.hid HLI
      clear hr
      cases hf:Q.ac
      · rw [hf] at cA
        clear hf
        go_enter Tryz.func53,Tryz.ntmps53
        go_wp2_with fail
        refine HLI.out.mono ?_
        rintro e w1 ⟨rfl,rfl⟩
        go_wp2
        go_ret
        exact ⟨rfl,HB.out⟩
      · rw [hf] at cA
        clear hf
        go_enter Tryz.func53,Tryz.ntmps53
        go_wp2_with fail
        refine HLI.out.mono ?_
        rintro e w1 ⟨rfl,rfl⟩
        go_wp2
        go_ret
        exact ⟨rfl,HB.out⟩
  have hE:rmE L Q.b Q.c Q.ac Q.sd m D = true:=by unfold rmE; rw [if_neg k5,if_neg k4,if_neg k6,if_neg k8,if_neg k7]
  rw [hE]
  clear hE HLies HChk cS cC cA c1 c2 c3 c4
  generalize m.k = mk at *
  go_enter Tryz.func53,Tryz.ntmps53
  go_wp2
  go_ret
  exact ⟨rfl,HB.out⟩
def Rv.eff (Q:Rv) (k:Int) (hv:Value):Rv:={ Q with c:=if k = 0 then true else if k = 1 then false else Q.c,i:=if k = 2 then true else if k = 3 then false else Q.i,hs:=hv,hd:=Q.hd || !qtE k }
set_option maxHeartbeats 4000000 in
set_option maxRecDepth 100000 in
theorem effA (w:World) (g:Nat) (Q:Rv) (h:RQ w g Q) (m:Mv) (ok:m.ok) (n4:¬ m.k = 4) (n5:¬ m.k = 5) :
    Calls Tryz.prog 47 #[.pointer (some ⟨g,0,none⟩),.agg m.cs] w fun e w'=>e = .returned (.tuple #[])∧RQ w' g (Q.eff m.k Q.hs)∧Fm.Fr (fun k=>k≠g) w w':=by
  have hb:MB (w.alloc (.cells m.cs 40)) w.heap.size m:=heapNew w (.cells m.cs 40)
  have HB:Hid (Below w.heap.size w (w.alloc (.cells m.cs 40))):=(Below.refl _ _).alloc (Nat.le_refl _) _
  have HQ:Hid (∀ u,Calls Tryz.prog 54 #[.agg m.cs] u fun e w'=>e = .returned (.bool (qtE m.k))∧Below u.heap.size u w'):=fun u=>quietT u m ok
  have hi:=info_msg ok
  have c0:=hb.c0
  have hgw:w.heap.size≠g:=Nat.ne_of_gt h.lt
  have HR0:Hid (RQ (w.alloc (.cells m.cs 40)) g Q):=h.keep (HB.out.block g h.lt)
  have cH:=HR0.out.at 10 (show Q.tl[10]? = some (.bool Q.hd) from rfl)
  have fH:=HR0.out.fr 32
  have HF0:Hid (Fm.Fr (fun k=>k≠g) w (w.alloc (.cells m.cs 40))):=Fm.Fr.of_below HB.out
  clear h HB ok
  by_cases k0:m.k = 0
  · rw [k0] at c0 HQ ⊢
    have hq:qtE 0 = false:=by decide
    rw [hq] at HQ
    have hQ:Q.eff 0 Q.hs = { Q with c:=true,hd:=true }:=by simp [Rv.eff,hq]
    rw [hQ]
    clear hQ hq n4 n5  k0
    have cC:=HR0.out.at 7 (show Q.tl[7]? = some (.bool Q.c) from rfl)
    have fC:=HR0.out.fr 29
    have HR1:Hid (RQ ((w.alloc (.cells m.cs 40)).setCell ⟨g,29,none⟩ (.bool true)) g { Q with c:=true }):=HR0.out.set 7 (.bool true) { Q with c:=true } rfl rfl rfl rfl
    have HF1:Hid (Fm.Fr (fun k=>k≠g) w ((w.alloc (.cells m.cs 40)).setCell ⟨g,29,none⟩ (.bool true))):=HF0.out.setCell g 29 _ (fun h=>h rfl)
    have hg1:((w.alloc (.cells m.cs 40)).setCell ⟨g,29,none⟩ (.bool true)).heap[w.heap.size]? = some (.cells m.cs 40 (0,0)):=(Fm.setCell_other hgw).trans hb
    have cH1:=HR1.out.at 10 (show ({ Q with c:=true }:Rv).tl[10]? = some (.bool Q.hd) from rfl)
    clear hb
    cases hhd:Q.hd
    · rw [hhd] at cH cH1
      go_enter Tryz.func47,Tryz.ntmps47
      go_wp2_with (first |(refine load_msg_if rfl _ rfl w.heap.size rfl m.cs hg1 hi ?_))
      refine (HQ.out _).mono ?_
      rintro e w1 ⟨rfl,b1⟩
      have HR2:Hid (RQ w1 g { Q with c:=true }):=HR1.out.keep (b1.block g HR1.out.lt)
      have cH2:=HR2.out.at 10 (show ({ Q with c:=true }:Rv).tl[10]? = some (.bool Q.hd) from rfl)
      rw [hhd] at cH2
      have fH2:=HR2.out.fr 32
      have HF2:Hid (Fm.Fr (fun k=>k≠g) w w1):=HF1.out.trans (Fm.Fr.of_below b1) (fun _ _ h=>h)
      clear b1 cH cH1 cC fC fH hg1
      go_wp2
      go_end0
      exact ⟨rfl,HR2.out.set 10 (.bool true) _ rfl rfl rfl rfl,HF2.out.setCell g 32 _ (fun h=>h rfl)⟩
    · rw [hhd] at cH cH1
      go_enter Tryz.func47,Tryz.ntmps47
      go_wp2
      go_end0
      exact ⟨rfl,HR1.out.set 10 (.bool true) _ rfl rfl rfl rfl,HF1.out.setCell g 32 _ (fun h=>h rfl)⟩
  by_cases k1:m.k = 1
  · rw [k1] at c0 HQ ⊢
    have hq:qtE 1 = false:=by decide
    rw [hq] at HQ
    have hQ:Q.eff 1 Q.hs = { Q with c:=false,hd:=true }:=by simp [Rv.eff,hq]
    rw [hQ]
    clear hQ hq n4 n5 k0 k1
    have cC:=HR0.out.at 7 (show Q.tl[7]? = some (.bool Q.c) from rfl)
    have fC:=HR0.out.fr 29
    have HR1:Hid (RQ ((w.alloc (.cells m.cs 40)).setCell ⟨g,29,none⟩ (.bool false)) g { Q with c:=false }):=HR0.out.set 7 (.bool false) { Q with c:=false } rfl rfl rfl rfl
    have HF1:Hid (Fm.Fr (fun k=>k≠g) w ((w.alloc (.cells m.cs 40)).setCell ⟨g,29,none⟩ (.bool false))):=HF0.out.setCell g 29 _ (fun h=>h rfl)
    have hg1:((w.alloc (.cells m.cs 40)).setCell ⟨g,29,none⟩ (.bool false)).heap[w.heap.size]? = some (.cells m.cs 40 (0,0)):=(Fm.setCell_other hgw).trans hb
    have cH1:=HR1.out.at 10 (show ({ Q with c:=false }:Rv).tl[10]? = some (.bool Q.hd) from rfl)
    clear hb
    cases hhd:Q.hd
    · rw [hhd] at cH cH1
      go_enter Tryz.func47,Tryz.ntmps47
      go_wp2_with (first |(refine load_msg_if rfl _ rfl w.heap.size rfl m.cs hg1 hi ?_))
      refine (HQ.out _).mono ?_
      rintro e w1 ⟨rfl,b1⟩
      have HR2:Hid (RQ w1 g { Q with c:=false }):=HR1.out.keep (b1.block g HR1.out.lt)
      have cH2:=HR2.out.at 10 (show ({ Q with c:=false }:Rv).tl[10]? = some (.bool Q.hd) from rfl)
      rw [hhd] at cH2
      have fH2:=HR2.out.fr 32
      have HF2:Hid (Fm.Fr (fun k=>k≠g) w w1):=HF1.out.trans (Fm.Fr.of_below b1) (fun _ _ h=>h)
      clear b1 cH cH1 cC fC fH hg1
      go_wp2
      go_end0
      exact ⟨rfl,HR2.out.set 10 (.bool true) _ rfl rfl rfl rfl,HF2.out.setCell g 32 _ (fun h=>h rfl)⟩
    · rw [hhd] at cH cH1
      go_enter Tryz.func47,Tryz.ntmps47
      go_wp2
      go_end0
      exact ⟨rfl,HR1.out.set 10 (.bool true) _ rfl rfl rfl rfl,HF1.out.setCell g 32 _ (fun h=>h rfl)⟩
  by_cases k2:m.k = 2
  · rw [k2] at c0 HQ ⊢
    have hq:qtE 2 = false:=by decide
    rw [hq] at HQ
    have hQ:Q.eff 2 Q.hs = { Q with i:=true,hd:=true }:=by simp [Rv.eff,hq]
    rw [hQ]
    clear hQ hq n4 n5 k0 k1 k2
    have cC:=HR0.out.at 8 (show Q.tl[8]? = some (.bool Q.i) from rfl)
    have fC:=HR0.out.fr 30
    have HR1:Hid (RQ ((w.alloc (.cells m.cs 40)).setCell ⟨g,30,none⟩ (.bool true)) g { Q with i:=true }):=HR0.out.set 8 (.bool true) { Q with i:=true } rfl rfl rfl rfl
    have HF1:Hid (Fm.Fr (fun k=>k≠g) w ((w.alloc (.cells m.cs 40)).setCell ⟨g,30,none⟩ (.bool true))):=HF0.out.setCell g 30 _ (fun h=>h rfl)
    have hg1:((w.alloc (.cells m.cs 40)).setCell ⟨g,30,none⟩ (.bool true)).heap[w.heap.size]? = some (.cells m.cs 40 (0,0)):=(Fm.setCell_other hgw).trans hb
    have cH1:=HR1.out.at 10 (show ({ Q with i:=true }:Rv).tl[10]? = some (.bool Q.hd) from rfl)
    clear hb
    cases hhd:Q.hd
    · rw [hhd] at cH cH1
      go_enter Tryz.func47,Tryz.ntmps47
      go_wp2_with (first |(refine load_msg_if rfl _ rfl w.heap.size rfl m.cs hg1 hi ?_))
      refine (HQ.out _).mono ?_
      rintro e w1 ⟨rfl,b1⟩
      have HR2:Hid (RQ w1 g { Q with i:=true }):=HR1.out.keep (b1.block g HR1.out.lt)
      have cH2:=HR2.out.at 10 (show ({ Q with i:=true }:Rv).tl[10]? = some (.bool Q.hd) from rfl)
      rw [hhd] at cH2
      have fH2:=HR2.out.fr 32
      have HF2:Hid (Fm.Fr (fun k=>k≠g) w w1):=HF1.out.trans (Fm.Fr.of_below b1) (fun _ _ h=>h)
      clear b1 cH cH1 cC fC fH hg1
      go_wp2
      go_end0
      exact ⟨rfl,HR2.out.set 10 (.bool true) _ rfl rfl rfl rfl,HF2.out.setCell g 32 _ (fun h=>h rfl)⟩
    · rw [hhd] at cH cH1
      go_enter Tryz.func47,Tryz.ntmps47
      go_wp2
      go_end0
      exact ⟨rfl,HR1.out.set 10 (.bool true) _ rfl rfl rfl rfl,HF1.out.setCell g 32 _ (fun h=>h rfl)⟩
  by_cases k3:m.k = 3
  · rw [k3] at c0 HQ ⊢
    have hq:qtE 3 = false:=by decide
    rw [hq] at HQ
    have hQ:Q.eff 3 Q.hs = { Q with i:=false,hd:=true }:=by simp [Rv.eff,hq]
    rw [hQ]
    clear hQ hq n4 n5 k0 k1 k2 k3
    have cC:=HR0.out.at 8 (show Q.tl[8]? = some (.bool Q.i) from rfl)
    have fC:=HR0.out.fr 30
    have HR1:Hid (RQ ((w.alloc (.cells m.cs 40)).setCell ⟨g,30,none⟩ (.bool false)) g { Q with i:=false }):=HR0.out.set 8 (.bool false) { Q with i:=false } rfl rfl rfl rfl
    have HF1:Hid (Fm.Fr (fun k=>k≠g) w ((w.alloc (.cells m.cs 40)).setCell ⟨g,30,none⟩ (.bool false))):=HF0.out.setCell g 30 _ (fun h=>h rfl)
    have hg1:((w.alloc (.cells m.cs 40)).setCell ⟨g,30,none⟩ (.bool false)).heap[w.heap.size]? = some (.cells m.cs 40 (0,0)):=(Fm.setCell_other hgw).trans hb
    have cH1:=HR1.out.at 10 (show ({ Q with i:=false }:Rv).tl[10]? = some (.bool Q.hd) from rfl)
    clear hb
    cases hhd:Q.hd
    · rw [hhd] at cH cH1
      go_enter Tryz.func47,Tryz.ntmps47
      go_wp2_with (first |(refine load_msg_if rfl _ rfl w.heap.size rfl m.cs hg1 hi ?_))
      refine (HQ.out _).mono ?_
      rintro e w1 ⟨rfl,b1⟩
      have HR2:Hid (RQ w1 g { Q with i:=false }):=HR1.out.keep (b1.block g HR1.out.lt)
      have cH2:=HR2.out.at 10 (show ({ Q with i:=false }:Rv).tl[10]? = some (.bool Q.hd) from rfl)
      rw [hhd] at cH2
      have fH2:=HR2.out.fr 32
      have HF2:Hid (Fm.Fr (fun k=>k≠g) w w1):=HF1.out.trans (Fm.Fr.of_below b1) (fun _ _ h=>h)
      clear b1 cH cH1 cC fC fH hg1
      go_wp2
      go_end0
      exact ⟨rfl,HR2.out.set 10 (.bool true) _ rfl rfl rfl rfl,HF2.out.setCell g 32 _ (fun h=>h rfl)⟩
    · rw [hhd] at cH cH1
      go_enter Tryz.func47,Tryz.ntmps47
      go_wp2
      go_end0
      exact ⟨rfl,HR1.out.set 10 (.bool true) _ rfl rfl rfl rfl,HF1.out.setCell g 32 _ (fun h=>h rfl)⟩
  have hQ:Q.eff m.k Q.hs = { Q with hd:=Q.hd || !qtE m.k }:=by simp [Rv.eff,k0,k1,k2,k3]
  rw [hQ]
  generalize qtE m.k = qt at *
  generalize m.k = mk at *
  clear hQ
  have hg1:(w.alloc (.cells m.cs 40)).heap[w.heap.size]? = some (.cells m.cs 40 (0,0)):=hb
  clear hb
  cases hhd:Q.hd
  · rw [hhd] at cH
    go_enter Tryz.func47,Tryz.ntmps47
    go_wp2_with (first |(refine load_msg_if rfl _ rfl w.heap.size rfl m.cs hg1 hi ?_))
    refine (HQ.out _).mono ?_
    rintro e w1 ⟨rfl,b1⟩
    have HR2:Hid (RQ w1 g Q):=HR0.out.keep (b1.block g HR0.out.lt)
    have cH2:=HR2.out.at 10 (show Q.tl[10]? = some (.bool Q.hd) from rfl)
    rw [hhd] at cH2
    have fH2:=HR2.out.fr 32
    have HF2:Hid (Fm.Fr (fun k=>k≠g) w w1):=HF0.out.trans (Fm.Fr.of_below b1) (fun _ _ h=>h)
    clear b1 cH fH hg1
    go_wp2
    go_end0
    exact ⟨rfl,HR2.out.set 10 (.bool (!qt)) _ rfl rfl rfl rfl,HF2.out.setCell g 32 _ (fun h=>h rfl)⟩
  · rw [hhd] at cH
    go_enter Tryz.func47,Tryz.ntmps47
    go_wp2
    go_end0
    exact ⟨rfl,HR0.out.set 10 (.bool true) _ rfl rfl rfl rfl,HF0.out.setCell g 32 _ (fun h=>h rfl)⟩
end Go.Proofs.YtfjjpbebnoghmaaGreatDoor
