import Derived.Test.YtfjjpbebnoghmaaGreatDoorK00
import Derived.Test.YtfjjpbebnoghmaaGreatDoorK25
import Derived.Test.YtfjjpbebnoghmaaGreatDoorK29
namespace Go.Proofs.YtfjjpbebnoghmaaGreatDoor
open Go.RowKit
set_option maxHeartbeats 1000000 in
theorem wrapR_yes (v:Value) (l:List UInt8) (hl:l.length≤32768) (w:World) (hr:RB w v l) :
    Calls Tryz.prog 55 #[v] w fun e w'=>∃ v',e = .returned (.tuple #[v',.int .i64 0])∧OW w.heap.size w' v' (frm l)∧Below w.heap.size w w':=by
  have HR:Hid (RB w v l):=hr
  obtain ⟨a,c,rfl,hr⟩:=hr
  have HL:Hid (l.length≤32768):=hl
  clear hr
  have HC:=be4_cells l.length
  have HO:OW w.heap.size (w.alloc (.cells (bc (be4 l.length)) 5)) (.slice (some ⟨w.heap.size,0,none⟩) 4 4) (be4 l.length):=OW.of_block (l:=be4 l.length) (Nat.le_refl _) (heapNew _ _) rfl rfl (Nat.le_refl _) (by rw [be4_len]; decide)
  have HB:Hid (Below w.heap.size w (w.alloc (.cells (bc (be4 l.length)) 5))∧RB (w.alloc (.cells (bc (be4 l.length)) 5)) (.slice a l.length c) l):=⟨(Below.refl _ _).alloc (Nat.le_refl _) _,HR.out.keep ((Below.refl _ _).alloc (Nat.le_refl _) _)⟩
  rw [← HC] at HO HB
  have HO':Hid _:=HO
  have HF:Hid (frm l = be4 l.length ++ l):=rfl
  clear HO HC HR
  have HN:Hid ((be4 l.length).length + l.length≤140737488351232):=by rw [be4_len]; unfold Hid; omega
  go_enter Tryz.func55,Tryz.ntmps55
  go_wp2_with (at_builtin; refine append_bytes rfl _ _ rfl rfl HO'.out rfl HB.out.2 (by simp) HN.out ?_; intro v' w1 hown' hb1)
  have HE:Hid (OW w.heap.size w1 v' (frm l)∧Below w.heap.size w w1):=⟨hown',HB.out.1.trans hb1⟩
  clear hown' hb1
  go_wp2
  go_ret2
  exact ⟨_,rfl,HE.out⟩
def Rv.say (Q:Rv) (k:Int):Rv:={ Q with ac:=if k = 0 then true else if k = 1 then false else Q.ac,ai:=if k = 2 then true else if k = 3 then false else Q.ai,sd:=Q.sd || !qtE k }
set_option maxHeartbeats 4000000 in
set_option maxRecDepth 100000 in
theorem rsayNo (w:World) (g:Nat) (Q:Rv) (L:List Int) (h:PQ w g Q L) (hgo:Q.gone = false) (m:Mv) (D hb0:List UInt8) (hmm:MM w m D hb0) (hv:valE m≠0) :
    Calls Tryz.prog 28 #[.pointer (some ⟨g,0,none⟩),.agg m.cs] w fun e w'=>e = .returned (.tuple #[.slice none 0 0,.int .i64 (valE m)])∧Below w.heap.size w w':=by
  have hb:MB (w.alloc (.cells m.cs 40)) w.heap.size m:=heapNew w (.cells m.cs 40)
  have HB:Hid (Below w.heap.size w (w.alloc (.cells m.cs 40))):=(Below.refl _ _).alloc (Nat.le_refl _) _
  have HE:Hid (Calls Tryz.prog 52 #[.agg m.cs] (w.alloc (.cells m.cs 40)) fun e w'=>∃ v,e = .returned (.tuple #[v,.int .i64 (valE m)])∧OW (w.alloc (.cells m.cs 40)).heap.size w' v (encB m D hb0)∧Below (w.alloc (.cells m.cs 40)).heap.size (w.alloc (.cells m.cs 40)) w'):=rEncodeT _ m D hb0 (hmm.keep HB.out)
  have hi:=info_msg hmm.ok
  have hg0:(w.alloc (.cells m.cs 40)).heap[w.heap.size]? = some (.cells m.cs 40 (0,0)):=hb
  have cG:=(h.below HB.out).rq.at 3 (show Q.tl[3]? = some (.bool Q.gone) from rfl)
  rw [hgo] at cG
  clear h hmm hb
  generalize valE m = ve at *
  go_enter Tryz.func28,Tryz.ntmps28
  go_wp2_with (first |(refine load_msg_if rfl _ rfl w.heap.size rfl m.cs hg0 hi ?_))
  refine HE.out.mono ?_
  rintro e w1 ⟨v1,rfl,o1,b1⟩
  have HB1:=Lib.hid (HB.out.trans (b1.mono HB.out.size))
  clear o1 b1
  go_wp2
  go_ret2
  exact ⟨rfl,HB1.out⟩
set_option maxHeartbeats 4000000 in
set_option maxRecDepth 100000 in
theorem rsayMay (w:World) (g:Nat) (Q:Rv) (L:List Int) (h:PQ w g Q L) (hgo:Q.gone = false) (m:Mv) (D hb0:List UInt8) (hmm:MM w m D hb0) (hbd:MBd m D.length) (hv:valE m = 0) (hp:rmE L Q.b Q.c Q.ac Q.sd m D = false) :
    Calls Tryz.prog 28 #[.pointer (some ⟨g,0,none⟩),.agg m.cs] w fun e w'=>e = .returned (.tuple #[.slice none 0 0,.int .i64 175])∧Below w.heap.size w w':=by
  have hb:MB (w.alloc (.cells m.cs 40)) w.heap.size m:=heapNew w (.cells m.cs 40)
  have HB:Hid (Below w.heap.size w (w.alloc (.cells m.cs 40))):=(Below.refl _ _).alloc (Nat.le_refl _) _
  have HE:Hid (Calls Tryz.prog 52 #[.agg m.cs] (w.alloc (.cells m.cs 40)) fun e w'=>∃ v,e = .returned (.tuple #[v,.int .i64 (valE m)])∧OW (w.alloc (.cells m.cs 40)).heap.size w' v (encB m D hb0)∧Below (w.alloc (.cells m.cs 40)).heap.size (w.alloc (.cells m.cs 40)) w'):=rEncodeT _ m D hb0 (hmm.keep HB.out)
  have HY:Hid (∀ u,Below w.heap.size w u→Calls Tryz.prog 53 #[.pointer (some ⟨g,0,none⟩),.agg m.cs] u fun e w'=>e = .returned (.bool (rmE L Q.b Q.c Q.ac Q.sd m D))∧Below u.heap.size u w'):=fun u hu=>rmayT u g Q L (h.below hu) m D (hmm.d.keep hu) hbd
  have hi:=info_msg hmm.ok
  have hg0:(w.alloc (.cells m.cs 40)).heap[w.heap.size]? = some (.cells m.cs 40 (0,0)):=hb
  have HM0:Hid (MB (w.alloc (.cells m.cs 40)) w.heap.size m):=hb
  have cG:=(h.below HB.out).rq.at 3 (show Q.tl[3]? = some (.bool Q.gone) from rfl)
  rw [hgo] at cG
  rw [hv] at HE
  rw [hp] at HY
  clear h hmm hb
  go_enter Tryz.func28,Tryz.ntmps28
  go_wp2_with (first |(refine load_msg_if rfl _ rfl w.heap.size rfl m.cs hg0 hi ?_))
  refine HE.out.mono ?_
  rintro e w1 ⟨v1,rfl,o1,b1⟩
  obtain ⟨a1,n1,c1,rfl⟩:=o1.form3
  have HM1:Hid (MB w1 w.heap.size m):=HM0.out.below b1
  have hg1:w1.heap[w.heap.size]? = some (.cells m.cs 40 (0,0)):=HM1.out
  have HB1:=Lib.hid (HB.out.trans (b1.mono HB.out.size))
  have HO1:Hid (OW w.heap.size w1 (.slice a1 n1 c1) (encB m D hb0)):=o1.mono HB.out.size
  clear o1 b1 hg0
  go_wp2_with (first |(refine load_msg_if rfl _ rfl w.heap.size rfl m.cs hg1 hi ?_))
  refine (HY.out _ HB1.out).mono ?_
  rintro e w2 ⟨rfl,b2⟩
  have HB2:=Lib.hid (HB1.out.trans (b2.mono HB1.out.size))
  clear b2
  go_wp2
  go_ret2
  exact ⟨rfl,HB2.out⟩
set_option maxHeartbeats 8000000 in
set_option maxRecDepth 100000 in
theorem rsayOk (w:World) (g:Nat) (Q:Rv) (L:List Int) (h:PQ w g Q L) (hgo:Q.gone = false) (m:Mv) (D hb0:List UInt8) (hmm:MM w m D hb0) (hbd:MBd m D.length) (hv:valE m = 0) (hp:rmE L Q.b Q.c Q.ac Q.sd m D = true) (hle:(encB m D hb0).length≤32768) :
    Calls Tryz.prog 28 #[.pointer (some ⟨g,0,none⟩),.agg m.cs] w fun e w'=>∃ v,e = .returned (.tuple #[v,.int .i64 0])∧OW w.heap.size w' v (frm (encB m D hb0))∧RQ w' g (Q.say m.k)∧Fm.Fr (fun k=>k≠g) w w':=by
  have hb:MB (w.alloc (.cells m.cs 40)) w.heap.size m:=heapNew w (.cells m.cs 40)
  have HB:Hid (Below w.heap.size w (w.alloc (.cells m.cs 40))):=(Below.refl _ _).alloc (Nat.le_refl _) _
  have HE:Hid (Calls Tryz.prog 52 #[.agg m.cs] (w.alloc (.cells m.cs 40)) fun e w'=>∃ v,e = .returned (.tuple #[v,.int .i64 (valE m)])∧OW (w.alloc (.cells m.cs 40)).heap.size w' v (encB m D hb0)∧Below (w.alloc (.cells m.cs 40)).heap.size (w.alloc (.cells m.cs 40)) w'):=rEncodeT _ m D hb0 (hmm.keep HB.out)
  have HY:Hid (∀ u,Below w.heap.size w u→Calls Tryz.prog 53 #[.pointer (some ⟨g,0,none⟩),.agg m.cs] u fun e w'=>e = .returned (.bool (rmE L Q.b Q.c Q.ac Q.sd m D))∧Below u.heap.size u w'):=fun u hu=>rmayT u g Q L (h.below hu) m D (hmm.d.keep hu) hbd
  have hi:=info_msg hmm.ok
  have hg0:(w.alloc (.cells m.cs 40)).heap[w.heap.size]? = some (.cells m.cs 40 (0,0)):=hb
  have HM0:Hid (MB (w.alloc (.cells m.cs 40)) w.heap.size m):=hb
  have cG:=(h.below HB.out).rq.at 3 (show Q.tl[3]? = some (.bool Q.gone) from rfl)
  rw [hgo] at cG
  rw [hv] at HE
  rw [hp] at HY
  have hgw:w.heap.size≠g:=Nat.ne_of_gt h.rq.lt
  have hgl:g < w.heap.size:=h.rq.lt
  have HQ:Hid (∀ u,Calls Tryz.prog 54 #[.agg m.cs] u fun e w'=>e = .returned (.bool (qtE m.k))∧Below u.heap.size u w'):=fun u=>quietT u m hmm.ok
  have HR0:Hid (RQ w g Q):=h.rq
  clear h hmm hb hbd hp hgo
  go_enter Tryz.func28,Tryz.ntmps28
  go_wp2_with (first |(refine load_msg_if rfl _ rfl w.heap.size rfl m.cs hg0 hi ?_))
  refine HE.out.mono ?_
  rintro e w1 ⟨v1,rfl,o1,b1⟩
  obtain ⟨a1,n1,c1,rfl⟩:=o1.form3
  have HM1:Hid (MB w1 w.heap.size m):=HM0.out.below b1
  have hg1:w1.heap[w.heap.size]? = some (.cells m.cs 40 (0,0)):=HM1.out
  have HB1:=Lib.hid (HB.out.trans (b1.mono HB.out.size))
  have HO1:Hid (OW w.heap.size w1 (.slice a1 n1 c1) (encB m D hb0)):=o1.mono HB.out.size
  clear o1 b1 hg0
  go_wp2_with (first |(refine load_msg_if rfl _ rfl w.heap.size rfl m.cs hg1 hi ?_))
  refine (HY.out _ HB1.out).mono ?_
  rintro e w2 ⟨rfl,b2⟩
  have HB2:=Lib.hid (HB1.out.trans (b2.mono HB1.out.size))
  have HM2:Hid (MB w2 w.heap.size m):=HM1.out.below b2
  have HO2:Hid (OW w.heap.size w2 (.slice a1 n1 c1) (encB m D hb0)):=HO1.out.grow b2
  have HR2:Hid (RQ w2 g Q):=HR0.out.keep (HB2.out.block g hgl)
  have HF2:Hid (Fm.Fr (fun k=>k≠g) w w2):=Fm.Fr.of_below HB2.out
  have c0:=HM2.out.c0
  have hg2:w2.heap[w.heap.size]? = some (.cells m.cs 40 (0,0)):=HM2.out
  have cS:=HR2.out.at 11 (show Q.tl[11]? = some (.bool Q.sd) from rfl)
  have fS:=HR2.out.fr 33
  clear b2 HE HY HM1 HO1 HB1 hg1 cG
  by_cases k0:m.k = 0
  · rw [k0] at c0 HQ
    have hq:qtE 0 = false:=by decide
    rw [hq] at HQ
    have hQ:Q.say m.k = { Q with ac:=true,sd:=Q.sd || true }:=by rw [k0]; simp [Rv.say,hq]
    have cA:=HR2.out.at 5 (show Q.tl[5]? = some (.bool Q.ac) from rfl)
    have fA:=HR2.out.fr 27
    have HR3:Hid (RQ (w2.setCell ⟨g,27,none⟩ (.bool true)) g { Q with ac:=true }):=HR2.out.set 5 (.bool true) { Q with ac:=true } rfl rfl rfl rfl
    have HF3:Hid (Fm.Fr (fun k=>k≠g) w (w2.setCell ⟨g,27,none⟩ (.bool true))):=HF2.out.setCell g 27 _ (fun h=>h rfl)
    have HO3:Hid (OW w.heap.size (w2.setCell ⟨g,27,none⟩ (.bool true)) (.slice a1 n1 c1) (encB m D hb0)):=OW.setOther HO2.out hgl _ _
    have hg3:(w2.setCell ⟨g,27,none⟩ (.bool true)).heap[w.heap.size]? = some (.cells m.cs 40 (0,0)):=(Fm.setCell_other hgw).trans HM2.out
    have cS1:=HR3.out.at 11 (show ({ Q with ac:=true }:Rv).tl[11]? = some (.bool Q.sd) from rfl)
    have fS1:=HR3.out.fr 33
    cases hsd:Q.sd
    · rw [hsd] at cS cS1 hQ
      go_wp2_with (first |(refine load_msg_if rfl _ rfl w.heap.size rfl m.cs hg3 hi ?_))
      refine (HQ.out _).mono ?_
      rintro e w5 ⟨rfl,b5⟩
      have HR5:Hid (RQ w5 g { Q with ac:=true }):=HR3.out.keep (b5.block g HR3.out.lt)
      have cS5:=HR5.out.at 11 (show ({ Q with ac:=true }:Rv).tl[11]? = some (.bool Q.sd) from rfl)
      rw [hsd] at cS5
      have fS5:=HR5.out.fr 33
      have HF5:Hid (Fm.Fr (fun k=>k≠g) w w5):=HF3.out.trans (Fm.Fr.of_below b5) (fun _ _ h=>h)
      have HO5:Hid (OW w.heap.size w5 (.slice a1 n1 c1) (encB m D hb0)):=HO3.out.grow b5
      have HR9:Hid (RQ (w5.setCell ⟨g,33,none⟩ (.bool true)) g { { Q with ac:=true } with sd:=true }):=HR5.out.set 11 (.bool true) _ rfl rfl rfl rfl
      have HF9:Hid (Fm.Fr (fun k=>k≠g) w (w5.setCell ⟨g,33,none⟩ (.bool true))):=HF5.out.setCell g 33 _ (fun h=>h rfl)
      have HO9:Hid (OW w.heap.size (w5.setCell ⟨g,33,none⟩ (.bool true)) (.slice a1 n1 c1) (encB m D hb0)):=OW.setOther HO5.out hgl _ _
      clear b5 cS cS1 fS fS1
      go_wp2_with fail
      refine (wrapR_yes _ _ hle _ HO9.out.rb).mono ?_
      rintro e w9 ⟨v9,rfl,o9,b9⟩
      have HE9:=Lib.hid (And.intro (o9.mono HF9.out.size) (And.intro (HR9.out.keep (b9.block g HR9.out.lt)) (HF9.out.trans (Fm.Fr.of_below b9) (fun _ _ h=>h))))
      clear o9 b9
      go_wp2
      go_ret2
      exact ⟨_,rfl,HE9.out.1,by rw [hQ]; exact HE9.out.2.1,HE9.out.2.2⟩
    · rw [hsd] at cS cS1 hQ
      have HR9:Hid (RQ ((w2.setCell ⟨g,27,none⟩ (.bool true)).setCell ⟨g,33,none⟩ (.bool true)) g { { Q with ac:=true } with sd:=true }):=HR3.out.set 11 (.bool true) _ rfl rfl rfl rfl
      have HF9:Hid (Fm.Fr (fun k=>k≠g) w ((w2.setCell ⟨g,27,none⟩ (.bool true)).setCell ⟨g,33,none⟩ (.bool true))):=HF3.out.setCell g 33 _ (fun h=>h rfl)
      have HO9:Hid (OW w.heap.size ((w2.setCell ⟨g,27,none⟩ (.bool true)).setCell ⟨g,33,none⟩ (.bool true)) (.slice a1 n1 c1) (encB m D hb0)):=OW.setOther HO3.out hgl _ _
      go_wp2_with fail
      refine (wrapR_yes _ _ hle _ HO9.out.rb).mono ?_
      rintro e w9 ⟨v9,rfl,o9,b9⟩
      have HE9:=Lib.hid (And.intro (o9.mono HF9.out.size) (And.intro (HR9.out.keep (b9.block g HR9.out.lt)) (HF9.out.trans (Fm.Fr.of_below b9) (fun _ _ h=>h))))
      clear o9 b9
      go_wp2
      go_ret2
      exact ⟨_,rfl,HE9.out.1,by rw [hQ]; exact HE9.out.2.1,HE9.out.2.2⟩
  by_cases k1:m.k = 1
  · rw [k1] at c0 HQ
    have hq:qtE 1 = false:=by decide
    rw [hq] at HQ
    have hQ:Q.say m.k = { Q with ac:=false,sd:=Q.sd || true }:=by rw [k1]; simp [Rv.say,hq]
    have cA:=HR2.out.at 5 (show Q.tl[5]? = some (.bool Q.ac) from rfl)
    have fA:=HR2.out.fr 27
    have HR3:Hid (RQ (w2.setCell ⟨g,27,none⟩ (.bool false)) g { Q with ac:=false }):=HR2.out.set 5 (.bool false) { Q with ac:=false } rfl rfl rfl rfl
    have HF3:Hid (Fm.Fr (fun k=>k≠g) w (w2.setCell ⟨g,27,none⟩ (.bool false))):=HF2.out.setCell g 27 _ (fun h=>h rfl)
    have HO3:Hid (OW w.heap.size (w2.setCell ⟨g,27,none⟩ (.bool false)) (.slice a1 n1 c1) (encB m D hb0)):=OW.setOther HO2.out hgl _ _
    have hg3:(w2.setCell ⟨g,27,none⟩ (.bool false)).heap[w.heap.size]? = some (.cells m.cs 40 (0,0)):=(Fm.setCell_other hgw).trans HM2.out
    have cS1:=HR3.out.at 11 (show ({ Q with ac:=false }:Rv).tl[11]? = some (.bool Q.sd) from rfl)
    have fS1:=HR3.out.fr 33
    cases hsd:Q.sd
    · rw [hsd] at cS cS1 hQ
      go_wp2_with (first |(refine load_msg_if rfl _ rfl w.heap.size rfl m.cs hg3 hi ?_))
      refine (HQ.out _).mono ?_
      rintro e w5 ⟨rfl,b5⟩
      have HR5:Hid (RQ w5 g { Q with ac:=false }):=HR3.out.keep (b5.block g HR3.out.lt)
      have cS5:=HR5.out.at 11 (show ({ Q with ac:=false }:Rv).tl[11]? = some (.bool Q.sd) from rfl)
      rw [hsd] at cS5
      have fS5:=HR5.out.fr 33
      have HF5:Hid (Fm.Fr (fun k=>k≠g) w w5):=HF3.out.trans (Fm.Fr.of_below b5) (fun _ _ h=>h)
      have HO5:Hid (OW w.heap.size w5 (.slice a1 n1 c1) (encB m D hb0)):=HO3.out.grow b5
      have HR9:Hid (RQ (w5.setCell ⟨g,33,none⟩ (.bool true)) g { { Q with ac:=false } with sd:=true }):=HR5.out.set 11 (.bool true) _ rfl rfl rfl rfl
      have HF9:Hid (Fm.Fr (fun k=>k≠g) w (w5.setCell ⟨g,33,none⟩ (.bool true))):=HF5.out.setCell g 33 _ (fun h=>h rfl)
      have HO9:Hid (OW w.heap.size (w5.setCell ⟨g,33,none⟩ (.bool true)) (.slice a1 n1 c1) (encB m D hb0)):=OW.setOther HO5.out hgl _ _
      clear b5 cS cS1 fS fS1
      go_wp2_with fail
      refine (wrapR_yes _ _ hle _ HO9.out.rb).mono ?_
      rintro e w9 ⟨v9,rfl,o9,b9⟩
      have HE9:=Lib.hid (And.intro (o9.mono HF9.out.size) (And.intro (HR9.out.keep (b9.block g HR9.out.lt)) (HF9.out.trans (Fm.Fr.of_below b9) (fun _ _ h=>h))))
      clear o9 b9
      go_wp2
      go_ret2
      exact ⟨_,rfl,HE9.out.1,by rw [hQ]; exact HE9.out.2.1,HE9.out.2.2⟩
    · rw [hsd] at cS cS1 hQ
      have HR9:Hid (RQ ((w2.setCell ⟨g,27,none⟩ (.bool false)).setCell ⟨g,33,none⟩ (.bool true)) g { { Q with ac:=false } with sd:=true }):=HR3.out.set 11 (.bool true) _ rfl rfl rfl rfl
      have HF9:Hid (Fm.Fr (fun k=>k≠g) w ((w2.setCell ⟨g,27,none⟩ (.bool false)).setCell ⟨g,33,none⟩ (.bool true))):=HF3.out.setCell g 33 _ (fun h=>h rfl)
      have HO9:Hid (OW w.heap.size ((w2.setCell ⟨g,27,none⟩ (.bool false)).setCell ⟨g,33,none⟩ (.bool true)) (.slice a1 n1 c1) (encB m D hb0)):=OW.setOther HO3.out hgl _ _
      go_wp2_with fail
      refine (wrapR_yes _ _ hle _ HO9.out.rb).mono ?_
      rintro e w9 ⟨v9,rfl,o9,b9⟩
      have HE9:=Lib.hid (And.intro (o9.mono HF9.out.size) (And.intro (HR9.out.keep (b9.block g HR9.out.lt)) (HF9.out.trans (Fm.Fr.of_below b9) (fun _ _ h=>h))))
      clear o9 b9
      go_wp2
      go_ret2
      exact ⟨_,rfl,HE9.out.1,by rw [hQ]; exact HE9.out.2.1,HE9.out.2.2⟩
  by_cases k2:m.k = 2
  · rw [k2] at c0 HQ
    have hq:qtE 2 = false:=by decide
    rw [hq] at HQ
    have hQ:Q.say m.k = { Q with ai:=true,sd:=Q.sd || true }:=by rw [k2]; simp [Rv.say,hq]
    have cA:=HR2.out.at 6 (show Q.tl[6]? = some (.bool Q.ai) from rfl)
    have fA:=HR2.out.fr 28
    have HR3:Hid (RQ (w2.setCell ⟨g,28,none⟩ (.bool true)) g { Q with ai:=true }):=HR2.out.set 6 (.bool true) { Q with ai:=true } rfl rfl rfl rfl
    have HF3:Hid (Fm.Fr (fun k=>k≠g) w (w2.setCell ⟨g,28,none⟩ (.bool true))):=HF2.out.setCell g 28 _ (fun h=>h rfl)
    have HO3:Hid (OW w.heap.size (w2.setCell ⟨g,28,none⟩ (.bool true)) (.slice a1 n1 c1) (encB m D hb0)):=OW.setOther HO2.out hgl _ _
    have hg3:(w2.setCell ⟨g,28,none⟩ (.bool true)).heap[w.heap.size]? = some (.cells m.cs 40 (0,0)):=(Fm.setCell_other hgw).trans HM2.out
    have cS1:=HR3.out.at 11 (show ({ Q with ai:=true }:Rv).tl[11]? = some (.bool Q.sd) from rfl)
    have fS1:=HR3.out.fr 33
    cases hsd:Q.sd
    · rw [hsd] at cS cS1 hQ
      go_wp2_with (first |(refine load_msg_if rfl _ rfl w.heap.size rfl m.cs hg3 hi ?_))
      refine (HQ.out _).mono ?_
      rintro e w5 ⟨rfl,b5⟩
      have HR5:Hid (RQ w5 g { Q with ai:=true }):=HR3.out.keep (b5.block g HR3.out.lt)
      have cS5:=HR5.out.at 11 (show ({ Q with ai:=true }:Rv).tl[11]? = some (.bool Q.sd) from rfl)
      rw [hsd] at cS5
      have fS5:=HR5.out.fr 33
      have HF5:Hid (Fm.Fr (fun k=>k≠g) w w5):=HF3.out.trans (Fm.Fr.of_below b5) (fun _ _ h=>h)
      have HO5:Hid (OW w.heap.size w5 (.slice a1 n1 c1) (encB m D hb0)):=HO3.out.grow b5
      have HR9:Hid (RQ (w5.setCell ⟨g,33,none⟩ (.bool true)) g { { Q with ai:=true } with sd:=true }):=HR5.out.set 11 (.bool true) _ rfl rfl rfl rfl
      have HF9:Hid (Fm.Fr (fun k=>k≠g) w (w5.setCell ⟨g,33,none⟩ (.bool true))):=HF5.out.setCell g 33 _ (fun h=>h rfl)
      have HO9:Hid (OW w.heap.size (w5.setCell ⟨g,33,none⟩ (.bool true)) (.slice a1 n1 c1) (encB m D hb0)):=OW.setOther HO5.out hgl _ _
      clear b5 cS cS1 fS fS1
      go_wp2_with fail
      refine (wrapR_yes _ _ hle _ HO9.out.rb).mono ?_
      rintro e w9 ⟨v9,rfl,o9,b9⟩
      have HE9:=Lib.hid (And.intro (o9.mono HF9.out.size) (And.intro (HR9.out.keep (b9.block g HR9.out.lt)) (HF9.out.trans (Fm.Fr.of_below b9) (fun _ _ h=>h))))
      clear o9 b9
      go_wp2
      go_ret2
      exact ⟨_,rfl,HE9.out.1,by rw [hQ]; exact HE9.out.2.1,HE9.out.2.2⟩
    · rw [hsd] at cS cS1 hQ
      have HR9:Hid (RQ ((w2.setCell ⟨g,28,none⟩ (.bool true)).setCell ⟨g,33,none⟩ (.bool true)) g { { Q with ai:=true } with sd:=true }):=HR3.out.set 11 (.bool true) _ rfl rfl rfl rfl
      have HF9:Hid (Fm.Fr (fun k=>k≠g) w ((w2.setCell ⟨g,28,none⟩ (.bool true)).setCell ⟨g,33,none⟩ (.bool true))):=HF3.out.setCell g 33 _ (fun h=>h rfl)
      have HO9:Hid (OW w.heap.size ((w2.setCell ⟨g,28,none⟩ (.bool true)).setCell ⟨g,33,none⟩ (.bool true)) (.slice a1 n1 c1) (encB m D hb0)):=OW.setOther HO3.out hgl _ _
      go_wp2_with fail
      refine (wrapR_yes _ _ hle _ HO9.out.rb).mono ?_
      rintro e w9 ⟨v9,rfl,o9,b9⟩
      have HE9:=Lib.hid (And.intro (o9.mono HF9.out.size) (And.intro (HR9.out.keep (b9.block g HR9.out.lt)) (HF9.out.trans (Fm.Fr.of_below b9) (fun _ _ h=>h))))
      clear o9 b9
      go_wp2
      go_ret2
      exact ⟨_,rfl,HE9.out.1,by rw [hQ]; exact HE9.out.2.1,HE9.out.2.2⟩
  by_cases k3:m.k = 3
  · rw [k3] at c0 HQ
    have hq:qtE 3 = false:=by decide
    rw [hq] at HQ
    have hQ:Q.say m.k = { Q with ai:=false,sd:=Q.sd || true }:=by rw [k3]; simp [Rv.say,hq]
    have cA:=HR2.out.at 6 (show Q.tl[6]? = some (.bool Q.ai) from rfl)
    have fA:=HR2.out.fr 28
    have HR3:Hid (RQ (w2.setCell ⟨g,28,none⟩ (.bool false)) g { Q with ai:=false }):=HR2.out.set 6 (.bool false) { Q with ai:=false } rfl rfl rfl rfl
    have HF3:Hid (Fm.Fr (fun k=>k≠g) w (w2.setCell ⟨g,28,none⟩ (.bool false))):=HF2.out.setCell g 28 _ (fun h=>h rfl)
    have HO3:Hid (OW w.heap.size (w2.setCell ⟨g,28,none⟩ (.bool false)) (.slice a1 n1 c1) (encB m D hb0)):=OW.setOther HO2.out hgl _ _
    have hg3:(w2.setCell ⟨g,28,none⟩ (.bool false)).heap[w.heap.size]? = some (.cells m.cs 40 (0,0)):=(Fm.setCell_other hgw).trans HM2.out
    have cS1:=HR3.out.at 11 (show ({ Q with ai:=false }:Rv).tl[11]? = some (.bool Q.sd) from rfl)
    have fS1:=HR3.out.fr 33
    cases hsd:Q.sd
    · rw [hsd] at cS cS1 hQ
      go_wp2_with (first |(refine load_msg_if rfl _ rfl w.heap.size rfl m.cs hg3 hi ?_))
      refine (HQ.out _).mono ?_
      rintro e w5 ⟨rfl,b5⟩
      have HR5:Hid (RQ w5 g { Q with ai:=false }):=HR3.out.keep (b5.block g HR3.out.lt)
      have cS5:=HR5.out.at 11 (show ({ Q with ai:=false }:Rv).tl[11]? = some (.bool Q.sd) from rfl)
      rw [hsd] at cS5
      have fS5:=HR5.out.fr 33
      have HF5:Hid (Fm.Fr (fun k=>k≠g) w w5):=HF3.out.trans (Fm.Fr.of_below b5) (fun _ _ h=>h)
      have HO5:Hid (OW w.heap.size w5 (.slice a1 n1 c1) (encB m D hb0)):=HO3.out.grow b5
      have HR9:Hid (RQ (w5.setCell ⟨g,33,none⟩ (.bool true)) g { { Q with ai:=false } with sd:=true }):=HR5.out.set 11 (.bool true) _ rfl rfl rfl rfl
      have HF9:Hid (Fm.Fr (fun k=>k≠g) w (w5.setCell ⟨g,33,none⟩ (.bool true))):=HF5.out.setCell g 33 _ (fun h=>h rfl)
      have HO9:Hid (OW w.heap.size (w5.setCell ⟨g,33,none⟩ (.bool true)) (.slice a1 n1 c1) (encB m D hb0)):=OW.setOther HO5.out hgl _ _
      clear b5 cS cS1 fS fS1
      go_wp2_with fail
      refine (wrapR_yes _ _ hle _ HO9.out.rb).mono ?_
      rintro e w9 ⟨v9,rfl,o9,b9⟩
      have HE9:=Lib.hid (And.intro (o9.mono HF9.out.size) (And.intro (HR9.out.keep (b9.block g HR9.out.lt)) (HF9.out.trans (Fm.Fr.of_below b9) (fun _ _ h=>h))))
      clear o9 b9
      go_wp2
      go_ret2
      exact ⟨_,rfl,HE9.out.1,by rw [hQ]; exact HE9.out.2.1,HE9.out.2.2⟩
    · rw [hsd] at cS cS1 hQ
      have HR9:Hid (RQ ((w2.setCell ⟨g,28,none⟩ (.bool false)).setCell ⟨g,33,none⟩ (.bool true)) g { { Q with ai:=false } with sd:=true }):=HR3.out.set 11 (.bool true) _ rfl rfl rfl rfl
      have HF9:Hid (Fm.Fr (fun k=>k≠g) w ((w2.setCell ⟨g,28,none⟩ (.bool false)).setCell ⟨g,33,none⟩ (.bool true))):=HF3.out.setCell g 33 _ (fun h=>h rfl)
      have HO9:Hid (OW w.heap.size ((w2.setCell ⟨g,28,none⟩ (.bool false)).setCell ⟨g,33,none⟩ (.bool true)) (.slice a1 n1 c1) (encB m D hb0)):=OW.setOther HO3.out hgl _ _
      go_wp2_with fail
      refine (wrapR_yes _ _ hle _ HO9.out.rb).mono ?_
      rintro e w9 ⟨v9,rfl,o9,b9⟩
      have HE9:=Lib.hid (And.intro (o9.mono HF9.out.size) (And.intro (HR9.out.keep (b9.block g HR9.out.lt)) (HF9.out.trans (Fm.Fr.of_below b9) (fun _ _ h=>h))))
      clear o9 b9
      go_wp2
      go_ret2
      exact ⟨_,rfl,HE9.out.1,by rw [hQ]; exact HE9.out.2.1,HE9.out.2.2⟩
  have hQ:Q.say m.k = { Q with sd:=Q.sd || !qtE m.k }:=by simp [Rv.say,k0,k1,k2,k3]
  generalize hqm:qtE m.k = qt at HQ hQ
  have cS1:=cS
  have fS1:=fS
  cases hsd:Q.sd
  · rw [hsd] at cS cS1 hQ
    go_wp2_with (first |(refine load_msg_if rfl _ rfl w.heap.size rfl m.cs hg2 hi ?_))
    refine (HQ.out _).mono ?_
    rintro e w5 ⟨rfl,b5⟩
    have HR5:Hid (RQ w5 g Q):=HR2.out.keep (b5.block g HR2.out.lt)
    have cS5:=HR5.out.at 11 (show (Q:Rv).tl[11]? = some (.bool Q.sd) from rfl)
    rw [hsd] at cS5
    have fS5:=HR5.out.fr 33
    have HF5:Hid (Fm.Fr (fun k=>k≠g) w w5):=HF2.out.trans (Fm.Fr.of_below b5) (fun _ _ h=>h)
    have HO5:Hid (OW w.heap.size w5 (.slice a1 n1 c1) (encB m D hb0)):=HO2.out.grow b5
    have HR9:Hid (RQ (w5.setCell ⟨g,33,none⟩ (.bool (!qt))) g { Q with sd:=(!qt) }):=HR5.out.set 11 (.bool (!qt)) _ rfl rfl rfl rfl
    have HF9:Hid (Fm.Fr (fun k=>k≠g) w (w5.setCell ⟨g,33,none⟩ (.bool (!qt)))):=HF5.out.setCell g 33 _ (fun h=>h rfl)
    have HO9:Hid (OW w.heap.size (w5.setCell ⟨g,33,none⟩ (.bool (!qt))) (.slice a1 n1 c1) (encB m D hb0)):=OW.setOther HO5.out hgl _ _
    clear b5 cS cS1 fS fS1
    go_wp2_with fail
    refine (wrapR_yes _ _ hle _ HO9.out.rb).mono ?_
    rintro e w9 ⟨v9,rfl,o9,b9⟩
    have HE9:=Lib.hid (And.intro (o9.mono HF9.out.size) (And.intro (HR9.out.keep (b9.block g HR9.out.lt)) (HF9.out.trans (Fm.Fr.of_below b9) (fun _ _ h=>h))))
    clear o9 b9
    go_wp2
    go_ret2
    exact ⟨_,rfl,HE9.out.1,by rw [hQ]; exact HE9.out.2.1,HE9.out.2.2⟩
  · rw [hsd] at cS cS1 hQ
    have HR9:Hid (RQ (w2.setCell ⟨g,33,none⟩ (.bool true)) g { Q with sd:=true }):=HR2.out.set 11 (.bool true) _ rfl rfl rfl rfl
    have HF9:Hid (Fm.Fr (fun k=>k≠g) w (w2.setCell ⟨g,33,none⟩ (.bool true))):=HF2.out.setCell g 33 _ (fun h=>h rfl)
    have HO9:Hid (OW w.heap.size (w2.setCell ⟨g,33,none⟩ (.bool true)) (.slice a1 n1 c1) (encB m D hb0)):=OW.setOther HO2.out hgl _ _
    go_wp2_with fail
    refine (wrapR_yes _ _ hle _ HO9.out.rb).mono ?_
    rintro e w9 ⟨v9,rfl,o9,b9⟩
    have HE9:=Lib.hid (And.intro (o9.mono HF9.out.size) (And.intro (HR9.out.keep (b9.block g HR9.out.lt)) (HF9.out.trans (Fm.Fr.of_below b9) (fun _ _ h=>h))))
    clear o9 b9
    go_wp2
    go_ret2
    exact ⟨_,rfl,HE9.out.1,by rw [hQ]; exact HE9.out.2.1,HE9.out.2.2⟩
set_option maxHeartbeats 1000000 in
set_option maxRecDepth 100000 in
theorem rsayGone (w:World) (g:Nat) (Q:Rv) (h:RQ w g Q) (hgo:Q.gone = true) (m:Mv) :
    Calls Tryz.prog 28 #[.pointer (some ⟨g,0,none⟩),.agg m.cs] w fun e w'=>e = .returned (.tuple #[.slice none 0 0,.int .i64 170])∧Below w.heap.size w w':=by
  have HB:Hid (Below w.heap.size w (w.alloc (.cells m.cs 40))):=(Below.refl _ _).alloc (Nat.le_refl _) _
  have cG:=(h.keep (HB.out.block g h.lt)).at 3 (show Q.tl[3]? = some (.bool Q.gone) from rfl)
  rw [hgo] at cG
  clear h
  generalize m.cs = mcs at *
  go_enter Tryz.func28,Tryz.ntmps28
  go_wp2
  go_ret2
  exact ⟨rfl,HB.out⟩
set_option maxHeartbeats 1000000 in
set_option maxRecDepth 100000 in
theorem rsayNil (w:World) (m:Mv) :
    Calls Tryz.prog 28 #[.pointer none,.agg m.cs] w fun e w'=>e = .returned (.tuple #[.slice none 0 0,.int .i64 1])∧Below w.heap.size w w':=by
  have HB:Hid (Below w.heap.size w (w.alloc (.cells m.cs 40))):=(Below.refl _ _).alloc (Nat.le_refl _) _
  generalize m.cs = mcs at *
  go_enter Tryz.func28,Tryz.ntmps28
  go_wp2
  go_ret2
  exact ⟨rfl,HB.out⟩
set_option maxHeartbeats 1000000 in
set_option maxRecDepth 100000 in
theorem rfeedGone (w:World) (g:Nat) (Q:Rv) (h:RQ w g Q) (hgo:Q.gone = true) (v:Value) :
    Calls Tryz.prog 21 #[.pointer (some ⟨g,0,none⟩),v] w fun e w'=>e = .returned (.tuple #[.slice none 0 0,.int .i64 170])∧w' = w:=by
  have cG:=h.at 3 (show Q.tl[3]? = some (.bool Q.gone) from rfl)
  rw [hgo] at cG
  clear h
  go_enter Tryz.func21,Tryz.ntmps21
  go_wp2
  go_ret2
  exact ⟨rfl,rfl⟩
set_option maxHeartbeats 1000000 in
set_option maxRecDepth 100000 in
theorem rfeedNil (w:World) (v:Value) :
    Calls Tryz.prog 21 #[.pointer none,v] w fun e w'=>e = .returned (.tuple #[.slice none 0 0,.int .i64 1])∧w' = w:=by
  go_enter Tryz.func21,Tryz.ntmps21
  go_wp2
  go_ret2
  exact ⟨rfl,rfl⟩
set_option maxHeartbeats 1000000 in
set_option maxRecDepth 100000 in
theorem rstateNil (w:World) :
    Calls Tryz.prog 31 #[.pointer none] w fun e w'=>e = .returned (.agg z8)∧Below w.heap.size w w':=by
  have bA:Below w.heap.size w (w.alloc (.cells z8 61)):=(Below.refl _ _).alloc (Nat.le_refl _) _
  have hg:(w.alloc (.cells z8 61)).heap[w.heap.size]? = some (.cells z8 61 (0,0)):=heapNew w _
  have HB:=Lib.hid bA
  clear bA
  go_enter Tryz.func31,Tryz.ntmps31
  go_wp2
  (try simp only [Exit.inBlock,Exit.then]); refine bodyPost_ret (results_state rfl _ _ w.heap.size z8 rfl hg rfl) rfl ?_
  exact ⟨rfl,HB.out⟩
set_option maxHeartbeats 1000000 in
set_option maxRecDepth 100000 in
theorem rgreetNil (w:World) (me:List UInt8) :
    Calls Tryz.prog 34 #[.pointer none,.agg (bc me)] w fun e w'=>e = .returned (.slice none 0 0)∧Below w.heap.size w w':=by
  have HB:Hid (Below w.heap.size w (w.alloc (.cells (bc me) 41))):=(Below.refl _ _).alloc (Nat.le_refl _) _
  generalize bc me = mb at *
  go_enter Tryz.func34,Tryz.ntmps34
  go_wp2
  go_ret
  exact ⟨rfl,HB.out⟩
end Go.Proofs.YtfjjpbebnoghmaaGreatDoor
