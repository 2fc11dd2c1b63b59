import Derived.Test.YtdlnnnlmlaploabGreatDoorK25
import Derived.Test.YtdlnnnlmlaploabGreatDoorK18
import Derived.Test.YtdlnnnlmlaploabGreatDoorK24
namespace Go.Proofs.YtdlnnnlmlaploabGreatDoor
open Go.RowKit Go.Deep
theorem rb_take {w:World} {b:List UInt8} {g o c f:Nat} (hcc:b.length ≤ c) (h2:f ≤ b.length) (hg:g < w.heap.size) (hc:∀ i,i < b.length → w.cell? ⟨g,o + i,none⟩ = some (.int .u8 ((byt b i).toNat:Int))):RB w (.slice (some ⟨g,o,none⟩) f c) (b.take f):=by
  have hl:(b.take f).length = f:=by rw [List.length_take]; omega
  refine ⟨_,c,by rw [hl],by omega,.inr ⟨g,o,rfl,hg,fun i hi=>?_⟩⟩
  rw [hl] at hi
  rw [hc i (by omega)]
  have e:byt (b.take f) i = byt b i:=by
    unfold byt
    simp [List.getD,hi]
  rw [e]
theorem rb_drop {w:World} {b:List UInt8} {g o c U:Nat} (hcc:b.length ≤ c) (h2:U ≤ b.length) (hg:g < w.heap.size) (hc:∀ i,i < b.length → w.cell? ⟨g,o + i,none⟩ = some (.int .u8 ((byt b i).toNat:Int))):RB w (.slice (some ⟨g,o + U,none⟩) (b.length - U) (c - U)) (b.drop U):=by
  have hl:(b.drop U).length = b.length - U:=by rw [List.length_drop]
  refine ⟨_,c - U,by rw [hl],by omega,.inr ⟨g,o + U,rfl,hg,fun i hi=>?_⟩⟩
  rw [hl] at hi
  rw [Nat.add_assoc,hc (U + i) (by omega)]
  have e:byt (b.drop U) i = byt b (U + i):=by
    unfold byt
    simp [List.getD,List.getElem?_drop]
  rw [e]
def SPL (n:List UInt8) (B:Nat) (w:World) (v:Value) (er:Int):Prop:=∃ t k e0,DOUT n t k e0∧((e0 ≠ 0∧er = 34∧v = .slice none 0 0) ∨ (e0 = 0∧er = 0∧OW B w v n))
set_option maxRecDepth 10000 in
set_option maxHeartbeats 2000000 in
theorem splice28 (g o c:Nat) (b:List UInt8) (F U:Nat) (pa:Option Addr) (pc:Nat) (l:List UInt8) (w:World) (hFU:F ≤ U) (hU:U < b.length) (hlb:b.length ≤ 1048576) (hll:l.length ≤ 2097152) (hr:RB w (.slice (some ⟨g,o,none⟩) b.length c) b) (hrl:RB w (.slice pa l.length pc) l) (hls:Value.slice pa l.length pc = .slice none 0 0 ∨ ∃ ad n c,Value.slice pa l.length pc = .slice (some ad) n c) (hev:EVw w) :
    Calls Tryz.prog 20 #[.slice (some ⟨g,o,none⟩) b.length c,.int .i64 F,.int .i64 U,.slice pa l.length pc] w fun e w'=>∃ v er,e = .returned (.tuple #[v,.int .i64 er])∧SPL (b.take F ++ l ++ b.drop U) w.heap.size w' v er∧Below w.heap.size w w':=by
  obtain ⟨a',c',e',hcc,hcell⟩:=hr
  cases e'
  rcases hcell with h0 | ⟨g',o',eg,hg,hc⟩
  · rw [h0] at hU; simp at hU
  cases eg
  have HRC:=Lib.hid (And.intro hcc (And.intro hg (And.intro hc (And.intro hrl (And.intro hls hev)))))
  have f0:(0:Int) ≤ (F:Int):=by omega
  have f1:(F:Int) ≤ (c:Int):=by omega
  have f2:F ≤ c:=by omega
  have u0:(0:Int) ≤ (U:Int):=by omega
  have u1:(U:Int) ≤ (b.length:Int):=by omega
  have u2:U ≤ b.length:=by omega
  have f3:U < c:=by omega
  have f4:U ≠ c:=by omega
  have f5:¬ c - U = 0:=by omega
  clear hcc hg hc hrl hls hev
  go_enter Tryz.func20,Tryz.ntmps20
  go_wp2_with fail
  refine wp_region_held_drew (S:=fun _=>True) (by kernel_rfl) trivial (fun hHeld=>?_)
  refine wpAnyH_take (i:=0) (v:=.slice (some ⟨g,o,none⟩) b.length c) rfl (by kernel_rfl) (by kernel_rfl) (by kernel_rfl) (fun _ _ _ h=>h) (Or.inl ⟨by rfl,fun w hw=>by go_simp⟩) hHeld ?_
  simp only [Act.put,List.getElem_toArray,List.getElem_cons_zero,List.setIfInBounds_toArray,List.set_cons_zero,List.set_cons_succ]
  refine wpAnyH_take (i:=1) (v:=.int .i64 F) rfl (by kernel_rfl) (by kernel_rfl) (by kernel_rfl) (fun _ _ _ h=>h) (Or.inl ⟨by rfl,fun w hw=>by go_simp⟩) hHeld ?_
  simp only [Act.put,List.getElem_toArray,List.getElem_cons_zero,List.getElem_cons_succ,List.setIfInBounds_toArray,List.set_cons_zero,List.set_cons_succ]
  refine wpAnyH_take (i:=2) (v:=.slice (some ⟨g,o,none⟩) F c) rfl (by kernel_rfl) (by kernel_rfl) (by kernel_rfl) (fun _ _ _ h=>h) (Or.inl ⟨by rfl,fun w hw=>by go_simp⟩) hHeld ?_
  simp only [Act.put,List.getElem_toArray,List.getElem_cons_zero,List.getElem_cons_succ,List.setIfInBounds_toArray,List.set_cons_zero,List.set_cons_succ]
  refine wpAnyH_take (i:=3) (v:=.slice pa l.length pc) rfl (by kernel_rfl) (by kernel_rfl) (by kernel_rfl) (fun _ _ _ h=>h) (Or.inl ⟨by rfl,fun w hw=>by go_simp⟩) hHeld ?_
  simp only [Act.put,List.getElem_toArray,List.getElem_cons_zero,List.getElem_cons_succ,List.setIfInBounds_toArray,List.set_cons_zero,List.set_cons_succ]
  refine wpAnyH_take (i:=4) (v:=.slice (some ⟨g,o,none⟩) b.length c) rfl (by kernel_rfl) (by kernel_rfl) (by kernel_rfl) (fun _ _ _ h=>h) (Or.inl ⟨by rfl,fun w hw=>by go_simp⟩) hHeld ?_
  simp only [Act.put,List.getElem_toArray,List.getElem_cons_zero,List.getElem_cons_succ,List.setIfInBounds_toArray,List.set_cons_zero,List.set_cons_succ]
  refine wpAnyH_take (i:=5) (v:=.int .i64 U) rfl (by kernel_rfl) (by kernel_rfl) (by kernel_rfl) (fun _ _ _ h=>h) (Or.inl ⟨by rfl,fun w hw=>by go_simp⟩) hHeld ?_
  simp only [Act.put,List.getElem_toArray,List.getElem_cons_zero,List.getElem_cons_succ,List.setIfInBounds_toArray,List.set_cons_zero,List.set_cons_succ]
  refine wpAnyH_take (i:=6) (v:=.slice (some ⟨g,o + U,none⟩) (b.length - U) (c - U)) rfl (by kernel_rfl) (by kernel_rfl) (by kernel_rfl) (fun _ _ _ h=>h) (Or.inl ⟨by rfl,fun w hw=>by go_simp; intro e; omega⟩) hHeld ?_
  simp only [Act.put,List.getElem_toArray,List.getElem_cons_zero,List.getElem_cons_succ,List.setIfInBounds_toArray,List.set_cons_zero,List.set_cons_succ]
  refine wpAnyH_ready (rs:=[7]) (by kernel_rfl) (by simp) ?_
  refine AllReadyH.cons (o:=_) rfl (fun K hK=>?_) AllReadyH.nil
  go_simp
  have b2:Below w.heap.size w (w.drew.alloc (Obj.cells #[.slice (some ⟨g,o,none⟩) F c,.slice pa l.length pc,.slice (some ⟨g,o + U,none⟩) (b.length - U) (c - U)] 22)):=((⟨rfl,rfl,rfl,Nat.le_refl _,fun _ _=>rfl⟩:Below w.heap.size w w.drew).alloc (Nat.le_refl _) _)
  have hrow:RowB (w.drew.alloc (Obj.cells #[.slice (some ⟨g,o,none⟩) F c,.slice pa l.length pc,.slice (some ⟨g,o + U,none⟩) (b.length - U) (c - U)] 22)) w.heap.size [(.slice (some ⟨g,o,none⟩) F c,b.take F),(.slice pa l.length pc,l),(.slice (some ⟨g,o + U,none⟩) (b.length - U) (c - U),b.drop U)]:=by
    have hn:blk (w.drew.alloc (Obj.cells #[.slice (some ⟨g,o,none⟩) F c,.slice pa l.length pc,.slice (some ⟨g,o + U,none⟩) (b.length - U) (c - U)] 22)) w.heap.size 22 #[.slice (some ⟨g,o,none⟩) F c,.slice pa l.length pc,.slice (some ⟨g,o + U,none⟩) (b.length - U) (c - U)]:=heap_new w.drew _
    obtain ⟨r1,r2,r3,r4,r5,_⟩:=HRC.out
    have hfb:F ≤ b.length:=by omega
    refine ⟨hn.lt,fun i x hx=>?_⟩
    match i,hx with
    | 0,hx=>simp only [List.getElem?_cons_zero,Option.some.injEq] at hx; subst hx; exact ⟨hn.cell 0,(rb_take r1 hfb r2 r3).keep b2,.inr ⟨_,_,_,rfl⟩⟩
    | 1,hx=>simp only [List.getElem?_cons_succ,List.getElem?_cons_zero,Option.some.injEq] at hx; subst hx; exact ⟨hn.cell 1,r4.keep b2,r5⟩
    | 2,hx=>simp only [List.getElem?_cons_succ,List.getElem?_cons_zero,Option.some.injEq] at hx; subst hx; exact ⟨hn.cell 2,(rb_drop r1 u2 r2 r3).keep b2,.inr ⟨_,_,_,rfl⟩⟩
  have hcat:cats [(.slice (some ⟨g,o,none⟩) F c,b.take F),(.slice pa l.length pc,l),(.slice (some ⟨g,o + U,none⟩) (b.length - U) (c - U),b.drop U)] = b.take F ++ l ++ b.drop U:=by unfold cats; simp
  have HCC:=Lib.hid (concat35 w.heap.size 3 _ _ hrow (by rw [hcat,List.length_append,List.length_append,List.length_take,List.length_drop]; omega) (by simp))
  have HB2:Hid (Below w.heap.size w (w.drew.alloc (Obj.cells #[.slice (some ⟨g,o,none⟩) F c,.slice pa l.length pc,.slice (some ⟨g,o + U,none⟩) (b.length - U) (c - U)] 22))∧cats [(.slice (some ⟨g,o,none⟩) F c,b.take F),(.slice pa l.length pc,l),(.slice (some ⟨g,o + U,none⟩) (b.length - U) (c - U),b.drop U)] = b.take F ++ l ++ b.drop U):=⟨b2,hcat⟩
  refine hK.out _ _ trivial (fun hHeld=>?_)
  clear hK K b2 hrow hcat
  refine wpAnyH_ready (rs:=[8]) (by kernel_rfl) (by simp) ?_
  refine AllReadyH.cons (o:=_) rfl (fun K hK=>?_) AllReadyH.nil
  go_simp
  refine HCC.out.mono ?_
  rintro e w3 ⟨v3,rfl,ho3,hb3⟩
  have HY:Hid (OW w.heap.size w3 v3 (b.take F ++ l ++ b.drop U)∧Below w.heap.size w w3∧EVw w3):=by
    obtain ⟨b2,hcat⟩:=HB2.out
    have b3:=b2.trans (hb3.mono b2.size)
    rw [hcat] at ho3
    exact ⟨ow_low b2.size ho3,b3,HRC.out.2.2.2.2.2.keep b3⟩
  clear ho3 hb3 HCC HB2
  obtain ⟨a3,c3,rfl⟩:=HY.out.1.form'
  generalize hN:b.take F ++ l ++ b.drop U = N at *
  have HN:=Lib.hid hN
  clear hN
  go_wp2_with fail
  refine hK.out _ _ trivial (fun hHeld=>?_)
  clear hK K
  refine wpAnyH_take (i:=9) (v:=.slice a3 N.length c3) rfl (by kernel_rfl) (by kernel_rfl) (by kernel_rfl) (fun _ _ _ h=>h) (Or.inl ⟨by rfl,fun w hw=>by go_simp⟩) hHeld ?_
  simp only [Act.put,List.getElem_toArray,List.getElem_cons_zero,List.getElem_cons_succ,List.setIfInBounds_toArray,List.set_cons_zero,List.set_cons_succ]
  refine wpAnyH_done (by kernel_rfl) ?_ _
  go_wp2_with fail
  refine (check21 _ N w3 HY.out.1.rb HY.out.2.2).mono ?_
  rintro e w4 ⟨t,k,e0,rfl,hd,hb4⟩
  have HZ:Hid (DOUT N t k e0∧OW w.heap.size w4 (.slice a3 N.length c3) N∧Below w.heap.size w w4):=⟨hd,own_keep HY.out.1 (fun x _ hx=>hb4.block x hx),HY.out.2.1.trans (hb4.mono HY.out.2.1.size)⟩
  clear hd hb4 HY
  by_cases he:e0 = 0
  · subst he
    go_wp2
    go_ret2
    rw [HN.out]
    exact ⟨_,0,rfl,⟨t,k,0,HZ.out.1,.inr ⟨rfl,rfl,HZ.out.2.1⟩⟩,HZ.out.2.2⟩
  · have he':(e0 != 0) = true:=by simpa using he
    go_wp2
    go_ret2
    rw [HN.out]
    exact ⟨_,34,rfl,⟨t,k,e0,HZ.out.1,.inl ⟨he,rfl,rfl⟩⟩,HZ.out.2.2⟩
set_option maxRecDepth 10000 in
set_option maxHeartbeats 2000000 in
theorem splice28c (g o c:Nat) (b:List UInt8) (F U:Nat) (pa:Option Addr) (pc:Nat) (l:List UInt8) (w:World) (hFU:F ≤ U) (hU:U ≤ b.length) (hUc:U < c) (hb0:b ≠ []) (hlb:b.length ≤ 1048576) (hll:l.length ≤ 2097152) (hr:RB w (.slice (some ⟨g,o,none⟩) b.length c) b) (hrl:RB w (.slice pa l.length pc) l) (hls:Value.slice pa l.length pc = .slice none 0 0 ∨ ∃ ad n c,Value.slice pa l.length pc = .slice (some ad) n c) (hev:EVw w) :
    Calls Tryz.prog 20 #[.slice (some ⟨g,o,none⟩) b.length c,.int .i64 F,.int .i64 U,.slice pa l.length pc] w fun e w'=>∃ v er,e = .returned (.tuple #[v,.int .i64 er])∧SPL (b.take F ++ l ++ b.drop U) w.heap.size w' v er∧Below w.heap.size w w':=by
  obtain ⟨a',c',e',hcc,hcell⟩:=hr
  cases e'
  rcases hcell with h0 | ⟨g',o',eg,hg,hc⟩
  · exact absurd h0 hb0
  cases eg
  have HRC:=Lib.hid (And.intro hcc (And.intro hg (And.intro hc (And.intro hrl (And.intro hls hev)))))
  have f0:(0:Int) ≤ (F:Int):=by omega
  have f1:(F:Int) ≤ (c:Int):=by omega
  have f2:F ≤ c:=by omega
  have u0:(0:Int) ≤ (U:Int):=by omega
  have u1:(U:Int) ≤ (b.length:Int):=by omega
  have u2:U ≤ b.length:=by omega
  have f3:U < c:=by omega
  have f4:U ≠ c:=by omega
  have f5:¬ c - U = 0:=by omega
  clear hcc hg hc hrl hls hev
  go_enter Tryz.func20,Tryz.ntmps20
  go_wp2_with fail
  refine wp_region_held_drew (S:=fun _=>True) (by kernel_rfl) trivial (fun hHeld=>?_)
  refine wpAnyH_take (i:=0) (v:=.slice (some ⟨g,o,none⟩) b.length c) rfl (by kernel_rfl) (by kernel_rfl) (by kernel_rfl) (fun _ _ _ h=>h) (Or.inl ⟨by rfl,fun w hw=>by go_simp⟩) hHeld ?_
  simp only [Act.put,List.getElem_toArray,List.getElem_cons_zero,List.setIfInBounds_toArray,List.set_cons_zero,List.set_cons_succ]
  refine wpAnyH_take (i:=1) (v:=.int .i64 F) rfl (by kernel_rfl) (by kernel_rfl) (by kernel_rfl) (fun _ _ _ h=>h) (Or.inl ⟨by rfl,fun w hw=>by go_simp⟩) hHeld ?_
  simp only [Act.put,List.getElem_toArray,List.getElem_cons_zero,List.getElem_cons_succ,List.setIfInBounds_toArray,List.set_cons_zero,List.set_cons_succ]
  refine wpAnyH_take (i:=2) (v:=.slice (some ⟨g,o,none⟩) F c) rfl (by kernel_rfl) (by kernel_rfl) (by kernel_rfl) (fun _ _ _ h=>h) (Or.inl ⟨by rfl,fun w hw=>by go_simp⟩) hHeld ?_
  simp only [Act.put,List.getElem_toArray,List.getElem_cons_zero,List.getElem_cons_succ,List.setIfInBounds_toArray,List.set_cons_zero,List.set_cons_succ]
  refine wpAnyH_take (i:=3) (v:=.slice pa l.length pc) rfl (by kernel_rfl) (by kernel_rfl) (by kernel_rfl) (fun _ _ _ h=>h) (Or.inl ⟨by rfl,fun w hw=>by go_simp⟩) hHeld ?_
  simp only [Act.put,List.getElem_toArray,List.getElem_cons_zero,List.getElem_cons_succ,List.setIfInBounds_toArray,List.set_cons_zero,List.set_cons_succ]
  refine wpAnyH_take (i:=4) (v:=.slice (some ⟨g,o,none⟩) b.length c) rfl (by kernel_rfl) (by kernel_rfl) (by kernel_rfl) (fun _ _ _ h=>h) (Or.inl ⟨by rfl,fun w hw=>by go_simp⟩) hHeld ?_
  simp only [Act.put,List.getElem_toArray,List.getElem_cons_zero,List.getElem_cons_succ,List.setIfInBounds_toArray,List.set_cons_zero,List.set_cons_succ]
  refine wpAnyH_take (i:=5) (v:=.int .i64 U) rfl (by kernel_rfl) (by kernel_rfl) (by kernel_rfl) (fun _ _ _ h=>h) (Or.inl ⟨by rfl,fun w hw=>by go_simp⟩) hHeld ?_
  simp only [Act.put,List.getElem_toArray,List.getElem_cons_zero,List.getElem_cons_succ,List.setIfInBounds_toArray,List.set_cons_zero,List.set_cons_succ]
  refine wpAnyH_take (i:=6) (v:=.slice (some ⟨g,o + U,none⟩) (b.length - U) (c - U)) rfl (by kernel_rfl) (by kernel_rfl) (by kernel_rfl) (fun _ _ _ h=>h) (Or.inl ⟨by rfl,fun w hw=>by go_simp; intro e; omega⟩) hHeld ?_
  simp only [Act.put,List.getElem_toArray,List.getElem_cons_zero,List.getElem_cons_succ,List.setIfInBounds_toArray,List.set_cons_zero,List.set_cons_succ]
  refine wpAnyH_ready (rs:=[7]) (by kernel_rfl) (by simp) ?_
  refine AllReadyH.cons (o:=_) rfl (fun K hK=>?_) AllReadyH.nil
  go_simp
  have b2:Below w.heap.size w (w.drew.alloc (Obj.cells #[.slice (some ⟨g,o,none⟩) F c,.slice pa l.length pc,.slice (some ⟨g,o + U,none⟩) (b.length - U) (c - U)] 22)):=((⟨rfl,rfl,rfl,Nat.le_refl _,fun _ _=>rfl⟩:Below w.heap.size w w.drew).alloc (Nat.le_refl _) _)
  have hrow:RowB (w.drew.alloc (Obj.cells #[.slice (some ⟨g,o,none⟩) F c,.slice pa l.length pc,.slice (some ⟨g,o + U,none⟩) (b.length - U) (c - U)] 22)) w.heap.size [(.slice (some ⟨g,o,none⟩) F c,b.take F),(.slice pa l.length pc,l),(.slice (some ⟨g,o + U,none⟩) (b.length - U) (c - U),b.drop U)]:=by
    have hn:blk (w.drew.alloc (Obj.cells #[.slice (some ⟨g,o,none⟩) F c,.slice pa l.length pc,.slice (some ⟨g,o + U,none⟩) (b.length - U) (c - U)] 22)) w.heap.size 22 #[.slice (some ⟨g,o,none⟩) F c,.slice pa l.length pc,.slice (some ⟨g,o + U,none⟩) (b.length - U) (c - U)]:=heap_new w.drew _
    obtain ⟨r1,r2,r3,r4,r5,_⟩:=HRC.out
    have hfb:F ≤ b.length:=by omega
    refine ⟨hn.lt,fun i x hx=>?_⟩
    match i,hx with
    | 0,hx=>simp only [List.getElem?_cons_zero,Option.some.injEq] at hx; subst hx; exact ⟨hn.cell 0,(rb_take r1 hfb r2 r3).keep b2,.inr ⟨_,_,_,rfl⟩⟩
    | 1,hx=>simp only [List.getElem?_cons_succ,List.getElem?_cons_zero,Option.some.injEq] at hx; subst hx; exact ⟨hn.cell 1,r4.keep b2,r5⟩
    | 2,hx=>simp only [List.getElem?_cons_succ,List.getElem?_cons_zero,Option.some.injEq] at hx; subst hx; exact ⟨hn.cell 2,(rb_drop r1 u2 r2 r3).keep b2,.inr ⟨_,_,_,rfl⟩⟩
  have hcat:cats [(.slice (some ⟨g,o,none⟩) F c,b.take F),(.slice pa l.length pc,l),(.slice (some ⟨g,o + U,none⟩) (b.length - U) (c - U),b.drop U)] = b.take F ++ l ++ b.drop U:=by unfold cats; simp
  have HCC:=Lib.hid (concat35 w.heap.size 3 _ _ hrow (by rw [hcat,List.length_append,List.length_append,List.length_take,List.length_drop]; omega) (by simp))
  have HB2:Hid (Below w.heap.size w (w.drew.alloc (Obj.cells #[.slice (some ⟨g,o,none⟩) F c,.slice pa l.length pc,.slice (some ⟨g,o + U,none⟩) (b.length - U) (c - U)] 22))∧cats [(.slice (some ⟨g,o,none⟩) F c,b.take F),(.slice pa l.length pc,l),(.slice (some ⟨g,o + U,none⟩) (b.length - U) (c - U),b.drop U)] = b.take F ++ l ++ b.drop U):=⟨b2,hcat⟩
  refine hK.out _ _ trivial (fun hHeld=>?_)
  clear hK K b2 hrow hcat
  refine wpAnyH_ready (rs:=[8]) (by kernel_rfl) (by simp) ?_
  refine AllReadyH.cons (o:=_) rfl (fun K hK=>?_) AllReadyH.nil
  go_simp
  refine HCC.out.mono ?_
  rintro e w3 ⟨v3,rfl,ho3,hb3⟩
  have HY:Hid (OW w.heap.size w3 v3 (b.take F ++ l ++ b.drop U)∧Below w.heap.size w w3∧EVw w3):=by
    obtain ⟨b2,hcat⟩:=HB2.out
    have b3:=b2.trans (hb3.mono b2.size)
    rw [hcat] at ho3
    exact ⟨ow_low b2.size ho3,b3,HRC.out.2.2.2.2.2.keep b3⟩
  clear ho3 hb3 HCC HB2
  obtain ⟨a3,c3,rfl⟩:=HY.out.1.form'
  generalize hN:b.take F ++ l ++ b.drop U = N at *
  have HN:=Lib.hid hN
  clear hN
  go_wp2_with fail
  refine hK.out _ _ trivial (fun hHeld=>?_)
  clear hK K
  refine wpAnyH_take (i:=9) (v:=.slice a3 N.length c3) rfl (by kernel_rfl) (by kernel_rfl) (by kernel_rfl) (fun _ _ _ h=>h) (Or.inl ⟨by rfl,fun w hw=>by go_simp⟩) hHeld ?_
  simp only [Act.put,List.getElem_toArray,List.getElem_cons_zero,List.getElem_cons_succ,List.setIfInBounds_toArray,List.set_cons_zero,List.set_cons_succ]
  refine wpAnyH_done (by kernel_rfl) ?_ _
  go_wp2_with fail
  refine (check21 _ N w3 HY.out.1.rb HY.out.2.2).mono ?_
  rintro e w4 ⟨t,k,e0,rfl,hd,hb4⟩
  have HZ:Hid (DOUT N t k e0∧OW w.heap.size w4 (.slice a3 N.length c3) N∧Below w.heap.size w w4):=⟨hd,own_keep HY.out.1 (fun x _ hx=>hb4.block x hx),HY.out.2.1.trans (hb4.mono HY.out.2.1.size)⟩
  clear hd hb4 HY
  by_cases he:e0 = 0
  · subst he
    go_wp2
    go_ret2
    rw [HN.out]
    exact ⟨_,0,rfl,⟨t,k,0,HZ.out.1,.inr ⟨rfl,rfl,HZ.out.2.1⟩⟩,HZ.out.2.2⟩
  · have he':(e0 != 0) = true:=by simpa using he
    go_wp2
    go_ret2
    rw [HN.out]
    exact ⟨_,34,rfl,⟨t,k,e0,HZ.out.1,.inl ⟨he,rfl,rfl⟩⟩,HZ.out.2.2⟩
set_option maxRecDepth 10000 in
set_option maxHeartbeats 2000000 in
theorem splice28d (g o c:Nat) (b:List UInt8) (F U:Nat) (pa:Option Addr) (pc:Nat) (l:List UInt8) (w:World) (hFU:F ≤ U) (hU:U = b.length) (hUc:U = c) (hb0:b ≠ []) (hlb:b.length ≤ 1048576) (hll:l.length ≤ 2097152) (hr:RB w (.slice (some ⟨g,o,none⟩) b.length c) b) (hrl:RB w (.slice pa l.length pc) l) (hls:Value.slice pa l.length pc = .slice none 0 0 ∨ ∃ ad n c,Value.slice pa l.length pc = .slice (some ad) n c) (hev:EVw w) :
    Calls Tryz.prog 20 #[.slice (some ⟨g,o,none⟩) b.length c,.int .i64 F,.int .i64 U,.slice pa l.length pc] w fun e w'=>∃ v er,e = .returned (.tuple #[v,.int .i64 er])∧SPL (b.take F ++ l ++ b.drop U) w.heap.size w' v er∧Below w.heap.size w w':=by
  subst hUc hU
  obtain ⟨a',c',e',hcc,hcell⟩:=hr
  cases e'
  rcases hcell with h0 | ⟨g',o',eg,hg,hc⟩
  · exact absurd h0 hb0
  cases eg
  have HRC:=Lib.hid (And.intro hcc (And.intro hg (And.intro hc (And.intro hrl (And.intro hls hev)))))
  have f0:(0:Int) ≤ (F:Int):=by omega
  have f1:(F:Int) ≤ (b.length:Int):=by omega
  have f2:F ≤ b.length:=by omega
  have u0:(0:Int) ≤ (b.length:Int):=by omega
  have u1:(b.length:Int) ≤ (b.length:Int):=by omega
  have u2:b.length ≤ b.length:=by omega
  clear hcc hg hc hrl hls hev
  go_enter Tryz.func20,Tryz.ntmps20
  go_wp2_with fail
  refine wp_region_held_drew (S:=fun _=>True) (by kernel_rfl) trivial (fun hHeld=>?_)
  refine wpAnyH_take (i:=0) (v:=.slice (some ⟨g,o,none⟩) b.length b.length) rfl (by kernel_rfl) (by kernel_rfl) (by kernel_rfl) (fun _ _ _ h=>h) (Or.inl ⟨by rfl,fun w hw=>by go_simp⟩) hHeld ?_
  simp only [Act.put,List.getElem_toArray,List.getElem_cons_zero,List.setIfInBounds_toArray,List.set_cons_zero,List.set_cons_succ]
  refine wpAnyH_take (i:=1) (v:=.int .i64 F) rfl (by kernel_rfl) (by kernel_rfl) (by kernel_rfl) (fun _ _ _ h=>h) (Or.inl ⟨by rfl,fun w hw=>by go_simp⟩) hHeld ?_
  simp only [Act.put,List.getElem_toArray,List.getElem_cons_zero,List.getElem_cons_succ,List.setIfInBounds_toArray,List.set_cons_zero,List.set_cons_succ]
  refine wpAnyH_take (i:=2) (v:=.slice (some ⟨g,o,none⟩) F b.length) rfl (by kernel_rfl) (by kernel_rfl) (by kernel_rfl) (fun _ _ _ h=>h) (Or.inl ⟨by rfl,fun w hw=>by go_simp⟩) hHeld ?_
  simp only [Act.put,List.getElem_toArray,List.getElem_cons_zero,List.getElem_cons_succ,List.setIfInBounds_toArray,List.set_cons_zero,List.set_cons_succ]
  refine wpAnyH_take (i:=3) (v:=.slice pa l.length pc) rfl (by kernel_rfl) (by kernel_rfl) (by kernel_rfl) (fun _ _ _ h=>h) (Or.inl ⟨by rfl,fun w hw=>by go_simp⟩) hHeld ?_
  simp only [Act.put,List.getElem_toArray,List.getElem_cons_zero,List.getElem_cons_succ,List.setIfInBounds_toArray,List.set_cons_zero,List.set_cons_succ]
  refine wpAnyH_take (i:=4) (v:=.slice (some ⟨g,o,none⟩) b.length b.length) rfl (by kernel_rfl) (by kernel_rfl) (by kernel_rfl) (fun _ _ _ h=>h) (Or.inl ⟨by rfl,fun w hw=>by go_simp⟩) hHeld ?_
  simp only [Act.put,List.getElem_toArray,List.getElem_cons_zero,List.getElem_cons_succ,List.setIfInBounds_toArray,List.set_cons_zero,List.set_cons_succ]
  refine wpAnyH_take (i:=5) (v:=.int .i64 b.length) rfl (by kernel_rfl) (by kernel_rfl) (by kernel_rfl) (fun _ _ _ h=>h) (Or.inl ⟨by rfl,fun w hw=>by go_simp⟩) hHeld ?_
  simp only [Act.put,List.getElem_toArray,List.getElem_cons_zero,List.getElem_cons_succ,List.setIfInBounds_toArray,List.set_cons_zero,List.set_cons_succ]
  refine wpAnyH_take (i:=6) (v:=.slice (some ⟨g,o,none⟩) 0 0) rfl (by kernel_rfl) (by kernel_rfl) (by kernel_rfl) (fun _ _ _ h=>h) (Or.inl ⟨by rfl,fun w hw=>by go_simp⟩) hHeld ?_
  simp only [Act.put,List.getElem_toArray,List.getElem_cons_zero,List.getElem_cons_succ,List.setIfInBounds_toArray,List.set_cons_zero,List.set_cons_succ]
  refine wpAnyH_ready (rs:=[7]) (by kernel_rfl) (by simp) ?_
  refine AllReadyH.cons (o:=_) rfl (fun K hK=>?_) AllReadyH.nil
  go_simp
  have b2:Below w.heap.size w (w.drew.alloc (Obj.cells #[.slice (some ⟨g,o,none⟩) F b.length,.slice pa l.length pc,.slice (some ⟨g,o,none⟩) 0 0] 22)):=((⟨rfl,rfl,rfl,Nat.le_refl _,fun _ _=>rfl⟩:Below w.heap.size w w.drew).alloc (Nat.le_refl _) _)
  have hrow:RowB (w.drew.alloc (Obj.cells #[.slice (some ⟨g,o,none⟩) F b.length,.slice pa l.length pc,.slice (some ⟨g,o,none⟩) 0 0] 22)) w.heap.size [(.slice (some ⟨g,o,none⟩) F b.length,b.take F),(.slice pa l.length pc,l),(.slice (some ⟨g,o,none⟩) 0 0,b.drop b.length)]:=by
    have hn:blk (w.drew.alloc (Obj.cells #[.slice (some ⟨g,o,none⟩) F b.length,.slice pa l.length pc,.slice (some ⟨g,o,none⟩) 0 0] 22)) w.heap.size 22 #[.slice (some ⟨g,o,none⟩) F b.length,.slice pa l.length pc,.slice (some ⟨g,o,none⟩) 0 0]:=heap_new w.drew _
    obtain ⟨r1,r2,r3,r4,r5,_⟩:=HRC.out
    have hE0:RB w (.slice (some ⟨g,o,none⟩) 0 0) (b.drop b.length):=⟨some ⟨g,o,none⟩,0,by simp,by simp,.inl (List.drop_eq_nil_of_le (by omega))⟩
    have hfb:F ≤ b.length:=by omega
    refine ⟨hn.lt,fun i x hx=>?_⟩
    match i,hx with
    | 0,hx=>simp only [List.getElem?_cons_zero,Option.some.injEq] at hx; subst hx; exact ⟨hn.cell 0,(rb_take r1 hfb r2 r3).keep b2,.inr ⟨_,_,_,rfl⟩⟩
    | 1,hx=>simp only [List.getElem?_cons_succ,List.getElem?_cons_zero,Option.some.injEq] at hx; subst hx; exact ⟨hn.cell 1,r4.keep b2,r5⟩
    | 2,hx=>simp only [List.getElem?_cons_succ,List.getElem?_cons_zero,Option.some.injEq] at hx; subst hx; exact ⟨hn.cell 2,hE0.keep b2,.inr ⟨_,_,_,rfl⟩⟩
  have hcat:cats [(.slice (some ⟨g,o,none⟩) F b.length,b.take F),(.slice pa l.length pc,l),(.slice (some ⟨g,o,none⟩) 0 0,b.drop b.length)] = b.take F ++ l ++ b.drop b.length:=by unfold cats; simp
  have HCC:=Lib.hid (concat35 w.heap.size 3 _ _ hrow (by rw [hcat,List.length_append,List.length_append,List.length_take,List.length_drop]; omega) (by simp))
  have HB2:Hid (Below w.heap.size w (w.drew.alloc (Obj.cells #[.slice (some ⟨g,o,none⟩) F b.length,.slice pa l.length pc,.slice (some ⟨g,o,none⟩) 0 0] 22))∧cats [(.slice (some ⟨g,o,none⟩) F b.length,b.take F),(.slice pa l.length pc,l),(.slice (some ⟨g,o,none⟩) 0 0,b.drop b.length)] = b.take F ++ l ++ b.drop b.length):=⟨b2,hcat⟩
  refine hK.out _ _ trivial (fun hHeld=>?_)
  clear hK K b2 hrow hcat
  refine wpAnyH_ready (rs:=[8]) (by kernel_rfl) (by simp) ?_
  refine AllReadyH.cons (o:=_) rfl (fun K hK=>?_) AllReadyH.nil
  go_simp
  refine HCC.out.mono ?_
  rintro e w3 ⟨v3,rfl,ho3,hb3⟩
  have HY:Hid (OW w.heap.size w3 v3 (b.take F ++ l ++ b.drop b.length)∧Below w.heap.size w w3∧EVw w3):=by
    obtain ⟨b2,hcat⟩:=HB2.out
    have b3:=b2.trans (hb3.mono b2.size)
    rw [hcat] at ho3
    exact ⟨ow_low b2.size ho3,b3,HRC.out.2.2.2.2.2.keep b3⟩
  clear ho3 hb3 HCC HB2
  obtain ⟨a3,c3,rfl⟩:=HY.out.1.form'
  generalize hN:b.take F ++ l ++ b.drop b.length = N at *
  have HN:=Lib.hid hN
  clear hN
  go_wp2_with fail
  refine hK.out _ _ trivial (fun hHeld=>?_)
  clear hK K
  refine wpAnyH_take (i:=9) (v:=.slice a3 N.length c3) rfl (by kernel_rfl) (by kernel_rfl) (by kernel_rfl) (fun _ _ _ h=>h) (Or.inl ⟨by rfl,fun w hw=>by go_simp⟩) hHeld ?_
  simp only [Act.put,List.getElem_toArray,List.getElem_cons_zero,List.getElem_cons_succ,List.setIfInBounds_toArray,List.set_cons_zero,List.set_cons_succ]
  refine wpAnyH_done (by kernel_rfl) ?_ _
  go_wp2_with fail
  refine (check21 _ N w3 HY.out.1.rb HY.out.2.2).mono ?_
  rintro e w4 ⟨t,k,e0,rfl,hd,hb4⟩
  have HZ:Hid (DOUT N t k e0∧OW w.heap.size w4 (.slice a3 N.length c3) N∧Below w.heap.size w w4):=⟨hd,own_keep HY.out.1 (fun x _ hx=>hb4.block x hx),HY.out.2.1.trans (hb4.mono HY.out.2.1.size)⟩
  clear hd hb4 HY
  by_cases he:e0 = 0
  · subst he
    go_wp2
    go_ret2
    rw [HN.out]
    exact ⟨_,0,rfl,⟨t,k,0,HZ.out.1,.inr ⟨rfl,rfl,HZ.out.2.1⟩⟩,HZ.out.2.2⟩
  · have he':(e0 != 0) = true:=by simpa using he
    go_wp2
    go_ret2
    rw [HN.out]
    exact ⟨_,34,rfl,⟨t,k,e0,HZ.out.1,.inl ⟨he,rfl,rfl⟩⟩,HZ.out.2.2⟩
theorem spliceX (g o c:Nat) (b:List UInt8) (F U:Nat) (pa:Option Addr) (pc:Nat) (l:List UInt8) (w:World) (hFU:F ≤ U) (hU:U ≤ b.length) (hb0:b ≠ []) (hlb:b.length ≤ 1048576) (hll:l.length ≤ 2097152) (hr:RB w (.slice (some ⟨g,o,none⟩) b.length c) b) (hrl:RB w (.slice pa l.length pc) l) (hls:Value.slice pa l.length pc = .slice none 0 0 ∨ ∃ ad n c,Value.slice pa l.length pc = .slice (some ad) n c) (hev:EVw w) :
    Calls Tryz.prog 20 #[.slice (some ⟨g,o,none⟩) b.length c,.int .i64 F,.int .i64 U,.slice pa l.length pc] w fun e w'=>∃ v er,e = .returned (.tuple #[v,.int .i64 er])∧SPL (b.take F ++ l ++ b.drop U) w.heap.size w' v er∧Below w.heap.size w w':=by
  obtain ⟨a',c',e',hcc,_⟩:=id hr
  cases e'
  by_cases h:U < c
  · exact splice28c g o c b F U pa pc l w hFU hU h hb0 hlb hll hr hrl hls hev
  · exact splice28d g o c b F U pa pc l w hFU (by omega) (by omega) hb0 hlb hll hr hrl hls hev
def ADP (b v:List UInt8) (F:Nat) (at':Int) (key:ByteArray) (k2:Int) (ln:Nat) (l:Nat → T) (dn:Nat) (ky:Nat → ByteArray) (dv:Nat → T) (B:Nat) (w:World) (val:Value) (er:Int):Prop:=
  (k2 = 3∧((at' ≠ (ln:Int)∧er = 30∧val = .slice none 0 0) ∨ (at' = (ln:Int)∧SPL (b.take (F + 1 + (catN (fun i=>txt (l i)) ln).length) ++ v ++ b.drop (F + 1 + (catN (fun i=>txt (l i)) ln).length)) B w val er))) ∨
  (k2 = 4∧∃ j0,j0 ≤ dn∧(∀ j,j < j0 → Op.bytesLess key.toList (ky j).toList = false)∧(j0 < dn → Op.bytesLess key.toList (ky j0).toList = true) ∧
    ((1048576 < (wtx key).length∧er = 34∧val = .slice none 0 0) ∨ ((wtx key).length ≤ 1048576∧SPL (b.take (F + 1 + (catN (fun i=>wtx (ky i) ++ txt (dv i)) j0).length) ++ (wtx key ++ v) ++ b.drop (F + 1 + (catN (fun i=>wtx (ky i) ++ txt (dv i)) j0).length)) B w val er)))
theorem room_place {s:List UInt8} {key:ByteArray} {F U:Nat} {at' r er:Int} {k2 n:Int} {s2:ByteArray} {ln:Nat} {l:Nat → T} {dn:Nat} {ky:Nat → ByteArray} {dv:Nat → T} {kk:Nat} (hlim:s.length ≤ 1048576) (hd:DOUT s (.mk k2 n s2 ln l dn ky dv) kk 0) (hv:VT (.mk k2 n s2 ln l dn ky dv)) (hU:U = F + (txt (.mk k2 n s2 ln l dn ky dv)).length) (hk:k2 = 3 ∨ k2 = 4) (h:RMR s key F U k2 at' r er) :
    (k2 = 3∧at' ≠ (ln:Int)∧er = 30) ∨ (k2 = 3∧at' = (ln:Int)∧er = 0∧r = ((F + 1 + (catN (fun i=>txt (l i)) ln).length:Nat):Int)∧F + 1 + (catN (fun i=>txt (l i)) ln).length < U) ∨
    (k2 = 4∧er = 0∧∃ j0,j0 ≤ dn∧(∀ j,j < j0 → Op.bytesLess key.toList (ky j).toList = false)∧(j0 < dn → Op.bytesLess key.toList (ky j0).toList = true)∧r = ((F + 1 + (catN (fun i=>wtx (ky i) ++ txt (dv i)) j0).length:Nat):Int)∧F + 1 + (catN (fun i=>wtx (ky i) ++ txt (dv i)) j0).length < U):=by
  obtain ⟨h,pp,e0,pl,m,hF,hm,hr,he⟩:=h
  rcases hk with rfl | rfl
  · obtain ⟨e1,e2⟩:=room_list hlim hF hd hv hm
    have ht:(txt (.mk 3 n s2 ln l dn ky dv)).length = (catN (fun i=>txt (l i)) ln).length + 2:=by
      show (108 :: (catN (fun i=>txt (l i)) ln ++ [101])).length = _
      simp
    by_cases ha:at' = (ln:Int)
    · rw [if_neg (fun h=>h.2 (ha.trans e2.symm))] at hr he
      exact .inr (.inl ⟨rfl,ha,he,by rw [hr,e1]; omega,by omega⟩)
    · rw [if_pos ⟨rfl,fun e=>ha (e.trans e2)⟩] at he
      exact .inl ⟨rfl,ha,he⟩
  · rw [if_neg (fun h=>by cases h.1)] at hr he
    have ht:(txt (.mk 4 n s2 ln l dn ky dv)).length = (catN (fun i=>wtx (ky i) ++ txt (dv i)) dn).length + 2:=by
      show (100 :: (catN (fun i=>wtx (ky i) ++ txt (dv i)) dn ++ [101])).length = _
      simp
    obtain ⟨j0,j1,j2,j3,j4⟩:=room_dict hlim hF hd hv hm
    refine .inr (.inr ⟨rfl,he,j0,j1,j2,j3,?_,?_⟩)
    · rcases j4 with ⟨rfl,e⟩ | ⟨_,e⟩
      · rw [hr,e]; omega
      · rw [hr,e]; omega
    · rcases Nat.lt_or_eq_of_le j1 with h1 | h1
      · have:=catN_lt (c:=fun i=>wtx (ky i) ++ txt (dv i)) h1
        omega
      · rw [h1]; omega
set_option maxRecDepth 10000 in
set_option maxHeartbeats 4000000 in
theorem add21 {w:World} (g o c:Nat) (b v:List UInt8) (q:Vi) (F U:Nat) (hF:q.fr = (F:Int)) (hU:q.to = (U:Int)) (hFU:F < U) (hUb:U ≤ b.length) (hlim:b.length ≤ 1048576) (hr:RB w (.slice (some ⟨g,o,none⟩) b.length c) b) (va:Option Addr) (vc:Nat) (hrv:RB w (.slice va v.length vc) v) (hvs:Value.slice va v.length vc = .slice none 0 0 ∨ ∃ ad n c,Value.slice va v.length vc = .slice (some ad) n c) (hvl:v.length ≤ 1048576) (hev:EVw w) (hT:TB w.heap.size w) {k2 n:Int} {s:ByteArray} {ln:Nat} {l:Nat → T} {dn:Nat} {ky:Nat → ByteArray} {dv:Nat → T} {kk:Nat} (hd:DOUT ((b.drop F).take (U - F)) (.mk k2 n s ln l dn ky dv) kk 0) (hvt:VT (.mk k2 n s ln l dn ky dv)) (hUF:U = F + (txt (.mk k2 n s ln l dn ky dv)).length) (hqk:q.kd = k2) (hk:k2 = 3 ∨ k2 = 4) (at':Int) (key:ByteArray) (hks:key.size ≤ 10000000000000) :
    Calls Tryz.prog 21 #[.slice (some ⟨g,o,none⟩) b.length c,.agg (Vi.cs q),.agg #[.int .i64 at',.string key],.slice va v.length vc] w fun e w'=>∃ val er,e = .returned (.tuple #[val,.int .i64 er])∧ADP b v F at' key k2 ln l dn ky dv w.heap.size w' val er∧Below w.heap.size w w':=by
  obtain ⟨kd,fr,to,dp,up,nt,ky0,pl,fi⟩:=q
  obtain rfl:fr = (F:Int):=hF
  obtain rfl:to = (U:Int):=hU
  obtain rfl:kd = k2:=hqk
  have s1:(w.alloc (Obj.cells (Vi.cs ⟨kd,F,U,dp,up,nt,ky0,pl,fi⟩) 45)).heap.size = w.heap.size + 1:=by simp
  have b2:Below w.heap.size w ((w.alloc (Obj.cells (Vi.cs ⟨kd,F,U,dp,up,nt,ky0,pl,fi⟩) 45)).alloc (Obj.cells #[.int .i64 at',.string key] 51)):=((Below.refl _ _).alloc (Nat.le_refl _) _).alloc (by rw [s1]; omega) _
  have oA:blk ((w.alloc (Obj.cells (Vi.cs ⟨kd,F,U,dp,up,nt,ky0,pl,fi⟩) 45)).alloc (Obj.cells #[.int .i64 at',.string key] 51)) w.heap.size 45 (Vi.cs ⟨kd,F,U,dp,up,nt,ky0,pl,fi⟩):=(Below.heap_alloc _ _ _ (by rw [s1]; omega)).trans (heap_new _ _)
  have oS:blk ((w.alloc (Obj.cells (Vi.cs ⟨kd,F,U,dp,up,nt,ky0,pl,fi⟩) 45)).alloc (Obj.cells #[.int .i64 at',.string key] 51)) (w.heap.size + 1) 51 #[.int .i64 at',.string key]:=by
    have h:=heap_new (w.alloc (Obj.cells (Vi.cs ⟨kd,F,U,dp,up,nt,ky0,pl,fi⟩) 45)) (Obj.cells #[.int .i64 at',.string key] 51)
    rw [s1] at h
    exact h
  have HM:=Lib.hid (room36 (w:=((w.alloc (Obj.cells (Vi.cs ⟨kd,F,U,dp,up,nt,ky0,pl,fi⟩) 45)).alloc (Obj.cells #[.int .i64 at',.string key] 51))) g o c b ⟨kd,F,U,dp,up,nt,ky0,pl,fi⟩ F U rfl rfl hFU hUb hlim (hr.keep b2) (hev.keep b2) hd hvt at' key)
  have HO:Hid (Below w.heap.size w ((w.alloc (Obj.cells (Vi.cs ⟨kd,F,U,dp,up,nt,ky0,pl,fi⟩) 45)).alloc (Obj.cells #[.int .i64 at',.string key] 51))∧blk ((w.alloc (Obj.cells (Vi.cs ⟨kd,F,U,dp,up,nt,ky0,pl,fi⟩) 45)).alloc (Obj.cells #[.int .i64 at',.string key] 51)) w.heap.size 45 (Vi.cs ⟨kd,F,U,dp,up,nt,ky0,pl,fi⟩)∧blk ((w.alloc (Obj.cells (Vi.cs ⟨kd,F,U,dp,up,nt,ky0,pl,fi⟩) 45)).alloc (Obj.cells #[.int .i64 at',.string key] 51)) (w.heap.size + 1) 51 #[.int .i64 at',.string key]):=⟨b2,oA,oS⟩
  have HW:=Lib.hid (And.intro hr (And.intro hrv (And.intro hvs (And.intro hev hT))))
  have HD:=Lib.hid (And.intro hd (And.intro hvt (And.intro hUF hk)))
  clear hd hvt hr hrv hvs hev hT b2 oA oS s1 hUF hk
  go_enter Tryz.func21,Tryz.ntmps21
  go_wp2_with fail
  refine HM.out.mono ?_
  rintro e w2 ⟨r,er,rfl,hR,hb2⟩
  have H2:Hid (Below w.heap.size w w2∧blk w2 w.heap.size 45 (Vi.cs ⟨kd,F,U,dp,up,nt,ky0,pl,fi⟩)∧blk w2 (w.heap.size + 1) 51 #[.int .i64 at',.string key]):=by
    obtain ⟨q1,q2,q3⟩:=HO.out
    exact ⟨q1.trans (hb2.mono q1.size),q2.keep (hb2.block _ q2.lt),q3.keep (hb2.block _ q3.lt)⟩
  have hcase:=room_place (by rw [List.length_take,List.length_drop]; omega) HD.out.1 HD.out.2.1 HD.out.2.2.1 HD.out.2.2.2 hR
  clear hR hb2 HM HO
  have c1:w2.cell? ⟨w.heap.size,0,none⟩ = some (.int .i64 kd):=H2.out.2.1.cell 0
  have c2:w2.cell? ⟨w.heap.size + 1,1,none⟩ = some (.string key):=H2.out.2.2.cell 1
  rcases hcase with ⟨rfl,ha,rfl⟩ | ⟨rfl,ha,rfl,rfl,hP⟩ | ⟨rfl,rfl,j0,j1,j2,j3,rfl,hP⟩
  · have HE:Hid (∀ w',ADP b v F at' key 3 ln l dn ky dv w.heap.size w' (.slice none 0 0) 30):=fun w'=>.inl ⟨rfl,.inl ⟨ha,rfl,rfl⟩⟩
    go_wp2
    go_ret2
    exact ⟨_,_,rfl,HE.out _,H2.out.1⟩
  · generalize hPn:F + 1 + (catN (fun i=>txt (l i)) ln).length = P at *
    have HPn:=Lib.hid hPn
    clear hPn
    have HC:=Lib.hid (splice28 g o c b P P va vc v w2 (Nat.le_refl _) (by omega) hlim (by omega) (HW.out.1.keep H2.out.1) (HW.out.2.1.keep H2.out.1) HW.out.2.2.1 (HW.out.2.2.2.1.keep H2.out.1))
    go_wp2_with fail
    refine HC.out.mono ?_
    rintro e w3 ⟨val,er,rfl,hs,hb3⟩
    have HE:Hid (ADP b v F at' key 3 ln l dn ky dv w.heap.size w3 val er∧Below w.heap.size w w3):=by
      refine ⟨.inl ⟨rfl,.inr ⟨ha,?_⟩⟩,H2.out.1.trans (hb3.mono H2.out.1.size)⟩
      rw [HPn.out]
      obtain ⟨t,k,e0,h1,h2⟩:=hs
      refine ⟨t,k,e0,h1,?_⟩
      rcases h2 with h2 | ⟨h2,h3,h4⟩
      · exact .inl h2
      · exact .inr ⟨h2,h3,ow_low H2.out.1.size h4⟩
    obtain ⟨va3,vn3,vc3,rfl⟩:∃ a n c,val = .slice a n c:=by
      obtain ⟨_,_,_,_,h2⟩:=hs
      rcases h2 with ⟨_,_,rfl⟩ | ⟨_,_,h4⟩
      · exact ⟨_,_,_,rfl⟩
      · obtain ⟨a4,c4,rfl⟩:=ow_slice h4
        exact ⟨_,_,_,rfl⟩
    clear hs hb3 HC
    go_wp2
    go_ret2
    exact ⟨_,_,rfl,HE.out.1,HE.out.2⟩
  · generalize hPn:F + 1 + (catN (fun i=>wtx (ky i) ++ txt (dv i)) j0).length = P at *
    have HPn:=Lib.hid hPn
    clear hPn
    have HEN:=Lib.hid (encode37s key w2 (by omega) (tb_up (HW.out.2.2.2.2.on H2.out.1) H2.out.1.size))
    go_wp2_with fail
    refine HEN.out.mono ?_
    rintro e w3 ⟨kv,ke,rfl,B3,kl,ho3,he3,hl3,hb3⟩
    rw [if_pos (wk_str key)] at he3
    have htx:txt (tStr key) = wtx key:=rfl
    rw [htx] at he3 hl3
    have H3:Hid (Below w.heap.size w w3∧Below w2.heap.size w2 w3):=⟨H2.out.1.trans (hb3.mono H2.out.1.size),hb3⟩
    by_cases hlong:1048576 < (wtx key).length
    · rw [if_pos hlong] at he3
      subst he3
      rw [if_neg (fun h=>by omega)] at hl3
      subst hl3
      obtain ⟨ka,kc,rfl⟩:=ow_slice ho3
      have HE:Hid (∀ w',ADP b v F at' key 4 ln l dn ky dv w.heap.size w' (.slice none 0 0) 34):=fun w'=>.inr ⟨rfl,j0,j1,j2,j3,.inl ⟨hlong,rfl,rfl⟩⟩
      clear ho3 hb3 HEN
      go_wp2
      go_ret2
      exact ⟨_,_,rfl,HE.out _,H3.out.1⟩
    · rw [if_neg hlong] at he3
      subst he3
      rw [if_pos ⟨wk_str key,by omega⟩] at hl3
      subst hl3
      obtain ⟨ka,kc,rfl⟩:=ow_slice ho3
      have HO3:=Lib.hid ho3
      have hkl:(wtx key).length ≤ 1048576:=by omega
      clear ho3 hb3 HEN hlong c1 c2
      have bA:Below w3.heap.size w3 (w3.alloc (Obj.cells #[.slice ka (wtx key).length kc,.slice va v.length vc] 22)):=(Below.refl _ _).alloc (Nat.le_refl _) _
      have hshape:∀ {W:World} {B:Nat} {x:Value} {l:List UInt8},OW B W x l → x = .slice none 0 0 ∨ ∃ ad n c,x = .slice (some ad) n c:=fun h=>by
        rcases ow_cell h with ⟨h,_⟩ | ⟨g',c',h,_⟩
        · exact .inl h
        · exact .inr ⟨_,_,_,h⟩
      have hrow:RowB (w3.alloc (Obj.cells #[.slice ka (wtx key).length kc,.slice va v.length vc] 22)) w3.heap.size [(.slice ka (wtx key).length kc,wtx key),(.slice va v.length vc,v)]:=by
        have hn:blk (w3.alloc (Obj.cells #[.slice ka (wtx key).length kc,.slice va v.length vc] 22)) w3.heap.size 22 #[.slice ka (wtx key).length kc,.slice va v.length vc]:=heap_new w3 _
        refine ⟨hn.lt,fun i x hx=>?_⟩
        match i,hx with
        | 0,hx=>simp only [List.getElem?_cons_zero,Option.some.injEq] at hx; subst hx; exact ⟨hn.cell 0,HO3.out.rb.keep bA,hshape HO3.out⟩
        | 1,hx=>simp only [List.getElem?_cons_succ,List.getElem?_cons_zero,Option.some.injEq] at hx; subst hx; exact ⟨hn.cell 1,(HW.out.2.1.keep H3.out.1).keep bA,HW.out.2.2.1⟩
      have hcat:cats [(.slice ka (wtx key).length kc,wtx key),(.slice va v.length vc,v)] = wtx key ++ v:=by unfold cats; simp
      have HCC:=Lib.hid (concat35 w3.heap.size 2 _ _ hrow (by rw [hcat,List.length_append]; omega) (by simp))
      have HB3:Hid (Below w.heap.size w (w3.alloc (Obj.cells #[.slice ka (wtx key).length kc,.slice va v.length vc] 22))∧cats [(.slice ka (wtx key).length kc,wtx key),(.slice va v.length vc,v)] = wtx key ++ v):=⟨H3.out.1.trans (bA.mono H3.out.1.size),hcat⟩
      have HSH:Hid (∀ {W:World} {B:Nat} {x:Value} {l:List UInt8},OW B W x l → x = .slice none 0 0 ∨ ∃ ad n c,x = .slice (some ad) n c):=hshape
      clear bA hrow hcat hshape HO3
      go_wp2_with fail
      refine HCC.out.mono ?_
      rintro e w4 ⟨v4,rfl,ho4,hb4⟩
      rw [HB3.out.2] at ho4
      obtain ⟨a4,c4,rfl⟩:=ow_slice ho4
      have H4:Hid (Below w.heap.size w w4):=HB3.out.1.trans (hb4.mono HB3.out.1.size)
      have hl4:(wtx key ++ v).length ≤ 2097152:=by rw [List.length_append]; omega
      have HC:=Lib.hid (splice28 g o c b P P a4 c4 (wtx key ++ v) w4 (Nat.le_refl _) (by omega) hlim hl4 (HW.out.1.keep H4.out) ho4.rb (HSH.out ho4) (HW.out.2.2.2.1.keep H4.out))
      clear ho4 hb4 hl4 HCC HB3
      generalize hNN:wtx key ++ v = NN at HC ⊢
      have HNN:=Lib.hid hNN
      clear hNN
      go_wp2_with fail
      refine HC.out.mono ?_
      rintro e w5 ⟨val,er,rfl,hs,hb5⟩
      have HE:Hid (ADP b v F at' key 4 ln l dn ky dv w.heap.size w5 val er∧Below w.heap.size w w5):=by
        refine ⟨.inr ⟨rfl,j0,j1,j2,j3,.inr ⟨hkl,?_⟩⟩,H4.out.trans (hb5.mono H4.out.size)⟩
        rw [HPn.out,HNN.out]
        obtain ⟨t,k,e0,h1,h2⟩:=hs
        refine ⟨t,k,e0,h1,?_⟩
        rcases h2 with h2 | ⟨h2,h3,h4⟩
        · exact .inl h2
        · exact .inr ⟨h2,h3,ow_low H4.out.size h4⟩
      obtain ⟨va3,vn3,vc3,rfl⟩:∃ a n c,val = .slice a n c:=by
        obtain ⟨_,_,_,_,h2⟩:=hs
        rcases h2 with ⟨_,_,rfl⟩ | ⟨_,_,h4⟩
        · exact ⟨_,_,_,rfl⟩
        · obtain ⟨a4,c4,rfl⟩:=ow_slice h4
          exact ⟨_,_,_,rfl⟩
      clear hs hb5 HC
      go_wp2
      go_ret2
      exact ⟨_,_,rfl,HE.out.1,HE.out.2⟩
end Go.Proofs.YtdlnnnlmlaploabGreatDoor
