import Derived.Test.YtdlnnnlmlaploabGreatDoorK05
import Derived.Test.YtdlnnnlmlaploabGreatDoorK04
import Derived.Test.YtdlnnnlmlaploabGreatDoorK06
import Derived.Deep.RegionHeld3
namespace Go.Proofs.YtdlnnnlmlaploabGreatDoor
open Go.RowKit Go.Deep
theorem info73s:(Tryz.prog.info? 111).map (·.size) = some 5:=by kernel_rfl
def fob (w:World) (b:Nat) (c0 c1 c2 c3 c4:Value):Prop:=blk w b 111 #[c0,c1,c2,c3,c4]
def At (w:World) (v v':Value):Prop:=v'.ownBlock = v.ownBlock ∨ ∃ g,v'.ownBlock = some g∧w.heap.size ≤ g
theorem fob.cells {w:World} {b:Nat} {c0 c1 c2 c3 c4:Value} (h:fob w b c0 c1 c2 c3 c4):(w.cell? ⟨b,0,none⟩ = some c0∧w.cell? ⟨b,1,none⟩ = some c1∧w.cell? ⟨b,2,none⟩ = some c2∧w.cell? ⟨b,3,none⟩ = some c3∧w.cell? ⟨b,4,none⟩ = some c4)∧w.frozen? ⟨b,0,none⟩ = false∧w.frozen? ⟨b,1,none⟩ = false∧w.frozen? ⟨b,2,none⟩ = false∧w.frozen? ⟨b,3,none⟩ = false∧w.frozen? ⟨b,4,none⟩ = false:=
  ⟨⟨blk.cell h 0,blk.cell h 1,blk.cell h 2,blk.cell h 3,blk.cell h 4⟩,blk.frozen h 0,blk.frozen h 1,blk.frozen h 2,blk.frozen h 3,blk.frozen h 4⟩
structure Diff (P:Nat → Prop) (w w':World):Prop where
  os:w'.os = w.os
  tape:w'.tape = w.tape
  output:w'.output = w.output
  size:w'.heap.size = w.heap.size
  block:∀ k, ¬ P k → w'.heap[k]? = w.heap[k]?
theorem Diff.refl (P:Nat → Prop) (w:World):Diff P w w:=⟨rfl,rfl,rfl,rfl,fun _ _=>rfl⟩
theorem Diff.set {P:Nat → Prop} {w w':World} (h:Diff P w w') (b i:Nat) (v:Value) (hb:P b):Diff P w (w'.setCell ⟨b,i,none⟩ v):=
  ⟨h.os,h.tape,h.output,by simp [World.setCell,h.size],fun k hk=>by rw [Below.heap_setCell _ _ _ _ (fun e=>hk (by rw [e]; exact hb))]; exact h.block k hk⟩
theorem jend {w:World} {H b:Nat} {u c0 c1 c2 c3 c4 b0 b1 b2 b3 b4:Value} (h:fob w b c0 c1 c2 c3 c4) (hn:b ≠ H):fob ((((((w.setCell ⟨H,1,none⟩ u).setCell ⟨b,0,none⟩ b0).setCell ⟨b,1,none⟩ b1).setCell ⟨b,2,none⟩ b2).setCell ⟨b,3,none⟩ b3).setCell ⟨b,4,none⟩ b4) b b0 b1 b2 b3 b4:=by
  have h1:fob (w.setCell ⟨H,1,none⟩ u) b c0 c1 c2 c3 c4:=blk.keep h (Below.heap_setCell _ _ _ _ hn)
  exact ((((blk.set h1 0 b0).set 1 b1).set 2 b2).set 3 b3).set 4 b4
theorem joined_end {w w' wf:World} {B e sz n':Nat} {lv lv':Value} {xs:List Value} (h1:w'.ownsRow B e sz lv' n' xs) (h2:w.grownBy w' lv.ownBlock) (h3:lv'.ownBlock = lv.ownBlock ∨ ∃ g,lv'.ownBlock = some g∧w.heap.size + 4 ≤ g) (hl:∀ q,w.heap.size ≤ q → some q ≠ lv.ownBlock)
    (hd:Diff (fun k=>k = w.heap.size ∨ k = w.heap.size + 1 + 1) w' wf):wf.ownsRow B e sz lv' n' xs∧w.grownBy wf lv.ownBlock∧At w lv lv':=by
  refine ⟨⟨h1.1,?_⟩,⟨hd.os.trans h2.os,hd.tape.trans h2.tape,hd.output.trans h2.output,by rw [hd.size]; exact h2.size,fun k hk hn=>(hd.block k (by omega)).trans (h2.block k hk hn)⟩,?_⟩
  · rcases h1.2 with h | ⟨g,cap,cur,q1,q2,q3,q4⟩
    · exact .inl h
    · refine .inr ⟨g,cap,cur,q1,q2,(hd.block g ?_).trans q3,q4⟩
      have hg:lv'.ownBlock = some g:=by rw [q1]; rfl
      rcases h3 with h | ⟨g',h,h'⟩
      · intro e
        exact hl g (by omega) (by rw [← hg,h])
      · have:g = g':=by rw [hg] at h; exact Option.some.inj h
        omega
  · rcases h3 with h | ⟨g',h,h'⟩
    · exact .inl h
    · exact .inr ⟨g',h,by omega⟩
theorem joined_boxes (K0:Int) (L D:Value) (s:ByteArray) (m:Bool) (k n:Int) (vs:ByteArray) (x y:Value) (tmp:Obj) (w:World) :
    Below w.heap.size w ((((w.alloc (Obj.cells #[.int .i64 K0,L,D,.string s,.bool m] 111)).alloc (Obj.cells #[.int .i64 k,.int .i64 n,.string vs,x,y] 55)).alloc (Obj.cells #[.int .i64 0,.slice none 0 0,.slice none 0 0,.string { data:=#[] },.bool false] 111)).alloc tmp) ∧
    fob ((((w.alloc (Obj.cells #[.int .i64 K0,L,D,.string s,.bool m] 111)).alloc (Obj.cells #[.int .i64 k,.int .i64 n,.string vs,x,y] 55)).alloc (Obj.cells #[.int .i64 0,.slice none 0 0,.slice none 0 0,.string { data:=#[] },.bool false] 111)).alloc tmp) w.heap.size (.int .i64 K0) L D (.string s) (.bool m) ∧
    fob ((((w.alloc (Obj.cells #[.int .i64 K0,L,D,.string s,.bool m] 111)).alloc (Obj.cells #[.int .i64 k,.int .i64 n,.string vs,x,y] 55)).alloc (Obj.cells #[.int .i64 0,.slice none 0 0,.slice none 0 0,.string { data:=#[] },.bool false] 111)).alloc tmp) (w.heap.size + 1 + 1) (.int .i64 0) (.slice none 0 0) (.slice none 0 0) (.string { data:=#[] }) (.bool false) ∧
    ((((w.alloc (Obj.cells #[.int .i64 K0,L,D,.string s,.bool m] 111)).alloc (Obj.cells #[.int .i64 k,.int .i64 n,.string vs,x,y] 55)).alloc (Obj.cells #[.int .i64 0,.slice none 0 0,.slice none 0 0,.string { data:=#[] },.bool false] 111)).alloc tmp).heap[w.heap.size + 1 + 1 + 1]? = some tmp ∧
    ((((w.alloc (Obj.cells #[.int .i64 K0,L,D,.string s,.bool m] 111)).alloc (Obj.cells #[.int .i64 k,.int .i64 n,.string vs,x,y] 55)).alloc (Obj.cells #[.int .i64 0,.slice none 0 0,.slice none 0 0,.string { data:=#[] },.bool false] 111)).alloc tmp).heap.size = w.heap.size + 1 + 1 + 1 + 1:=by
  generalize ha:(w.alloc (Obj.cells #[.int .i64 K0,L,D,.string s,.bool m] 111)) = wa
  have sa:wa.heap.size = w.heap.size + 1:=by rw [← ha]; simp
  have oa:fob wa w.heap.size (.int .i64 K0) L D (.string s) (.bool m):=by rw [← ha]; exact heap_new _ _
  have ba:Below w.heap.size w wa:=by rw [← ha]; exact (Below.refl _ _).alloc (Nat.le_refl _) _
  generalize hb:wa.alloc (Obj.cells #[.int .i64 k,.int .i64 n,.string vs,x,y] 55) = wb
  have sb:wb.heap.size = w.heap.size + 1 + 1:=by rw [← hb]; simp [sa]
  have bb:Below wa.heap.size wa wb:=by rw [← hb]; exact (Below.refl _ _).alloc (Nat.le_refl _) _
  generalize hcc:wb.alloc (Obj.cells #[.int .i64 0,.slice none 0 0,.slice none 0 0,.string { data:=#[] },.bool false] 111) = wc
  have sc:wc.heap.size = w.heap.size + 1 + 1 + 1:=by rw [← hcc]; simp [sb]
  have oc:fob wc (w.heap.size + 1 + 1) (.int .i64 0) (.slice none 0 0) (.slice none 0 0) (.string { data:=#[] }) (.bool false):=by rw [← hcc, ← sb]; exact heap_new _ _
  have bc:Below wb.heap.size wb wc:=by rw [← hcc]; exact (Below.refl _ _).alloc (Nat.le_refl _) _
  generalize hd:wc.alloc tmp = wd
  have sd:wd.heap.size = w.heap.size + 1 + 1 + 1 + 1:=by rw [← hd]; simp [sc]
  have od:wd.heap[w.heap.size + 1 + 1 + 1]? = some tmp:=by rw [← hd, ← sc]; exact heap_new _ _
  have bd:Below wc.heap.size wc wd:=by rw [← hd]; exact (Below.refl _ _).alloc (Nat.le_refl _) _
  exact ⟨((ba.trans (bb.mono (by omega))).trans (bc.mono (by omega))).trans (bd.mono (by omega)),((oa.keep (bb.block _ oa.lt)).keep (bc.block _ (by omega))).keep (bd.block _ (by omega)),oc.keep (bd.block _ oc.lt),od,sd⟩
theorem jend3 {w:World} {H b:Nat} {u u3 u4 c0 c1 c2 c3 c4 b0 b1 b2 b3 b4:Value} (h:fob w b c0 c1 c2 c3 c4) (hn:b ≠ H):fob ((((((((w.setCell ⟨H,2,none⟩ u).setCell ⟨H,3,none⟩ u3).setCell ⟨H,4,none⟩ u4).setCell ⟨b,0,none⟩ b0).setCell ⟨b,1,none⟩ b1).setCell ⟨b,2,none⟩ b2).setCell ⟨b,3,none⟩ b3).setCell ⟨b,4,none⟩ b4) b b0 b1 b2 b3 b4:=by
  have h1:fob (((w.setCell ⟨H,2,none⟩ u).setCell ⟨H,3,none⟩ u3).setCell ⟨H,4,none⟩ u4) b c0 c1 c2 c3 c4:=blk.keep h (by rw [Below.heap_setCell _ _ _ _ hn,Below.heap_setCell _ _ _ _ hn,Below.heap_setCell _ _ _ _ hn])
  exact ((((blk.set h1 0 b0).set 1 b1).set 2 b2).set 3 b3).set 4 b4
set_option maxRecDepth 10000 in
set_option maxHeartbeats 1000000 in
theorem joined39L (s vs:ByteArray) (m:Bool) (k n:Int) (w:World) (da xa ya:Option Addr) (dn dc xn xc yn yc B ln:Nat) (lv:Value) (us:List Value) (hown:w.ownsRow B 55 5 lv ln us) (hB:B ≤ w.heap.size) (hlim:ln ≤ 2097152) :
    Calls Tryz.prog 74 #[.agg #[.int .i64 3,lv,.slice da dn dc,.string s,.bool m],.agg #[.int .i64 k,.int .i64 n,.string vs,.slice xa xn xc,.slice ya yn yc]] w fun e w'=>∃ la' lc',e = .returned (.agg #[.int .i64 3,.slice la' (ln + 1) lc',.slice da dn dc,.string s,.bool m]) ∧
      w'.ownsRow B 55 5 (.slice la' (ln + 1) lc') (ln + 1) (us ++ [.int .i64 k,.int .i64 n,.string vs,.slice xa xn xc,.slice ya yn yc])∧w.grownBy w' lv.ownBlock∧At w lv (.slice la' (ln + 1) lc'):=by
  obtain ⟨la,lc,rfl⟩:=ownForm hown
  obtain ⟨i0,hi,hz0,hz1,hz2⟩:=info_parts info25
  obtain ⟨jb1,jb2,jb3,jb4,jb5⟩:=joined_boxes 3 (.slice la ln lc) (.slice da dn dc) s m k n vs (.slice xa xn xc) (.slice ya yn yc) (Obj.cells #[.int .i64 k,.int .i64 n,.string vs,.slice xa xn xc,.slice ya yn yc] 55) w
  have jb4':blk ((((w.alloc (Obj.cells #[.int .i64 3,.slice la ln lc,.slice da dn dc,.string s,.bool m] 111)).alloc (Obj.cells #[.int .i64 k,.int .i64 n,.string vs,.slice xa xn xc,.slice ya yn yc] 55)).alloc (Obj.cells #[.int .i64 0,.slice none 0 0,.slice none 0 0,.string { data:=#[] },.bool false] 111)).alloc (Obj.cells #[.int .i64 k,.int .i64 n,.string vs,.slice xa xn xc,.slice ya yn yc] 55)) (w.heap.size + 1 + 1 + 1) 55 (List.toArray [.int .i64 k,.int .i64 n,.string vs,.slice xa xn xc,.slice ya yn yc]):=jb4
  have hown':=own_keep hown (fun x _ hx=>jb1.block x hx)
  obtain ⟨v',w',hr,hown2,hgrow,_,hatb⟩:=run_append_own_at (P:=Tryz.prog) ((((w.alloc (Obj.cells #[.int .i64 3,.slice la ln lc,.slice da dn dc,.string s,.bool m] 111)).alloc (Obj.cells #[.int .i64 k,.int .i64 n,.string vs,.slice xa xn xc,.slice ya yn yc] 55)).alloc (Obj.cells #[.int .i64 0,.slice none 0 0,.slice none 0 0,.string { data:=#[] },.bool false] 111)).alloc (Obj.cells #[.int .i64 k,.int .i64 n,.string vs,.slice xa xn xc,.slice ya yn yc] 55)) B 52 52 55 i0 _ 5 80 Tryz.underlying52 hi hz0 hz1 hz2 rfl (by omega) (.slice la ln lc) ln us hown' ⟨w.heap.size + 1 + 1 + 1,0,none⟩ 1 1 [.int .i64 k,.int .i64 n,.string vs,.slice xa xn xc,.slice ya yn yc] rfl
    (fun j u hu=>by
      match j,hu with
      | 0,hu=>simp at hu; subst hu; simpa [Addr.add] using jb4'.cell 0
      | 1,hu=>simp at hu; subst hu; simpa [Addr.add] using jb4'.cell 1
      | 2,hu=>simp at hu; subst hu; simpa [Addr.add] using jb4'.cell 2
      | 3,hu=>simp at hu; subst hu; simpa [Addr.add] using jb4'.cell 3
      | 4,hu=>simp at hu; subst hu; simpa [Addr.add] using jb4'.cell 4) (fun u hu=>by simp at hu; rcases hu with rfl | rfl | rfl | rfl | rfl <;> rfl) (by unfold maxLen; omega) (by omega) (by omega)
  obtain ⟨va,vc,rfl⟩:=ownForm hown2
  have hne:∀ q,w.heap.size ≤ q → some q ≠ (Value.ownBlock (.slice la ln lc)):=fun q hq e=>by
    have:=(own_lt hown e.symm).2; omega
  have h2:fob w' w.heap.size _ _ _ _ _:=jb2.keep (hgrow.block _ (by omega) (hne _ (Nat.le_refl _)))
  have h3:fob w' (w.heap.size + 1 + 1) _ _ _ _ _:=jb3.keep (hgrow.block _ (by omega) (hne _ (by omega)))
  have HZ:Hid (w'.ownsRow B 55 5 (.slice va (ln + 1) vc) (ln + 1) (us ++ [.int .i64 k,.int .i64 n,.string vs,.slice xa xn xc,.slice ya yn yc])∧w.grownBy w' (Value.ownBlock (.slice la ln lc))∧(Value.ownBlock (.slice va (ln + 1) vc) = Value.ownBlock (.slice la ln lc) ∨ ∃ g,Value.ownBlock (.slice va (ln + 1) vc) = some g∧w.heap.size + 4 ≤ g)∧(∀ q,w.heap.size ≤ q → some q ≠ (Value.ownBlock (.slice la ln lc)))∧fob w' w.heap.size (.int .i64 3) (.slice la ln lc) (.slice da dn dc) (.string s) (.bool m)∧fob w' (w.heap.size + 1 + 1) (.int .i64 0) (.slice none 0 0) (.slice none 0 0) (.string { data:=#[] }) (.bool false)):=by
    refine ⟨hown2,⟨hgrow.os.trans jb1.os,hgrow.tape.trans jb1.tape,hgrow.output.trans jb1.output,Nat.le_trans jb1.size hgrow.size,fun q hq hn=>(hgrow.block q (by omega) hn).trans (jb1.block q hq)⟩,?_,hne,h2,h3⟩
    rcases hatb with h | h
    · exact .inl h
    · exact .inr ⟨_,h,by omega⟩
  obtain ⟨⟨a0,a1,a2,a3,a4⟩,g0,g1,g2,g3,g4⟩:=h2.cells
  obtain ⟨⟨b0,b1,b2,b3,b4⟩,f0,f1,f2,f3,f4⟩:=h3.cells
  clear hown hown' hi hz0 hz1 hz2 jb1 jb2 jb3 jb4 jb4' jb5 hown2 hgrow hatb hne h2 h3 i0 hlim hB
  go_enter Tryz.func74,Tryz.ntmps74
  go_wp2_with (at_builtin; refine Lib.wpList_append_run _ rfl _ _ 52 52 rfl _ _ rfl rfl _ _ hr ?_)
  obtain ⟨z1,z2,z3,z4,z5,z6⟩:=HZ.out
  refine bodyPost_ret (v:=.agg #[.int .i64 3,.slice va (ln + 1) vc,.slice da dn dc,.string s,.bool m]) (results_cell_row Tryz.results74 _ _ (w.heap.size + 1 + 1) 111 _ (0,0) _ rfl (jend z6 (by omega)) Tryz.underlying111 rfl info73s) rfl ?_
  exact ⟨va,vc,rfl,joined_end z1 z2 z3 z4 (((((((Diff.refl _ _).set _ _ _ (.inl rfl)).set _ _ _ (.inr rfl)).set _ _ _ (.inr rfl)).set _ _ _ (.inr rfl)).set _ _ _ (.inr rfl)).set _ _ _ (.inr rfl))⟩
set_option maxRecDepth 10000 in
set_option maxHeartbeats 1000000 in
theorem joined39D (s vs:ByteArray) (m:Bool) (k n:Int) (w:World) (la xa ya:Option Addr) (ln lc xn xc yn yc B dn:Nat) (lv:Value) (us:List Value) (hown:w.ownsRow B 67 6 lv dn us) (hB:B ≤ w.heap.size) (hlim:dn ≤ 2097152) :
    Calls Tryz.prog 74 #[.agg #[.int .i64 4,.slice la ln lc,lv,.string s,.bool m],.agg #[.int .i64 k,.int .i64 n,.string vs,.slice xa xn xc,.slice ya yn yc]] w fun e w'=>∃ da' dc',e = .returned (.agg #[.int .i64 4,.slice la ln lc,.slice da' (dn + 1) dc',.string { data:=#[] },.bool false]) ∧
      w'.ownsRow B 67 6 (.slice da' (dn + 1) dc') (dn + 1) (us ++ [.string s,.int .i64 k,.int .i64 n,.string vs,.slice xa xn xc,.slice ya yn yc])∧w.grownBy w' lv.ownBlock∧At w lv (.slice da' (dn + 1) dc'):=by
  obtain ⟨da,dc,rfl⟩:=ownForm hown
  obtain ⟨i0,hi,hz0,hz1,hz2⟩:=info_parts info42
  obtain ⟨jb1,jb2,jb3,jb4,jb5⟩:=joined_boxes 4 (.slice la ln lc) (.slice da dn dc) s m k n vs (.slice xa xn xc) (.slice ya yn yc) (Obj.cells #[.string s,.int .i64 k,.int .i64 n,.string vs,.slice xa xn xc,.slice ya yn yc] 67) w
  have jb4':blk ((((w.alloc (Obj.cells #[.int .i64 4,.slice la ln lc,.slice da dn dc,.string s,.bool m] 111)).alloc (Obj.cells #[.int .i64 k,.int .i64 n,.string vs,.slice xa xn xc,.slice ya yn yc] 55)).alloc (Obj.cells #[.int .i64 0,.slice none 0 0,.slice none 0 0,.string { data:=#[] },.bool false] 111)).alloc (Obj.cells #[.string s,.int .i64 k,.int .i64 n,.string vs,.slice xa xn xc,.slice ya yn yc] 67)) (w.heap.size + 1 + 1 + 1) 67 (List.toArray [.string s,.int .i64 k,.int .i64 n,.string vs,.slice xa xn xc,.slice ya yn yc]):=jb4
  have hown':=own_keep hown (fun x _ hx=>jb1.block x hx)
  obtain ⟨v',w',hr,hown2,hgrow,_,hatb⟩:=run_append_own_at (P:=Tryz.prog) ((((w.alloc (Obj.cells #[.int .i64 4,.slice la ln lc,.slice da dn dc,.string s,.bool m] 111)).alloc (Obj.cells #[.int .i64 k,.int .i64 n,.string vs,.slice xa xn xc,.slice ya yn yc] 55)).alloc (Obj.cells #[.int .i64 0,.slice none 0 0,.slice none 0 0,.string { data:=#[] },.bool false] 111)).alloc (Obj.cells #[.string s,.int .i64 k,.int .i64 n,.string vs,.slice xa xn xc,.slice ya yn yc] 67)) B 53 53 67 i0 _ 6 96 Tryz.underlying53 hi hz0 hz1 hz2 rfl (by omega) (.slice da dn dc) dn us hown' ⟨w.heap.size + 1 + 1 + 1,0,none⟩ 1 1 [.string s,.int .i64 k,.int .i64 n,.string vs,.slice xa xn xc,.slice ya yn yc] rfl
    (fun j u hu=>by
      match j,hu with
      | 0,hu=>simp at hu; subst hu; simpa [Addr.add] using jb4'.cell 0
      | 1,hu=>simp at hu; subst hu; simpa [Addr.add] using jb4'.cell 1
      | 2,hu=>simp at hu; subst hu; simpa [Addr.add] using jb4'.cell 2
      | 3,hu=>simp at hu; subst hu; simpa [Addr.add] using jb4'.cell 3
      | 4,hu=>simp at hu; subst hu; simpa [Addr.add] using jb4'.cell 4
      | 5,hu=>simp at hu; subst hu; simpa [Addr.add] using jb4'.cell 5) (fun u hu=>by simp at hu; rcases hu with rfl | rfl | rfl | rfl | rfl | rfl <;> rfl) (by unfold maxLen; omega) (by omega) (by omega)
  obtain ⟨va,vc,rfl⟩:=ownForm hown2
  have hne:∀ q,w.heap.size ≤ q → some q ≠ (Value.ownBlock (.slice da dn dc)):=fun q hq e=>by
    have:=(own_lt hown e.symm).2; omega
  have h2:fob w' w.heap.size _ _ _ _ _:=jb2.keep (hgrow.block _ (by omega) (hne _ (Nat.le_refl _)))
  have h3:fob w' (w.heap.size + 1 + 1) _ _ _ _ _:=jb3.keep (hgrow.block _ (by omega) (hne _ (by omega)))
  have HZ:Hid (w'.ownsRow B 67 6 (.slice va (dn + 1) vc) (dn + 1) (us ++ [.string s,.int .i64 k,.int .i64 n,.string vs,.slice xa xn xc,.slice ya yn yc])∧w.grownBy w' (Value.ownBlock (.slice da dn dc))∧(Value.ownBlock (.slice va (dn + 1) vc) = Value.ownBlock (.slice da dn dc) ∨ ∃ g,Value.ownBlock (.slice va (dn + 1) vc) = some g∧w.heap.size + 4 ≤ g)∧(∀ q,w.heap.size ≤ q → some q ≠ (Value.ownBlock (.slice da dn dc)))∧fob w' w.heap.size (.int .i64 4) (.slice la ln lc) (.slice da dn dc) (.string s) (.bool m)∧fob w' (w.heap.size + 1 + 1) (.int .i64 0) (.slice none 0 0) (.slice none 0 0) (.string { data:=#[] }) (.bool false)):=by
    refine ⟨hown2,⟨hgrow.os.trans jb1.os,hgrow.tape.trans jb1.tape,hgrow.output.trans jb1.output,Nat.le_trans jb1.size hgrow.size,fun q hq hn=>(hgrow.block q (by omega) hn).trans (jb1.block q hq)⟩,?_,hne,h2,h3⟩
    rcases hatb with h | h
    · exact .inl h
    · exact .inr ⟨_,h,by omega⟩
  obtain ⟨⟨a0,a1,a2,a3,a4⟩,g0,g1,g2,g3,g4⟩:=h2.cells
  obtain ⟨⟨b0,b1,b2,b3,b4⟩,f0,f1,f2,f3,f4⟩:=h3.cells
  clear hown hown' hi hz0 hz1 hz2 jb1 jb2 jb3 jb4 jb4' jb5 hown2 hgrow hatb hne h2 h3 i0 hlim hB
  go_enter Tryz.func74,Tryz.ntmps74
  go_wp2_with (at_builtin; refine Lib.wpList_append_run _ rfl _ _ 53 53 rfl _ _ rfl rfl _ _ hr ?_)
  obtain ⟨z1,z2,z3,z4,z5,z6⟩:=HZ.out
  refine bodyPost_ret (v:=.agg #[.int .i64 4,.slice la ln lc,.slice va (dn + 1) vc,.string { data:=#[] },.bool false]) (results_cell_row Tryz.results74 _ _ (w.heap.size + 1 + 1) 111 _ (0,0) _ rfl (jend3 z6 (by omega)) Tryz.underlying111 rfl info73s) rfl ?_
  exact ⟨va,vc,rfl,joined_end z1 z2 z3 z4 (((((((((Diff.refl _ _).set _ _ _ (.inl rfl)).set _ _ _ (.inl rfl)).set _ _ _ (.inl rfl)).set _ _ _ (.inr rfl)).set _ _ _ (.inr rfl)).set _ _ _ (.inr rfl)).set _ _ _ (.inr rfl)).set _ _ _ (.inr rfl))⟩
instance:Inhabited Fr:=⟨{ d:=false }⟩
def VRow (B:Nat) (S:Nat → Prop) (w:World) (v:Value) (l:List T):Prop:=∃ us,w.ownsRow B 55 5 v l.length us∧∀ k,k < l.length → ∃ x y,RV S w (l.getD k .no) x y∧∀ r,r < 5 → us[k * 5 + r]? = (cv (l.getD k .no) x y)[r]?
def PRow (B:Nat) (S:Nat → Prop) (w:World) (v:Value) (l:List (ByteArray × T)):Prop:=∃ us,w.ownsRow B 67 6 v l.length us∧∀ k,k < l.length → ∃ x y,RV S w (l.getD k (ByteArray.empty,.no)).2 x y∧∀ r,r < 6 → us[k * 6 + r]? = (.string (l.getD k (ByteArray.empty,.no)).1 :: cv (l.getD k (ByteArray.empty,.no)).2 x y)[r]?
def FRow (B:Nat) (S:Nat → Prop) (w:World) (f:Fr) (L D:Value):Prop:=
  (f.d = true∧L = .slice none 0 0∧f.ls = []∧PRow B S w D f.ps) ∨ (f.d = false∧D = .slice none 0 0∧f.ps = []∧f.key = ByteArray.empty∧f.has = false∧VRow B S w L f.ls)
def rowOf (f:Fr) (L D:Value):Value:=if f.d = true then D else L
theorem VRow.keep {B:Nat} {S S':Nat → Prop} {w w':World} {v:Value} {l:List T} (h:VRow B S w v l) (hz:w.heap.size ≤ w'.heap.size) (hv:∀ g,v.ownBlock = some g → g < w.heap.size → w'.heap[g]? = w.heap[g]?) (hS:∀ x,S x → x < w.heap.size → S' x∧w'.heap[x]? = w.heap[x]?):VRow B S' w' v l:=by
  obtain ⟨us,h1,h2⟩:=h
  refine ⟨us,⟨h1.1,?_⟩,fun k hk=>?_⟩
  · rcases h1.2 with h | ⟨g,cap,cur,q1,q2,q3,q4⟩
    · exact .inl h
    · exact .inr ⟨g,cap,cur,q1,q2,(hv g (by rw [q1]; rfl) (Array.getElem?_eq_some_iff.1 q3).1).trans q3,q4⟩
  · obtain ⟨x,y,q1,q2⟩:=h2 k hk
    exact ⟨x,y,RV.move (fun b hb hl=>(hS b hb hl).1) hz (fun b hb hl=>(hS b hb hl).2) _ _ _ q1,q2⟩
theorem PRow.keep {B:Nat} {S S':Nat → Prop} {w w':World} {v:Value} {l:List (ByteArray × T)} (h:PRow B S w v l) (hz:w.heap.size ≤ w'.heap.size) (hv:∀ g,v.ownBlock = some g → g < w.heap.size → w'.heap[g]? = w.heap[g]?) (hS:∀ x,S x → x < w.heap.size → S' x∧w'.heap[x]? = w.heap[x]?):PRow B S' w' v l:=by
  obtain ⟨us,h1,h2⟩:=h
  refine ⟨us,⟨h1.1,?_⟩,fun k hk=>?_⟩
  · rcases h1.2 with h | ⟨g,cap,cur,q1,q2,q3,q4⟩
    · exact .inl h
    · exact .inr ⟨g,cap,cur,q1,q2,(hv g (by rw [q1]; rfl) (Array.getElem?_eq_some_iff.1 q3).1).trans q3,q4⟩
  · obtain ⟨x,y,q1,q2⟩:=h2 k hk
    exact ⟨x,y,RV.move (fun b hb hl=>(hS b hb hl).1) hz (fun b hb hl=>(hS b hb hl).2) _ _ _ q1,q2⟩
theorem FRow.keep {B:Nat} {S S':Nat → Prop} {w w':World} {f:Fr} {L D:Value} (h:FRow B S w f L D) (hz:w.heap.size ≤ w'.heap.size) (hv:∀ g,(rowOf f L D).ownBlock = some g → g < w.heap.size → w'.heap[g]? = w.heap[g]?) (hS:∀ x,S x → x < w.heap.size → S' x∧w'.heap[x]? = w.heap[x]?):FRow B S' w' f L D:=by
  unfold rowOf at hv
  rcases h with ⟨h1,h2,h2',h3⟩ | ⟨h1,h2,h2',h2'',h2''',h3⟩
  · rw [if_pos h1] at hv
    exact .inl ⟨h1,h2,h2',h3.keep hz hv hS⟩
  · rw [if_neg (by rw [h1]; decide)] at hv
    exact .inr ⟨h1,h2,h2',h2'',h2''',h3.keep hz hv hS⟩
def kd (f:Fr):Value:=.int .i64 (if f.d = true then 4 else 3)
def One (B:Nat) (S:Nat → Prop) (w:World) (sv:Value) (n:Nat) (us:List Value) (L D:Nat → Value) (F:Nat → Fr) (k:Nat):Prop:=
  (us[k * 5]? = some (kd (F k))∧us[k * 5 + 1]? = some (L k)∧us[k * 5 + 2]? = some (D k)∧us[k * 5 + 3]? = some (.string (F k).key)∧us[k * 5 + 4]? = some (.bool (F k).has))∧FRow B S w (F k) (L k) (D k) ∧
  ∀ g,(rowOf (F k) (L k) (D k)).ownBlock = some g → sv.ownBlock ≠ some g∧¬ S g∧g < w.heap.size∧∀ k',k' < n → k' ≠ k → (rowOf (F k') (L k') (D k')).ownBlock ≠ some g
def SIx (B:Nat) (S:Nat → Prop) (w:World) (sv:Value) (fs:List Fr) (us:List Value) (L D:Nat → Value):Prop:=
  w.ownsRow B 111 5 sv fs.length us∧(∀ k,k < fs.length → One B S w sv fs.length us L D (fun k=>fs.getD k default) k)∧∀ x,S x → B ≤ x∧x < w.heap.size∧sv.ownBlock ≠ some x
def SI (B:Nat) (S:Nat → Prop) (w:World) (sv:Value) (fs:List Fr):Prop:=∃ us L D,SIx B S w sv fs us L D
theorem FRow.low {B:Nat} {S:Nat → Prop} {w:World} {f:Fr} {L D:Value} (h:FRow B S w f L D) {g:Nat} (hg:(rowOf f L D).ownBlock = some g):B ≤ g∧g < w.heap.size:=by
  unfold rowOf at hg
  rcases h with ⟨h1,h2,h2',us,h3,_⟩ | ⟨h1,h2,h2',_,_,us,h3,_⟩
  · rw [if_pos h1] at hg; exact own_lt h3 hg
  · rw [if_neg (by rw [h1]; decide)] at hg; exact own_lt h3 hg
theorem SI.keep {B:Nat} {S:Nat → Prop} {w w':World} {sv:Value} {fs:List Fr} (h:SI B S w sv fs) (hz:w.heap.size ≤ w'.heap.size) (hs:∀ x,B ≤ x → x < w.heap.size → w'.heap[x]? = w.heap[x]?):SI B S w' sv fs:=by
  obtain ⟨us,L,D,h1,h2,h3⟩:=h
  refine ⟨us,L,D,own_keep h1 hs,fun k hk=>?_,fun x hx=>⟨(h3 x hx).1,Nat.lt_of_lt_of_le (h3 x hx).2.1 hz,(h3 x hx).2.2⟩⟩
  obtain ⟨q1,q2,q3⟩:=h2 k hk
  exact ⟨q1,q2.keep hz (fun g hg hl=>hs g (q2.low hg).1 hl) (fun x hx hl=>⟨hx,hs x (h3 x hx).1 hl⟩),fun g hg=>⟨(q3 g hg).1,(q3 g hg).2.1,Nat.lt_of_lt_of_le (q3 g hg).2.2.1 hz,(q3 g hg).2.2.2⟩⟩
theorem SI.nil (B:Nat) (w:World):SI B (fun _=>False) w (.slice none 0 0) []:=⟨[],fun _=>.nilIface,fun _=>.nilIface,⟨rfl,.inl ⟨rfl,rfl⟩⟩,fun _k hk=>absurd hk (Nat.not_lt_zero _),fun _x hx=>hx.elim⟩
theorem own_set {w:World} {B e s n g i:Nat} {v u:Value} {us:List Value} (h:w.ownsRow B e s v n us) (hg:v.ownBlock = some g) (_hi:i < n * s):(w.setCell ⟨g,i,none⟩ u).ownsRow B e s v n (us.set i u):=by
  refine ⟨by rw [List.length_set]; exact h.1,?_⟩
  rcases h.2 with ⟨rfl,_⟩ | ⟨g',cap,cur,rfl,h2,h3,h4,h5,h6,h7⟩
  · cases hg
  · cases hg
    refine .inr ⟨_,cap,cur.setIfInBounds i u,rfl,h2,blk.set (show blk w _ e cur from h3) i u,h4,h5,by simpa using h6,?_⟩
    rw [← h7]
    simp [List.take_set]
theorem SIx.retop {B:Nat} {S:Nat → Prop} {w w2:World} {sv:Value} {r:List Fr} {f f':Fr} {us us2:List Value} {L D:Nat → Value} {L' D':Value} (h:SIx B S w sv (r ++ [f]) us L D) (hown2:w2.ownsRow B 111 5 sv (r.length + 1) us2) (hlow:∀ j,j < r.length * 5 → us2[j]? = us[j]?)
    (htop:us2[r.length * 5]? = some (kd f')∧us2[r.length * 5 + 1]? = some L'∧us2[r.length * 5 + 2]? = some D'∧us2[r.length * 5 + 3]? = some (.string f'.key)∧us2[r.length * 5 + 4]? = some (.bool f'.has)) (hF:FRow B S w2 f' L' D') (hz:w.heap.size ≤ w2.heap.size)
    (hk:∀ x,B ≤ x → x < w.heap.size → sv.ownBlock ≠ some x → (rowOf f (L r.length) (D r.length)).ownBlock ≠ some x → w2.heap[x]? = w.heap[x]?) (hrow:∀ g,(rowOf f' L' D').ownBlock = some g → (rowOf f (L r.length) (D r.length)).ownBlock = some g ∨ w.heap.size ≤ g) (hsv:∀ g,sv.ownBlock = some g → g < w.heap.size) :
    SIx B S w2 sv (r ++ [f']) us2 (upd L r.length L') (upd D r.length D'):=by
  obtain ⟨h1,h2,h3⟩:=h
  have hlen:(r ++ [f]).length = r.length + 1:=by simp
  have htf:(r ++ [f]).getD r.length default = f:=getD_snoc_eq r f default
  obtain ⟨t1,t2,t3⟩:=h2 r.length (by simp)
  simp only [htf] at t1 t2 t3
  refine ⟨by simpa using hown2,fun k hkl=>?_,fun x hx=>⟨(h3 x hx).1,Nat.lt_of_lt_of_le (h3 x hx).2.1 hz,(h3 x hx).2.2⟩⟩
  have hr':∀ k',k' < r.length → rowOf ((r ++ [f']).getD k' default) (upd L r.length L' k') (upd D r.length D' k') = rowOf ((r ++ [f]).getD k' default) (L k') (D k'):=fun k' hk'=>by
    rw [getD_snoc_lt _ _ _ hk',getD_snoc_lt _ _ _ hk',upd_lt hk',upd_lt hk']
  by_cases hkr:k < r.length
  · obtain ⟨q1,q2,q3⟩:=h2 k (by simp; omega)
    have e1:(r ++ [f']).getD k default = (r ++ [f]).getD k default:=by rw [getD_snoc_lt _ _ _ hkr,getD_snoc_lt _ _ _ hkr]
    have nb:∀ g,(rowOf ((r ++ [f]).getD k default) (L k) (D k)).ownBlock = some g → g < w.heap.size → w2.heap[g]? = w.heap[g]?:=fun g hg hl=>hk g (q2.low hg).1 hl (q3 g hg).1 (fun e=>by
      have:=(q3 g hg).2.2.2 r.length (by simp) (by omega)
      simp only [htf] at this
      exact this e)
    have nS:∀ x,S x → x < w.heap.size → S x∧w2.heap[x]? = w.heap[x]?:=fun x hx hl=>⟨hx,hk x (h3 x hx).1 hl (h3 x hx).2.2 (fun e=>(t3 x e).2.1 hx)⟩
    refine ⟨?_,?_,?_⟩
    · simp only [e1,upd_lt hkr]
      exact ⟨(hlow _ (by omega)).trans q1.1,(hlow _ (by omega)).trans q1.2.1,(hlow _ (by omega)).trans q1.2.2.1,(hlow _ (by omega)).trans q1.2.2.2.1,(hlow _ (by omega)).trans q1.2.2.2.2⟩
    · simp only [e1,upd_lt hkr]
      exact q2.keep hz nb nS
    · intro g hg
      simp only [hr' k hkr] at hg
      obtain ⟨p1,p2,p3,p4⟩:=q3 g hg
      refine ⟨p1,p2,Nat.lt_of_lt_of_le p3 hz,fun k' hk' hne=>?_⟩
      by_cases hk'r:k' < r.length
      · simp only [hr' k' hk'r]; exact p4 k' (by simp; omega) hne
      · obtain rfl:k' = r.length:=by simp at hk'; omega
        simp only [getD_snoc_eq,upd_eq]
        intro e
        rcases hrow g e with e' | e'
        · have:=p4 r.length (by simp) hne
          simp only [htf] at this
          exact this e'
        · omega
  · obtain rfl:k = r.length:=by simp at hkl; omega
    refine ⟨?_,?_,?_⟩
    · simp only [getD_snoc_eq,upd_eq]; exact htop
    · simp only [getD_snoc_eq,upd_eq]; exact hF
    · intro g hg
      simp only [getD_snoc_eq,upd_eq] at hg
      have hlt:=(hF.low hg).2
      rcases hrow g hg with e' | e'
      · obtain ⟨p1,p2,p3,p4⟩:=t3 g e'
        refine ⟨p1,p2,hlt,fun k' hk' hne=>?_⟩
        have hk'r:k' < r.length:=by simp at hk'; omega
        simp only [hr' k' hk'r]; exact p4 k' (by simp; omega) hne
      · refine ⟨fun e=>by have:=hsv g e; omega,fun hx=>by have:=(h3 g hx).2.1; omega,hlt,fun k' hk' hne=>?_⟩
        have hk'r:k' < r.length:=by simp at hk'; omega
        simp only [hr' k' hk'r]
        intro e
        have:=((h2 k' (by simp; omega)).2.1.low e).2
        omega
theorem SIx.top {B:Nat} {S:Nat → Prop} {w:World} {sv:Value} {r:List Fr} {f:Fr} {us:List Value} {L D:Nat → Value} (h:SIx B S w sv (r ++ [f]) us L D):∃ g cap,sv = .slice (some ⟨g,0,none⟩) (r.length + 1) cap∧r.length + 1 ≤ cap∧B ≤ g∧g < w.heap.size ∧
    (w.cell? ⟨g,r.length * 5,none⟩ = some (kd f)∧w.cell? ⟨g,r.length * 5 + 1,none⟩ = some (L r.length)∧w.cell? ⟨g,r.length * 5 + 2,none⟩ = some (D r.length)∧w.cell? ⟨g,r.length * 5 + 3,none⟩ = some (.string f.key)∧w.cell? ⟨g,r.length * 5 + 4,none⟩ = some (.bool f.has))∧(∀ i,w.frozen? ⟨g,i,none⟩ = false)∧FRow B S w f (L r.length) (D r.length):=by
  obtain ⟨h1,h2,h3⟩:=h
  obtain ⟨t1,t2,t3⟩:=h2 r.length (by simp)
  simp only [getD_snoc_eq] at t1 t2 t3
  rcases h1.2 with ⟨_,h0⟩ | ⟨g,cap,cur,e1,e2,e3,e4,_⟩
  · simp at h0
  · have hg:sv.ownBlock = some g:=by rw [e1]; rfl
    obtain ⟨cap',e5,hc⟩:=own_form h1 hg
    exact ⟨g,cap,by simpa using e1,by simpa using e4,e2,(own_lt h1 hg).2,⟨hc _ _ t1.1,hc _ _ t1.2.1,hc _ _ t1.2.2.1,hc _ _ t1.2.2.2.1,hc _ _ t1.2.2.2.2⟩,fun i=>blk.frozen (show blk w g 111 cur from e3) i,t2⟩
theorem VRow.nil (B:Nat) (S:Nat → Prop) (w:World):VRow B S w (.slice none 0 0) []:=⟨[],⟨rfl,.inl ⟨rfl,rfl⟩⟩,fun _k hk=>absurd hk (Nat.not_lt_zero _)⟩
theorem PRow.nil (B:Nat) (S:Nat → Prop) (w:World):PRow B S w (.slice none 0 0) []:=⟨[],⟨rfl,.inl ⟨rfl,rfl⟩⟩,fun _k hk=>absurd hk (Nat.not_lt_zero _)⟩
theorem SI.push {B:Nat} {S:Nat → Prop} {w w2:World} {sv sv':Value} {fs:List Fr} {us:List Value} {L D:Nat → Value} (dd:Bool) (h:SIx B S w sv fs us L D) (hown2:w2.ownsRow B 111 5 sv' (fs.length + 1) (us ++ [kd { d:=dd },.slice none 0 0,.slice none 0 0,.string ByteArray.empty,.bool false])) (hg:w.grownBy w2 sv.ownBlock) (hat:At w sv sv'):SI B S w2 sv' (fs ++ [{ d:=dd }]):=by
  obtain ⟨h1,h2,h3⟩:=h
  have hul:us.length = fs.length * 5:=h1.1
  have hsv:∀ g,g < w.heap.size → sv.ownBlock ≠ some g → sv'.ownBlock ≠ some g:=fun g hl hn e=>by
    rcases hat with h | ⟨g',h,h'⟩
    · exact hn (h ▸ e)
    · rw [h] at e; cases e; omega
  refine ⟨_,upd L fs.length (.slice none 0 0),upd D fs.length (.slice none 0 0),by simpa using hown2,fun k hkl=>?_,fun x hx=>⟨(h3 x hx).1,Nat.lt_of_lt_of_le (h3 x hx).2.1 hg.size,hsv x (h3 x hx).2.1 (h3 x hx).2.2⟩⟩
  have hr':∀ k',k' < fs.length → rowOf ((fs ++ [({ d:=dd }:Fr)]).getD k' default) (upd L fs.length (.slice none 0 0) k') (upd D fs.length (.slice none 0 0) k') = rowOf (fs.getD k' default) (L k') (D k'):=fun k' hk'=>by
    rw [getD_snoc_lt _ _ _ hk',upd_lt hk',upd_lt hk']
  have ht:(rowOf ({ d:=dd }:Fr) (.slice none 0 0) (.slice none 0 0)).ownBlock = none:=by unfold rowOf; split <;> rfl
  by_cases hkr:k < fs.length
  · obtain ⟨q1,q2,q3⟩:=h2 k hkr
    have hm:∀ j v,j < fs.length * 5 → us[j]? = some v → (us ++ [kd { d:=dd },.slice none 0 0,.slice none 0 0,.string ByteArray.empty,.bool false])[j]? = some v:=fun j v hj e=>by rw [List.getElem?_append_left (by omega)]; exact e
    refine ⟨?_,?_,?_⟩
    · simp only [getD_snoc_lt _ _ _ hkr,upd_lt hkr]
      exact ⟨hm _ _ (by omega) q1.1,hm _ _ (by omega) q1.2.1,hm _ _ (by omega) q1.2.2.1,hm _ _ (by omega) q1.2.2.2.1,hm _ _ (by omega) q1.2.2.2.2⟩
    · simp only [getD_snoc_lt _ _ _ hkr,upd_lt hkr]
      exact q2.keep hg.size (fun g hg' hl=>hg.block g hl (fun e=>(q3 g hg').1 e.symm)) (fun x hx hl=>⟨hx,hg.block x hl (fun e=>(h3 x hx).2.2 e.symm)⟩)
    · intro g hg'
      simp only [hr' k hkr] at hg'
      obtain ⟨p1,p2,p3,p4⟩:=q3 g hg'
      refine ⟨hsv g p3 p1,p2,Nat.lt_of_lt_of_le p3 hg.size,fun k' hk' hne=>?_⟩
      by_cases hk'r:k' < fs.length
      · simp only [hr' k' hk'r]; exact p4 k' hk'r hne
      · obtain rfl:k' = fs.length:=by simp at hk'; omega
        simp only [getD_snoc_eq,upd_eq,ht]
        intro e; cases e
  · obtain rfl:k = fs.length:=by simp at hkl; omega
    refine ⟨?_,?_,?_⟩
    · simp only [getD_snoc_eq,upd_eq]
      have hm:∀ j,j < 5 → (us ++ [kd { d:=dd },.slice none 0 0,.slice none 0 0,.string ByteArray.empty,.bool false])[fs.length * 5 + j]? = [kd { d:=dd },.slice none 0 0,.slice none 0 0,.string ByteArray.empty,.bool false][j]?:=fun j hj=>by
        rw [List.getElem?_append_right (by omega),hul,Nat.add_sub_cancel_left]
      exact ⟨hm 0 (by omega),hm 1 (by omega),hm 2 (by omega),hm 3 (by omega),hm 4 (by omega)⟩
    · simp only [getD_snoc_eq,upd_eq]
      cases dd with
      | true=>exact .inl ⟨rfl,rfl,rfl,PRow.nil B S w2⟩
      | false=>exact .inr ⟨rfl,rfl,rfl,rfl,rfl,VRow.nil B S w2⟩
    · intro g hg'
      simp only [getD_snoc_eq,upd_eq,ht] at hg'
      cases hg'
theorem VRow.rl {B:Nat} {S S':Nat → Prop} {w:World} {v:Value} {l:List T} (h:VRow B S w v l) (hS:∀ x,S x → S' x) (hv:∀ g,v.ownBlock = some g → S' g):RL S' w l.length (fun i=>l.getD i .no) v:=by
  obtain ⟨us,h1,h2⟩:=h
  rcases h1.2 with ⟨rfl,h0⟩ | ⟨g,cap,cur,rfl,q2,q3,_⟩
  · exact ⟨none,0,by rw [h0],.inl h0⟩
  · obtain ⟨cap',e5,hc⟩:=own_form h1 (g:=g) rfl
    refine ⟨_,cap,rfl,.inr ⟨g,0,rfl,hv g rfl,(own_lt h1 (g:=g) rfl).2,fun i hi=>?_⟩⟩
    obtain ⟨x,y,g1,g2⟩:=h2 i hi
    rw [Nat.zero_add]
    exact ⟨x,y,RV.keep hS (Nat.le_refl _) (fun _ _ _=>rfl) _ _ _ g1,hc _ _ (g2 0 (by omega)),hc _ _ (g2 1 (by omega)),hc _ _ (g2 2 (by omega)),hc _ _ (g2 3 (by omega)),hc _ _ (g2 4 (by omega))⟩
theorem PRow.rd {B:Nat} {S S':Nat → Prop} {w:World} {v:Value} {l:List (ByteArray × T)} (h:PRow B S w v l) (hS:∀ x,S x → S' x) (hv:∀ g,v.ownBlock = some g → S' g):RD S' w l.length (fun i=>(l.getD i (ByteArray.empty,.no)).1) (fun i=>(l.getD i (ByteArray.empty,.no)).2) v:=by
  obtain ⟨us,h1,h2⟩:=h
  rcases h1.2 with ⟨rfl,h0⟩ | ⟨g,cap,cur,rfl,q2,q3,_⟩
  · exact ⟨none,0,by rw [h0],.inl h0⟩
  · obtain ⟨cap',e5,hc⟩:=own_form h1 (g:=g) rfl
    refine ⟨_,cap,rfl,.inr ⟨g,0,rfl,hv g rfl,(own_lt h1 (g:=g) rfl).2,fun i hi=>?_⟩⟩
    obtain ⟨x,y,g1,g2⟩:=h2 i hi
    rw [Nat.zero_add]
    exact ⟨x,y,RV.keep hS (Nat.le_refl _) (fun _ _ _=>rfl) _ _ _ g1,hc _ _ (g2 0 (by omega)),hc _ _ (g2 1 (by omega)),hc _ _ (g2 2 (by omega)),hc _ _ (g2 3 (by omega)),hc _ _ (g2 4 (by omega)),hc _ _ (g2 5 (by omega))⟩
theorem SIx.pop {B:Nat} {S:Nat → Prop} {w:World} {g cap:Nat} {r:List Fr} {f:Fr} {us:List Value} {L D:Nat → Value} (h:SIx B S w (.slice (some ⟨g,0,none⟩) (r.length + 1) cap) (r ++ [f]) us L D) :
    ∃ S',SI B S' w (.slice (some ⟨g,0,none⟩) r.length cap) r∧(f.d = true → L r.length = .slice none 0 0∧RV S' w (tDict f.ps) (.slice none 0 0) (D r.length))∧(f.d = false → D r.length = .slice none 0 0∧RV S' w (tList f.ls) (L r.length) (.slice none 0 0)):=by
  obtain ⟨h1,h2,h3⟩:=h
  obtain ⟨t1,t2,t3⟩:=h2 r.length (by simp)
  simp only [getD_snoc_eq] at t1 t2 t3
  refine ⟨fun x=>S x ∨ (rowOf f (L r.length) (D r.length)).ownBlock = some x,⟨us.take (r.length * 5),L,D,?_,fun k hk=>?_,fun x hx=>?_⟩,fun hd=>?_,fun hd=>?_⟩
  · have hul:=h1.1
    refine ⟨by rw [List.length_take,hul]; simp,?_⟩
    rcases h1.2 with ⟨e,_⟩ | ⟨g',cap',cur,e1,q2,q3,q4,q5,q6,q7⟩
    · cases e
    · rw [show (r ++ [f]).length = r.length + 1 from by simp] at e1 q4 q7
      cases e1
      refine .inr ⟨_,_,cur,rfl,q2,q3,by omega,q5,q6,?_⟩
      rw [← q7,List.take_take,Nat.min_eq_left (by omega)]
  · obtain ⟨q1,q2,q3⟩:=h2 k (by simp; omega)
    simp only [getD_snoc_lt _ _ _ hk] at q1 q2 q3
    have hm:∀ j v,j < r.length * 5 → us[j]? = some v → (us.take (r.length * 5))[j]? = some v:=fun j v hj e=>by rw [List.getElem?_take_of_lt hj]; exact e
    refine ⟨⟨hm _ _ (by omega) q1.1,hm _ _ (by omega) q1.2.1,hm _ _ (by omega) q1.2.2.1,hm _ _ (by omega) q1.2.2.2.1,hm _ _ (by omega) q1.2.2.2.2⟩,q2.keep (Nat.le_refl _) (fun _ _ _=>rfl) (fun x hx _=>⟨.inl hx,rfl⟩),fun g' hg'=>?_⟩
    obtain ⟨p1,p2,p3,p4⟩:=q3 g' hg'
    refine ⟨p1,fun hx=>?_,p3,fun k' hk' hne=>?_⟩
    · rcases hx with hx | hx
      · exact p2 hx
      · have:=p4 r.length (by simp) (by omega)
        simp only [getD_snoc_eq] at this
        exact this hx
    · have:=p4 k' (by simp; omega) hne
      simp only [getD_snoc_lt _ _ _ hk'] at this
      exact this
  · rcases hx with hx | hx
    · exact h3 x hx
    · exact ⟨(t2.low hx).1,(t2.low hx).2,(t3 x hx).1⟩
  · rcases t2 with ⟨e1,e2,e2',e3⟩ | ⟨e1,_⟩
    · exact ⟨e2,⟨_,_,rfl,.inl rfl⟩,e3.rd (fun x hx=>.inl hx) (fun g' hg'=>.inr (by unfold rowOf; rw [if_pos hd]; exact hg'))⟩
    · rw [hd] at e1; cases e1
  · rcases t2 with ⟨e1,_⟩ | ⟨e1,e2,e2',_,_,e3⟩
    · rw [hd] at e1; cases e1
    · exact ⟨e2,e3.rl (fun x hx=>.inl hx) (fun g' hg'=>.inr (by unfold rowOf; rw [if_neg (by rw [hd]; decide)]; exact hg')),⟨_,_,rfl,.inl rfl⟩⟩
theorem set_ne {us:List Value} {i j:Nat} {v:Value} (h:i ≠ j):(us.set i v)[j]? = us[j]?:=List.getElem?_set_ne h
theorem set_at {us:List Value} {i:Nat} {v:Value} (h:i < us.length):(us.set i v)[i]? = some v:=by simp [h]
theorem SIx.keyed {B:Nat} {S:Nat → Prop} {w:World} {g cap:Nat} {r:List Fr} {f:Fr} {us:List Value} {L D:Nat → Value} (h:SIx B S w (.slice (some ⟨g,0,none⟩) (r.length + 1) cap) (r ++ [f]) us L D) (hd:f.d = true) (s:ByteArray) :
    SI B S ((w.setCell ⟨g,r.length * 5 + 3,none⟩ (.string s)).setCell ⟨g,r.length * 5 + 4,none⟩ (.bool true)) (.slice (some ⟨g,0,none⟩) (r.length + 1) cap) (r ++ [{ f with key:=s,has:=true }]):=by
  have h0:=h
  obtain ⟨h1,h2,h3⟩:=h
  obtain ⟨t1,t2,t3⟩:=h2 r.length (by simp)
  simp only [getD_snoc_eq] at t1 t2 t3
  rw [show (r ++ [f]).length = r.length + 1 from by simp] at h1
  have hul:us.length = (r.length + 1) * 5:=h1.1
  have o2:=own_set (i:=r.length * 5 + 4) (u:=.bool true) (own_set (i:=r.length * 5 + 3) (u:=.string s) h1 (g:=g) rfl (by omega)) (g:=g) rfl (by omega)
  have hkeep:∀ x,x ≠ g → ((w.setCell ⟨g,r.length * 5 + 3,none⟩ (.string s)).setCell ⟨g,r.length * 5 + 4,none⟩ (.bool true)).heap[x]? = w.heap[x]?:=fun x hx=>by rw [Below.heap_setCell _ _ _ _ hx,Below.heap_setCell _ _ _ _ hx]
  have hz:w.heap.size ≤ ((w.setCell ⟨g,r.length * 5 + 3,none⟩ (.string s)).setCell ⟨g,r.length * 5 + 4,none⟩ (.bool true)).heap.size:=by simp [World.setCell]
  refine ⟨_,_,_,SIx.retop (L':=L r.length) (D':=D r.length) h0 o2 (fun j hj=>by rw [set_ne (by omega),set_ne (by omega)]) ⟨?_,?_,?_,?_,?_⟩ ?_ hz (fun x _ _ hx _=>hkeep x (fun e=>hx (by rw [e]; rfl))) (fun g' hg'=>?_) (fun g' hg'=>(own_lt h1 hg').2)⟩
  · rw [set_ne (by omega),set_ne (by omega)]; exact t1.1
  · rw [set_ne (by omega),set_ne (by omega)]; exact t1.2.1
  · rw [set_ne (by omega),set_ne (by omega)]; exact t1.2.2.1
  · rw [set_ne (by omega),set_at (by omega)]
  · rw [set_at (by rw [List.length_set]; omega)]
  · have hF:FRow B S ((w.setCell ⟨g,r.length * 5 + 3,none⟩ (.string s)).setCell ⟨g,r.length * 5 + 4,none⟩ (.bool true)) f (L r.length) (D r.length):=t2.keep hz (fun g' hg' _=>hkeep g' (fun e=>(t3 g' hg').1 (by rw [e]; rfl))) (fun x hx _=>⟨hx,hkeep x (fun e=>(h3 x hx).2.2 (by rw [e]; rfl))⟩)
    rcases hF with ⟨e1,e2,e3,e4⟩ | ⟨e1,_⟩
    · exact .inl ⟨e1,e2,e3,e4⟩
    · rw [hd] at e1; cases e1
  · exact .inl hg'
theorem SIx.joined {B:Nat} {S:Nat → Prop} {w w1:World} {g cap:Nat} {r:List Fr} {f f':Fr} {us:List Value} {L D:Nat → Value} {L' D':Value} (h:SIx B S w (.slice (some ⟨g,0,none⟩) (r.length + 1) cap) (r ++ [f]) us L D) (hg:w.grownBy w1 (rowOf f (L r.length) (D r.length)).ownBlock) (hF:FRow B S w1 f' L' D') (hat:At w (rowOf f (L r.length) (D r.length)) (rowOf f' L' D')) :
    SI B S (((((w1.setCell ⟨g,r.length * 5,none⟩ (kd f')).setCell ⟨g,r.length * 5 + 1,none⟩ L').setCell ⟨g,r.length * 5 + 2,none⟩ D').setCell ⟨g,r.length * 5 + 3,none⟩ (.string f'.key)).setCell ⟨g,r.length * 5 + 4,none⟩ (.bool f'.has)) (.slice (some ⟨g,0,none⟩) (r.length + 1) cap) (r ++ [f']):=by
  have h0:=h
  obtain ⟨h1,h2,h3⟩:=h
  obtain ⟨t1,t2,t3⟩:=h2 r.length (by simp)
  simp only [getD_snoc_eq] at t1 t2 t3
  rw [show (r ++ [f]).length = r.length + 1 from by simp] at h1
  have hul:us.length = (r.length + 1) * 5:=h1.1
  have hgl:=(own_lt h1 (g:=g) rfl).2
  have hgn:(rowOf f (L r.length) (D r.length)).ownBlock ≠ some g:=fun e=>(t3 g e).1 rfl
  have h1':w1.ownsRow B 111 5 (.slice (some ⟨g,0,none⟩) (r.length + 1) cap) (r.length + 1) us:=by
    refine ⟨h1.1,?_⟩
    rcases h1.2 with h | ⟨g',cap',cur,q1,q2,q3,q4⟩
    · exact .inl h
    · cases q1
      exact .inr ⟨_,_,cur,rfl,q2,(hg.block _ hgl (fun e=>hgn e.symm)).trans q3,q4⟩
  have o2:=own_set (i:=r.length * 5 + 4) (u:=.bool f'.has) (own_set (i:=r.length * 5 + 3) (u:=.string f'.key) (own_set (i:=r.length * 5 + 2) (u:=D') (own_set (i:=r.length * 5 + 1) (u:=L') (own_set (i:=r.length * 5) (u:=kd f') h1' (g:=g) rfl (by omega)) (g:=g) rfl (by omega)) (g:=g) rfl (by omega)) (g:=g) rfl (by omega)) (g:=g) rfl (by omega)
  have hkeep:∀ x,x ≠ g → (((((w1.setCell ⟨g,r.length * 5,none⟩ (kd f')).setCell ⟨g,r.length * 5 + 1,none⟩ L').setCell ⟨g,r.length * 5 + 2,none⟩ D').setCell ⟨g,r.length * 5 + 3,none⟩ (.string f'.key)).setCell ⟨g,r.length * 5 + 4,none⟩ (.bool f'.has)).heap[x]? = w1.heap[x]?:=fun x hx=>by
    rw [Below.heap_setCell _ _ _ _ hx,Below.heap_setCell _ _ _ _ hx,Below.heap_setCell _ _ _ _ hx,Below.heap_setCell _ _ _ _ hx,Below.heap_setCell _ _ _ _ hx]
  have hz:w1.heap.size ≤ (((((w1.setCell ⟨g,r.length * 5,none⟩ (kd f')).setCell ⟨g,r.length * 5 + 1,none⟩ L').setCell ⟨g,r.length * 5 + 2,none⟩ D').setCell ⟨g,r.length * 5 + 3,none⟩ (.string f'.key)).setCell ⟨g,r.length * 5 + 4,none⟩ (.bool f'.has)).heap.size:=by simp [World.setCell]
  have hrow:∀ g',(rowOf f' L' D').ownBlock = some g' → (rowOf f (L r.length) (D r.length)).ownBlock = some g' ∨ w.heap.size ≤ g':=fun g' hg'=>by
    rcases hat with h | ⟨g2,h,h'⟩
    · exact .inl (h ▸ hg')
    · rw [h] at hg'; cases hg'; exact .inr h'
  refine ⟨_,_,_,SIx.retop (L':=L') (D':=D') h0 o2 (fun j hj=>by rw [set_ne (by omega),set_ne (by omega),set_ne (by omega),set_ne (by omega),set_ne (by omega)]) ⟨?_,?_,?_,?_,?_⟩ ?_ (Nat.le_trans hg.size hz) (fun x _ hl hx hx2=>(hkeep x (fun e=>hx (by rw [e]; rfl))).trans (hg.block x hl (fun e=>hx2 e.symm))) hrow (fun g' hg'=>(own_lt h1 hg').2)⟩
  · rw [set_ne (by omega),set_ne (by omega),set_ne (by omega),set_ne (by omega),set_at (by omega)]
  · rw [set_ne (by omega),set_ne (by omega),set_ne (by omega),set_at (by rw [List.length_set]; omega)]
  · rw [set_ne (by omega),set_ne (by omega),set_at (by rw [List.length_set,List.length_set]; omega)]
  · rw [set_ne (by omega),set_at (by rw [List.length_set,List.length_set,List.length_set]; omega)]
  · rw [set_at (by rw [List.length_set,List.length_set,List.length_set,List.length_set]; omega)]
  · refine hF.keep hz (fun g' hg' _=>hkeep g' (fun e=>?_)) (fun x hx _=>⟨hx,hkeep x (fun e=>(h3 x hx).2.2 (by rw [e]; rfl))⟩)
    subst e
    rcases hrow _ hg' with h | h
    · exact hgn h
    · omega
theorem VRow.snoc {B:Nat} {S:Nat → Prop} {w w1:World} {v v':Value} {l:List T} {us:List Value} {t:T} {x y:Value} (h2:∀ k,k < l.length → ∃ x y,RV S w (l.getD k .no) x y∧∀ r,r < 5 → us[k * 5 + r]? = (cv (l.getD k .no) x y)[r]?) (hl:us.length = l.length * 5) (hg:w.grownBy w1 v.ownBlock)
    (hS:∀ x,S x → x < w.heap.size → v.ownBlock ≠ some x) (h3:w1.ownsRow B 55 5 v' (l.length + 1) (us ++ [.int .i64 t.k,.int .i64 t.n,.string t.s,x,y])) (hrv:RV S w t x y):VRow B S w1 v' (l ++ [t]):=by
  have mv:∀ t x y,RV S w t x y → RV S w1 t x y:=RV.keep (fun _ h=>h) hg.size (fun b hb hl=>hg.block b hl (fun e=>hS b hb hl e.symm))
  refine ⟨_,by simpa using h3,fun k hk=>?_⟩
  by_cases e:k < l.length
  · obtain ⟨x',y',q1,q2⟩:=h2 k e
    rw [getD_snoc_lt _ _ _ e]
    exact ⟨x',y',mv _ _ _ q1,fun r hr=>by rw [List.getElem?_append_left (by omega)]; exact q2 r hr⟩
  · obtain rfl:k = l.length:=by simp at hk; omega
    rw [getD_snoc_eq]
    refine ⟨x,y,mv _ _ _ hrv,fun r hr=>?_⟩
    rw [List.getElem?_append_right (by omega),hl,Nat.add_sub_cancel_left]
    rfl
theorem PRow.snoc {B:Nat} {S:Nat → Prop} {w w1:World} {v v':Value} {l:List (ByteArray × T)} {us:List Value} {t:T} {key:ByteArray} {x y:Value} (h2:∀ k,k < l.length → ∃ x y,RV S w (l.getD k (ByteArray.empty,.no)).2 x y∧∀ r,r < 6 → us[k * 6 + r]? = (.string (l.getD k (ByteArray.empty,.no)).1 :: cv (l.getD k (ByteArray.empty,.no)).2 x y)[r]?) (hl:us.length = l.length * 6) (hg:w.grownBy w1 v.ownBlock)
    (hS:∀ x,S x → x < w.heap.size → v.ownBlock ≠ some x) (h3:w1.ownsRow B 67 6 v' (l.length + 1) (us ++ [.string key,.int .i64 t.k,.int .i64 t.n,.string t.s,x,y])) (hrv:RV S w t x y):PRow B S w1 v' (l ++ [(key,t)]):=by
  have mv:∀ t x y,RV S w t x y → RV S w1 t x y:=RV.keep (fun _ h=>h) hg.size (fun b hb hl=>hg.block b hl (fun e=>hS b hb hl e.symm))
  refine ⟨_,by simpa using h3,fun k hk=>?_⟩
  by_cases e:k < l.length
  · obtain ⟨x',y',q1,q2⟩:=h2 k e
    rw [getD_snoc_lt _ _ _ e]
    exact ⟨x',y',mv _ _ _ q1,fun r hr=>by rw [List.getElem?_append_left (by omega)]; exact q2 r hr⟩
  · obtain rfl:k = l.length:=by simp at hk; omega
    rw [getD_snoc_eq]
    refine ⟨x,y,mv _ _ _ hrv,fun r hr=>?_⟩
    rw [List.getElem?_append_right (by omega),hl,Nat.add_sub_cancel_left]
    rfl
theorem joined39F {B:Nat} {S:Nat → Prop} {w:World} {sv:Value} {r:List Fr} {f:Fr} {us:List Value} {L D:Nat → Value} (h:SIx B S w sv (r ++ [f]) us L D) (hB:B ≤ w.heap.size) (h1:f.ls.length ≤ 2097152) (h2:f.ps.length ≤ 2097152) (t:T) (xa ya:Option Addr) (xn xc yn yc:Nat) (hrv:RV S w t (.slice xa xn xc) (.slice ya yn yc)) :
    Calls Tryz.prog 74 #[.agg #[kd f,L r.length,D r.length,.string f.key,.bool f.has],.agg #[.int .i64 t.k,.int .i64 t.n,.string t.s,.slice xa xn xc,.slice ya yn yc]] w fun e w1=>∃ L' D',e = .returned (.agg #[kd (f.join t),L',D',.string (f.join t).key,.bool (f.join t).has])∧w.grownBy w1 (rowOf f (L r.length) (D r.length)).ownBlock∧FRow B S w1 (f.join t) L' D'∧At w (rowOf f (L r.length) (D r.length)) (rowOf (f.join t) L' D')∧(∃ a n c,L' = .slice a n c)∧∃ a n c,D' = .slice a n c:=by
  obtain ⟨g1,g2,g3⟩:=h
  obtain ⟨t1,t2,t3⟩:=g2 r.length (by simp)
  simp only [getD_snoc_eq] at t1 t2 t3
  rcases t2 with ⟨e1,e2,e2',vs,e3,e4⟩ | ⟨e1,e2,e2',e2'',e2''',vs,e3,e4⟩
  · have hro:rowOf f (L r.length) (D r.length) = D r.length:=by unfold rowOf; rw [if_pos e1]
    have hj:f.join t = { d:=true,ps:=f.ps ++ [(f.key,t)] }:=by unfold Fr.join; rw [if_pos e1]
    rw [hro] at t3 ⊢
    rw [hj,e2,show kd f = .int .i64 4 from by unfold kd; rw [if_pos e1]]
    refine (joined39D f.key t.s f.has t.k t.n w none xa ya 0 0 xn xc yn yc B f.ps.length (D r.length) vs e3 hB h2).mono ?_
    rintro e w1 ⟨da,dc,rfl,q1,q2,q3⟩
    refine ⟨_,_,rfl,q2,.inl ⟨rfl,rfl,rfl,PRow.snoc e4 e3.1 q2 (fun x hx _ e=>(t3 x e).2.1 hx) q1 hrv⟩,q3,⟨_,_,_,rfl⟩,⟨_,_,_,rfl⟩⟩
  · have hro:rowOf f (L r.length) (D r.length) = L r.length:=by unfold rowOf; rw [if_neg (by rw [e1]; decide)]
    have hj:f.join t = { d:=false,ls:=f.ls ++ [t] }:=by unfold Fr.join; rw [if_neg (by rw [e1]; decide)]
    rw [hro] at t3 ⊢
    rw [hj,e2,e2'',e2''',show kd f = .int .i64 3 from by unfold kd; rw [if_neg (by rw [e1]; decide)]]
    refine (joined39L ByteArray.empty t.s false t.k t.n w none xa ya 0 0 xn xc yn yc B f.ls.length (L r.length) vs e3 hB h1).mono ?_
    rintro e w1 ⟨da,dc,rfl,q1,q2,q3⟩
    refine ⟨_,_,rfl,q2,.inr ⟨rfl,rfl,rfl,rfl,rfl,VRow.snoc e4 e3.1 q2 (fun x hx _ e=>(t3 x e).2.1 hx) q1 hrv⟩,q3,⟨_,_,_,rfl⟩,⟨_,_,_,rfl⟩⟩
def RQ (b:List UInt8) (w w':World) (e:Ending):Prop:=Below w.heap.size w w'∧((∃ t x y j,e = .returned (.tuple #[vv t x y,.int .i64 (j:Nat),.int .i64 0])∧RV (fun x=>w.heap.size ≤ x) w' t x y∧Run b (.go [] 0) (.val t j)) ∨
  ∃ (p:Nat) (er:Int),e = .returned (.tuple #[.agg #[.int .i64 0,.int .i64 0,.string { data:=#[] },.slice none 0 0,.slice none 0 0],.int .i64 p,.int .i64 er])∧Run b (.go [] 0) (.bad p er))
theorem scal_rv {b:List UInt8} {i j:Nat} {t:T} (h:scP b i = .ok t j) (S:Nat → Prop) (w:World):RV S w t (.slice none 0 0) (.slice none 0 0):=by
  unfold scP at h
  by_cases h105:byt b i = 105
  · rw [if_pos h105] at h
    cases hn:numb b i with
    | bad p' e'=>rw [hn] at h; cases h
    | ok n j=>rw [hn] at h; cases h; exact ⟨⟨_,_,rfl,.inl rfl⟩,⟨_,_,rfl,.inl rfl⟩⟩
  · rw [if_neg h105] at h
    cases hn:strg b i with
    | bad p' e'=>rw [hn] at h; cases h
    | ok n j=>rw [hn] at h; cases h; exact ⟨⟨_,_,rfl,.inl rfl⟩,⟨_,_,rfl,.inl rfl⟩⟩
theorem scP_le {b:List UInt8} {i j:Nat} {t:T} (h:scP b i = .ok t j):j ≤ b.length:=by
  unfold scP at h
  by_cases h105:byt b i = 105
  · rw [if_pos h105] at h
    cases hn:numb b i with
    | bad p' e'=>rw [hn] at h; cases h
    | ok n j =>
      rw [hn] at h; cases h
      by_cases hl:i + 1 < b.length
      · rw [numb_sg hl] at hn
        generalize (if byt b (i + 1) = 45 then [45] else []:List UInt8) = sg at hn
        cases hd:digs b 101 (i + 1 + sg.length) with
        | bad p e=>rw [hd] at hn; cases hn
        | ok d k =>
          rw [hd] at hn
          dsimp only at hn
          obtain ⟨_,h2,_,h4,_⟩:=digs_ok hd
          cases ha:Lib.atoiAll (sg ++ d) with
          | ok v =>
            rw [ha] at hn
            dsimp only at hn
            by_cases hc:padd d = true ∨ sg ++ d = [45,48]
            · rw [if_pos hc] at hn; cases hn
            · rw [if_neg hc] at hn; cases hn; omega
          | «syntax»=>rw [ha] at hn; cases hn
          | range=>rw [ha] at hn; cases hn
      · rw [numb,if_pos (by omega)] at hn; cases hn
  · rw [if_neg h105] at h
    cases hn:strg b i with
    | bad p' e'=>rw [hn] at h; cases h
    | ok n j=>rw [hn] at h; cases h; exact (strg_lt hn).2.2
def RI (b:List UInt8) (w:World) (H:Nat) (wr:World) (sv:Value) (fs:List Fr) (S:Nat → Prop) (j:Nat):Prop:=
  SI (H + 1) S wr sv fs∧Below H w wr∧obj wr H (.int .i64 0) (.int .i64 0) (.string { data:=#[] }) (.slice none 0 0) (.slice none 0 0)∧j ≤ b.length∧Run b (.go [] 0) (.go fs.reverse j)∧(∀ f,f ∈ fs → f.ls.length ≤ j∧f.ps.length ≤ j)∧fs.length ≤ 32∧H + 1 ≤ wr.heap.size
theorem RI.next {b:List UInt8} {w:World} {H:Nat} {wr w2:World} {sv sv':Value} {fs fs':List Fr} {S S':Nat → Prop} {j j':Nat} (h:RI b w H wr sv fs S j) (hb:Below (H + 1) wr w2) (hsi:SI (H + 1) S' w2 sv' fs') (hrun:Run b (.go fs.reverse j) (.go fs'.reverse j')) (hj:j' ≤ b.length) (hlen:∀ f,f ∈ fs' → f.ls.length ≤ j'∧f.ps.length ≤ j') (h32:fs'.length ≤ 32):RI b w H w2 sv' fs' S' j':=
  ⟨hsi,h.2.1.trans (hb.mono (Nat.le_succ _)),h.2.2.1.keep (hb.block H (Nat.lt_succ_self _)),hj,h.2.2.2.2.1.trans hrun,hlen,h32,Nat.le_trans h.2.2.2.2.2.2.2 hb.size⟩
theorem RI.grow {b:List UInt8} {w:World} {H:Nat} {wr w2:World} {sv:Value} {fs:List Fr} {S:Nat → Prop} {j:Nat} (h:RI b w H wr sv fs S j) (hb:Below wr.heap.size wr w2):RI b w H w2 sv fs S j:=
  h.next (hb.mono h.2.2.2.2.2.2.2) (h.1.keep hb.size (fun x _ hx=>hb.block x hx)) (.refl _) h.2.2.2.1 h.2.2.2.2.2.1 h.2.2.2.2.2.2.1
theorem info73:(Tryz.prog.info? 111).map (fun i=>(i.zero,i.size,i.bytes)) = some (some (.agg #[.int .i64 0,.slice none 0 0,.slice none 0 0,.string ByteArray.empty,.bool false]),5,80):=by kernel_rfl
theorem append_open {ops:Array Oper} {rest:List Oper} {o:Oper} {a:Act} {Q:Exit → Act → World → Prop} {w:World} {B:Nat} {S:Nat → Prop} {sv:Value} {fs:List Fr} {dd:Bool} (hgd:o.guard = none) (s x:Operand)
    (ho:o.op = .call { callee:=.builtin .append,args:=#[s,x],argTypes:=#[109,109] }) (hs:a.eval s = sv) (h:SI B S w sv fs) (b:Nat) (hx:a.eval x = .slice (some ⟨b,0,none⟩) 1 1) (hc:blk w b 111 #[kd { d:=dd },.slice none 0 0,.slice none 0 0,.string ByteArray.empty,.bool false]) (hB:B ≤ w.heap.size) (hlim:fs.length ≤ 32)
    (hcont:∀ sa sc w',SI B S w' (.slice sa (fs.length + 1) sc) (fs ++ [{ d:=dd }]) → Below B w w' → wpList Tryz.prog ops Q rest (a.put o.dst (.slice sa (fs.length + 1) sc)) w'):wpList Tryz.prog ops Q (o :: rest) a w:=by
  obtain ⟨i0,hi,hz0,hz1,hz2⟩:=info_parts info73
  obtain ⟨us,L,D,hsi⟩:=h
  obtain ⟨v',w',hr,hown',hgrow,_,hatb⟩:=run_append_own_at (P:=Tryz.prog) w B 109 o.type 111 i0 _ 5 80 Tryz.underlying109 hi hz0 hz1 hz2 rfl (by omega) sv fs.length us hsi.1 ⟨b,0,none⟩ 1 1 [kd { d:=dd },.slice none 0 0,.slice none 0 0,.string ByteArray.empty,.bool false] rfl
    (fun j u hu=>by
      match j,hu with
      | 0,hu=>simp at hu; subst hu; simpa [Addr.add] using hc.cell 0
      | 1,hu=>simp at hu; subst hu; simpa [Addr.add] using hc.cell 1
      | 2,hu=>simp at hu; subst hu; simpa [Addr.add] using hc.cell 2
      | 3,hu=>simp at hu; subst hu; simpa [Addr.add] using hc.cell 3
      | 4,hu=>simp at hu; subst hu; simpa [Addr.add] using hc.cell 4) (fun u hu=>by simp at hu; rcases hu with rfl | rfl | rfl | rfl <;> rfl) (by unfold maxLen; omega) (by omega) hB
  obtain ⟨sa,sc,rfl⟩:=ownForm hown'
  refine Lib.wpList_append_run w hgd s x 109 109 ho sv _ hs hx _ w' hr (hcont sa sc w' (SI.push dd hsi hown' hgrow ?_) ((Below.refl B w).grown hgrow hB (fun k hk=>(own_lt hsi.1 hk).1)))
  rcases hatb with h | h
  · exact .inl h
  · exact .inr ⟨_,h,Nat.le_refl _⟩
theorem scP_er {b:List UInt8} {i p:Nat} {e:Int} (h:scP b i = .bad p e):(e != 0) = true:=by
  unfold scP at h
  have:e = 21 ∨ e = 22 ∨ e = 23:=by
    by_cases h105:byt b i = 105
    · rw [if_pos h105] at h
      cases hn:numb b i with
      | bad p' e'=>rw [hn] at h; cases h; exact numb_er hn
      | ok n j=>rw [hn] at h; cases h
    · rw [if_neg h105] at h
      cases hn:strg b i with
      | bad p' e'=>rw [hn] at h; cases h; exact strg_er hn
      | ok n j=>rw [hn] at h; cases h
  rcases this with h | h | h <;> subst h <;> rfl
theorem obj_set5 {W:World} {H v:Nat} {c0 c1 c2 c3 c4 b0 b1 b2 b3 b4:Value} (hn:H ≠ v) (h:obj W H c0 c1 c2 c3 c4):obj (((((W.setCell ⟨v,0,none⟩ b0).setCell ⟨v,1,none⟩ b1).setCell ⟨v,2,none⟩ b2).setCell ⟨v,3,none⟩ b3).setCell ⟨v,4,none⟩ b4) H c0 c1 c2 c3 c4:=
  h.keep (by rw [Below.heap_setCell _ _ _ _ hn,Below.heap_setCell _ _ _ _ hn,Below.heap_setCell _ _ _ _ hn,Below.heap_setCell _ _ _ _ hn,Below.heap_setCell _ _ _ _ hn])
theorem below_set5v {B v:Nat} {w w1:World} {b0 b1 b2 b3 b4:Value} (hv:B ≤ v) (h:Below B w w1):Below B w (((((w1.setCell ⟨v,0,none⟩ b0).setCell ⟨v,1,none⟩ b1).setCell ⟨v,2,none⟩ b2).setCell ⟨v,3,none⟩ b3).setCell ⟨v,4,none⟩ b4):=
  ((((h.setCell hv _).setCell hv _).setCell hv _).setCell hv _).setCell hv _
theorem join_len {n:Nat} (f:Fr) (t:T) (h1:f.ls.length < n) (h2:f.ps.length < n):(f.join t).ls.length ≤ n∧(f.join t).ps.length ≤ n:=by
  unfold Fr.join
  split
  · simp; omega
  · simp; omega
theorem frow_L {B:Nat} {S:Nat → Prop} {w:World} {f:Fr} {L D:Value} (h:FRow B S w f L D):∃ a n c,L = .slice a n c:=by
  rcases h with ⟨_,h,_⟩ | ⟨_,_,_,_,_,us,h,_⟩
  · exact ⟨_,_,_,h⟩
  · obtain ⟨a,c,e⟩:=ownForm h; exact ⟨a,_,c,e⟩
theorem frow_D {B:Nat} {S:Nat → Prop} {w:World} {f:Fr} {L D:Value} (h:FRow B S w f L D):∃ a n c,D = .slice a n c:=by
  rcases h with ⟨_,_,_,us,h,_⟩ | ⟨_,h,_⟩
  · obtain ⟨a,c,e⟩:=ownForm h; exact ⟨a,_,c,e⟩
  · exact ⟨_,_,_,h⟩
theorem SI.S {B:Nat} {S:Nat → Prop} {w:World} {sv:Value} {fs:List Fr} (h:SI B S w sv fs):∀ x,S x → B ≤ x∧x < w.heap.size:=by
  obtain ⟨_,_,_,_,_,h3⟩:=h
  exact fun x hx=>⟨(h3 x hx).1,(h3 x hx).2.1⟩
theorem PRow.last {B:Nat} {S:Nat → Prop} {w:World} {a:Option Addr} {n c:Nat} {l:List (ByteArray × T)} (h:PRow B S w (.slice a n c) l) (hn:l ≠ []):∃ gd,a = some ⟨gd,0,none⟩∧n = l.length∧B ≤ gd∧gd < w.heap.size∧w.cell? ⟨gd,(l.length - 1) * 6,none⟩ = some (.string (lastK l)):=by
  obtain ⟨us,q1,q2⟩:=h
  have hl:0 < l.length:=List.length_pos_iff.2 hn
  obtain ⟨gd,ha⟩:∃ gd,(Value.slice a n c).ownBlock = some gd:=by
    rcases q1.2 with ⟨_,e⟩ | ⟨g,cap,cur,e,_⟩
    · omega
    · exact ⟨g,by rw [e]; rfl⟩
  obtain ⟨cap,e,hc⟩:=own_form q1 ha
  have hlt:=own_lt q1 ha
  injection e with e1 e2 e3
  refine ⟨gd,e1,e2,hlt.1,hlt.2,?_⟩
  obtain ⟨x,y,_,hu⟩:=q2 (l.length - 1) (by omega)
  have h0:=hu 0 (by omega)
  have:=hc _ _ h0
  rw [Nat.add_zero] at this
  rw [this]
  unfold lastK
  rw [List.getLastD_eq_getLast?,List.getLast?_eq_getElem?]
  rfl
theorem RI.keyed {b:List UInt8} {w:World} {H:Nat} {wr:World} {gs sc:Nat} {r:List Fr} {f:Fr} {S:Nat → Prop} {j j2:Nat} {us:List Value} {L D:Nat → Value} (h:RI b w H wr (.slice (some ⟨gs,0,none⟩) (r.length + 1) sc) (r ++ [f]) S j) (hx:SIx (H + 1) S wr (.slice (some ⟨gs,0,none⟩) (r.length + 1) sc) (r ++ [f]) us L D) (hd:f.d = true) (hg:H + 1 ≤ gs) (s:ByteArray) (A O:Obj) (hlt:j < j2) (hle:j2 ≤ b.length) (hs:step b (f :: r.reverse) j = .go ({ f with key:=s,has:=true } :: r.reverse) j2) :
    RI b w H ((((wr.setCell ⟨gs,r.length * 5 + 3,none⟩ (.string s)).setCell ⟨gs,r.length * 5 + 4,none⟩ (.bool true)).alloc A).alloc O) (.slice (some ⟨gs,0,none⟩) (r.length + 1) sc) (r ++ [{ f with key:=s,has:=true }]) S j2:=by
  have hb:Below (H + 1) wr ((wr.setCell ⟨gs,r.length * 5 + 3,none⟩ (.string s)).setCell ⟨gs,r.length * 5 + 4,none⟩ (.bool true)):=((Below.refl _ _).setCell hg _).setCell hg _
  refine RI.grow (h.next hb (hx.keyed hd s) (by simpa using Run.one hs) hle (fun f' hf'=>?_) (by have:=h.2.2.2.2.2.2.1; simpa using this)) (((Below.refl _ _).alloc (Nat.le_refl _) _).alloc (by simp) _)
  rcases List.mem_append.1 hf' with q | q
  · have:=h.2.2.2.2.2.1 f' (List.mem_append_left _ q); omega
  · simp at q
    subst q
    have:=h.2.2.2.2.2.1 f (by simp)
    exact ⟨by dsimp only; omega,by dsimp only; omega⟩
theorem vv_close {t:T} {k:Int} {x y:Value} {j:Nat} (h:t.k = k∧t.n = 0∧t.s = ByteArray.empty):Ending.returned (.tuple #[.agg #[.int .i64 k,.int .i64 0,.string { data:=#[] },x,y],.int .i64 ((j:Int) + 1),.int .i64 0]) = .returned (.tuple #[vv t x y,.int .i64 ((j + 1:Nat):Int),.int .i64 0]):=by
  unfold vv
  rw [h.1,h.2.1,h.2.2]
  rfl
theorem rv_end {S:Nat → Prop} {wr w2:World} {H VB:Nat} {t:T} {x y a0 a1 a2 a3 a4 b0 b1 b2 b3 b4:Value} (h:RV S wr t x y) (hS:∀ x,S x → H + 1 ≤ x∧x < wr.heap.size) (hb:Below VB wr w2) (hV:wr.heap.size = VB) :
    RV (fun x=>H ≤ x) ((((((((((w2.setCell ⟨VB,0,none⟩ a0).setCell ⟨VB,1,none⟩ a1).setCell ⟨VB,2,none⟩ a2).setCell ⟨VB,3,none⟩ a3).setCell ⟨VB,4,none⟩ a4).setCell ⟨H,0,none⟩ b0).setCell ⟨H,1,none⟩ b1).setCell ⟨H,2,none⟩ b2).setCell ⟨H,3,none⟩ b3).setCell ⟨H,4,none⟩ b4) t x y:=by
  refine RV.keep (w:=wr) (fun x hx=>by have:=(hS x hx).1; show H ≤ x; omega) (by simpa using hb.size) (fun k hk hl=>?_) _ _ _ h
  have hn1:k ≠ H:=by have:=(hS k hk).1; omega
  have hn2:k ≠ VB:=by omega
  rw [Below.heap_setCell _ _ _ _ hn1,Below.heap_setCell _ _ _ _ hn1,Below.heap_setCell _ _ _ _ hn1,Below.heap_setCell _ _ _ _ hn1,Below.heap_setCell _ _ _ _ hn1,Below.heap_setCell _ _ _ _ hn2,Below.heap_setCell _ _ _ _ hn2,Below.heap_setCell _ _ _ _ hn2,Below.heap_setCell _ _ _ _ hn2,Below.heap_setCell _ _ _ _ hn2]
  exact hb.block k (by omega)
theorem SIx.keep {B:Nat} {S:Nat → Prop} {w w':World} {sv:Value} {fs:List Fr} {us:List Value} {L D:Nat → Value} (h:SIx B S w sv fs us L D) (hz:w.heap.size ≤ w'.heap.size) (hs:∀ x,B ≤ x → x < w.heap.size → w'.heap[x]? = w.heap[x]?):SIx B S w' sv fs us L D:=by
  obtain ⟨h1,h2,h3⟩:=h
  refine ⟨own_keep h1 hs,fun k hk=>?_,fun x hx=>⟨(h3 x hx).1,Nat.lt_of_lt_of_le (h3 x hx).2.1 hz,(h3 x hx).2.2⟩⟩
  obtain ⟨q1,q2,q3⟩:=h2 k hk
  exact ⟨q1,q2.keep hz (fun g hg hl=>hs g (q2.low hg).1 hl) (fun x hx hl=>⟨hx,hs x (h3 x hx).1 hl⟩),fun g hg=>⟨(q3 g hg).1,(q3 g hg).2.1,Nat.lt_of_lt_of_le (q3 g hg).2.2.1 hz,(q3 g hg).2.2.2⟩⟩
def TCV (w:World) (gs n VB:Nat) (c0 c1 c2 c3 c4 v0 v1 v2 v3 v4:Value):Prop:=
  w.cell? ⟨gs,n * 5,none⟩ = some c0∧w.cell? ⟨gs,n * 5 + 1,none⟩ = some c1∧w.cell? ⟨gs,n * 5 + 2,none⟩ = some c2∧w.cell? ⟨gs,n * 5 + 3,none⟩ = some c3∧w.cell? ⟨gs,n * 5 + 4,none⟩ = some c4 ∧
  w.frozen? ⟨gs,n * 5,none⟩ = false∧w.frozen? ⟨gs,n * 5 + 1,none⟩ = false∧w.frozen? ⟨gs,n * 5 + 2,none⟩ = false∧w.frozen? ⟨gs,n * 5 + 3,none⟩ = false∧w.frozen? ⟨gs,n * 5 + 4,none⟩ = false ∧
  w.cell? ⟨VB,0,none⟩ = some v0∧w.cell? ⟨VB,1,none⟩ = some v1∧w.cell? ⟨VB,2,none⟩ = some v2∧w.cell? ⟨VB,3,none⟩ = some v3∧w.cell? ⟨VB,4,none⟩ = some v4
theorem join_call {H:Nat} {S:Nat → Prop} {w3:World} {gs sc VB:Nat} {r:List Fr} {f:Fr} {us:List Value} {L D:Nat → Value} {t:T} {xa ya:Option Addr} {xn xc yn yc:Nat} (h:SIx (H + 1) S w3 (.slice (some ⟨gs,0,none⟩) (r.length + 1) sc) (r ++ [f]) us L D) (hv:obj w3 VB (.int .i64 t.k) (.int .i64 t.n) (.string t.s) (.slice xa xn xc) (.slice ya yn yc)) (hVB:∀ g,(rowOf f (L r.length) (D r.length)).ownBlock = some g → g ≠ VB) (hB:H + 1 ≤ w3.heap.size) (h1:f.ls.length ≤ 2097152) (h2:f.ps.length ≤ 2097152) (hrv:RV S w3 t (.slice xa xn xc) (.slice ya yn yc)) :
    TCV w3 gs r.length VB (kd f) (L r.length) (D r.length) (.string f.key) (.bool f.has) (.int .i64 t.k) (.int .i64 t.n) (.string t.s) (.slice xa xn xc) (.slice ya yn yc) ∧
    Calls Tryz.prog 74 #[.agg #[kd f,L r.length,D r.length,.string f.key,.bool f.has],.agg #[.int .i64 t.k,.int .i64 t.n,.string t.s,.slice xa xn xc,.slice ya yn yc]] w3.drew fun e w4=>∃ la ln lc da dn dc,e = .returned (.agg #[kd (f.join t),.slice la ln lc,.slice da dn dc,.string (f.join t).key,.bool (f.join t).has]) ∧
      TCV w4 gs r.length VB (kd f) (L r.length) (D r.length) (.string f.key) (.bool f.has) (.int .i64 t.k) (.int .i64 t.n) (.string t.s) (.slice xa xn xc) (.slice ya yn yc) ∧
      Hid (SI (H + 1) S (((((w4.setCell ⟨gs,r.length * 5,none⟩ (kd (f.join t))).setCell ⟨gs,r.length * 5 + 1,none⟩ (.slice la ln lc)).setCell ⟨gs,r.length * 5 + 2,none⟩ (.slice da dn dc)).setCell ⟨gs,r.length * 5 + 3,none⟩ (.string (f.join t).key)).setCell ⟨gs,r.length * 5 + 4,none⟩ (.bool (f.join t).has)) (.slice (some ⟨gs,0,none⟩) (r.length + 1) sc) (r ++ [f.join t]) ∧
        Below (H + 1) w3 (((((w4.setCell ⟨gs,r.length * 5,none⟩ (kd (f.join t))).setCell ⟨gs,r.length * 5 + 1,none⟩ (.slice la ln lc)).setCell ⟨gs,r.length * 5 + 2,none⟩ (.slice da dn dc)).setCell ⟨gs,r.length * 5 + 3,none⟩ (.string (f.join t).key)).setCell ⟨gs,r.length * 5 + 4,none⟩ (.bool (f.join t).has))):=by
  obtain ⟨gs',cap,hsv,_,hgB,hgl,⟨k0,k1,k2,k3,k4⟩,kfr,hF⟩:=h.top
  injection hsv with e1 e2 e3
  injection e1 with e1
  injection e1 with e1
  subst e1
  obtain ⟨v0,v1,v2,v3,v4⟩:=hv.cells
  have hgn:(rowOf f (L r.length) (D r.length)).ownBlock ≠ some gs:=fun e=>by
    have:=(h.2.1 r.length (by simp)).2.2 gs (by simpa only [getD_snoc_eq] using e)
    exact this.1 rfl
  refine ⟨⟨k0,k1,k2,k3,k4,kfr _,kfr _,kfr _,kfr _,kfr _,v0,v1,v2,v3,v4⟩,?_⟩
  have hd:SIx (H + 1) S w3.drew (.slice (some ⟨gs,0,none⟩) (r.length + 1) sc) (r ++ [f]) us L D:=h.keep (Nat.le_refl _) (fun _ _ _=>rfl)
  refine (joined39F hd hB h1 h2 t xa ya xn xc yn yc (RV.keep (w:=w3) (w':=w3.drew) (fun _ h=>h) (Nat.le_refl _) (fun _ _ _=>rfl) _ _ _ hrv)).mono ?_
  rintro e w4 ⟨L',D',rfl,q1,q2,q3,⟨la,ln,lc,rfl⟩,⟨da,dn,dc,rfl⟩⟩
  have kb:∀ x,x < w3.heap.size → (rowOf f (L r.length) (D r.length)).ownBlock ≠ some x → w4.heap[x]? = w3.heap[x]?:=fun x hx hn=>q1.block x hx (fun e=>hn e.symm)
  have c1:∀ i,w4.cell? ⟨gs,i,none⟩ = w3.cell? ⟨gs,i,none⟩:=fun i=>World.cell?_of_block (w:=w3) (kb gs hgl hgn)
  have c2:∀ i,w4.frozen? ⟨gs,i,none⟩ = w3.frozen? ⟨gs,i,none⟩:=fun i=>World.frozen?_of_block (w:=w3) (kb gs hgl hgn)
  have c3:∀ i,w4.cell? ⟨VB,i,none⟩ = w3.cell? ⟨VB,i,none⟩:=fun i=>World.cell?_of_block (w:=w3) (kb VB hv.lt (fun e=>hVB VB e rfl))
  refine ⟨la,ln,lc,da,dn,dc,rfl,⟨(c1 _).trans k0,(c1 _).trans k1,(c1 _).trans k2,(c1 _).trans k3,(c1 _).trans k4,(c2 _).trans (kfr _),(c2 _).trans (kfr _),(c2 _).trans (kfr _),(c2 _).trans (kfr _),(c2 _).trans (kfr _),(c3 _).trans v0,(c3 _).trans v1,(c3 _).trans v2,(c3 _).trans v3,(c3 _).trans v4⟩,SIx.joined hd q1 q2 q3,?_⟩
  have hb:Below (H + 1) w3 w4:=⟨q1.os,q1.tape,q1.output,q1.size,fun k hk=>kb k (by omega) (fun e=>by have:=(hF.low e).1; omega)⟩
  exact ((((hb.setCell hgB _).setCell hgB _).setCell hgB _).setCell hgB _).setCell hgB _
theorem push_boxes (K0:Value) (wr:World) (A:Obj) (O:Obj) (_hO:O = Obj.cells #[K0,.slice none 0 0,.slice none 0 0,.string ByteArray.empty,.bool false] 111) :
    Below wr.heap.size wr (((wr.alloc A).alloc O).alloc (Obj.cells #[K0,.slice none 0 0,.slice none 0 0,.string ByteArray.empty,.bool false] 111))∧blk (((wr.alloc A).alloc O).alloc (Obj.cells #[K0,.slice none 0 0,.slice none 0 0,.string ByteArray.empty,.bool false] 111)) (wr.heap.size + 1 + 1) 111 #[K0,.slice none 0 0,.slice none 0 0,.string ByteArray.empty,.bool false]:=by
  refine ⟨(((Below.refl _ _).alloc (Nat.le_refl _) _).alloc (by simp) _).alloc (by simp; omega) _,?_⟩
  have:=heap_new ((wr.alloc A).alloc O) (Obj.cells #[K0,.slice none 0 0,.slice none 0 0,.string ByteArray.empty,.bool false] 111)
  simpa [blk] using this
def firstLoop:Code → Option Code
  | .loop c=>some c
  | .seq a b=>match firstLoop a with
    | some c=>some c
    | none=>firstLoop b
  | .block _ c=>firstLoop c
  | .scope c=>firstLoop c
  | .cond _ a b=>match firstLoop a with
    | some c=>some c
    | none=>firstLoop b
  | _=>none
def loopOf (f:Func):Code:=(f.body.bind firstLoop).getD .skip
def restA (c i:Nat) (a:Option Addr):Option Addr:=if c = i then a else Option.map (fun x=>x.add i) a
theorem SR.rest {B rb:Nat} {w:World} {a:Option Addr} {c:Nat} {b:List UInt8} {i n:Nat} {ov:Value} {k:Nat} {us:List Value} (h:SR B rb w a c b i n ov k us):RB w (.slice (restA c i a) (b.length - i) (c - i)) (b.drop i):=by
  have h1:=h.le
  have h2:=h.cap
  refine ⟨_,c - i,by rw [List.length_drop],by rw [List.length_drop]; omega,?_⟩
  by_cases hc:c = i
  · refine .inl (List.drop_of_length_le (by omega))
  rcases h.tx with rfl | ⟨g,o,rfl,hg,hx⟩
  · exact .inl (by simp)
  · refine .inr ⟨g,o + i,?_,Nat.lt_of_lt_of_le hg (Nat.le_trans h.low (Nat.le_of_lt h.bk.lt)),fun j hj=>?_⟩
    · unfold restA
      rw [if_neg hc]; simp [Addr.add]
    · rw [List.length_drop] at hj
      rw [← byt_drop,Nat.add_assoc]
      exact hx (i + j) (by omega)
theorem SR.besides {B rb:Nat} {w w':World} {a:Option Addr} {c:Nat} {b:List UInt8} {i n i' n':Nat} {ov:Value} {k:Nat} {us:List Value} (h:SR B rb w a c b i n ov k us) (hb:Besides rb w w') (hbk:blk w' rb 78 #[.slice a b.length c,.int .i64 i',.int .i64 n',ov]) (hi:i' ≤ b.length):SR B rb w' a c b i' n' ov k us where
  bk:=hbk
  own:=by
    refine ⟨h.own.1,?_⟩
    rcases h.own.2 with e | ⟨g,cap,cur,q1,q2,q3,q4⟩
    · exact .inl e
    · exact .inr ⟨g,cap,cur,q1,q2,(hb.block g (Array.getElem?_eq_some_iff.1 q3).1 (fun e=>h.ne (by rw [q1]; show some g = some rb; rw [e]))).trans q3,q4⟩
  low:=h.low
  ne:=h.ne
  le:=hi
  lim:=h.lim
  cap:=h.cap
  tx:=by
    rcases h.tx with e | ⟨g,o,h1,h2,h3⟩
    · exact .inl e
    · exact .inr ⟨g,o,h1,h2,fun j hj=>hb.cell (p:=⟨g,o + j,none⟩) (by have:=h.low; show g ≠ rb; omega) (h3 j hj)⟩
  ev:=by
    obtain ⟨⟨t,p,h1⟩,⟨t',p',h2⟩⟩:=h.ev
    have:=h.low; have:=h.evB
    exact ⟨⟨t,p,hb.cell (p:=⟨3,0,none⟩) (by show (3:Nat) ≠ rb; omega) h1⟩,⟨t',p',hb.cell (p:=⟨4,0,none⟩) (by show (4:Nat) ≠ rb; omega) h2⟩⟩
  evB:=h.evB
theorem results_cell2 {fn:Func} {p u:Tmp} (h:fn.results = #[.cell p 55,.tmp u]) (tmps:Array Value) (w:World) (g:Nat) (cs:Array Value)
    (hp:tmps.getD p undef = .pointer (some ⟨g,0,none⟩)) (hg:w.heap[g]? = some (.cells cs 55 (0,0))) (hs:cs.size = 5):(results fn tmps).run Tryz.prog w = .ok (.tuple #[.agg cs,tmps.getD u undef]) w:=by
  have hp':tmps[p]?.getD undef = .pointer (some ⟨g,0,none⟩):=by simpa using hp
  have hi:(Tryz.prog.info? 55).map (·.size) = some cs.size:=by rw [hs]; exact info25s
  simp [results,h,hp',asAddr,run_loadVar_row w g 55 55 cs (0,0) _ hg Tryz.underlying55 rfl hi]
theorem Besides.setOld {rb H o:Nat} {w w1:World} {u:Value} (hH:w.heap.size ≤ H) (h:Besides rb w w1):Besides rb w (w1.setCell ⟨H,o,none⟩ u):=
  ⟨h.os,h.tape,h.output,by simpa [World.setCell] using h.size,fun k hk hn=>by rw [Below.heap_setCell _ _ _ _ (show k ≠ H by omega)]; exact h.block k hk hn⟩
theorem blk_set5 {H g:Nat} {ty:TypeId} {cs:Array Value} {w:World} {b0 b1 b2 b3 b4:Value} (hne:g ≠ H) (h:blk w g ty cs):blk (((((w.setCell ⟨H,0,none⟩ b0).setCell ⟨H,1,none⟩ b1).setCell ⟨H,2,none⟩ b2).setCell ⟨H,3,none⟩ b3).setCell ⟨H,4,none⟩ b4) g ty cs:=
  h.keep (by rw [Below.heap_setCell _ _ _ _ hne,Below.heap_setCell _ _ _ _ hne,Below.heap_setCell _ _ _ _ hne,Below.heap_setCell _ _ _ _ hne,Below.heap_setCell _ _ _ _ hne])
abbrev zero5:Obj:=Obj.cells #[.int .i64 0,.int .i64 0,.string { data:=#[] },.slice none 0 0,.slice none 0 0] 55
set_option maxRecDepth 10000 in
set_option maxHeartbeats 1000000 in
theorem leaf55 {B rb:Nat} {w:World} {a:Option Addr} {c:Nat} {b:List UInt8} {i n:Nat} {ov:Value} {k:Nat} {us:List Value} (h:SR B rb w a c b i n ov k us) (h1:byt b i ≠ 108) (h2:byt b i ≠ 100) :
    Calls Tryz.prog 65 #[.pointer (some ⟨rb,0,none⟩)] w fun e w'=>∃ t xa xn xc ya yn yc j er,e = .returned (.tuple #[vv t (.slice xa xn xc) (.slice ya yn yc),.int .i64 er])∧((er = 0∧leafO b i = .val t j) ∨ (er ≠ 0∧leafO b i = .bad j er))∧i + j ≤ b.length∧SR B rb w' a c b (i + j) n ov k us∧Besides rb w w':=by
  have hn:=h.le
  have hl:=h.lim
  have hcap:=h.cap
  have i0:(0:Int) ≤ (i:Int):=by omega
  have i1:(i:Int) ≤ (b.length:Int):=by omega
  have i2:(i:Int) ≤ (c:Int):=by omega
  have hb0:Below w.heap.size w (w.alloc zero5):=(Below.refl _ _).alloc (Nat.le_refl _) _
  have HW:Hid (SR B rb w a c b i n ov k us∧rb < w.heap.size):=⟨h,h.bk.lt⟩
  have HX:Hid (SR B rb (w.alloc zero5) a c b i n ov k us∧obj (w.alloc zero5) w.heap.size (.int .i64 0) (.int .i64 0) (.string { data:=#[] }) (.slice none 0 0) (.slice none 0 0)∧Below w.heap.size w (w.alloc zero5)):=⟨h.keep hb0,heap_new _ _,hb0⟩
  obtain ⟨c0,c1,_,_,f1,_⟩:=HX.out.1.cells
  clear h hb0
  go_enter Tryz.func65,Tryz.ntmps65
  go_wp2_with fail
  generalize w.alloc (Obj.cells #[.int .i64 0,.int .i64 0,.string { data:=#[] },.slice none 0 0,.slice none 0 0] 55) = w0 at *
  generalize hH:w.heap.size = H at *
  have HH:=Lib.hid hH
  clear hH
  have HC:∀ w',Below w0.heap.size w0 w' → ∀ q,(q = 0 ∨ obj w' q (.int .i64 0) (.int .i64 0) (.string { data:=#[] }) (.slice none 0 0) (.slice none 0 0)) → Calls Tryz.prog 81 #[.slice (restA c i a) (b.length - i) (c - i)] w' fun e w2=>∃ t xa xn xc ya yn yc j er,e = .returned (.tuple #[.agg #[.int .i64 t.k,.int .i64 t.n,.string t.s,.slice xa xn xc,.slice ya yn yc],.int .i64 ((j:Nat):Int),.int .i64 er]) ∧
      (w2.cell? ⟨rb,0,none⟩ = some (.slice a b.length c)∧w2.cell? ⟨rb,1,none⟩ = some (.int .i64 i)∧w2.frozen? ⟨rb,1,none⟩ = false)∧(q = 0 ∨ obj w2 q (.int .i64 0) (.int .i64 0) (.string { data:=#[] }) (.slice none 0 0) (.slice none 0 0))∧Hid (OUT (b.drop i) t j er∧Below w0.heap.size w0 w2∧w'.heap.size ≤ w2.heap.size):=by
    intro w' hb' q hq
    have hs:=HX.out.1.keep hb'
    refine (prefix12 _ _ w' hs.rest hs.ev).mono ?_
    rintro e w2 ⟨t,x,y,j,er,rfl,hrv,_,hout,hb2⟩
    obtain ⟨⟨xa,xn,xc,rfl⟩,⟨ya,yn,yc,rfl⟩⟩:=hrv.slices
    have hs2:=hs.keep hb2
    exact ⟨t,xa,xn,xc,ya,yn,yc,j,er,rfl,⟨hs2.cells.1,hs2.cells.2.1,hs2.bk.frozen 1⟩,hq.imp id (fun hq=>hq.keep (hb2.block _ hq.lt)),hout,hb'.trans (hb2.mono hb'.size),hb2.size⟩
  have hpos:w0.heap.size ≠ 0:=by have:=HX.out.1.bk.lt; omega
  have HCA:=Lib.hid (HC w0.drew ⟨rfl,rfl,rfl,Nat.le_refl _,fun _ _=>rfl⟩ 0 (.inl rfl))
  have HCB:=Lib.hid (HC (w0.alloc zero5).drew (show Below w0.heap.size w0 (w0.alloc zero5).drew from (have h:Below w0.heap.size w0 (w0.alloc zero5):=(Below.refl _ _).alloc (Nat.le_refl _) zero5; ⟨h.os,h.tape,h.output,h.size,h.block⟩)) w0.heap.size (.inr (heap_new w0 zero5)))
  clear HC
  have hsl:(if c = i then a else Option.map (fun x=>x.add i) a) = restA c i a:=rfl
  generalize restA c i a = A at *
  have n0:=World.new_ne w0 _ c0
  have n1:=World.new_ne w0 _ c1
  go_region_held3 (fun w'=>w'.cell? ⟨rb,0,none⟩ = some (.slice a b.length c)∧w'.cell? ⟨rb,1,none⟩ = some (.int .i64 i)) (first | go_keep | (simp [*]))
      (first | (go_at_call 81; refine HCA.out.mono ?_; rintro e w2 ⟨t,xa,xn,xc,ya,yn,yc,j,er,rfl,⟨q0,q1,q2⟩, -,HO⟩; have n2:=World.new_ne w2 _ q0; have n3:=World.new_ne w2 _ q1) | (go_at_call 81; refine HCB.out.mono ?_; rintro e w2 ⟨t,xa,xn,xc,ya,yn,yc,j,er,rfl,⟨q0,q1,q2⟩,hq,HO⟩; have hqb:=hq.resolve_left hpos; obtain ⟨z0,z1,z2,z3,z4⟩:=hqb.cells; have y0:=hqb.frozen 0; have y1:=hqb.frozen 1; have y2:=hqb.frozen 2; have y3:=hqb.frozen 3; have y4:=hqb.frozen 4; have HQ:=Lib.hid hqb; clear hq hqb))
  ·
    have HL:Hid ((er = 0∧leafO b i = .val t j) ∨ (er ≠ 0∧leafO b i = .bad j er)):=leaf_out hl h1 h2 HO.out.1
    have hij:i + j ≤ b.length:=by
      rcases HL.out with ⟨_,e⟩ | ⟨_,e⟩
      · exact (leaf_val hn hl h1 h2 e).1
      · exact leaf_bad hn h1 h2 e
    generalize hWW:w2.alloc (Obj.cells #[Value.int .i64 t.k,Value.int .i64 t.n,Value.string t.s,Value.slice xa xn xc,Value.slice ya yn yc] 55) = W at *
    have HF:Hid (obj W w2.heap.size (.int .i64 t.k) (.int .i64 t.n) (.string t.s) (.slice xa xn xc) (.slice ya yn yc)∧Below w0.heap.size w0 W):=by
      rw [← hWW]
      exact ⟨heap_new _ _,HO.out.2.1.alloc HO.out.2.2 _⟩
    clear hWW
    have hb0:=HF.out.2
    have hS:SR B rb W a c b i n ov k us:=HX.out.1.keep hb0
    have hO:obj W H (.int .i64 0) (.int .i64 0) (.string { data:=#[] }) (.slice none 0 0) (.slice none 0 0):=HX.out.2.1.keep (hb0.block _ HX.out.2.1.lt)
    obtain ⟨_,d1,_,_,g1,_⟩:=hS.cells
    obtain ⟨v0,v1,v2,v3,v4⟩:=HF.out.1.cells
    obtain ⟨o0,o1,o2,o3,o4⟩:=hO.cells
    have p0:=hO.frozen 0
    have p1:=hO.frozen 1
    have p2:=hO.frozen 2
    have p3:=hO.frozen 3
    have p4:=hO.frozen 4
    have ij1:(i:Int) + (j:Int) ≤ 1048576:=by omega
    have ij0:(0:Int) ≤ (i:Int) + (j:Int):=by omega
    have hHv:H ≠ w2.heap.size:=by have:=HX.out.2.1.lt; have:=HF.out.1.lt; have:=HO.out.2.1.size; omega
    have hrv:rb ≠ w2.heap.size:=by have:=HX.out.1.bk.lt; have:=HO.out.2.1.size; omega
    have hHr:H ≠ rb:=by have:=HW.out.2; have:=HH.out; omega
    have HS:=Lib.hid hS
    have HO2:=Lib.hid hO
    have hWs:w0.heap.size ≤ W.heap.size:=hb0.size
    clear hS hO hb0 q0 q1 q2 n0 n1 n2 n3 c0 c1 f1 HCA HCB hsl
    go_wp2
    have hrH:rb ≠ H:=fun e=>hHr e.symm
    have hB:Besides rb w W:=by
      have h3:=HX.out.2.2.trans (HF.out.2.mono (Nat.le_of_lt HX.out.2.1.lt))
      rw [← HH.out] at h3
      exact Besides.of_below h3
    have hH':w.heap.size ≤ H:=Nat.le_of_eq HH.out
    refine bodyPost_ret (v:=.tuple #[vv t (.slice xa xn xc) (.slice ya yn yc),.int .i64 er]) (results_cell2 Tryz.results65 _ _ H _ rfl (((((HO2.out.keep (Below.heap_setCell _ _ _ _ hHr)).set0 _).set1 _).set2 _).set3 _ |>.set4 _) rfl) rfl ?_
    have hBF:=Besides.setOld (o:=4) (u:=.slice ya yn yc) hH' (Besides.setOld (o:=3) (u:=.slice xa xn xc) hH' (Besides.setOld (o:=2) (u:=.string t.s) hH' (Besides.setOld (o:=1) (u:=.int .i64 t.n) hH' (Besides.setOld (o:=0) (u:=.int .i64 t.k) hH' (hB.set1 (i:=1) (v:=.int .i64 ((i:Int) + (j:Int))))))))
    refine ⟨t,_,_,_,_,_,_,j,er,rfl,HL.out,hij,HW.out.1.besides hBF (blk_set5 hrH ?_) hij,hBF⟩
    have:=HS.out.bk.set 1 (.int .i64 ((i:Int) + (j:Int)))
    rw [show ((i + j:Nat):Int) = (i:Int) + (j:Int) from by omega]
    exact this
  ·
    have HL:Hid ((er = 0∧leafO b i = .val t j) ∨ (er ≠ 0∧leafO b i = .bad j er)):=leaf_out hl h1 h2 HO.out.1
    have hij:i + j ≤ b.length:=by
      rcases HL.out with ⟨_,e⟩ | ⟨_,e⟩
      · exact (leaf_val hn hl h1 h2 e).1
      · exact leaf_bad hn h1 h2 e
    generalize hWW:((((w2.setCell ⟨w0.heap.size,0,none⟩ (Value.int .i64 t.k)).setCell ⟨w0.heap.size,1,none⟩ (Value.int .i64 t.n)).setCell ⟨w0.heap.size,2,none⟩ (Value.string t.s)).setCell ⟨w0.heap.size,3,none⟩ (Value.slice xa xn xc)).setCell ⟨w0.heap.size,4,none⟩ (Value.slice ya yn yc) = W at *
    have HF:Hid (obj W w0.heap.size (.int .i64 t.k) (.int .i64 t.n) (.string t.s) (.slice xa xn xc) (.slice ya yn yc)∧Below w0.heap.size w0 W):=by
      rw [← hWW]
      exact ⟨((((HQ.out.set0 _).set1 _).set2 _).set3 _).set4 _,below_set5v (Nat.le_refl _) HO.out.2.1⟩
    clear hWW
    have hb0:=HF.out.2
    have hS:SR B rb W a c b i n ov k us:=HX.out.1.keep hb0
    have hO:obj W H (.int .i64 0) (.int .i64 0) (.string { data:=#[] }) (.slice none 0 0) (.slice none 0 0):=HX.out.2.1.keep (hb0.block _ HX.out.2.1.lt)
    obtain ⟨_,d1,_,_,g1,_⟩:=hS.cells
    obtain ⟨v0,v1,v2,v3,v4⟩:=HF.out.1.cells
    obtain ⟨o0,o1,o2,o3,o4⟩:=hO.cells
    have p0:=hO.frozen 0
    have p1:=hO.frozen 1
    have p2:=hO.frozen 2
    have p3:=hO.frozen 3
    have p4:=hO.frozen 4
    have ij1:(i:Int) + (j:Int) ≤ 1048576:=by omega
    have ij0:(0:Int) ≤ (i:Int) + (j:Int):=by omega
    have hHv:H ≠ w0.heap.size:=by have:=HX.out.2.1.lt; have:=HF.out.1.lt; omega
    have hrv:rb ≠ w0.heap.size:=by have:=HX.out.1.bk.lt; omega
    have hHr:H ≠ rb:=by have:=HW.out.2; have:=HH.out; omega
    have HS:=Lib.hid hS
    have HO2:=Lib.hid hO
    have hWs:w0.heap.size ≤ W.heap.size:=hb0.size
    clear hS hO hb0 q0 q1 q2 n0 n1 c0 c1 f1 HCA HCB hsl z0 z1 z2 z3 z4 y0 y1 y2 y3 y4
    go_wp2
    have hrH:rb ≠ H:=fun e=>hHr e.symm
    have hB:Besides rb w W:=by
      have h3:=HX.out.2.2.trans (HF.out.2.mono (Nat.le_of_lt HX.out.2.1.lt))
      rw [← HH.out] at h3
      exact Besides.of_below h3
    have hH':w.heap.size ≤ H:=Nat.le_of_eq HH.out
    refine bodyPost_ret (v:=.tuple #[vv t (.slice xa xn xc) (.slice ya yn yc),.int .i64 er]) (results_cell2 Tryz.results65 _ _ H _ rfl (((((HO2.out.keep (Below.heap_setCell _ _ _ _ hHr)).set0 _).set1 _).set2 _).set3 _ |>.set4 _) rfl) rfl ?_
    have hBF:=Besides.setOld (o:=4) (u:=.slice ya yn yc) hH' (Besides.setOld (o:=3) (u:=.slice xa xn xc) hH' (Besides.setOld (o:=2) (u:=.string t.s) hH' (Besides.setOld (o:=1) (u:=.int .i64 t.n) hH' (Besides.setOld (o:=0) (u:=.int .i64 t.k) hH' (hB.set1 (i:=1) (v:=.int .i64 ((i:Int) + (j:Int))))))))
    refine ⟨t,_,_,_,_,_,_,j,er,rfl,HL.out,hij,HW.out.1.besides hBF (blk_set5 hrH ?_) hij,hBF⟩
    have:=HS.out.bk.set 1 (.int .i64 ((i:Int) + (j:Int)))
    rw [show ((i + j:Nat):Int) = (i:Int) + (j:Int) from by omega]
    exact this
abbrev sv9 (kd fr to dp up nt:Int) (ky:ByteArray) (pl fi:Int):Array Value:=#[.int .i64 kd,.int .i64 fr,.int .i64 to,.int .i64 dp,.int .i64 up,.int .i64 nt,.string ky,.int .i64 pl,.int .i64 fi]
theorem blk.cells9 {w:World} {g:Nat} {ty:TypeId} {c0 c1 c2 c3 c4 c5 c6 c7 c8:Value} (h:blk w g ty #[c0,c1,c2,c3,c4,c5,c6,c7,c8]) :
    w.cell? ⟨g,0,none⟩ = some c0∧w.cell? ⟨g,1,none⟩ = some c1∧w.cell? ⟨g,2,none⟩ = some c2∧w.cell? ⟨g,3,none⟩ = some c3∧w.cell? ⟨g,4,none⟩ = some c4∧w.cell? ⟨g,5,none⟩ = some c5∧w.cell? ⟨g,6,none⟩ = some c6∧w.cell? ⟨g,7,none⟩ = some c7∧w.cell? ⟨g,8,none⟩ = some c8:=
  ⟨h.cell 0,h.cell 1,h.cell 2,h.cell 3,h.cell 4,h.cell 5,h.cell 6,h.cell 7,h.cell 8⟩
theorem blk.frozen9 {w:World} {g:Nat} {ty:TypeId} {cs:Array Value} (h:blk w g ty cs) :
    w.frozen? ⟨g,0,none⟩ = false∧w.frozen? ⟨g,1,none⟩ = false∧w.frozen? ⟨g,2,none⟩ = false∧w.frozen? ⟨g,3,none⟩ = false∧w.frozen? ⟨g,4,none⟩ = false∧w.frozen? ⟨g,5,none⟩ = false∧w.frozen? ⟨g,6,none⟩ = false∧w.frozen? ⟨g,7,none⟩ = false∧w.frozen? ⟨g,8,none⟩ = false:=
  ⟨h.frozen 0,h.frozen 1,h.frozen 2,h.frozen 3,h.frozen 4,h.frozen 5,h.frozen 6,h.frozen 7,h.frozen 8⟩
theorem SR.setFar {B rb:Nat} {w w1:World} {a:Option Addr} {c:Nat} {b:List UInt8} {i n i' n':Nat} {ov:Value} {k:Nat} {us:List Value} (h:SR B rb w a c b i n ov k us) (hb:Besides rb w w1) (hs:SR B rb w1 a c b i' n' ov k us) {g:Nat} (hg:w.heap.size ≤ g) (o:Nat) (u:Value) :
    SR B rb (w1.setCell ⟨g,o,none⟩ u) a c b i' n' ov k us:=
  h.besides (Besides.setOld hg hb) (hs.bk.keep (Below.heap_setCell _ _ _ _ (by have:=h.bk.lt; show rb ≠ g; omega))) hs.le
theorem blk.s0 {w:World} {g:Nat} {ty:TypeId} {c0 c1 c2 c3 c4 c5 c6 c7 c8:Value} (h:blk w g ty #[c0,c1,c2,c3,c4,c5,c6,c7,c8]) (v:Value):blk (w.setCell ⟨g,0,none⟩ v) g ty #[v,c1,c2,c3,c4,c5,c6,c7,c8]:=h.set 0 v
theorem blk.s1 {w:World} {g:Nat} {ty:TypeId} {c0 c1 c2 c3 c4 c5 c6 c7 c8:Value} (h:blk w g ty #[c0,c1,c2,c3,c4,c5,c6,c7,c8]) (v:Value):blk (w.setCell ⟨g,1,none⟩ v) g ty #[c0,v,c2,c3,c4,c5,c6,c7,c8]:=h.set 1 v
theorem blk.s2 {w:World} {g:Nat} {ty:TypeId} {c0 c1 c2 c3 c4 c5 c6 c7 c8:Value} (h:blk w g ty #[c0,c1,c2,c3,c4,c5,c6,c7,c8]) (v:Value):blk (w.setCell ⟨g,2,none⟩ v) g ty #[c0,c1,v,c3,c4,c5,c6,c7,c8]:=h.set 2 v
theorem blk.s3 {w:World} {g:Nat} {ty:TypeId} {c0 c1 c2 c3 c4 c5 c6 c7 c8:Value} (h:blk w g ty #[c0,c1,c2,c3,c4,c5,c6,c7,c8]) (v:Value):blk (w.setCell ⟨g,3,none⟩ v) g ty #[c0,c1,c2,v,c4,c5,c6,c7,c8]:=h.set 3 v
theorem blk.s4 {w:World} {g:Nat} {ty:TypeId} {c0 c1 c2 c3 c4 c5 c6 c7 c8:Value} (h:blk w g ty #[c0,c1,c2,c3,c4,c5,c6,c7,c8]) (v:Value):blk (w.setCell ⟨g,4,none⟩ v) g ty #[c0,c1,c2,c3,v,c5,c6,c7,c8]:=h.set 4 v
theorem blk.s5 {w:World} {g:Nat} {ty:TypeId} {c0 c1 c2 c3 c4 c5 c6 c7 c8:Value} (h:blk w g ty #[c0,c1,c2,c3,c4,c5,c6,c7,c8]) (v:Value):blk (w.setCell ⟨g,5,none⟩ v) g ty #[c0,c1,c2,c3,c4,v,c6,c7,c8]:=h.set 5 v
theorem blk.s6 {w:World} {g:Nat} {ty:TypeId} {c0 c1 c2 c3 c4 c5 c6 c7 c8:Value} (h:blk w g ty #[c0,c1,c2,c3,c4,c5,c6,c7,c8]) (v:Value):blk (w.setCell ⟨g,6,none⟩ v) g ty #[c0,c1,c2,c3,c4,c5,v,c7,c8]:=h.set 6 v
theorem blk.s7 {w:World} {g:Nat} {ty:TypeId} {c0 c1 c2 c3 c4 c5 c6 c7 c8:Value} (h:blk w g ty #[c0,c1,c2,c3,c4,c5,c6,c7,c8]) (v:Value):blk (w.setCell ⟨g,7,none⟩ v) g ty #[c0,c1,c2,c3,c4,c5,c6,v,c8]:=h.set 7 v
theorem blk.s8 {w:World} {g:Nat} {ty:TypeId} {c0 c1 c2 c3 c4 c5 c6 c7 c8:Value} (h:blk w g ty #[c0,c1,c2,c3,c4,c5,c6,c7,c8]) (v:Value):blk (w.setCell ⟨g,8,none⟩ v) g ty #[c0,c1,c2,c3,c4,c5,c6,c7,v]:=h.set 8 v
abbrev set9 (w:World) (g:Nat) (v0 v1 v2 v3 v4 v5 v6 v7 v8:Value):World:=((((((((w.setCell ⟨g,0,none⟩ v0).setCell ⟨g,1,none⟩ v1).setCell ⟨g,2,none⟩ v2).setCell ⟨g,3,none⟩ v3).setCell ⟨g,4,none⟩ v4).setCell ⟨g,5,none⟩ v5).setCell ⟨g,6,none⟩ v6).setCell ⟨g,7,none⟩ v7).setCell ⟨g,8,none⟩ v8
theorem SR.box9 {B rb:Nat} {w w1:World} {a:Option Addr} {c:Nat} {b:List UInt8} {i n i' n':Nat} {ov:Value} {k:Nat} {us:List Value} (h:SR B rb w a c b i n ov k us) (hb:Besides rb w w1) (hs:SR B rb w1 a c b i' n' ov k us) {g:Nat} (hg:w.heap.size ≤ g) {c0 c1 c2 c3 c4 c5 c6 c7 c8:Value} (hk:blk w1 g 45 #[c0,c1,c2,c3,c4,c5,c6,c7,c8]) (v0 v1 v2 v3 v4 v5 v6 v7 v8:Value) :
    SR B rb (set9 w1 g v0 v1 v2 v3 v4 v5 v6 v7 v8) a c b i' n' ov k us∧Besides rb w (set9 w1 g v0 v1 v2 v3 v4 v5 v6 v7 v8)∧blk (set9 w1 g v0 v1 v2 v3 v4 v5 v6 v7 v8) g 45 #[v0,v1,v2,v3,v4,v5,v6,v7,v8]:=by
  have s0:=h.setFar hb hs hg 0 v0
  have m0:=Besides.setOld (o:=0) (u:=v0) hg hb
  have s1:=h.setFar m0 s0 hg 1 v1
  have m1:=Besides.setOld (o:=1) (u:=v1) hg m0
  have s2:=h.setFar m1 s1 hg 2 v2
  have m2:=Besides.setOld (o:=2) (u:=v2) hg m1
  have s3:=h.setFar m2 s2 hg 3 v3
  have m3:=Besides.setOld (o:=3) (u:=v3) hg m2
  have s4:=h.setFar m3 s3 hg 4 v4
  have m4:=Besides.setOld (o:=4) (u:=v4) hg m3
  have s5:=h.setFar m4 s4 hg 5 v5
  have m5:=Besides.setOld (o:=5) (u:=v5) hg m4
  have s6:=h.setFar m5 s5 hg 6 v6
  have m6:=Besides.setOld (o:=6) (u:=v6) hg m5
  have s7:=h.setFar m6 s6 hg 7 v7
  have m7:=Besides.setOld (o:=7) (u:=v7) hg m6
  have s8:=h.setFar m7 s7 hg 8 v8
  have m8:=Besides.setOld (o:=8) (u:=v8) hg m7
  have k0:=hk.s0 v0
  have k1:=k0.s1 v1
  have k2:=k1.s2 v2
  have k3:=k2.s3 v3
  have k4:=k3.s4 v4
  have k5:=k4.s5 v5
  have k6:=k5.s6 v6
  have k7:=k6.s7 v7
  have k8:=k7.s8 v8
  exact ⟨s8,m8,k8⟩
theorem below_drew (w:World):Below w.heap.size w w.drew:=⟨rfl,rfl,rfl,Nat.le_refl _,fun _ _=>rfl⟩
theorem Besides.drew {rb:Nat} {w w1:World} (h:Besides rb w w1):Besides rb w w1.drew:=⟨h.os,h.tape,h.output,h.size,h.block⟩
theorem info47s:(Tryz.prog.info? 45).map (·.size) = some 9:=by kernel_rfl
theorem results_cell47 {fn:Func} {p:Tmp} (h:fn.results = #[.cell p 45]) (tmps:Array Value) (w:World) (g:Nat) (cs:Array Value)
    (hp:tmps.getD p undef = .pointer (some ⟨g,0,none⟩)) (hg:w.heap[g]? = some (.cells cs 45 (0,0))) (hs:cs.size = 9):(results fn tmps).run Tryz.prog w = .ok (.agg cs) w:=by
  have hp':tmps[p]?.getD undef = .pointer (some ⟨g,0,none⟩):=by simpa using hp
  have hi:(Tryz.prog.info? 45).map (·.size) = some cs.size:=by rw [hs]; exact info47s
  simp [results,h,hp',asAddr,run_loadVar_row w g 45 45 cs (0,0) _ hg Tryz.underlying45 rfl hi]
abbrev zero9:Obj:=Obj.cells #[.int .i64 0,.int .i64 0,.int .i64 0,.int .i64 0,.int .i64 0,.int .i64 0,.string { data:=#[] },.int .i64 0,.int .i64 0] 45
theorem setCell_size (w:World) (p:Addr) (v:Value):(w.setCell p v).heap.size = w.heap.size:=by simp [World.setCell]
theorem own_pop {w:World} {B e s k:Nat} {us:List Value} {g oc:Nat} (h:w.ownsRow B e s (.slice (some ⟨g,0,none⟩) (k + 1) oc) (k + 1) us):w.ownsRow B e s (.slice (some ⟨g,0,none⟩) k oc) k (us.take (k * s)):=by
  have hle:k * s ≤ (k + 1) * s:=Nat.mul_le_mul_right _ (Nat.le_succ k)
  refine ⟨by rw [List.length_take,h.1]; omega,?_⟩
  rcases h.2 with ⟨e,_⟩ | ⟨g',cap,cur,q1,q2,q3,q4,q5,q6,q7⟩
  · cases e
  · injection q1 with e1 e2 e3
    injection e1 with e1
    injection e1 with e1
    subst e1 e3
    refine .inr ⟨g,oc,cur,rfl,q2,q3,by omega,q5,q6,?_⟩
    rw [← q7,List.take_take,Nat.min_eq_left hle]
theorem SR.remake {B rb:Nat} {w w':World} {a:Option Addr} {c:Nat} {b:List UInt8} {i n i' n':Nat} {ov ov':Value} {k k':Nat} {us us':List Value} (h:SR B rb w a c b i n ov k us) (hb:Besides rb w w') (hbk:blk w' rb 78 #[.slice a b.length c,.int .i64 i',.int .i64 n',ov']) (hown:w'.ownsRow B 98 12 ov' k' us') (hne:ov'.ownBlock ≠ some rb) (hi:i' ≤ b.length):SR B rb w' a c b i' n' ov' k' us' where
  bk:=hbk
  own:=hown
  low:=h.low
  ne:=hne
  le:=hi
  lim:=h.lim
  cap:=h.cap
  tx:=by
    rcases h.tx with e | ⟨g,o,h1,h2,h3⟩
    · exact .inl e
    · exact .inr ⟨g,o,h1,h2,fun j hj=>hb.cell (p:=⟨g,o + j,none⟩) (by have:=h.low; show g ≠ rb; omega) (h3 j hj)⟩
  ev:=by
    obtain ⟨⟨t,p,h1⟩,⟨t',p',h2⟩⟩:=h.ev
    have:=h.low; have:=h.evB
    exact ⟨⟨t,p,hb.cell (p:=⟨3,0,none⟩) (by show (3:Nat) ≠ rb; omega) h1⟩,⟨t',p',hb.cell (p:=⟨4,0,none⟩) (by show (4:Nat) ≠ rb; omega) h2⟩⟩
  evB:=h.evB
theorem box9b {rb g:Nat} {w w1:World} (hb:Besides rb w w1) (hg:w.heap.size ≤ g) {c0 c1 c2 c3 c4 c5 c6 c7 c8:Value} (hk:blk w1 g 45 #[c0,c1,c2,c3,c4,c5,c6,c7,c8]) (v0 v1 v2 v3 v4 v5 v6 v7 v8:Value) :
    Besides rb w (set9 w1 g v0 v1 v2 v3 v4 v5 v6 v7 v8)∧blk (set9 w1 g v0 v1 v2 v3 v4 v5 v6 v7 v8) g 45 #[v0,v1,v2,v3,v4,v5,v6,v7,v8]∧∀ r ty cs,r ≠ g → blk w1 r ty cs → blk (set9 w1 g v0 v1 v2 v3 v4 v5 v6 v7 v8) r ty cs:=by
  have m0:=Besides.setOld (o:=0) (u:=v0) hg hb
  have m1:=Besides.setOld (o:=1) (u:=v1) hg m0
  have m2:=Besides.setOld (o:=2) (u:=v2) hg m1
  have m3:=Besides.setOld (o:=3) (u:=v3) hg m2
  have m4:=Besides.setOld (o:=4) (u:=v4) hg m3
  have m5:=Besides.setOld (o:=5) (u:=v5) hg m4
  have m6:=Besides.setOld (o:=6) (u:=v6) hg m5
  have m7:=Besides.setOld (o:=7) (u:=v7) hg m6
  have m8:=Besides.setOld (o:=8) (u:=v8) hg m7
  have k0:=hk.s0 v0
  have k1:=k0.s1 v1
  have k2:=k1.s2 v2
  have k3:=k2.s3 v3
  have k4:=k3.s4 v4
  have k5:=k4.s5 v5
  have k6:=k5.s6 v6
  have k7:=k6.s7 v7
  have k8:=k7.s8 v8
  refine ⟨m8,k8,fun r ty cs hr h=>h.keep ?_⟩
  rw [Below.heap_setCell _ _ _ _ hr,Below.heap_setCell _ _ _ _ hr,Below.heap_setCell _ _ _ _ hr,Below.heap_setCell _ _ _ _ hr,Below.heap_setCell _ _ _ _ hr,Below.heap_setCell _ _ _ _ hr,Below.heap_setCell _ _ _ _ hr,Below.heap_setCell _ _ _ _ hr,Below.heap_setCell _ _ _ _ hr]
theorem own_beside {B rb:Nat} {w w':World} {e s k:Nat} {v:Value} {us:List Value} (h:w.ownsRow B e s v k us) (hb:Besides rb w w') (hne:v.ownBlock ≠ some rb):w'.ownsRow B e s v k us:=by
  refine ⟨h.1,?_⟩
  rcases h.2 with e | ⟨g',cap,cur,q1,q2,q3,q4⟩
  · exact .inl e
  · exact .inr ⟨g',cap,cur,q1,q2,(hb.block g' (Array.getElem?_eq_some_iff.1 q3).1 (fun e=>hne (by rw [q1]; show some g' = some rb; rw [e]))).trans q3,q4⟩
set_option maxRecDepth 10000 in
set_option maxHeartbeats 1000000 in
theorem end42 {B rb:Nat} {w:World} {a:Option Addr} {c:Nat} {b:List UInt8} {i n m:Nat} {ov:Value} {us:List Value} (h:SR B rb w a c b i n ov (m + 1) us) (hi:i < b.length) (hm:m ≤ 1048577) {kd fr to dp up nt pl fi:Int} {ky:ByteArray}
    (t0:us[m * 12]? = some (.int .i64 kd)) (t1:us[m * 12 + 1]? = some (.int .i64 fr)) (t2:us[m * 12 + 2]? = some (.int .i64 to)) (t3:us[m * 12 + 3]? = some (.int .i64 dp)) (t4:us[m * 12 + 4]? = some (.int .i64 up)) (t5:us[m * 12 + 5]? = some (.int .i64 nt)) (t6:us[m * 12 + 6]? = some (.string ky)) (t7:us[m * 12 + 7]? = some (.int .i64 pl)) (t8:us[m * 12 + 8]? = some (.int .i64 fi)) :
    Calls Tryz.prog 49 #[.pointer (some ⟨rb,0,none⟩)] w fun e w'=>∃ ov',e = .returned (.agg (sv9 kd fr ((i:Int) + 1) dp up nt ky pl fi))∧SR B rb w' a c b (i + 1) n ov' m (us.take (m * 12))∧Besides rb w w':=by
  obtain ⟨c0,c1,c2,c3,f1,f2,f3⟩:=h.cells
  have hov:∃ g oc,ov = .slice (some ⟨g,0,none⟩) (m + 1) oc∧m + 1 ≤ oc:=by
    rcases h.own.2 with ⟨_,e⟩ | ⟨g,cap,cur,q1,q2,q3,q4,_⟩
    · omega
    · exact ⟨_,_,q1,q4⟩
  obtain ⟨g,oc,rfl,hoc⟩:=hov
  have n1:=World.new_ne w _ c1
  have hb0:Below w.heap.size w (w.alloc zero9):=(Below.refl _ _).alloc (Nat.le_refl _) _
  have HX:=Lib.hid (And.intro h (And.intro hb0 (And.intro (h.keep hb0) (show blk (w.alloc zero9) w.heap.size 45 #[.int .i64 0,.int .i64 0,.int .i64 0,.int .i64 0,.int .i64 0,.int .i64 0,.string { data:=#[] },.int .i64 0,.int .i64 0] from heap_new w zero9))))
  obtain ⟨d0,d1,d2,d3,e1,e2,e3⟩:=HX.out.2.2.1.cells
  obtain ⟨_, -,hcl⟩:=own_form HX.out.2.2.1.own (g:=g) rfl
  have r0:=hcl _ _ t0
  have r1:=hcl _ _ t1
  have r2:=hcl _ _ t2
  have r3:=hcl _ _ t3
  have r4:=hcl _ _ t4
  have r5:=hcl _ _ t5
  have r6:=hcl _ _ t6
  have r7:=hcl _ _ t7
  have r8:=hcl _ _ t8
  have hl:=h.lim
  have i0:(i:Int) ≤ 1048575:=by omega
  have hgr:g ≠ rb:=fun e=>h.ne (by show some g = some rb; rw [e])
  have hrg:rb ≠ g:=fun e=>hgr e.symm
  have km2:(m:Int) + 1 - 1 = (m:Int):=by omega
  have km3:(m:Int) < (m:Int) + 1:=by omega
  have km4:(m:Int) ≤ 1048577:=by omega
  have m0i:(0:Int) ≤ (m:Int):=by omega
  have HYf:∀ tt:Int,(SR B rb (((w.alloc zero9).setCell ⟨rb,1,none⟩ (.int .i64 ((i:Int) + 1))).alloc (Obj.cells #[.int .i64 kd,.int .i64 fr,.int .i64 tt,.int .i64 dp,.int .i64 up,.int .i64 nt,.string ky,.int .i64 pl,.int .i64 fi] 45)) a c b (i + 1) n (.slice (some ⟨g,0,none⟩) (m + 1) oc) (m + 1) us∧blk (((w.alloc zero9).setCell ⟨rb,1,none⟩ (.int .i64 ((i:Int) + 1))).alloc (Obj.cells #[.int .i64 kd,.int .i64 fr,.int .i64 tt,.int .i64 dp,.int .i64 up,.int .i64 nt,.string ky,.int .i64 pl,.int .i64 fi] 45)) w.heap.size 45 #[.int .i64 0,.int .i64 0,.int .i64 0,.int .i64 0,.int .i64 0,.int .i64 0,.string { data:=#[] },.int .i64 0,.int .i64 0]∧blk (((w.alloc zero9).setCell ⟨rb,1,none⟩ (.int .i64 ((i:Int) + 1))).alloc (Obj.cells #[.int .i64 kd,.int .i64 fr,.int .i64 tt,.int .i64 dp,.int .i64 up,.int .i64 nt,.string ky,.int .i64 pl,.int .i64 fi] 45)) (w.heap.size + 1) 45 #[.int .i64 kd,.int .i64 fr,.int .i64 tt,.int .i64 dp,.int .i64 up,.int .i64 nt,.string ky,.int .i64 pl,.int .i64 fi]∧Besides rb w (((w.alloc zero9).setCell ⟨rb,1,none⟩ (.int .i64 ((i:Int) + 1))).alloc (Obj.cells #[.int .i64 kd,.int .i64 fr,.int .i64 tt,.int .i64 dp,.int .i64 up,.int .i64 nt,.string ky,.int .i64 pl,.int .i64 fi] 45))):=by
    intro tt
    obtain ⟨q1,q2,q3,q4⟩:=HX.out
    have s1:=q3.set (o:=1) (u:=.int .i64 ((i:Int) + 1)) (i':=i + 1) (n':=n) hi rfl
    have hz:((w.alloc zero9).setCell ⟨rb,1,none⟩ (.int .i64 ((i:Int) + 1))).heap.size = w.heap.size + 1:=(setCell_size _ _ _).trans (Array.size_push ..)
    have hb2:Below ((w.alloc zero9).setCell ⟨rb,1,none⟩ (.int .i64 ((i:Int) + 1))).heap.size ((w.alloc zero9).setCell ⟨rb,1,none⟩ (.int .i64 ((i:Int) + 1))) (((w.alloc zero9).setCell ⟨rb,1,none⟩ (.int .i64 ((i:Int) + 1))).alloc (Obj.cells #[.int .i64 kd,.int .i64 fr,.int .i64 tt,.int .i64 dp,.int .i64 up,.int .i64 nt,.string ky,.int .i64 pl,.int .i64 fi] 45)):=(Below.refl _ _).alloc (Nat.le_refl _) _
    have b1:blk ((w.alloc zero9).setCell ⟨rb,1,none⟩ (.int .i64 ((i:Int) + 1))) w.heap.size 45 _:=q4.keep (Below.heap_setCell _ _ _ _ n1)
    have b2:=heap_new ((w.alloc zero9).setCell ⟨rb,1,none⟩ (.int .i64 ((i:Int) + 1))) (Obj.cells #[.int .i64 kd,.int .i64 fr,.int .i64 tt,.int .i64 dp,.int .i64 up,.int .i64 nt,.string ky,.int .i64 pl,.int .i64 fi] 45)
    rw [hz] at b2
    have m1:Besides rb w ((w.alloc zero9).setCell ⟨rb,1,none⟩ (.int .i64 ((i:Int) + 1))):=(Besides.of_below q2).set1
    exact ⟨s1.keep hb2,b1.keep (hb2.block _ b1.lt),b2,m1.trans (Besides.of_below hb2)⟩
  have HY:=Lib.hid (HYf to)
  have HZ:=Lib.hid (HYf ((i:Int) + 1))
  clear HYf
  obtain ⟨_,g1,g2,g3,u1,u2,u3⟩:=HY.out.1.cells
  obtain ⟨_,j1,j2,j3,l1,l2,l3⟩:=HZ.out.1.cells
  obtain ⟨b0,b1,b2,b3,b4,b5,b6,b7,b8⟩:=HZ.out.2.2.1.cells9
  have x2:=HY.out.2.2.1.frozen 2
  obtain ⟨z0,z1,z2,z3,z4,z5,z6,z7,z8⟩:=HZ.out.2.1.cells9
  obtain ⟨v0,v1,v2,v3,v4,v5,v6,v7,v8⟩:=HZ.out.2.1.frozen9
  have h1r:w.heap.size + 1 ≠ rb:=by have:=HX.out.1.bk.lt; omega
  have mo:(m:Int) ≤ (oc:Int):=by omega
  clear h hb0 c0 c1 c2 c3 f1 f2 f3 hcl t0 t1 t2 t3 t4 t5 t6 t7 t8
  go_enter Tryz.func49,Tryz.ntmps49
  go_wp2_with fail
  generalize ((((w.alloc (Obj.cells #[.int .i64 0,.int .i64 0,.int .i64 0,.int .i64 0,.int .i64 0,.int .i64 0,.string { data:=#[] },.int .i64 0,.int .i64 0] 45)).setCell ⟨rb,1,none⟩ (.int .i64 ((i:Int) + 1))).alloc (Obj.cells #[.int .i64 kd,.int .i64 fr,.int .i64 ((i:Int) + 1),.int .i64 dp,.int .i64 up,.int .i64 nt,.string ky,.int .i64 pl,.int .i64 fi] 45))) = Z at *
  have hB3:Besides rb w (Z.setCell ⟨rb,3,none⟩ (.slice (some ⟨g,0,none⟩) m oc)):=HZ.out.2.2.2.set1
  have hrb3:blk (Z.setCell ⟨rb,3,none⟩ (.slice (some ⟨g,0,none⟩) m oc)) rb 78 #[.slice a b.length c,.int .i64 ((i + 1:Nat):Int),.int .i64 n,.slice (some ⟨g,0,none⟩) m oc]:=HZ.out.1.bk.set 3 _
  have hz3:blk (Z.setCell ⟨rb,3,none⟩ (.slice (some ⟨g,0,none⟩) m oc)) w.heap.size 45 _:=HZ.out.2.1.keep (Below.heap_setCell _ _ _ _ n1)
  generalize Z.setCell ⟨rb,3,none⟩ (.slice (some ⟨g,0,none⟩) m oc) = Y at *
  obtain ⟨y1,y2,y3⟩:=box9b hB3 (Nat.le_refl _) hz3 (.int .i64 kd) (.int .i64 fr) (.int .i64 ((i:Int) + 1)) (.int .i64 dp) (.int .i64 up) (.int .i64 nt) (.string ky) (.int .i64 pl) (.int .i64 fi)
  generalize hX:set9 Y w.heap.size (.int .i64 kd) (.int .i64 fr) (.int .i64 ((i:Int) + 1)) (.int .i64 dp) (.int .i64 up) (.int .i64 nt) (.string ky) (.int .i64 pl) (.int .i64 fi) = X at *
  unfold set9 at hX
  rw [hX]
  refine bodyPost_ret (v:=.agg (sv9 kd fr ((i:Int) + 1) dp up nt ky pl fi)) (results_cell47 Tryz.results49 _ _ w.heap.size _ rfl y2 rfl) rfl ?_
  exact ⟨_,rfl,HX.out.1.remake y1 (y3 rb _ _ n1.symm hrb3) (own_pop (own_beside HX.out.1.own y1 HX.out.1.ne)) (fun e=>hgr (Option.some.inj e)) hi,y1⟩
structure Near (rb:Nat) (ov:Value) (w w':World):Prop where
  os:w'.os = w.os
  tape:w'.tape = w.tape
  output:w'.output = w.output
  size:w.heap.size ≤ w'.heap.size
  block:∀ k,k < w.heap.size → k ≠ rb → ov.ownBlock ≠ some k → w'.heap[k]? = w.heap[k]?
theorem Near.of {rb:Nat} {ov:Value} {w w':World} (h:Besides rb w w'):Near rb ov w w':=⟨h.os,h.tape,h.output,h.size,fun k hk hn _=>h.block k hk hn⟩
theorem Near.trans {rb:Nat} {ov:Value} {w w1 w2:World} (h:Near rb ov w w1) (g:Near rb ov w1 w2):Near rb ov w w2:=
  ⟨g.os.trans h.os,g.tape.trans h.tape,g.output.trans h.output,Nat.le_trans h.size g.size,fun k hk hn ho=>(g.block k (Nat.lt_of_lt_of_le hk h.size) hn ho).trans (h.block k hk hn ho)⟩
theorem Near.row {rb g o:Nat} {ov u:Value} (hg:ov.ownBlock = some g) (w:World):Near rb ov w (w.setCell ⟨g,o,none⟩ u):=
  ⟨rfl,rfl,rfl,Nat.le_of_eq (setCell_size _ _ _).symm,fun k _ _ ho=>Below.heap_setCell _ _ _ _ (fun e=>ho (by rw [hg]; show some g = some k; rw [show k = g from e]))⟩
theorem SR.setRow {B rb:Nat} {w:World} {a:Option Addr} {c:Nat} {b:List UInt8} {i n:Nat} {ov:Value} {k:Nat} {us:List Value} (h:SR B rb w a c b i n ov k us) {g o:Nat} (hg:ov.ownBlock = some g) (ho:o < k * 12) (u:Value):SR B rb (w.setCell ⟨g,o,none⟩ u) a c b i n ov k (us.set o u) where
  bk:=h.bk.keep (Below.heap_setCell _ _ _ _ (fun e=>h.ne (by rw [hg]; show some g = some rb; rw [show rb = g from e])))
  own:=own_set h.own hg ho
  low:=h.low
  ne:=h.ne
  le:=h.le
  lim:=h.lim
  cap:=h.cap
  tx:=by
    have hl:=(own_lt h.own hg).1
    rcases h.tx with e | ⟨g',o',h1,h2,h3⟩
    · exact .inl e
    · exact .inr ⟨g',o',h1,h2,fun j hj=>(World.cell?_of_block (w:=w) (Below.heap_setCell _ _ _ _ (by show g' ≠ g; omega))).trans (h3 j hj)⟩
  ev:=by
    have hl:=(own_lt h.own hg).1
    obtain ⟨⟨t,p,h1⟩,⟨t',p',h2⟩⟩:=h.ev
    have:=h.evB
    exact ⟨⟨t,p,(World.cell?_of_block (w:=w) (Below.heap_setCell _ _ _ _ (by show (3:Nat) ≠ g; omega))).trans h1⟩,⟨t',p',(World.cell?_of_block (w:=w) (Below.heap_setCell _ _ _ _ (by show (4:Nat) ≠ g; omega))).trans h2⟩⟩
  evB:=h.evB
set_option maxRecDepth 10000 in
set_option maxHeartbeats 1000000 in
theorem part43L {B rb:Nat} {w:World} {a:Option Addr} {c:Nat} {b:List UInt8} {i n m:Nat} {ov:Value} {us:List Value} (h:SR B rb w a c b i n ov (m + 1) us) (hm:m ≤ 1048577) {p x:Int}
    (t0:us[m * 12]? = some (.int .i64 3)) (t9:us[m * 12 + 9]? = some (.int .i64 p)) (t11:us[m * 12 + 11]? = some (.int .i64 x)) (hp0:0 ≤ p) (hp1:p ≤ 1048577) :
    Calls Tryz.prog 50 #[.pointer (some ⟨rb,0,none⟩)] w fun e w'=>e = .returned (.int .i64 0)∧SR B rb w' a c b i n ov (m + 1) ((us.set (m * 12 + 11) (.int .i64 i)).set (m * 12 + 9) (.int .i64 (p + 1)))∧Near rb ov w w':=by
  obtain ⟨c0,c1,c2,c3,f1,f2,f3⟩:=h.cells
  have hov:∃ g oc,ov = .slice (some ⟨g,0,none⟩) (m + 1) oc:=by
    rcases h.own.2 with ⟨_,e⟩ | ⟨g,cap,cur,q1,_⟩
    · omega
    · exact ⟨_,_,q1⟩
  obtain ⟨g,oc,rfl⟩:=hov
  have hgr:g ≠ rb:=fun e=>h.ne (by show some g = some rb; rw [e])
  have hrg:rb ≠ g:=fun e=>hgr e.symm
  obtain ⟨_, -,hcl⟩:=own_form h.own (g:=g) rfl
  have r0:=hcl _ _ t0
  have r9:=hcl _ _ t9
  have r11:=hcl _ _ t11
  have hfr:∀ o,w.frozen? ⟨g,o,none⟩ = false:=by
    rcases h.own.2 with ⟨e,_⟩ | ⟨g',cap,cur,q1,q2,q3,_⟩
    · cases e
    · injection q1 with e1
      injection e1 with e1
      injection e1 with e1
      subst e1
      exact fun o=>blk.frozen (show blk w g 98 cur from q3) o
  have y9:=hfr (m * 12 + 9)
  have y11:=hfr (m * 12 + 11)
  have km2:(m:Int) + 1 - 1 = (m:Int):=by omega
  have km3:(m:Int) < (m:Int) + 1:=by omega
  have km4:(m:Int) ≤ 1048577:=by omega
  have m0i:(0:Int) ≤ (m:Int):=by omega
  have HX:=Lib.hid h
  clear h hcl hfr t0 t9 t11
  go_enter Tryz.func50,Tryz.ntmps50
  go_wp2_with fail
  go_quiet (fail)
  go_wp2_with fail
  go_ret
  have hd:Below w.heap.size w (w.drewN nq):=⟨rfl,rfl,rfl,Nat.le_refl _,fun _ _=>rfl⟩
  have s1:=(HX.out.keep hd).setRow (g:=g) (o:=m * 12 + 11) rfl (by omega) (.int .i64 i)
  have s2:=s1.setRow (g:=g) (o:=m * 12 + 9) rfl (by omega) (.int .i64 (p + 1))
  refine ⟨rfl,s2,((Near.of (Besides.of_below hd)).trans (Near.row (g:=g) rfl _)).trans (Near.row (g:=g) rfl _)⟩
end Go.Proofs.YtdlnnnlmlaploabGreatDoor
