import Derived.Test.YtdlnnnlmlaploabGreatDoorK01
import Derived.Lib.Hide
import Derived.Laws.BytesString
import Derived.Laws.IdiomStrings
namespace Go.Proofs.YtdlnnnlmlaploabGreatDoor
open Go.RowKit Go.Deep
def EInv (g:Nat) (w:World) (ky:Nat → ByteArray) (l:Nat → T) (ln j:Nat) (cs:Array Value):Prop:=blk w g 130 cs∧cs.size = ln * 2∧∀ i,i < j → ∃ u,cs[i * 2]? = some (.string (ky i))∧cs[i * 2 + 1]? = some u∧RN (fun b=>g < b) w (l i) u
theorem cell_set_ne {w:World} {p q:Addr} {u v:Value} (h:w.cell? p = some v) (hne:p.block ≠ q.block):(w.setCell q u).cell? p = some v:=
  (World.cell?_of_block (w:=w) (Below.heap_setCell w q u p.block hne)).trans h
theorem EInv.step {g:Nat} {w wr w2:World} {ky:Nat → ByteArray} {l:Nat → T} {ln j:Nat} {cs:Array Value} {ty:TypeId} {uu:Value} {B:Nat} (hj:j < ln) (hbw:Below g w wr) (he:EInv g wr ky l ln j cs) (hb3:Below wr.heap.size wr w2) (hrn:RN (fun b=>B ≤ b) w2 (l j) (.iface ty uu)) (hB:g < B) :
    Below g w ((w2.setCell ⟨g,j * 2,none⟩ (.string (ky j))).setCell ⟨g,j * 2 + 1,none⟩ (.iface ty uu)) ∧
    EInv g ((w2.setCell ⟨g,j * 2,none⟩ (.string (ky j))).setCell ⟨g,j * 2 + 1,none⟩ (.iface ty uu)) ky l ln (j + 1) ((cs.setIfInBounds (j * 2) (.string (ky j))).setIfInBounds (j * 2 + 1) (.iface ty uu)):=by
  obtain ⟨hblk,hsz,hel⟩:=he
  have hglt:=hblk.lt
  have hblk2:=hblk.keep (hb3.block _ hglt)
  have hsize:((w2.setCell ⟨g,j * 2,none⟩ (.string (ky j))).setCell ⟨g,j * 2 + 1,none⟩ (.iface ty uu)).heap.size = w2.heap.size:=by simp [World.setCell]
  have hne:∀ b,b ≠ g → ((w2.setCell ⟨g,j * 2,none⟩ (.string (ky j))).setCell ⟨g,j * 2 + 1,none⟩ (.iface ty uu)).heap[b]? = w2.heap[b]?:=fun b hb=>by
    rw [Below.heap_setCell _ _ _ _ hb,Below.heap_setCell _ _ _ _ hb]
  refine ⟨((hbw.trans (hb3.mono (by omega))).setCell (Nat.le_refl _) _).setCell (Nat.le_refl _) _,(hblk2.set (j * 2) _).set (j * 2 + 1) _,by simp [hsz],fun i hi=>?_⟩
  rcases Nat.lt_succ_iff_lt_or_eq.1 hi with h | rfl
  · obtain ⟨u,q0,q1,q2⟩:=hel i h
    refine ⟨u,?_,?_,RN.move (fun b hb _=>hb) (by rw [hsize]; exact hb3.size) (fun b hb hl=>?_) _ _ q2⟩
    · rw [Array.getElem?_setIfInBounds_ne (by omega),Array.getElem?_setIfInBounds_ne (by omega)]; exact q0
    · rw [Array.getElem?_setIfInBounds_ne (by omega),Array.getElem?_setIfInBounds_ne (by omega)]; exact q1
    · rw [hne b (by omega),hb3.block b hl]
  · refine ⟨_,?_,Array.getElem?_setIfInBounds_self_of_lt (by simp; omega),RN.move (fun b hb _=>by omega) (by rw [hsize]; exact Nat.le_refl _) (fun b hb hl=>hne b (by omega)) _ _ hrn⟩
    rw [Array.getElem?_setIfInBounds_ne (by omega)]
    exact Array.getElem?_setIfInBounds_self_of_lt (by omega)
set_option maxHeartbeats 4000000 in
theorem dictOf24 (ln:Nat) (ky:Nat → ByteArray) (l:Nat → T) (x:Value) (w:World) (ih:∀ i,NC (l i)) (hs:ln ≤ 2147483647) (ok4:∀ i,i < ln → (l i).ok∧(l i).small∧VT (l i)) (hL:RD (fun _=>True) w ln ky l x) :
    Calls Tryz.prog 69 #[x] w fun e w'=>∃ c,e = .returned (.slice (some ⟨w.heap.size,0,none⟩) ln c)∧(∀ i,i < ln → ∃ u,w'.cell? ⟨w.heap.size,i * 2,none⟩ = some (.string (ky i))∧w'.cell? ⟨w.heap.size,i * 2 + 1,none⟩ = some u∧RN (fun b=>w.heap.size ≤ b) w' (l i) u)∧w.heap.size < w'.heap.size∧Below w.heap.size w w'∧NB5 w.heap.size w'∧c = ln∧∃ cs,blk w' w.heap.size 130 cs∧cs.size = ln * 2:=by
  obtain ⟨a,ca,rfl,hL⟩:=hL
  obtain ⟨i0,hi,hz0,hz1,hz2⟩:=info_parts info57
  have hmk:∀ u:World,(Instr.makeSlice 107 (.int .i64 (ln:Int)) (.int .i64 (ln:Int))).run Tryz.prog u =
      .ok (.slice (some ⟨u.heap.size,0,none⟩) ln ln) (u.alloc (.cells (madeCells #[.string ByteArray.empty,.nilIface] (ln * 2)) 130)):=fun u=>by
    have h:=run_make (P:=Tryz.prog) u 107 130 i0 (.agg #[.string ByteArray.empty,.nilIface]) Tryz.underlying107 hi hz0 .i64 .i64 ln ln (by omega) (by omega) (by rw [hz2]; omega) (by omega)
    simpa [hz1,Value.cells] using h
  have HI:Hid ((∀ i,NC (l i))∧(∀ i,i < ln → (l i).ok∧(l i).small∧VT (l i))∧(ln = 0 ∨ ∃ b o,a = some ⟨b,o,none⟩∧True∧b < w.heap.size∧∀ i,i < ln → ∃ x' y',RV (fun _=>True) w (l i) x' y'∧w.cell? ⟨b,o + i * 6,none⟩ = some (.string (ky i))∧five w b (o + i * 6 + 1) (l i) x' y')):=⟨ih,ok4,hL⟩
  clear ih ok4 hL hi hz0 hz1 hz2
  go_enter Tryz.func69,Tryz.ntmps69
  go_wp2
  clear hmk
  have HB0:Hid (Below w.heap.size w (w.alloc (.cells (madeCells #[.string ByteArray.empty,.nilIface] (ln * 2)) 130))∧EInv w.heap.size (w.alloc (.cells (madeCells #[.string ByteArray.empty,.nilIface] (ln * 2)) 130)) ky l ln 0 (madeCells #[.string ByteArray.empty,.nilIface] (ln * 2))∧NB5 w.heap.size (w.alloc (.cells (madeCells #[.string ByteArray.empty,.nilIface] (ln * 2)) 130))):=
    ⟨(Below.refl _ _).alloc (Nat.le_refl _) _,⟨heap_new _ _,by rw [size_madeCells],fun i hi=>absurd hi (Nat.not_lt_zero _)⟩,(NB5.self w).alloc _ (fun c fz h=>by cases h)⟩
  generalize w.alloc (.cells (madeCells #[.string ByteArray.empty,.nilIface] (ln * 2)) 130) = w0 at *
  generalize hg:w.heap.size = g at *
  have HG:Hid (w.heap.size = g):=hg
  clear hg
  go_loopw [11] (fun i wr=>∃ (j:Nat) (cs:Array Value),j ≤ ln∧i = .int .i64 j∧Hid (Below g w wr∧EInv g wr ky l ln j cs∧NB5 g wr)) (fun i _=>ln - (intOf i).toNat)
  case atStart=>exact ⟨0,_,Nat.zero_le _,rfl,HB0⟩
  case round =>
    obtain ⟨j,cs,hj,rfl,hinv⟩:=hrel
    by_cases hlt:j < ln
    · obtain ⟨il,ok4,hL⟩:=HI.out
      rcases hL with h | ⟨b,o,rfl,_,hbl,hL⟩
      · omega
      obtain ⟨x1,y1,hv,g0,g1,g2,g3,g4,g5⟩:=hL j hlt
      have hw:=hinv.out.1
      have hle:w.heap.size ≤ g:=Nat.le_of_eq HG.out
      replace g0:=Below.cellS hw hle g0
      replace g1:=Below.cellS hw hle g1
      replace g2:=Below.cellS hw hle g2
      replace g3:=Below.cellS hw hle g3
      replace g4:=Below.cellS hw hle g4
      replace g5:=Below.cellS hw hle g5
      obtain ⟨⟨xa,xn,xc,rfl⟩,⟨ya,yn,yc,rfl⟩⟩:=hv.slices
      have HA:Hid (Below wr.heap.size wr (wr.alloc (Obj.cells #[.string (ky j),.int .i64 (l j).k,.int .i64 (l j).n,.string (l j).s,.slice xa xn xc,.slice ya yn yc] 67))):=(Below.refl _ _).alloc (Nat.le_refl _) _
      have hX:blk (wr.alloc (Obj.cells #[.string (ky j),.int .i64 (l j).k,.int .i64 (l j).n,.string (l j).s,.slice xa xn xc,.slice ya yn yc] 67)) wr.heap.size 67 #[.string (ky j),.int .i64 (l j).k,.int .i64 (l j).n,.string (l j).s,.slice xa xn xc,.slice ya yn yc]:=heap_new _ _
      have HV:Hid (NC (l j)∧(l j).ok∧(l j).small∧VT (l j)∧RV (fun _=>True) wr (l j) (.slice xa xn xc) (.slice ya yn yc)):=⟨il j,(ok4 j hlt).1,(ok4 j hlt).2.1,(ok4 j hlt).2.2,Below.rv hw hle hv⟩
      have HN5:Hid (NB5 g (wr.alloc (Obj.cells #[.string (ky j),.int .i64 (l j).k,.int .i64 (l j).n,.string (l j).s,.slice xa xn xc,.slice ya yn yc] 67))):=hinv.out.2.2.alloc _ (fun c fz h=>by cases h)
      clear il ok4 hL hv hbl hw hle
      go_wp2
      have hxg:wr.heap.size ≠ g:=by have:=hinv.out.2.1.1.lt; omega
      generalize hxb:wr.heap.size = xb at *
      have HX:Hid (wr.heap.size = xb):=hxb
      clear hxb
      generalize (wr.alloc (Obj.cells #[.string (ky j),.int .i64 (l j).k,.int .i64 (l j).n,.string (l j).s,.slice xa xn xc,.slice ya yn yc] 67)) = w3 at *
      have k0:w3.cell? ⟨xb,0,none⟩ = some (.string (ky j)):=hX.cell 0
      have k1:w3.cell? ⟨xb,1,none⟩ = some (.int .i64 (l j).k):=hX.cell 1
      have k2:w3.cell? ⟨xb,2,none⟩ = some (.int .i64 (l j).n):=hX.cell 2
      have k3:w3.cell? ⟨xb,3,none⟩ = some (.string (l j).s):=hX.cell 3
      have k4:w3.cell? ⟨xb,4,none⟩ = some (.slice xa xn xc):=hX.cell 4
      have k5:w3.cell? ⟨xb,5,none⟩ = some (.slice ya yn yc):=hX.cell 5
      have j0:(0:Int) ≤ (j:Int):=by omega
      have j1:(j:Int) < (ln:Int):=by omega
      have HC:Hid (∀ w',w'.heap = w3.heap → w'.os = w3.os → w'.tape = w3.tape → w'.output = w3.output → Calls Tryz.prog 55 #[vv (l j) (.slice xa xn xc) (.slice ya yn yc)] w' fun e w''=>∃ ty uu,e = .returned (.iface ty uu)∧(∃ z,w''.cell? ⟨g,j * 2,none⟩ = some z)∧(∃ z,w''.cell? ⟨g,j * 2 + 1,none⟩ = some z)∧w''.frozen? ⟨g,j * 2,none⟩ = false∧w''.frozen? ⟨g,j * 2 + 1,none⟩ = false∧Hid (Below w3.heap.size w3 w'') ∧
          Hid (∃ cs',Below g w ((w''.setCell ⟨g,j * 2,none⟩ (.string (ky j))).setCell ⟨g,j * 2 + 1,none⟩ (.iface ty uu))∧EInv g ((w''.setCell ⟨g,j * 2,none⟩ (.string (ky j))).setCell ⟨g,j * 2 + 1,none⟩ (.iface ty uu)) ky l ln (j + 1) cs'∧NB5 g ((w''.setCell ⟨g,j * 2,none⟩ (.string (ky j))).setCell ⟨g,j * 2 + 1,none⟩ (.iface ty uu)))):=by
        intro w' hh h1 h2 h3
        have hbw:Below w3.heap.size w3 w':=⟨h1,h2,h3,by rw [hh]; exact Nat.le_refl _,fun q _=>by rw [hh]⟩
        have hA3:Below xb wr w':=HA.out.trans (hbw.mono (HX.out ▸ HA.out.size))
        refine (HV.out.1 _ _ w' HV.out.2.1 HV.out.2.2.1 HV.out.2.2.2.1 (Below.rv hA3 (Nat.le_of_eq HX.out) HV.out.2.2.2.2)).mono ?_
        rintro e w2 ⟨u,rfl,hrn,hb2,hn2⟩
        obtain ⟨ty,uu,rfl⟩:=hrn.iface
        have hnw:NB5 g w':=fun b hb c fz hc=>by rw [hh] at hc; exact HN5.out b hb c fz hc
        have hn3:=hnw.next hb2 hn2
        obtain ⟨hbg,hE,_⟩:=hinv.out
        have hsz:=hE.2.1
        have hglt:=hE.1.lt
        have hb3:Below wr.heap.size wr w2:=(HX.out ▸ hA3).trans (hb2.mono (HX.out ▸ hA3.size))
        have hblk2:=hE.1.keep (hb3.block _ hglt)
        refine ⟨ty,uu,rfl,⟨cs[j * 2],by rw [hblk2.cell]; exact Array.getElem?_eq_getElem (by omega)⟩,⟨cs[j * 2 + 1],by rw [hblk2.cell]; exact Array.getElem?_eq_getElem (by omega)⟩,hblk2.frozen _,hblk2.frozen _,hbw.trans (hb2.mono hbw.size),_,(EInv.step hlt hbg hE hb3 hrn (by have:=hA3.size; have:=HX.out; omega)).1,(EInv.step hlt hbg hE hb3 hrn (by have:=hA3.size; have:=HX.out; omega)).2,(hn3.set hblk2 (by decide)).set (hblk2.set _ _) (by decide)⟩
      clear HV HA HN5 hinv hX g0 g1 g2 g3 g4 g5
      go_region_held3 (fun w'=>w'.cell? ⟨xb,0,none⟩ = some (.string (ky j))∧w'.cell? ⟨xb,1,none⟩ = some (.int .i64 (l j).k)∧w'.cell? ⟨xb,2,none⟩ = some (.int .i64 (l j).n)∧w'.cell? ⟨xb,3,none⟩ = some (.string (l j).s)∧w'.cell? ⟨xb,4,none⟩ = some (.slice xa xn xc)∧w'.cell? ⟨xb,5,none⟩ = some (.slice ya yn yc))
        (first | (exact ⟨k0,k1,k2,k3,k4,k5⟩) | (exact ⟨Below.cellS hq.out (Nat.le_refl _) k0,Below.cellS hq.out (Nat.le_refl _) k1,Below.cellS hq.out (Nat.le_refl _) k2,Below.cellS hq.out (Nat.le_refl _) k3,Below.cellS hq.out (Nat.le_refl _) k4,Below.cellS hq.out (Nat.le_refl _) k5⟩) | (exact ⟨cell_set_ne (cell_set_ne (Below.cellS hq.out (Nat.le_refl _) k0) hxg) hxg,cell_set_ne (cell_set_ne (Below.cellS hq.out (Nat.le_refl _) k1) hxg) hxg,cell_set_ne (cell_set_ne (Below.cellS hq.out (Nat.le_refl _) k2) hxg) hxg,cell_set_ne (cell_set_ne (Below.cellS hq.out (Nat.le_refl _) k3) hxg) hxg,cell_set_ne (cell_set_ne (Below.cellS hq.out (Nat.le_refl _) k4) hxg) hxg,cell_set_ne (cell_set_ne (Below.cellS hq.out (Nat.le_refl _) k5) hxg) hxg⟩))
        (first | (go_at_call 55; refine (HC.out w3.drew rfl rfl rfl rfl).mono ?_; rintro e wq ⟨ty,uu,rfl,⟨z0,cj0⟩,⟨z1,cj1⟩,fj0,fj1,hq,HN⟩))
      clear k0 k1 k2 k3 k4 k5 HC cj0 cj1 fj0 fj1 hq
      go_wp2
      go_roundw
      case rel=>exact ⟨j + 1,_,by omega,by go_num,HN.out.choose_spec⟩
      case measure=>simp [intOf]; omega
    · obtain rfl:j = ln:=by omega
      go_wp2
      go_ret
      obtain ⟨hbw,⟨hblk,hsz,hel⟩,hnb⟩:=hinv.out
      refine ⟨j,by rw [HG.out]; rfl,fun i hi=>?_,HG.out ▸ hblk.lt,HG.out ▸ hbw,HG.out ▸ hnb,rfl,cs,HG.out ▸ hblk,hsz⟩
      obtain ⟨u,q0,q1,q2⟩:=hel i hi
      exact ⟨u,by rw [HG.out,hblk.cell]; exact q0,by rw [HG.out,hblk.cell]; exact q1,RN.move (fun b hb _=>by have:=HG.out; omega) (Nat.le_refl _) (fun _ _ _=>rfl) _ _ q2⟩
set_option maxHeartbeats 1000000 in
theorem nodeOf27 (t:T):NC t:=by
  induction t with
  | no=>intro x y w _ _ _ h; exact h.elim
  | mk k n s ln l dn ky dv il id =>
    intro x y w hok hsm hvt hr
    obtain ⟨ok1,ok2,ok3,ok4,ok5⟩:=hok
    obtain ⟨sm1,sm2,sm3,sm4⟩:=hsm
    obtain ⟨hown,v1,v2⟩:=hvt
    obtain ⟨hL,hD⟩:=hr
    obtain ⟨k1,k4,_⟩:=(ownB_iff _ _ _ _ _).1 hown
    show Calls Tryz.prog 55 #[.agg #[.int .i64 k,.int .i64 n,.string s,x,y]] w _
    have HB:Hid (Below w.heap.size w (w.alloc (Obj.cells #[.int .i64 k,.int .i64 n,.string s,x,y] 55))):=(Below.refl _ _).alloc (Nat.le_refl _) _
    have HN0:Hid (NB5 w.heap.size (w.alloc (Obj.cells #[.int .i64 k,.int .i64 n,.string s,x,y] 55))):=(NB5.self w).alloc _ (fun c fz h=>by cases h)
    have HL:Hid (RL (fun _=>True) (w.alloc (Obj.cells #[.int .i64 k,.int .i64 n,.string s,x,y] 55)) ln l x):=RL.keep (fun _ h=>h) HB.out.size (fun b _ hl=>HB.out.block b hl) hL
    have HD:Hid (RD (fun _=>True) (w.alloc (Obj.cells #[.int .i64 k,.int .i64 n,.string s,x,y] 55)) dn ky dv y):=RD.keep (fun _ h=>h) HB.out.size (fun b _ hl=>HB.out.block b hl) hD
    have HO:Hid ((∀ i,NC (l i))∧(∀ i,NC (dv i))∧(∀ i,i < ln → (l i).ok∧(l i).small∧VT (l i))∧(∀ i,i < dn → (dv i).ok∧(dv i).small∧VT (dv i))):=⟨il,id,fun i hi=>⟨ok4 i hi,sm3 i hi,v1 i hi⟩,fun i hi=>⟨(ok5 i hi).2,sm4 i hi,(v2 i hi).2⟩⟩
    clear il id ok4 ok5 sm3 sm4 v1 v2 hL hD hown
    have hk:k = 1 ∨ k = 2 ∨ k = 3 ∨ k = 4:=by omega
    clear k1 k4
    rcases hk with rfl | rfl | rfl | rfl
    · go_enter Tryz.func55,Tryz.ntmps55
      go_wp2
      go_ret
      exact ⟨_,rfl,.inl ⟨rfl,rfl⟩,HB.out,HN0.out⟩
    · go_enter Tryz.func55,Tryz.ntmps55
      go_wp2
      go_ret
      exact ⟨_,rfl,.inr (.inl ⟨rfl,rfl⟩),HB.out,HN0.out⟩
    · go_enter Tryz.func55,Tryz.ntmps55
      go_wp2_with fail
      refine (listOf39 ln l x _ HO.out.1 sm1 HO.out.2.2.1 HL.out).mono ?_
      rintro e w1 ⟨c,rfl,h1,h2,h3,h4⟩
      have HH:Hid (RN (fun b=>w.heap.size ≤ b) w1 (.mk 3 n s ln l dn ky dv) (.iface 104 (.slice (some ⟨w.heap.size + 1,0,none⟩) ln c))∧Below w.heap.size w w1∧NB5 w.heap.size w1):=by
        have hn4:=HN0.out.next h3 h4
        have hsz:(w.alloc (Obj.cells #[.int .i64 3,.int .i64 n,.string s,x,y] 55)).heap.size = w.heap.size + 1:=by simp
        rw [hsz] at h1 h2 h3
        refine ⟨.inr (.inr (.inl ⟨rfl,_,_,rfl,by omega,h2,fun i hi=>?_⟩)),HB.out.trans (h3.mono (by omega)),hn4⟩
        obtain ⟨u,q1,q2⟩:=h1 i hi
        exact ⟨u,q1,RN.move (fun b hb _=>by omega) (Nat.le_refl _) (fun _ _ _=>rfl) _ _ q2⟩
      clear h1 h2 h3 h4 HL HD HO HB HN0
      go_wp2
      go_ret
      exact ⟨_,by simp,HH.out⟩
    · go_enter Tryz.func55,Tryz.ntmps55
      go_wp2_with fail
      refine (dictOf24 dn ky dv y _ HO.out.2.1 sm2 HO.out.2.2.2 HD.out).mono ?_
      rintro e w1 ⟨c,rfl,h1,h2,h3,h4,hcc,hcs⟩
      clear hcc hcs
      have HH:Hid (RN (fun b=>w.heap.size ≤ b) w1 (.mk 4 n s ln l dn ky dv) (.iface 107 (.slice (some ⟨w.heap.size + 1,0,none⟩) dn c))∧Below w.heap.size w w1∧NB5 w.heap.size w1):=by
        have hn4:=HN0.out.next h3 h4
        have hsz:(w.alloc (Obj.cells #[.int .i64 4,.int .i64 n,.string s,x,y] 55)).heap.size = w.heap.size + 1:=by simp
        rw [hsz] at h1 h2 h3
        refine ⟨.inr (.inr (.inr ⟨rfl,_,_,rfl,by omega,h2,fun i hi=>?_⟩)),HB.out.trans (h3.mono (by omega)),hn4⟩
        obtain ⟨u,q0,q1,q2⟩:=h1 i hi
        exact ⟨u,q0,q1,RN.move (fun b hb _=>by omega) (Nat.le_refl _) (fun _ _ _=>rfl) _ _ q2⟩
      clear h1 h2 h3 h4 HL HD HO HB HN0
      go_wp2
      go_ret
      exact ⟨_,by simp,HH.out⟩
theorem empty_of {s:ByteArray} (h:s.toList = []):s = { data:=#[] }:=by
  rw [ByteArray.toList_eq] at h
  obtain ⟨d⟩:=s
  have:d = #[]:=by simpa using h
  rw [this]
def PC (t:T):Prop:=∀ (u:Value) (S:Nat → Prop) (w:World),t.small → VT t → RN S w t u →
  Calls Tryz.prog 78 #[u] w fun e w'=>∃ x' y',e = .returned (vv t x' y')∧RV (fun b=>w.heap.size ≤ b) w' t x' y'∧Below w.heap.size w w'
def PB (H:Nat) (w wr:World) (c0 c1 c2 c3 c4:Value):Prop:=Below H w wr∧obj wr H (.int .i64 0) (.int .i64 0) (.string { data:=#[] }) (.slice .none 0 0) (.slice .none 0 0)∧obj wr (H + 1) c0 c1 c2 c3 c4
theorem set5_get (cs:Array Value) (o:Nat) (c0 c1 c2 c3 c4:Value) (h:o + 4 < cs.size) :
    let cs':=((((cs.setIfInBounds o c0).setIfInBounds (o + 1) c1).setIfInBounds (o + 2) c2).setIfInBounds (o + 3) c3).setIfInBounds (o + 4) c4
    cs'.size = cs.size∧(∀ r,r < 5 → cs'[o + r]? = [c0,c1,c2,c3,c4][r]?)∧∀ q,q < o → cs'[q]? = cs[q]?:=by
  intro cs'
  refine ⟨by simp [cs'],fun r hr=>?_,fun q hq=>?_⟩
  · match r,hr with
    | 0,_=>simp [cs',Array.getElem?_setIfInBounds]; omega
    | 1,_=>simp [cs',Array.getElem?_setIfInBounds]; omega
    | 2,_=>simp [cs',Array.getElem?_setIfInBounds]; omega
    | 3,_=>simp [cs',Array.getElem?_setIfInBounds]; omega
    | 4,_=>simp [cs',Array.getElem?_setIfInBounds]; omega
  · simp only [cs',Array.getElem?_setIfInBounds]
    rw [if_neg (by omega),if_neg (by omega),if_neg (by omega),if_neg (by omega),if_neg (by omega)]
theorem set6_get (cs:Array Value) (o:Nat) (c0 c1 c2 c3 c4 c5:Value) (h:o + 5 < cs.size) :
    let cs':=(((((cs.setIfInBounds o c0).setIfInBounds (o + 1) c1).setIfInBounds (o + 2) c2).setIfInBounds (o + 3) c3).setIfInBounds (o + 4) c4).setIfInBounds (o + 5) c5
    cs'.size = cs.size∧(∀ r,r < 6 → cs'[o + r]? = [c0,c1,c2,c3,c4,c5][r]?)∧∀ q,q < o → cs'[q]? = cs[q]?:=by
  intro cs'
  refine ⟨by simp [cs'],fun r hr=>?_,fun q hq=>?_⟩
  · match r,hr with
    | 0,_=>simp [cs',Array.getElem?_setIfInBounds]; omega
    | 1,_=>simp [cs',Array.getElem?_setIfInBounds]; omega
    | 2,_=>simp [cs',Array.getElem?_setIfInBounds]; omega
    | 3,_=>simp [cs',Array.getElem?_setIfInBounds]; omega
    | 4,_=>simp [cs',Array.getElem?_setIfInBounds]; omega
    | 5,_=>simp [cs',Array.getElem?_setIfInBounds]; omega
  · simp only [cs',Array.getElem?_setIfInBounds]
    rw [if_neg (by omega),if_neg (by omega),if_neg (by omega),if_neg (by omega),if_neg (by omega),if_neg (by omega)]
theorem as68_68 (v:Value) (w:World):(Instr.typeAssert (.iface 101 v) 87 101 true).run Tryz.prog w = .ok (.tuple #[v,.bool true]) w:=by kernel_rfl
theorem as53_68 (v:Value) (w:World):(Instr.typeAssert (.iface 102 v) 87 101 true).run Tryz.prog w = .ok (.tuple #[.int .i64 0,.bool false]) w:=by kernel_rfl
theorem as53_53 (v:Value) (w:World):(Instr.typeAssert (.iface 102 v) 87 102 true).run Tryz.prog w = .ok (.tuple #[v,.bool true]) w:=by kernel_rfl
theorem as70_68 (v:Value) (w:World):(Instr.typeAssert (.iface 104 v) 87 101 true).run Tryz.prog w = .ok (.tuple #[.int .i64 0,.bool false]) w:=by kernel_rfl
theorem as70_53 (v:Value) (w:World):(Instr.typeAssert (.iface 104 v) 87 102 true).run Tryz.prog w = .ok (.tuple #[.string ByteArray.empty,.bool false]) w:=by kernel_rfl
theorem as70_70 (v:Value) (w:World):(Instr.typeAssert (.iface 104 v) 87 104 true).run Tryz.prog w = .ok (.tuple #[v,.bool true]) w:=by kernel_rfl
theorem as48_68 (v:Value) (w:World):(Instr.typeAssert (.iface 107 v) 87 101 true).run Tryz.prog w = .ok (.tuple #[.int .i64 0,.bool false]) w:=by kernel_rfl
theorem as48_53 (v:Value) (w:World):(Instr.typeAssert (.iface 107 v) 87 102 true).run Tryz.prog w = .ok (.tuple #[.string ByteArray.empty,.bool false]) w:=by kernel_rfl
theorem as48_70 (v:Value) (w:World):(Instr.typeAssert (.iface 107 v) 87 104 true).run Tryz.prog w = .ok (.tuple #[.slice none 0 0,.bool false]) w:=by kernel_rfl
theorem as48_48 (v:Value) (w:World):(Instr.typeAssert (.iface 107 v) 87 107 true).run Tryz.prog w = .ok (.tuple #[v,.bool true]) w:=by kernel_rfl
def set5 (w:World) (g o:Nat) (c0 c1 c2 c3 c4:Value):World:=((((w.setCell ⟨g,o,none⟩ c0).setCell ⟨g,o + 1,none⟩ c1).setCell ⟨g,o + 2,none⟩ c2).setCell ⟨g,o + 3,none⟩ c3).setCell ⟨g,o + 4,none⟩ c4
theorem set5_block (w:World) (g o:Nat) (c0 c1 c2 c3 c4:Value) (b:Nat) (hb:b ≠ g):(set5 w g o c0 c1 c2 c3 c4).heap[b]? = w.heap[b]?:=by
  unfold set5
  rw [Below.heap_setCell _ _ _ _ hb,Below.heap_setCell _ _ _ _ hb,Below.heap_setCell _ _ _ _ hb,Below.heap_setCell _ _ _ _ hb,Below.heap_setCell _ _ _ _ hb]
theorem set5_size (w:World) (g o:Nat) (c0 c1 c2 c3 c4:Value):(set5 w g o c0 c1 c2 c3 c4).heap.size = w.heap.size:=by simp [set5,World.setCell]
theorem set5_below {H g:Nat} {w wr:World} (h:Below H w wr) (hg:H ≤ g) (o:Nat) (c0 c1 c2 c3 c4:Value):Below H w (set5 wr g o c0 c1 c2 c3 c4):=
  ((((h.setCell hg _).setCell hg _).setCell hg _).setCell hg _).setCell hg _
theorem set5_blk {w:World} {g:Nat} {ty:TypeId} {cs:Array Value} (h:blk w g ty cs) (o:Nat) (c0 c1 c2 c3 c4:Value):blk (set5 w g o c0 c1 c2 c3 c4) g ty (((((cs.setIfInBounds o c0).setIfInBounds (o + 1) c1).setIfInBounds (o + 2) c2).setIfInBounds (o + 3) c3).setIfInBounds (o + 4) c4):=
  ((((h.set o _).set (o + 1) _).set (o + 2) _).set (o + 3) _).set (o + 4) _
def PL (g:Nat) (w:World) (l:Nat → T) (ln j:Nat) (cs:Array Value):Prop:=blk w g 55 cs∧cs.size = ln * 5∧∀ i,i < j → ∃ X Y,(∀ r,r < 5 → cs[i * 5 + r]? = (cv (l i) X Y)[r]?)∧RV (fun b=>g < b) w (l i) X Y
theorem PL.step {g:Nat} {wr w2:World} {l:Nat → T} {ln j:Nat} {cs:Array Value} {X Y:Value} {B:Nat} (hj:j < ln) (he:PL g wr l ln j cs) (hb3:Below wr.heap.size wr w2) (hrv:RV (fun b=>B ≤ b) w2 (l j) X Y) (hB:g < B) :
    ∃ cs',PL g (set5 w2 g (j * 5) (.int .i64 (l j).k) (.int .i64 (l j).n) (.string (l j).s) X Y) l ln (j + 1) cs':=by
  obtain ⟨hblk,hsz,hel⟩:=he
  have hblk2:=hblk.keep (hb3.block _ hblk.lt)
  obtain ⟨q1,q2,q3⟩:=set5_get cs (j * 5) (.int .i64 (l j).k) (.int .i64 (l j).n) (.string (l j).s) X Y (by omega)
  refine ⟨_,set5_blk hblk2 _ _ _ _ _ _,q1.trans hsz,fun i hi=>?_⟩
  rcases Nat.lt_succ_iff_lt_or_eq.1 hi with h | rfl
  · obtain ⟨X',Y',e1,e2⟩:=hel i h
    refine ⟨X',Y',fun r hr=>by rw [q3 _ (by omega)]; exact e1 r hr,RV.move (fun b hb _=>hb) (by rw [set5_size]; exact hb3.size) (fun b hb hl=>?_) _ _ _ e2⟩
    rw [set5_block _ _ _ _ _ _ _ _ _ (by omega),hb3.block b hl]
  · exact ⟨X,Y,q2,RV.move (fun b hb _=>by omega) (by rw [set5_size]; exact Nat.le_refl _) (fun b hb hl=>set5_block _ _ _ _ _ _ _ _ _ (by omega)) _ _ _ hrv⟩
theorem PL.rl {g:Nat} {w w':World} {l:Nat → T} {ln c:Nat} {cs:Array Value} {S:Nat → Prop} (h:PL g w l ln ln cs) (hs:w.heap.size ≤ w'.heap.size) (hb:∀ b,g ≤ b → b < w.heap.size → w'.heap[b]? = w.heap[b]?) (hS:∀ b,g ≤ b → S b):RL S w' ln l (.slice (some ⟨g,0,none⟩) ln c):=by
  obtain ⟨hblk,hsz,hel⟩:=h
  have hglt:=hblk.lt
  refine ⟨_,_,rfl,.inr ⟨g,0,rfl,hS g (Nat.le_refl _),Nat.lt_of_lt_of_le hglt hs,fun i hi=>?_⟩⟩
  obtain ⟨X,Y,e1,e2⟩:=hel i hi
  refine ⟨X,Y,RV.move (fun b hb' _=>hS b (Nat.le_of_lt hb')) hs (fun b hb' hl=>hb b (Nat.le_of_lt hb') hl) _ _ _ e2,?_⟩
  have c:∀ r,r < 5 → w'.cell? ⟨g,i * 5 + r,none⟩ = (cv (l i) X Y)[r]?:=fun r hr=>by
    rw [World.cell?_of_block (w:=w) (a:=⟨g,i * 5 + r,none⟩) (hb g (Nat.le_refl _) hglt),hblk.cell,e1 r hr]
  have c0:=c 0 (by omega)
  have c1:=c 1 (by omega)
  have c2:=c 2 (by omega)
  have c3:=c 3 (by omega)
  have c4:=c 4 (by omega)
  simp only [cv,Nat.add_zero] at c0 c1 c2 c3 c4
  simp only [Nat.zero_add]
  exact ⟨c0,c1,c2,c3,c4⟩
def set6 (w:World) (g o:Nat) (c0 c1 c2 c3 c4 c5:Value):World:=(((((w.setCell ⟨g,o,none⟩ c0).setCell ⟨g,o + 1,none⟩ c1).setCell ⟨g,o + 2,none⟩ c2).setCell ⟨g,o + 3,none⟩ c3).setCell ⟨g,o + 4,none⟩ c4).setCell ⟨g,o + 5,none⟩ c5
theorem set6_block (w:World) (g o:Nat) (c0 c1 c2 c3 c4 c5:Value) (b:Nat) (hb:b ≠ g):(set6 w g o c0 c1 c2 c3 c4 c5).heap[b]? = w.heap[b]?:=by
  unfold set6
  rw [Below.heap_setCell _ _ _ _ hb,Below.heap_setCell _ _ _ _ hb,Below.heap_setCell _ _ _ _ hb,Below.heap_setCell _ _ _ _ hb,Below.heap_setCell _ _ _ _ hb,Below.heap_setCell _ _ _ _ hb]
theorem set6_size (w:World) (g o:Nat) (c0 c1 c2 c3 c4 c5:Value):(set6 w g o c0 c1 c2 c3 c4 c5).heap.size = w.heap.size:=by simp [set6,World.setCell]
theorem set6_below {H g:Nat} {w wr:World} (h:Below H w wr) (hg:H ≤ g) (o:Nat) (c0 c1 c2 c3 c4 c5:Value):Below H w (set6 wr g o c0 c1 c2 c3 c4 c5):=
  (((((h.setCell hg _).setCell hg _).setCell hg _).setCell hg _).setCell hg _).setCell hg _
theorem set6_blk {w:World} {g:Nat} {ty:TypeId} {cs:Array Value} (h:blk w g ty cs) (o:Nat) (c0 c1 c2 c3 c4 c5:Value):blk (set6 w g o c0 c1 c2 c3 c4 c5) g ty ((((((cs.setIfInBounds o c0).setIfInBounds (o + 1) c1).setIfInBounds (o + 2) c2).setIfInBounds (o + 3) c3).setIfInBounds (o + 4) c4).setIfInBounds (o + 5) c5):=
  (((((h.set o _).set (o + 1) _).set (o + 2) _).set (o + 3) _).set (o + 4) _).set (o + 5) _
def PD (g:Nat) (w:World) (ky:Nat → ByteArray) (l:Nat → T) (ln j:Nat) (cs:Array Value):Prop:=blk w g 67 cs∧cs.size = ln * 6∧∀ i,i < j → ∃ X Y,(∀ r,r < 6 → cs[i * 6 + r]? = (.string (ky i) :: cv (l i) X Y)[r]?)∧RV (fun b=>g < b) w (l i) X Y
theorem PD.step {g:Nat} {wr w2:World} {ky:Nat → ByteArray} {l:Nat → T} {ln j:Nat} {cs:Array Value} {X Y:Value} {B:Nat} (hj:j < ln) (he:PD g wr ky l ln j cs) (hb3:Below wr.heap.size wr w2) (hrv:RV (fun b=>B ≤ b) w2 (l j) X Y) (hB:g < B) :
    ∃ cs',PD g (set6 w2 g (j * 6) (.string (ky j)) (.int .i64 (l j).k) (.int .i64 (l j).n) (.string (l j).s) X Y) ky l ln (j + 1) cs':=by
  obtain ⟨hblk,hsz,hel⟩:=he
  have hblk2:=hblk.keep (hb3.block _ hblk.lt)
  obtain ⟨q1,q2,q3⟩:=set6_get cs (j * 6) (.string (ky j)) (.int .i64 (l j).k) (.int .i64 (l j).n) (.string (l j).s) X Y (by omega)
  refine ⟨_,set6_blk hblk2 _ _ _ _ _ _ _,q1.trans hsz,fun i hi=>?_⟩
  rcases Nat.lt_succ_iff_lt_or_eq.1 hi with h | rfl
  · obtain ⟨X',Y',e1,e2⟩:=hel i h
    refine ⟨X',Y',fun r hr=>by rw [q3 _ (by omega)]; exact e1 r hr,RV.move (fun b hb _=>hb) (by rw [set6_size]; exact hb3.size) (fun b hb hl=>?_) _ _ _ e2⟩
    rw [set6_block _ _ _ _ _ _ _ _ _ _ (by omega),hb3.block b hl]
  · exact ⟨X,Y,q2,RV.move (fun b hb _=>by omega) (by rw [set6_size]; exact Nat.le_refl _) (fun b hb hl=>set6_block _ _ _ _ _ _ _ _ _ _ (by omega)) _ _ _ hrv⟩
theorem PD.rd {g:Nat} {w w':World} {ky:Nat → ByteArray} {l:Nat → T} {ln c:Nat} {cs:Array Value} {S:Nat → Prop} (h:PD g w ky l ln ln cs) (hs:w.heap.size ≤ w'.heap.size) (hb:∀ b,g ≤ b → b < w.heap.size → w'.heap[b]? = w.heap[b]?) (hS:∀ b,g ≤ b → S b):RD S w' ln ky l (.slice (some ⟨g,0,none⟩) ln c):=by
  obtain ⟨hblk,hsz,hel⟩:=h
  have hglt:=hblk.lt
  refine ⟨_,_,rfl,.inr ⟨g,0,rfl,hS g (Nat.le_refl _),Nat.lt_of_lt_of_le hglt hs,fun i hi=>?_⟩⟩
  obtain ⟨X,Y,e1,e2⟩:=hel i hi
  refine ⟨X,Y,RV.move (fun b hb' _=>hS b (Nat.le_of_lt hb')) hs (fun b hb' hl=>hb b (Nat.le_of_lt hb') hl) _ _ _ e2,?_⟩
  have c:∀ r,r < 6 → w'.cell? ⟨g,i * 6 + r,none⟩ = (.string (ky i) :: cv (l i) X Y)[r]?:=fun r hr=>by
    rw [World.cell?_of_block (w:=w) (a:=⟨g,i * 6 + r,none⟩) (hb g (Nat.le_refl _) hglt),hblk.cell,e1 r hr]
  have c0:=c 0 (by omega)
  have c1:=c 1 (by omega)
  have c2:=c 2 (by omega)
  have c3:=c 3 (by omega)
  have c4:=c 4 (by omega)
  have c5:=c 5 (by omega)
  simp only [cv,Nat.add_zero] at c0 c1 c2 c3 c4 c5
  simp only [Nat.zero_add]
  exact ⟨c0,c1,c2,c3,c4,c5⟩
set_option maxHeartbeats 6000000 in
theorem plain28 (t:T):PC t:=by
  induction t with
  | no=>intro u S w _ _ h; exact h.elim
  | mk k n s ln l dn ky dv il id =>
    intro u S w hsm hvt hr
    obtain ⟨sm1,sm2,sm3,sm4⟩:=hsm
    obtain ⟨hown,v1,v2⟩:=hvt
    obtain ⟨k1,k4,o1,o2,o3,o4⟩:=(ownB_iff _ _ _ _ _).1 hown
    have HO:Hid ((∀ i,PC (l i))∧(∀ i,PC (dv i))∧(∀ i,i < ln → (l i).small∧VT (l i))∧(∀ i,i < dn → (dv i).small∧VT (dv i))):=⟨il,id,fun i hi=>⟨sm3 i hi,v1 i hi⟩,fun i hi=>⟨sm4 i hi,(v2 i hi).2⟩⟩
    clear il id sm3 sm4 v1 v2 hown
    rcases hr with ⟨rfl,rfl⟩ | ⟨rfl,rfl⟩ | ⟨rfl,b,c,rfl,h1,h2,h3⟩ | ⟨rfl,b,c,rfl,h1,h2,h3⟩
    · obtain rfl:ln = 0:=by omega
      obtain rfl:dn = 0:=by omega
      have hs0:s = { data:=#[] }:=empty_of (o2.resolve_left (by omega))
      subst hs0
      clear o1 o2 o3 o4 k1 k4
      have ha:=as68_68
      go_enter Tryz.func78,Tryz.ntmps78
      go_wp2
      exact bodyPost_ret (v:=.agg #[.int .i64 1,.int .i64 n,.string { data:=#[] },.slice none 0 0,.slice none 0 0]) (results_cell_row Tryz.results78 _ _ w.heap.size 55 _ (0,0) _ rfl ((Below.heap_alloc _ _ _ (by simp)).trans (heap_new _ _)) Tryz.underlying55 rfl info25s) rfl
        ⟨_,_,rfl,⟨⟨_,_,rfl,.inl rfl⟩,⟨_,_,rfl,.inl rfl⟩⟩,((Below.refl _ _).alloc (Nat.le_refl _) _).alloc (by simp) _⟩
    · obtain rfl:n = 0:=o1.resolve_left (by omega)
      obtain rfl:ln = 0:=o3.resolve_left (by omega)
      obtain rfl:dn = 0:=o4.resolve_left (by omega)
      clear o1 o2 o3 o4 k1 k4
      have ha:=as53_68
      have hb:=as53_53
      go_enter Tryz.func78,Tryz.ntmps78
      go_wp2
      exact bodyPost_ret (v:=.agg #[.int .i64 2,.int .i64 0,.string s,.slice none 0 0,.slice none 0 0]) (results_cell_row Tryz.results78 _ _ w.heap.size 55 _ (0,0) _ rfl ((Below.heap_alloc _ _ _ (by simp)).trans (heap_new _ _)) Tryz.underlying55 rfl info25s) rfl
        ⟨_,_,rfl,⟨⟨_,_,rfl,.inl rfl⟩,⟨_,_,rfl,.inl rfl⟩⟩,((Below.refl _ _).alloc (Nat.le_refl _) _).alloc (by simp) _⟩
    · obtain rfl:n = 0:=o1.resolve_left (by omega)
      obtain rfl:dn = 0:=o4.resolve_left (by omega)
      have hs0:s = { data:=#[] }:=empty_of (o2.resolve_left (by omega))
      subst hs0
      clear o1 o2 o3 o4 k1 k4
      obtain ⟨i0,hi,hz0,hz1,hz2⟩:=info_parts info25
      have hmk:∀ u:World,(Instr.makeSlice 52 (.int .i64 (ln:Int)) (.int .i64 (ln:Int))).run Tryz.prog u =
          .ok (.slice (some ⟨u.heap.size,0,none⟩) ln ln) (u.alloc (.cells (madeCells #[.int .i64 0,.int .i64 0,.string ByteArray.empty,.slice none 0 0,.slice none 0 0] (ln * 5)) 55)):=fun u=>by
        have h:=run_make (P:=Tryz.prog) u 52 55 i0 _ Tryz.underlying52 hi hz0 .i64 .i64 ln ln (by omega) (by omega) (by rw [hz2]; omega) (by omega)
        simpa [hz1,Value.cells] using h
      have HN:Hid (∀ i,i < ln → ∃ u,w.cell? ⟨b,i,none⟩ = some u∧RN S w (l i) u):=h3
      have HBL:Hid (b < w.heap.size):=h2
      clear h1 h2 h3 hi hz0 hz1 hz2
      have ha:=as70_68
      have hb:=as70_53
      have hc:=as70_70
      go_enter Tryz.func78,Tryz.ntmps78
      go_wp2
      clear ha hb hc
      go_region
      go_wp2
      clear hmk
      have HB0:Hid (PB w.heap.size w (((w.alloc (Obj.cells #[.int .i64 0,.int .i64 0,.string { data:=#[] },.slice .none 0 0,.slice .none 0 0] 55)).alloc (Obj.cells #[.int .i64 3,.int .i64 0,.string { data:=#[] },.slice (some ⟨w.heap.size + 1 + 1,0,none⟩) ln ln,.slice .none 0 0] 55)).alloc (Obj.cells (madeCells #[.int .i64 0,.int .i64 0,.string ByteArray.empty,.slice .none 0 0,.slice .none 0 0] (ln * 5)) 55)).drew (.int .i64 3) (.int .i64 0) (.string { data:=#[] }) (.slice (some ⟨w.heap.size + 1 + 1,0,none⟩) ln ln) (.slice .none 0 0) ∧
          PL (w.heap.size + 1 + 1) (((w.alloc (Obj.cells #[.int .i64 0,.int .i64 0,.string { data:=#[] },.slice .none 0 0,.slice .none 0 0] 55)).alloc (Obj.cells #[.int .i64 3,.int .i64 0,.string { data:=#[] },.slice (some ⟨w.heap.size + 1 + 1,0,none⟩) ln ln,.slice .none 0 0] 55)).alloc (Obj.cells (madeCells #[.int .i64 0,.int .i64 0,.string ByteArray.empty,.slice .none 0 0,.slice .none 0 0] (ln * 5)) 55)).drew l ln 0 (madeCells #[.int .i64 0,.int .i64 0,.string ByteArray.empty,.slice .none 0 0,.slice .none 0 0] (ln * 5))):=by
        refine ⟨⟨((((Below.refl _ _).alloc (Nat.le_refl _) _).alloc (by simp) _).alloc (by simp; omega) _).drew,?_,?_⟩,?_,by rw [size_madeCells],fun i hi=>absurd hi (Nat.not_lt_zero _)⟩
        · exact (Below.heap_alloc _ _ _ (by simp; omega)).trans ((Below.heap_alloc _ _ _ (by simp)).trans (heap_new _ _))
        · refine (Below.heap_alloc _ _ _ (by simp)).trans ?_
          have:=heap_new (w.alloc (Obj.cells #[.int .i64 0,.int .i64 0,.string { data:=#[] },.slice .none 0 0,.slice .none 0 0] 55)) (Obj.cells #[.int .i64 3,.int .i64 0,.string { data:=#[] },.slice (some ⟨w.heap.size + 1 + 1,0,none⟩) ln ln,.slice .none 0 0] 55)
          simpa using this
        · have:=heap_new ((w.alloc (Obj.cells #[.int .i64 0,.int .i64 0,.string { data:=#[] },.slice .none 0 0,.slice .none 0 0] 55)).alloc (Obj.cells #[.int .i64 3,.int .i64 0,.string { data:=#[] },.slice (some ⟨w.heap.size + 1 + 1,0,none⟩) ln ln,.slice .none 0 0] 55)) (Obj.cells (madeCells #[.int .i64 0,.int .i64 0,.string ByteArray.empty,.slice .none 0 0,.slice .none 0 0] (ln * 5)) 55)
          have e:((w.alloc (Obj.cells #[.int .i64 0,.int .i64 0,.string { data:=#[] },.slice .none 0 0,.slice .none 0 0] 55)).alloc (Obj.cells #[.int .i64 3,.int .i64 0,.string { data:=#[] },.slice (some ⟨w.heap.size + 1 + 1,0,none⟩) ln ln,.slice .none 0 0] 55)).heap.size = w.heap.size + 1 + 1:=by simp
          rw [e] at this
          exact this
      generalize (((w.alloc (Obj.cells #[.int .i64 0,.int .i64 0,.string { data:=#[] },.slice .none 0 0,.slice .none 0 0] 55)).alloc (Obj.cells #[.int .i64 3,.int .i64 0,.string { data:=#[] },.slice (some ⟨w.heap.size + 1 + 1,0,none⟩) ln ln,.slice .none 0 0] 55)).alloc (Obj.cells (madeCells #[.int .i64 0,.int .i64 0,.string ByteArray.empty,.slice .none 0 0,.slice .none 0 0] (ln * 5)) 55)).drew = w0 at *
      generalize hg:w.heap.size = H at *
      have HG:Hid (w.heap.size = H):=hg
      clear hg
      go_loopw [36] (fun i wr=>∃ (j:Nat) (cs:Array Value),j ≤ ln∧i = .int .i64 j∧Hid (PB H w wr (.int .i64 3) (.int .i64 0) (.string { data:=#[] }) (.slice (some ⟨H + 1 + 1,0,none⟩) ln ln) (.slice .none 0 0)∧PL (H + 1 + 1) wr l ln j cs)) (fun i _=>ln - (intOf i).toNat)
      case atStart=>exact ⟨0,_,Nat.zero_le _,rfl,HB0⟩
      case round =>
        clear HB0
        obtain ⟨j,cs,hj,rfl,hinv⟩:=hrel
        by_cases hlt:j < ln
        · obtain ⟨u,hu,hrn⟩:=HN.out j hlt
          have hw:=hinv.out.1.1
          have hle:w.heap.size ≤ H:=Nat.le_of_eq HG.out
          replace hu:=Below.cellS hw hle hu
          obtain ⟨ty,uu,rfl⟩:=hrn.iface
          obtain ⟨_,_,_,c3,_⟩:=hinv.out.1.2.2.cells
          have hne:H + 1 ≠ H + 1 + 1:=by omega
          have j0:(0:Int) ≤ (j:Int):=by omega
          have j1:(j:Int) < (ln:Int):=by omega
          have HC:Hid (∀ w',w'.heap = wr.heap → w'.os = wr.os → w'.tape = wr.tape → w'.output = wr.output → Calls Tryz.prog 78 #[.iface ty uu] w' fun e w''=>∃ xa xn xc ya yn yc,e = .returned (.agg #[.int .i64 (l j).k,.int .i64 (l j).n,.string (l j).s,.slice xa xn xc,.slice ya yn yc]) ∧
              ((∃ z,w''.cell? ⟨H + 1 + 1,j * 5,none⟩ = some z)∧(∃ z,w''.cell? ⟨H + 1 + 1,j * 5 + 1,none⟩ = some z)∧(∃ z,w''.cell? ⟨H + 1 + 1,j * 5 + 2,none⟩ = some z)∧(∃ z,w''.cell? ⟨H + 1 + 1,j * 5 + 3,none⟩ = some z)∧(∃ z,w''.cell? ⟨H + 1 + 1,j * 5 + 4,none⟩ = some z)) ∧
              (w''.frozen? ⟨H + 1 + 1,j * 5,none⟩ = false∧w''.frozen? ⟨H + 1 + 1,j * 5 + 1,none⟩ = false∧w''.frozen? ⟨H + 1 + 1,j * 5 + 2,none⟩ = false∧w''.frozen? ⟨H + 1 + 1,j * 5 + 3,none⟩ = false∧w''.frozen? ⟨H + 1 + 1,j * 5 + 4,none⟩ = false) ∧
              Hid (Below wr.heap.size wr w'') ∧
              Hid (∃ cs',PB H w (set5 w'' (H + 1 + 1) (j * 5) (.int .i64 (l j).k) (.int .i64 (l j).n) (.string (l j).s) (.slice xa xn xc) (.slice ya yn yc)) (.int .i64 3) (.int .i64 0) (.string { data:=#[] }) (.slice (some ⟨H + 1 + 1,0,none⟩) ln ln) (.slice .none 0 0)∧PL (H + 1 + 1) (set5 w'' (H + 1 + 1) (j * 5) (.int .i64 (l j).k) (.int .i64 (l j).n) (.string (l j).s) (.slice xa xn xc) (.slice ya yn yc)) l ln (j + 1) cs')):=by
            intro w' hh h1 h2 h3
            have hbw:Below wr.heap.size wr w':=⟨h1,h2,h3,by rw [hh]; exact Nat.le_refl _,fun q _=>by rw [hh]⟩
            have hww:=hw.trans (hbw.mono (HG.out ▸ hw.size))
            refine (HO.out.1 j _ (fun _=>True) w' (HO.out.2.2.1 j hlt).1 (HO.out.2.2.1 j hlt).2 (RN.move (fun _ _ _=>trivial) hww.size (fun q _ hq=>hww.block q (by omega)) _ _ hrn)).mono ?_
            rintro e w2 ⟨X,Y,rfl,hrv,hb2⟩
            obtain ⟨⟨xa,xn,xc,rfl⟩,⟨ya,yn,yc,rfl⟩⟩:=hrv.slices
            obtain ⟨hP,hE⟩:=hinv.out
            have hb3:Below wr.heap.size wr w2:=hbw.trans (hb2.mono hbw.size)
            have hsz:=hE.2.1
            have hglt:=hE.1.lt
            have hblk2:=hE.1.keep (hb3.block _ hglt)
            have ex:∀ r,r < 5 → ∃ z,w2.cell? ⟨H + 1 + 1,j * 5 + r,none⟩ = some z:=fun r hr=>⟨cs[j * 5 + r],by rw [hblk2.cell]; exact Array.getElem?_eq_getElem (by omega)⟩
            obtain ⟨cs',hst⟩:=PL.step hlt hE hb3 hrv (by have:=hbw.size; omega)
            refine ⟨xa,xn,xc,ya,yn,yc,rfl,⟨ex 0 (by omega),ex 1 (by omega),ex 2 (by omega),ex 3 (by omega),ex 4 (by omega)⟩,⟨hblk2.frozen _,hblk2.frozen _,hblk2.frozen _,hblk2.frozen _,hblk2.frozen _⟩,hb3,cs',⟨?_,?_,?_⟩,hst⟩
            · exact set5_below (hP.1.trans (hb3.mono (HG.out ▸ hP.1.size))) (by omega) _ _ _ _ _ _
            · exact (hP.2.1.keep (hb3.block _ hP.2.1.lt)).keep (set5_block _ _ _ _ _ _ _ _ _ (by omega))
            · exact (hP.2.2.keep (hb3.block _ hP.2.2.lt)).keep (set5_block _ _ _ _ _ _ _ _ _ (by omega))
          have c3d:wr.drew.cell? ⟨H + 1,3,none⟩ = some (.slice (some ⟨H + 1 + 1,0,none⟩) ln ln):=c3
          clear hw hle hrn hinv
          go_wp2
          go_region_held3 (fun w'=>w'.cell? ⟨H + 1,3,none⟩ = some (.slice (some ⟨H + 1 + 1,0,none⟩) ln ln))
            (first | (with_reducible exact c3) | (with_reducible exact c3d) | (with_reducible exact Below.cellS hq.out (Nat.le_refl _) c3) | (exact cell_set_ne (cell_set_ne (cell_set_ne (cell_set_ne (cell_set_ne (Below.cellS hq.out (Nat.le_refl _) c3) hne) hne) hne) hne) hne))
            (first | (go_at_call 78; refine (HC.out wr.drew rfl rfl rfl rfl).mono ?_; rintro e wq ⟨xa,xn,xc,ya,yn,yc,rfl,⟨⟨z0,e0⟩,⟨z1,e1⟩,⟨z2,e2⟩,⟨z3,e3⟩,⟨z4,e4⟩⟩,⟨f0,f1,f2,f3,f4⟩,hq,HN2⟩))
          clear HC c3 c3d hq e0 e1 e2 e3 e4 f0 f1 f2 f3 f4 hu
          go_wp2
          go_roundw
          case rel=>exact ⟨j + 1,_,by omega,by go_num,HN2.out.choose_spec⟩
          case measure=>simp [intOf]; omega
        · obtain rfl:j = ln:=by omega
          obtain ⟨q0,q1,q2,q3,q4⟩:=hinv.out.1.2.2.cells
          obtain ⟨r0,r1,r2,r3,r4⟩:=hinv.out.1.2.1.cells
          have z0:=hinv.out.1.2.1.frozen 0
          have z1:=hinv.out.1.2.1.frozen 1
          have z2:=hinv.out.1.2.1.frozen 2
          have z3:=hinv.out.1.2.1.frozen 3
          have z4:=hinv.out.1.2.1.frozen 4
          go_wp2
          refine bodyPost_ret (v:=.agg #[.int .i64 3,.int .i64 0,.string { data:=#[] },.slice (some ⟨H + 1 + 1,0,none⟩) j j,.slice .none 0 0]) (results_cell_row Tryz.results78 _ _ H 55 _ (0,0) _ rfl (((((hinv.out.1.2.1.set0 _).set1 _).set2 _).set3 _).set4 _) Tryz.underlying55 rfl info25s) rfl ⟨_,_,rfl,?_,?_⟩
          · have hbs:=besides5 wr H (.int .i64 3) (.int .i64 0) (.string { data:=#[] }) (.slice (some ⟨H + 1 + 1,0,none⟩) j j) (.slice .none 0 0)
            exact ⟨PL.rl hinv.out.2 hbs.size (fun q h1 h2=>hbs.block q h2 (by omega)) (fun q hq=>by have:=HG.out; omega),⟨_,_,rfl,.inl rfl⟩⟩
          · have hbs:=besides5 wr H (.int .i64 3) (.int .i64 0) (.string { data:=#[] }) (.slice (some ⟨H + 1 + 1,0,none⟩) j j) (.slice .none 0 0)
            have h0:=hinv.out.1.1
            rw [HG.out]
            exact ⟨hbs.os.trans h0.os,hbs.tape.trans h0.tape,hbs.output.trans h0.output,Nat.le_trans h0.size hbs.size,fun q hq=>(hbs.block q (by have:=h0.size; have:=HG.out; omega) (by omega)).trans (h0.block q hq)⟩
    · obtain rfl:n = 0:=o1.resolve_left (by omega)
      obtain rfl:ln = 0:=o3.resolve_left (by omega)
      have hs0:s = { data:=#[] }:=empty_of (o2.resolve_left (by omega))
      subst hs0
      clear o1 o2 o3 o4 k1 k4
      obtain ⟨i0,hi,hz0,hz1,hz2⟩:=info_parts info42
      have hmk:∀ u:World,(Instr.makeSlice 53 (.int .i64 (dn:Int)) (.int .i64 (dn:Int))).run Tryz.prog u =
          .ok (.slice (some ⟨u.heap.size,0,none⟩) dn dn) (u.alloc (.cells (madeCells #[.string ByteArray.empty,.int .i64 0,.int .i64 0,.string ByteArray.empty,.slice none 0 0,.slice none 0 0] (dn * 6)) 67)):=fun u=>by
        have h:=run_make (P:=Tryz.prog) u 53 67 i0 _ Tryz.underlying53 hi hz0 .i64 .i64 dn dn (by omega) (by omega) (by rw [hz2]; omega) (by omega)
        simpa [hz1,Value.cells] using h
      have HN:Hid (∀ i,i < dn → ∃ u,w.cell? ⟨b,i * 2,none⟩ = some (.string (ky i))∧w.cell? ⟨b,i * 2 + 1,none⟩ = some u∧RN S w (dv i) u):=h3
      have HBL:Hid (b < w.heap.size):=h2
      clear h1 h2 h3 hi hz0 hz1 hz2
      have ha:=as48_68
      have hb:=as48_53
      have hc:=as48_70
      have hd:=as48_48
      go_enter Tryz.func78,Tryz.ntmps78
      go_wp2
      clear ha hb hc hd
      go_region
      go_wp2
      clear hmk
      have HB0:Hid (PB w.heap.size w (((w.alloc (Obj.cells #[.int .i64 0,.int .i64 0,.string { data:=#[] },.slice .none 0 0,.slice .none 0 0] 55)).alloc (Obj.cells #[.int .i64 4,.int .i64 0,.string { data:=#[] },.slice .none 0 0,.slice (some ⟨w.heap.size + 1 + 1,0,none⟩) dn dn] 55)).alloc (Obj.cells (madeCells #[.string ByteArray.empty,.int .i64 0,.int .i64 0,.string ByteArray.empty,.slice .none 0 0,.slice .none 0 0] (dn * 6)) 67)).drew (.int .i64 4) (.int .i64 0) (.string { data:=#[] }) (.slice .none 0 0) (.slice (some ⟨w.heap.size + 1 + 1,0,none⟩) dn dn) ∧
          PD (w.heap.size + 1 + 1) (((w.alloc (Obj.cells #[.int .i64 0,.int .i64 0,.string { data:=#[] },.slice .none 0 0,.slice .none 0 0] 55)).alloc (Obj.cells #[.int .i64 4,.int .i64 0,.string { data:=#[] },.slice .none 0 0,.slice (some ⟨w.heap.size + 1 + 1,0,none⟩) dn dn] 55)).alloc (Obj.cells (madeCells #[.string ByteArray.empty,.int .i64 0,.int .i64 0,.string ByteArray.empty,.slice .none 0 0,.slice .none 0 0] (dn * 6)) 67)).drew ky dv dn 0 (madeCells #[.string ByteArray.empty,.int .i64 0,.int .i64 0,.string ByteArray.empty,.slice .none 0 0,.slice .none 0 0] (dn * 6))):=by
        refine ⟨⟨((((Below.refl _ _).alloc (Nat.le_refl _) _).alloc (by simp) _).alloc (by simp; omega) _).drew,?_,?_⟩,?_,by rw [size_madeCells],fun i hi=>absurd hi (Nat.not_lt_zero _)⟩
        · exact (Below.heap_alloc _ _ _ (by simp; omega)).trans ((Below.heap_alloc _ _ _ (by simp)).trans (heap_new _ _))
        · refine (Below.heap_alloc _ _ _ (by simp)).trans ?_
          have:=heap_new (w.alloc (Obj.cells #[.int .i64 0,.int .i64 0,.string { data:=#[] },.slice .none 0 0,.slice .none 0 0] 55)) (Obj.cells #[.int .i64 4,.int .i64 0,.string { data:=#[] },.slice .none 0 0,.slice (some ⟨w.heap.size + 1 + 1,0,none⟩) dn dn] 55)
          simpa using this
        · have:=heap_new ((w.alloc (Obj.cells #[.int .i64 0,.int .i64 0,.string { data:=#[] },.slice .none 0 0,.slice .none 0 0] 55)).alloc (Obj.cells #[.int .i64 4,.int .i64 0,.string { data:=#[] },.slice .none 0 0,.slice (some ⟨w.heap.size + 1 + 1,0,none⟩) dn dn] 55)) (Obj.cells (madeCells #[.string ByteArray.empty,.int .i64 0,.int .i64 0,.string ByteArray.empty,.slice .none 0 0,.slice .none 0 0] (dn * 6)) 67)
          have e:((w.alloc (Obj.cells #[.int .i64 0,.int .i64 0,.string { data:=#[] },.slice .none 0 0,.slice .none 0 0] 55)).alloc (Obj.cells #[.int .i64 4,.int .i64 0,.string { data:=#[] },.slice .none 0 0,.slice (some ⟨w.heap.size + 1 + 1,0,none⟩) dn dn] 55)).heap.size = w.heap.size + 1 + 1:=by simp
          rw [e] at this
          exact this
      generalize (((w.alloc (Obj.cells #[.int .i64 0,.int .i64 0,.string { data:=#[] },.slice .none 0 0,.slice .none 0 0] 55)).alloc (Obj.cells #[.int .i64 4,.int .i64 0,.string { data:=#[] },.slice .none 0 0,.slice (some ⟨w.heap.size + 1 + 1,0,none⟩) dn dn] 55)).alloc (Obj.cells (madeCells #[.string ByteArray.empty,.int .i64 0,.int .i64 0,.string ByteArray.empty,.slice .none 0 0,.slice .none 0 0] (dn * 6)) 67)).drew = w0 at *
      generalize hg:w.heap.size = H at *
      have HG:Hid (w.heap.size = H):=hg
      clear hg
      go_loopw [58] (fun i wr=>∃ (j:Nat) (cs:Array Value),j ≤ dn∧i = .int .i64 j∧Hid (PB H w wr (.int .i64 4) (.int .i64 0) (.string { data:=#[] }) (.slice .none 0 0) (.slice (some ⟨H + 1 + 1,0,none⟩) dn dn)∧PD (H + 1 + 1) wr ky dv dn j cs)) (fun i _=>dn - (intOf i).toNat)
      case atStart=>exact ⟨0,_,Nat.zero_le _,rfl,HB0⟩
      case round =>
        clear HB0
        obtain ⟨j,cs,hj,rfl,hinv⟩:=hrel
        by_cases hlt:j < dn
        · obtain ⟨u,hky,hu,hrn⟩:=HN.out j hlt
          have hw:=hinv.out.1.1
          have hle:w.heap.size ≤ H:=Nat.le_of_eq HG.out
          replace hu:=Below.cellS hw hle hu
          replace hky:=Below.cellS hw hle hky
          obtain ⟨ty,uu,rfl⟩:=hrn.iface
          have hne:H + 1 ≠ H + 1 + 1:=by omega
          have j0:(0:Int) ≤ (j:Int):=by omega
          have j1:(j:Int) < (dn:Int):=by omega
          have hX:blk (wr.alloc (Obj.cells #[.string (ky j),.iface ty uu] 130)) wr.heap.size 130 #[.string (ky j),.iface ty uu]:=heap_new _ _
          have hA:Below wr.heap.size wr (wr.alloc (Obj.cells #[.string (ky j),.iface ty uu] 130)):=(Below.refl _ _).alloc (Nat.le_refl _) _
          have HP:Hid (PB H w (wr.alloc (Obj.cells #[.string (ky j),.iface ty uu] 130)) (.int .i64 4) (.int .i64 0) (.string { data:=#[] }) (.slice .none 0 0) (.slice (some ⟨H + 1 + 1,0,none⟩) dn dn)∧PD (H + 1 + 1) (wr.alloc (Obj.cells #[.string (ky j),.iface ty uu] 130)) ky dv dn j cs):=by
            obtain ⟨hP,hE⟩:=hinv.out
            refine ⟨⟨hP.1.trans (hA.mono (HG.out ▸ hP.1.size)),hP.2.1.keep (hA.block _ hP.2.1.lt),hP.2.2.keep (hA.block _ hP.2.2.lt)⟩,hE.1.keep (hA.block _ hE.1.lt),hE.2.1,fun i hi=>?_⟩
            obtain ⟨X,Y,e1,e2⟩:=hE.2.2 i hi
            exact ⟨X,Y,e1,RV.move (fun b hb _=>hb) hA.size (fun b _ hl=>hA.block b hl) _ _ _ e2⟩
          have hxg:wr.heap.size ≠ H + 1 + 1:=by have:=hinv.out.2.1.lt; omega
          clear hinv hw hA
          go_wp2
          generalize hxb:wr.heap.size = xb at *
          clear hxb
          generalize wr.alloc (Obj.cells #[.string (ky j),.iface ty uu] 130) = w3 at *
          have hw:=HP.out.1.1
          obtain ⟨_,_,_,_,c4⟩:=HP.out.1.2.2.cells
          have k0:w3.cell? ⟨xb,0,none⟩ = some (.string (ky j)):=hX.cell 0
          have k1:w3.cell? ⟨xb,1,none⟩ = some (.iface ty uu):=hX.cell 1
          have HC:Hid (∀ w',w'.heap = w3.heap → w'.os = w3.os → w'.tape = w3.tape → w'.output = w3.output → Calls Tryz.prog 78 #[.iface ty uu] w' fun e w''=>∃ xa xn xc ya yn yc,e = .returned (.agg #[.int .i64 (dv j).k,.int .i64 (dv j).n,.string (dv j).s,.slice xa xn xc,.slice ya yn yc]) ∧
              ((∃ z,w''.cell? ⟨H + 1 + 1,j * 6,none⟩ = some z)∧(∃ z,w''.cell? ⟨H + 1 + 1,j * 6 + 1,none⟩ = some z)∧(∃ z,w''.cell? ⟨H + 1 + 1,j * 6 + 2,none⟩ = some z)∧(∃ z,w''.cell? ⟨H + 1 + 1,j * 6 + 3,none⟩ = some z)∧(∃ z,w''.cell? ⟨H + 1 + 1,j * 6 + 4,none⟩ = some z)∧(∃ z,w''.cell? ⟨H + 1 + 1,j * 6 + 5,none⟩ = some z)) ∧
              (w''.frozen? ⟨H + 1 + 1,j * 6,none⟩ = false∧w''.frozen? ⟨H + 1 + 1,j * 6 + 1,none⟩ = false∧w''.frozen? ⟨H + 1 + 1,j * 6 + 2,none⟩ = false∧w''.frozen? ⟨H + 1 + 1,j * 6 + 3,none⟩ = false∧w''.frozen? ⟨H + 1 + 1,j * 6 + 4,none⟩ = false∧w''.frozen? ⟨H + 1 + 1,j * 6 + 5,none⟩ = false) ∧
              Hid (Below w3.heap.size w3 w'') ∧
              Hid (∃ cs',PB H w (set6 w'' (H + 1 + 1) (j * 6) (.string (ky j)) (.int .i64 (dv j).k) (.int .i64 (dv j).n) (.string (dv j).s) (.slice xa xn xc) (.slice ya yn yc)) (.int .i64 4) (.int .i64 0) (.string { data:=#[] }) (.slice .none 0 0) (.slice (some ⟨H + 1 + 1,0,none⟩) dn dn)∧PD (H + 1 + 1) (set6 w'' (H + 1 + 1) (j * 6) (.string (ky j)) (.int .i64 (dv j).k) (.int .i64 (dv j).n) (.string (dv j).s) (.slice xa xn xc) (.slice ya yn yc)) ky dv dn (j + 1) cs')):=by
            intro w' hh h1 h2 h3
            have hbw:Below w3.heap.size w3 w':=⟨h1,h2,h3,by rw [hh]; exact Nat.le_refl _,fun q _=>by rw [hh]⟩
            have hww:=hw.trans (hbw.mono (HG.out ▸ hw.size))
            refine (HO.out.2.1 j _ (fun _=>True) w' (HO.out.2.2.2 j hlt).1 (HO.out.2.2.2 j hlt).2 (RN.move (fun _ _ _=>trivial) hww.size (fun q _ hq=>hww.block q (by omega)) _ _ hrn)).mono ?_
            rintro e w2 ⟨X,Y,rfl,hrv,hb2⟩
            obtain ⟨⟨xa,xn,xc,rfl⟩,⟨ya,yn,yc,rfl⟩⟩:=hrv.slices
            obtain ⟨hP,hE⟩:=HP.out
            have hb3:Below w3.heap.size w3 w2:=hbw.trans (hb2.mono hbw.size)
            have hsz:=hE.2.1
            have hglt:=hE.1.lt
            have hblk2:=hE.1.keep (hb3.block _ hglt)
            have ex:∀ r,r < 6 → ∃ z,w2.cell? ⟨H + 1 + 1,j * 6 + r,none⟩ = some z:=fun r hr=>⟨cs[j * 6 + r],by rw [hblk2.cell]; exact Array.getElem?_eq_getElem (by omega)⟩
            obtain ⟨cs',hst⟩:=PD.step hlt hE hb3 hrv (by have:=hbw.size; omega)
            refine ⟨xa,xn,xc,ya,yn,yc,rfl,⟨ex 0 (by omega),ex 1 (by omega),ex 2 (by omega),ex 3 (by omega),ex 4 (by omega),ex 5 (by omega)⟩,⟨hblk2.frozen _,hblk2.frozen _,hblk2.frozen _,hblk2.frozen _,hblk2.frozen _,hblk2.frozen _⟩,hb3,cs',⟨?_,?_,?_⟩,hst⟩
            · exact set6_below (hP.1.trans (hb3.mono (HG.out ▸ hP.1.size))) (by omega) _ _ _ _ _ _ _
            · exact (hP.2.1.keep (hb3.block _ hP.2.1.lt)).keep (set6_block _ _ _ _ _ _ _ _ _ _ (by omega))
            · exact (hP.2.2.keep (hb3.block _ hP.2.2.lt)).keep (set6_block _ _ _ _ _ _ _ _ _ _ (by omega))
          have c4d:w3.drew.cell? ⟨H + 1,4,none⟩ = some (.slice (some ⟨H + 1 + 1,0,none⟩) dn dn):=c4
          have k0d:w3.drew.cell? ⟨xb,0,none⟩ = some (.string (ky j)):=k0
          have k1d:w3.drew.cell? ⟨xb,1,none⟩ = some (.iface ty uu):=k1
          clear hw hle hrn HP hX hky hu
          go_region_held3 (fun w'=>w'.cell? ⟨H + 1,4,none⟩ = some (.slice (some ⟨H + 1 + 1,0,none⟩) dn dn)∧w'.cell? ⟨xb,0,none⟩ = some (.string (ky j))∧w'.cell? ⟨xb,1,none⟩ = some (.iface ty uu))
            (first | (with_reducible exact ⟨c4,k0,k1⟩) | (with_reducible exact ⟨c4d,k0d,k1d⟩) | (with_reducible exact ⟨Below.cellS hq.out (Nat.le_refl _) c4,Below.cellS hq.out (Nat.le_refl _) k0,Below.cellS hq.out (Nat.le_refl _) k1⟩) | (exact ⟨cell_set_ne (cell_set_ne (cell_set_ne (cell_set_ne (cell_set_ne (cell_set_ne (Below.cellS hq.out (Nat.le_refl _) c4) hne) hne) hne) hne) hne) hne,cell_set_ne (cell_set_ne (cell_set_ne (cell_set_ne (cell_set_ne (cell_set_ne (Below.cellS hq.out (Nat.le_refl _) k0) hxg) hxg) hxg) hxg) hxg) hxg,cell_set_ne (cell_set_ne (cell_set_ne (cell_set_ne (cell_set_ne (cell_set_ne (Below.cellS hq.out (Nat.le_refl _) k1) hxg) hxg) hxg) hxg) hxg) hxg⟩))
            (first | (go_at_call 78; refine (HC.out w3.drew rfl rfl rfl rfl).mono ?_; rintro e wq ⟨xa,xn,xc,ya,yn,yc,rfl,⟨⟨z0,e0⟩,⟨z1,e1⟩,⟨z2,e2⟩,⟨z3,e3⟩,⟨z4,e4⟩,⟨z5,e5⟩⟩,⟨f0,f1,f2,f3,f4,f5⟩,hq,HN2⟩))
          clear HC c4 c4d k0 k1 k0d k1d hq e0 e1 e2 e3 e4 e5 f0 f1 f2 f3 f4 f5
          go_wp2
          go_roundw
          case rel=>exact ⟨j + 1,_,by omega,by go_num,HN2.out.choose_spec⟩
          case measure=>simp [intOf]; omega
        · obtain rfl:j = dn:=by omega
          obtain ⟨q0,q1,q2,q3,q4⟩:=hinv.out.1.2.2.cells
          obtain ⟨r0,r1,r2,r3,r4⟩:=hinv.out.1.2.1.cells
          have z0:=hinv.out.1.2.1.frozen 0
          have z1:=hinv.out.1.2.1.frozen 1
          have z2:=hinv.out.1.2.1.frozen 2
          have z3:=hinv.out.1.2.1.frozen 3
          have z4:=hinv.out.1.2.1.frozen 4
          go_wp2
          refine bodyPost_ret (v:=.agg #[.int .i64 4,.int .i64 0,.string { data:=#[] },.slice .none 0 0,.slice (some ⟨H + 1 + 1,0,none⟩) j j]) (results_cell_row Tryz.results78 _ _ H 55 _ (0,0) _ rfl (((((hinv.out.1.2.1.set0 _).set1 _).set2 _).set3 _).set4 _) Tryz.underlying55 rfl info25s) rfl ⟨_,_,rfl,?_,?_⟩
          · have hbs:=besides5 wr H (.int .i64 4) (.int .i64 0) (.string { data:=#[] }) (.slice .none 0 0) (.slice (some ⟨H + 1 + 1,0,none⟩) j j)
            exact ⟨⟨_,_,rfl,.inl rfl⟩,PD.rd hinv.out.2 hbs.size (fun q h1 h2=>hbs.block q h2 (by omega)) (fun q hq=>by have:=HG.out; omega)⟩
          · have hbs:=besides5 wr H (.int .i64 4) (.int .i64 0) (.string { data:=#[] }) (.slice .none 0 0) (.slice (some ⟨H + 1 + 1,0,none⟩) j j)
            have h0:=hinv.out.1.1
            rw [HG.out]
            exact ⟨hbs.os.trans h0.os,hbs.tape.trans h0.tape,hbs.output.trans h0.output,Nat.le_trans h0.size hbs.size,fun q hq=>(hbs.block q (by have:=h0.size; have:=HG.out; omega) (by omega)).trans (h0.block q hq)⟩
theorem giveUp44 (rb:Nat) (p er:Int) (w:World):Calls Tryz.prog 86 #[.pointer (some ⟨rb,0,none⟩),.int .i64 p,.int .i64 er] w fun e w'=>e = pnc p er∧w' = w:=by
  go_enter Tryz.func86,Tryz.ntmps86
  go_wp2
  exact ⟨rfl,rfl,rfl⟩
set_option maxHeartbeats 1000000 in
theorem next43 (rb:Nat) (a:Option Addr) (c:Nat) (b:List UInt8) (i:Nat) (w:World) (h:RR rb w a c b i) :
    Calls Tryz.prog 85 #[.pointer (some ⟨rb,0,none⟩)] w fun e w'=>Below w.heap.size w w'∧((i < b.length∧e = .returned (.int .u8 ((byt b i).toNat:Int))) ∨ (i = b.length∧e = pnc i 21)):=by
  obtain ⟨c0,c1,_⟩:=h.cells
  have hn:=h.2.1
  have hl:=h.2.2.2.1
  by_cases hlt:i < b.length
  · obtain ⟨g,o,rfl,hg,k0⟩:=h.byte hlt
    have i0:(0:Int) ≤ (i:Int):=by omega
    have i1:(i:Int) < (b.length:Int):=by omega
    have i2:((i:Int) == (b.length:Int)) = false:=by simp; omega
    generalize ((byt b i).toNat:Int) = z at *
    clear h
    go_enter Tryz.func85,Tryz.ntmps85
    go_wp2
    go_quiet (fail)
    go_wp2
    go_quiet (fail)
    go_wp2
    go_ret
    exact ⟨⟨rfl,rfl,rfl,Nat.le_refl _,fun _ _=>rfl⟩,.inl ⟨hlt,rfl⟩⟩
  · obtain rfl:i = b.length:=by omega
    clear h
    go_enter Tryz.func85,Tryz.ntmps85
    go_wp2
    go_quiet (fail)
    go_wp2_with fail
    refine (giveUp44 rb _ _ _).mono ?_
    rintro e w' ⟨rfl,rfl⟩
    exact ⟨rfl,⟨rfl,rfl,rfl,Nat.le_refl _,fun _ _=>rfl⟩,.inr ⟨trivial,rfl⟩⟩
theorem isDigit46 (c:UInt8) (w:World):Calls Tryz.prog 88 #[.int .u8 (c.toNat:Int)] w fun e w'=>e = .returned (.bool (dig c))∧w' = w:=by
  have e:dig c = (decide ((48:Int) ≤ (c.toNat:Int)) && decide ((c.toNat:Int) ≤ 57)):=by
    unfold dig
    rw [show decide (48 ≤ c) = decide ((48:Int) ≤ (c.toNat:Int)) from by simp [UInt8.le_iff_toNat_le]; omega,show decide (c ≤ 57) = decide ((c.toNat:Int) ≤ 57) from by simp [UInt8.le_iff_toNat_le]; omega]
  rw [e]
  generalize (c.toNat:Int) = z
  by_cases h1:48 ≤ z
  · go_enter Tryz.func88,Tryz.ntmps88
    go_wp2
    go_ret
    exact ⟨by simp [h1],rfl⟩
  · have h2:¬ (z ≥ 48):=h1
    go_enter Tryz.func88,Tryz.ntmps88
    go_wp2
    go_ret
    exact ⟨by simp; omega,rfl⟩
theorem conv_cut {g o i j cap:Nat} {b:List UInt8} {w:World} (hj:j ≤ b.length) (hc:∀ k,k < b.length → w.cell? ⟨g,o + k,none⟩ = some (.int .u8 ((byt b k).toNat:Int))) (ty:TypeId) (hty:Tryz.prog.underlying ty = some .string) :
    (convert 22 ty (.slice (some ⟨g,o + i,none⟩) (j - i) cap)).run Tryz.prog w = .ok (.string ⟨(cut b i j).toArray⟩) w:=by
  have hl:=cut_length (b:=b) (i:=i) (j:=j) hj
  have h:=run_convert_bytes_back (P:=Tryz.prog) w 22 ty 5 ⟨g,o + i,none⟩ cap (cut b i j) Tryz.underlying22 Tryz.underlying5 hty (fun k hk=>by
    have hadd:(⟨g,o + i,none⟩:Addr).add k = ⟨g,o + (i + k),none⟩:=by unfold Addr.add; split <;> simp_all <;> omega
    rw [hadd,hc (i + k) (by omega), ← byt_cut (b:=b) (j:=j) (i:=i) (k:=k) (by omega)]
    simp [byt,List.getD,List.getElem?_eq_getElem hk])
  rw [hl] at h
  exact h
theorem u8_ne {x y:UInt8} (h:x ≠ y):(x.toNat:Int) ≠ (y.toNat:Int):=fun e=>h (UInt8.toNat_inj.1 (by omega))
def atOf (w:World) (rb:Nat):Nat:=(intOf ((w.cell? ⟨rb,1,none⟩).getD .nilIface)).toNat
theorem RR.atOf {rb:Nat} {w:World} {a:Option Addr} {c:Nat} {b:List UInt8} {i:Nat} (h:RR rb w a c b i):atOf w rb = i:=by
  unfold Go.Proofs.YtdlnnnlmlaploabGreatDoor.atOf
  rw [h.cells.2.1]; simp [intOf]
set_option maxHeartbeats 1000000 in
theorem digits52 (rb:Nat) (a:Option Addr) (c:Nat) (b:List UInt8) (en:UInt8) (i:Nat) (w:World) (h:RR rb w a c b i) :
    Calls Tryz.prog 99 #[.pointer (some ⟨rb,0,none⟩),.int .u8 (en.toNat:Int)] w fun e w'=>pcEnd (digs b en i) rb w w' a c b (fun d=>.string ⟨d.toArray⟩) e:=by
  obtain ⟨c0,c1,f1⟩:=h.cells
  have HR:=Lib.hid h
  have hn:=h.2.1
  have hl:=h.2.2.2.1
  have hrl:=run_le h.2.1
  clear h
  go_enter Tryz.func99,Tryz.ntmps99
  go_wp2
  go_loopw [] (fun wr=>∃ k,k ≤ run b i∧Hid (RR rb wr a c b (i + k)∧Besides rb w wr)) (fun wr=>b.length - atOf wr rb)
  case atStart=>exact ⟨0,Nat.zero_le _,HR.out,Besides.refl _ _⟩
  case round =>
    clear c0 c1 f1
    obtain ⟨k,hk,HO⟩:=hrel
    have hk2:i + k ≤ b.length:=by omega
    have hmer:=HO.out.1.atOf
    go_wp2_with fail
    refine (next43 rb a c b (i + k) wr HO.out.1).mono ?_
    rintro e w1 ⟨hb1,⟨hlt,rfl⟩ | ⟨heq,rfl⟩⟩
    case inr =>
      rw [heq]
      exact ⟨rfl,pcEnd.bad (by rw [digs,if_pos (by omega)]) (HO.out.2.trans (Besides.of_below hb1))⟩
    have HO1:Hid (RR rb w1 a c b (i + k)∧Besides rb w w1):=⟨HO.out.1.heap hb1,HO.out.2.trans (Besides.of_below hb1)⟩
    clear HO hb1
    go_wp2_with fail
    refine (isDigit46 _ _).mono ?_
    rintro e w2 ⟨rfl,rfl⟩
    by_cases hd:dig (byt b (i + k)) = true
    · have hkr:k < run b i:=by
        rcases Nat.lt_or_ge k (run b i) with h | h
        · exact h
        · have:run b i = k:=by omega
          rw [← this] at hd hlt
          rw [run_end hlt] at hd; cases hd
      obtain ⟨c0,c1,f1⟩:=HO1.out.1.cells
      rw [hd]
      have HN:Hid (RR rb (w2.setCell ⟨rb,1,none⟩ (.int .i64 ((i:Int) + (k:Int) + 1))) a c b (i + (k + 1))∧Besides rb w (w2.setCell ⟨rb,1,none⟩ (.int .i64 ((i:Int) + (k:Int) + 1)))):=by
        have h:=HO1.out.1.set (i + (k + 1)) (by omega)
        have e:((i + (k + 1):Nat):Int) = (i:Int) + (k:Int) + 1:=by omega
        rw [e] at h
        exact ⟨h,HO1.out.2.set1⟩
      have hme2:=HN.out.1.atOf
      have hm3:b.length - (i + (k + 1)) < b.length - (i + k):=by omega
      clear HO1
      go_wp2
      go_roundw
      case rel=>exact ⟨k + 1,by omega,HN⟩
      case measure=>rw [hmer,hme2]; omega
    · have hkr:i + k = i + run b i:=by
        rcases Nat.lt_or_ge k (run b i) with h | h
        · exact absurd (run_lt h).2 hd
        · omega
      have hd':dig (byt b (i + k)) = false:=by simpa using hd
      rw [hd']
      have hij:i ≤ i + k:=by omega
      clear hd hd' hk2 hmer
      generalize i + k = j at *
      have HD:Hid (digs b en i = if j = i ∨ byt b j ≠ en then .bad j 22 else .ok (cut b i j) (j + 1)):=by
        refine Lib.hid ?_
        rw [digs,if_neg (by omega), ← hkr]
        by_cases h0:run b i = 0
        · rw [if_pos (.inl h0),if_pos (.inl (by omega))]
        · by_cases h1:byt b j ≠ en
          · rw [if_pos (.inr h1),if_pos (.inr h1)]
          · rw [if_neg (by simp [h0,h1]),if_neg (by intro h; rcases h with h | h; exact h0 (by omega); exact h1 h)]
      clear hkr hrl HR hk
      obtain ⟨c0,c1,f1⟩:=HO1.out.1.cells
      by_cases hr0:j = i
      · have HE:Hid (digs b en i = .bad j 22):=Lib.hid (by rw [HD.out,if_pos (.inl hr0)])
        have hz:((j:Int) == (i:Int)) = true:=by simp; omega
        clear hr0
        go_wp2_with fail
        refine (giveUp44 rb _ _ _).mono ?_
        rintro e w' ⟨rfl,rfl⟩
        exact ⟨rfl,pcEnd.bad HE.out HO1.out.2⟩
      · have hz:((j:Int) == (i:Int)) = false:=by simp; omega
        go_wp2_with fail
        refine (next43 rb a c b j w2 HO1.out.1).mono ?_
        rintro e w3 ⟨hb3,⟨_,rfl⟩ | ⟨heq,rfl⟩⟩
        case inr=>omega
        have HO3:Hid (RR rb w3 a c b j∧Besides rb w w3):=⟨HO1.out.1.heap hb3,HO1.out.2.trans (Besides.of_below hb3)⟩
        clear HO1 hb3 c0 c1 f1
        obtain ⟨c0,c1,f1⟩:=HO3.out.1.cells
        by_cases he:byt b j = en
        · have HE:Hid (digs b en i = .ok (cut b i j) (j + 1)):=Lib.hid (by rw [HD.out,if_neg (by simp [hr0,he])])
          subst he
          obtain ⟨g,o,rfl,hg,_⟩:=HO3.out.1.byte hlt
          have HT:Hid (∀ k,k < b.length → w3.cell? ⟨g,o + k,none⟩ = some (.int .u8 ((byt b k).toNat:Int))):=by
            rcases HO3.out.1.2.2.2.2 with rfl | ⟨g',o',h1,_,_,h4⟩
            · simp at hlt
            · cases h1; exact h4
          have HN:Hid (RR rb (w3.setCell ⟨rb,1,none⟩ (.int .i64 ((j:Int) + 1))) (some ⟨g,o,none⟩) c b (j + 1)∧Besides rb w (w3.setCell ⟨rb,1,none⟩ (.int .i64 ((j:Int) + 1)))):=by
            have h:=HO3.out.1.set (j + 1) (by omega)
            exact ⟨h,HO3.out.2.set1⟩
          have hcap:b.length ≤ c:=HO3.out.1.2.2.1
          have HV:Hid (∀ k,k < b.length → (w3.setCell ⟨rb,1,none⟩ (.int .i64 ((j:Int) + 1))).cell? ⟨g,o + k,none⟩ = some (.int .u8 ((byt b k).toNat:Int))):=Lib.hid fun k hk=>(World.cell?_setCell_far _ _ _ _ (Ne.symm hg)).trans (HT.out k hk)
          clear HD HO3
          go_wp2
          obtain ⟨k0,k1,_⟩:=HN.out.1.cells
          rw [show ((j + 1:Nat):Int) = (j:Int) + 1 from rfl] at k1
          generalize w3.setCell ⟨rb,1,none⟩ (.int .i64 ((j:Int) + 1)) = w4 at *
          have hconv:∀ n,(convert 22 9 (.slice (some ⟨g,o + i,none⟩) (j - i) (c - i))).run Tryz.prog (w4.drewN n) = .ok (.string ⟨(cut b i j).toArray⟩) (w4.drewN n):=fun n=>conv_cut (w:=w4.drewN n) (by omega) (fun k hk=>HV.out k hk) 9 Tryz.underlying9
          have b0:(0:Int) ≤ (i:Int):=by omega
          have b1:(i:Int) ≤ (j:Int):=by omega
          have b2:(j:Int) ≤ (c:Int):=by omega
          have b3:(j:Int) + 1 - 1 = (j:Int):=by omega
          have b4:i ≤ j:=hij
          have b5:j ≤ c:=by omega
          clear HT c0 c1 f1 hz hlt hr0
          go_quiet (fail)
          have hB:Below w4.heap.size w4 (w4.drewN nq):=⟨rfl,rfl,rfl,Nat.le_refl _,fun _ _=>rfl⟩
          have HZ:Hid (Besides rb w (w4.drewN nq)∧RR rb (w4.drewN nq) (some ⟨g,o,none⟩) c b (j + 1)):=⟨HN.out.2.trans (Besides.of_below hB),HN.out.1.heap hB⟩
          clear HN HV k0 k1 hconv hB
          go_wp2
          go_ret
          exact pcEnd.ok HE.out HZ.out.1 HZ.out.2
        · have HE:Hid (digs b en i = .bad j 22):=Lib.hid (by rw [HD.out,if_pos (.inr he)])
          have hz2:=u8_ne he
          clear HD he
          go_wp2_with fail
          refine (giveUp44 rb _ _ _).mono ?_
          rintro e w' ⟨rfl,rfl⟩
          exact ⟨rfl,pcEnd.bad HE.out HO3.out.2⟩
end Go.Proofs.YtdlnnnlmlaploabGreatDoor
