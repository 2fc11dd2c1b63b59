import Derived.Test.YtfjjpbebnoghmaaGreatDoorK00
import Derived.Test.YtfjjpbebnoghmaaGreatDoorK06
namespace Go.Proofs.YtfjjpbebnoghmaaGreatDoor
open Go.RowKit
theorem drop_snoc (l:List UInt8) (i j:Nat) (h:i + j < l.length):(l.drop i).take (j + 1) = (l.drop i).take j ++ [byt l (i + j)]:=by
  rw [take_snoc _ _ (by rw [List.length_drop]; omega),byt_drop]
set_option maxHeartbeats 1000000 in
theorem rrestT (w:World) (v:Value) (l:List UInt8) (i:Nat) (hi:i≤l.length) (hl:l.length≤140737488351232) (hr:RB w v l) :
    Calls Tryz.prog 75 #[v,.int .i64 (i:Int)] w fun e w'=>∃ v',e = .returned v'∧OW w.heap.size w' v' (l.drop i)∧Below w.heap.size w w':=by
  obtain ⟨a,c,rfl,hx⟩:∃ a c,v = .slice a l.length c∧(l = []∨∃ g o,a = some ⟨g,o,none⟩∧g < w.heap.size∧∀ i,i < l.length→w.cell? ⟨g,o + i,none⟩ = some (.int .u8 ((byt l i).toNat:Int))):=by
    obtain ⟨a,c,e,_,h⟩:=hr; exact ⟨a,c,e,h⟩
  have HX:Hid (l = []∨∃ g o,a = some ⟨g,o,none⟩∧g < w.heap.size∧∀ i,i < l.length→w.cell? ⟨g,o + i,none⟩ = some (.int .u8 ((byt l i).toNat:Int))):=hx
  clear hx hr
  go_enter Tryz.func75,Tryz.ntmps75
  go_wp2
  go_loopw [5,6] (fun v t wr=>∃ (k:Nat) (a:Option Addr) (n cp:Nat),k≤l.length - i∧t = .int .i64 ((i + k:Nat):Int)∧v = .slice a n cp∧Hid (OW w.heap.size wr v ((l.drop i).take k)∧Below w.heap.size w wr)) (fun _ t _=>l.length - (intOf t).toNat)
  case atStart=>exact ⟨0,_,_,_,Nat.zero_le _,by simp,rfl,World.ownsRow_nil _ _ _ _,Below.refl _ _⟩
  case round =>
    obtain ⟨k,a',n',cp,hk,rfl,rfl,hI⟩:=hrel
    by_cases hlt:i + k < l.length
    · rcases HX.out with hnil | ⟨b,off,rfl,hb,hc⟩
      · rw [hnil] at hlt; simp at hlt
      · have hck:wr.cell? ⟨b,off + (i + k),none⟩ = some (.int .u8 ((byt l (i + k)).toNat:Int)):=(hI.out.2.cell (p:=⟨b,off + (i + k),none⟩) hb).trans (hc (i + k) hlt)
        have HT:Hid ((l.drop i).take (k + 1) = (l.drop i).take k ++ [byt l (i + k)]∧((l.drop i).take k).length < 140737488351232):=⟨drop_snoc l i k hlt,by rw [List.length_take,List.length_drop]; omega⟩
        clear hc HX
        generalize byt l (i + k) = y at *
        generalize hj:i + k = j at *
        go_wp2_with (at_builtin; refine append_byte rfl _ _ rfl rfl (hI.out.1.alloc _) wr.heap.size y rfl (by go_simp) (by have:=hI.out.2.size; simp; omega) HT.out.2 ?_; intro v' w1 hown' hb1)
        obtain ⟨a2,n2,c2,rfl⟩:=hown'.form3
        have HB:Hid (OW w.heap.size w1 (.slice a2 n2 c2) ((l.drop i).take (k + 1))∧Below w.heap.size w w1):=⟨by rw [HT.out.1]; exact hown',(hI.out.2.alloc hI.out.2.size _).trans hb1⟩
        clear hI hb1 hown' HT
        go_wp2
        go_roundw
        case rel=>exact ⟨k + 1,a2,n2,c2,by omega,by rw [show i + (k + 1) = j + 1 by omega]; go_num,rfl,HB⟩
        case measure=>simp [intOf]; omega
    · have HB:Hid (OW w.heap.size wr (.slice a' n' cp) (l.drop i)∧Below w.heap.size w wr):=by
        have h1:=hI.out.1
        rw [List.take_of_length_le (by rw [List.length_drop]; omega)] at h1
        exact ⟨h1,hI.out.2⟩
      generalize hj:i + k = j at *
      clear hI
      go_wp2
      go_ret
      exact ⟨_,rfl,HB.out⟩
theorem results_hash {fn:Func} {p:Tmp} (h:fn.results = #[.cell p 25]) (tmps:Array Value) (w:World) (g:Nat) (r:List UInt8)
    (hp:tmps.getD p undef = .pointer (some ⟨g,0,none⟩)) (hg:w.heap[g]? = some (.cells (bc r) 25 (0,0))) (hs:r.length = 32):(results fn tmps).run Tryz.prog w = .ok (.agg (bc r)) w:=by
  have hp':tmps[p]?.getD undef = .pointer (some ⟨g,0,none⟩):=by simpa using hp
  have hi:(Tryz.prog.info? 25).map (·.size) = some (bc r).size:=by rw [bc_size,hs]; exact info_hash
  simp [results,h,hp',asAddr,run_loadVar_row w g 25 25 (bc r) (0,0) _ hg Tryz.underlying25 rfl hi]
set_option maxHeartbeats 1000000 in
set_option maxRecDepth 100000 in
theorem rrootT (w:World) (v:Value) (l:List UInt8) (i:Nat) (hi:i + 32≤l.length) (hl:l.length≤140737488351232) (hr:RB w v l) :
    Calls Tryz.prog 79 #[v,.int .i64 (i:Int)] w fun e w'=>e = .returned (.agg (bc ((l.drop i).take 32)))∧Below w.heap.size w w':=by
  obtain ⟨b,off,c,rfl,_,hc⟩:=hr.cells (by omega)
  have hb:b < w.heap.size:=World.block_lt_of_cell? w _ (hc 0 (by omega))
  have HC:Hid (∀ j,j < l.length→w.cell? ⟨b,off + j,none⟩ = some (.int .u8 ((byt l j).toNat:Int))):=hc
  clear hc hr
  have HX:Hid (((w.alloc (.cells z32a 25)).alloc (.cells z32a 25)).heap[w.heap.size]? = some (.cells z32a 25 (0,0))∧((w.alloc (.cells z32a 25)).alloc (.cells z32a 25)).heap[w.heap.size + 1]? = some (.cells (bc (zr 32)) 25 (0,0))∧Below w.heap.size w ((w.alloc (.cells z32a 25)).alloc (.cells z32a 25))):=by
    refine ⟨?_,?_,((Below.refl _ _).alloc (Nat.le_refl _) _).alloc (by simp) _⟩
    · rw [heapOld _ _ _ (by simp),heapNew]
    · exact heapLast _ _ (by simp)
  go_enter Tryz.func79,Tryz.ntmps79
  go_wp2
  generalize ((w.alloc (.cells z32a 25)).alloc (.cells z32a 25)) = X at *
  have hih:(Tryz.prog.info? 25).map (·.size) = some z32a.size:=info_hash
  go_loopw [6] (fun t wr=>∃ k:Nat,k≤32∧t = .int .i64 (k:Int)∧Hid (wr.heap[w.heap.size]? = some (.cells z32a 25 (0,0))∧wr.heap[w.heap.size + 1]? = some (.cells (bc ((l.drop i).take k ++ zr (32 - k))) 25 (0,0))∧Below w.heap.size w wr)) (fun t _=>32 - (intOf t).toNat)
  case atStart=>exact ⟨0,by omega,rfl,HX.out⟩
  case round =>
    obtain ⟨k,hk,rfl,hI⟩:=hrel
    by_cases hlt:k < 32
    · have hck:wr.cell? ⟨b,off + (i + k),none⟩ = some (.int .u8 ((byt l (i + k)).toNat:Int)):=(hI.out.2.2.cell (p:=⟨b,off + (i + k),none⟩) hb).trans (HC.out (i + k) (by omega))
      have hgk:=hI.out.2.1
      have hA:((l.drop i).take k).length = k:=by rw [List.length_take,List.length_drop]; omega
      have c5:wr.cell? ⟨w.heap.size + 1,k,none⟩ = some (.int .u8 0):=by
        have h1:=cell_bc hgk k (by rw [List.length_append,hA,zr_len]; omega)
        rw [h1]
        have e:byt ((l.drop i).take k ++ zr (32 - k)) k = 0:=by
          unfold byt
          rw [List.getD_eq_getElem?_getD,List.getElem?_append_right (by omega),hA,Nat.sub_self]
          simp only [zr,List.getElem?_replicate]
          split <;> rfl
        rw [e]; rfl
      have f5:wr.frozen? ⟨w.heap.size + 1,k,none⟩ = false:=by simp [World.frozen?,hgk]
      have HE:Hid ((wr.setCell ⟨w.heap.size + 1,k,none⟩ (.int .u8 ((byt l (i + k)).toNat:Int))).heap[w.heap.size]? = some (.cells z32a 25 (0,0))∧(wr.setCell ⟨w.heap.size + 1,k,none⟩ (.int .u8 ((byt l (i + k)).toNat:Int))).heap[w.heap.size + 1]? = some (.cells (bc ((l.drop i).take (k + 1) ++ zr (32 - (k + 1)))) 25 (0,0))∧Below w.heap.size w (wr.setCell ⟨w.heap.size + 1,k,none⟩ (.int .u8 ((byt l (i + k)).toNat:Int)))):=by
        have bb:=Besides.setCell wr (w.heap.size + 1) k (.int .u8 ((byt l (i + k)).toNat:Int))
        refine ⟨(bb.block _ (Array.getElem?_eq_some_iff.1 hI.out.1).1 (by omega)).trans hI.out.1,?_,bb.below hI.out.2.2 (by omega) hI.out.2.2.size⟩
        have hh:(wr.setCell ⟨w.heap.size + 1,k,none⟩ (.int .u8 ((byt l (i + k)).toNat:Int))).heap[w.heap.size + 1]? = some (.cells ((bc ((l.drop i).take k ++ zr (32 - k))).setIfInBounds k (.int .u8 ((byt l (i + k)).toNat:Int))) 25 (0,0)):=by
          show (wr.heap.modify (w.heap.size + 1) _)[w.heap.size + 1]? = _
          rw [Array.getElem?_modify,if_pos rfl,hgk]
          rfl
        rw [hh]
        congr 2
        rw [drop_snoc l i k (by omega)]
        apply Array.ext'
        have e2:zr (32 - k) = (0:UInt8) :: zr (32 - (k + 1)):=by
          unfold zr
          rw [show 32 - k = (32 - (k + 1)) + 1 by omega,List.replicate_succ]
        rw [e2]
        simp only [bc,Array.toList_setIfInBounds,bcl_append]
        rw [List.set_append_right _ _ (by rw [bcl_len,hA]; exact Nat.le_refl _),bcl_len,hA,Nat.sub_self]
        simp [Lib.byteCells]
      clear hI hgk hA HC
      generalize ((byt l (i + k)).toNat:Int) = y at *
      go_wp2
      exact ⟨⟨k + 1,by omega,by go_num,HE⟩,by simp [intOf]; omega⟩
    · obtain rfl:k = 32:=by omega
      have h1:=hI.out.2.1
      rw [Nat.sub_self,show zr 0 = [] from rfl,List.append_nil] at h1
      have hl32:((l.drop i).take 32).length = 32:=by rw [List.length_take,List.length_drop]; omega
      have HE:Hid (wr.heap[w.heap.size + 1]? = some (.cells (bc ((l.drop i).take 32)) 25 (0,0))∧Below w.heap.size w wr∧((l.drop i).take 32).length = 32):=⟨h1,hI.out.2.2,hl32⟩
      have hres:=hI.out.1
      clear hI
      generalize hR:(l.drop i).take 32 = R at *
      have HR:Hid ((l.drop i).take 32 = R):=hR
      clear hR
      have hiR:(Tryz.prog.info? 25).map (·.size) = some (bc R).size:=by rw [bc_size,hl32]; exact info_hash
      have hoR:=bc_one R
      have hsR:z32a.size = (bc R).size:=by rw [bc_size,hl32]; rfl
      go_wp2_with (first |(refine wpList_load_row rfl 25 _ rfl (w.heap.size + 1) rfl 25 (bc R) (0,0) _ h1 Tryz.underlying25 rfl hiR ?_) |(refine wpList_store_row rfl 25 _ _ rfl w.heap.size (bc R) rfl rfl 25 z32a hres hiR hsR hoR ?_))
      exact bodyPost_ret (results_hash Tryz.results79 _ _ w.heap.size R rfl (heapSetRow _ _ _ _ _ hres) HE.out.2.2) rfl ⟨by rw [HR.out],belowSetRow HE.out.2.1 (Nat.le_refl _) _⟩
end Go.Proofs.YtfjjpbebnoghmaaGreatDoor
