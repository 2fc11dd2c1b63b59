import Derived.Test.YtdlnnnlmlaploabGreatDoorK19
import Derived.Laws.AppendOwnNone
namespace Go.Proofs.YtdlnnnlmlaploabGreatDoor
open Go.RowKit Go.Deep
theorem append_bl {ops:Array Oper} {rest:List Oper} {o:Oper} {a:Act} {Q:Exit → Act → World → Prop} {w:World} {B:Nat} {sv v:Value} {l m:List UInt8} (hgd:o.guard = none) (s x:Operand)
    (ho:o.op = .call { callee:=.builtin .append,args:=#[s,x],argTypes:=#[22,22] }) (hs:a.eval s = sv) (hown:OW B w sv l) (hx:a.eval x = v) (hv:RB w v m) (shape:v = .slice none 0 0 ∨ ∃ ad n c,v = .slice (some ad) n c)
    (hB:B ≤ w.heap.size) (hlim:l.length + m.length ≤ 140737488351232)
    (h:∀ v' w',OW B w' v' (l ++ m) → Below B w w' → wpList Tryz.prog ops Q rest (a.put o.dst v') w'):wpList Tryz.prog ops Q (o :: rest) a w:=by
  obtain ⟨i0,hi,hz0,hz1,hz2⟩:=info_parts info5
  rcases shape with rfl | ⟨ad,n,c,rfl⟩
  · have hm:m = []:=by
      obtain ⟨a',c',he,_⟩:=hv
      cases m with
      | nil=>rfl
      | cons _ _=>simp at he
    subst hm
    exact wpList_append_own_none hgd s x 22 ho B 5 i0 1 Tryz.underlying22 hi sv l.length (Lib.byteCells l) hs hown hx (h sv w (by rw [List.append_nil]; exact hown) (Below.refl _ _))
  · obtain ⟨a',c',he,_,hcell⟩:=hv
    cases he
    refine wpList_append_own w hgd s x 22 ho B 5 i0 _ 1 1 Tryz.underlying22 hi hz0 hz1 hz2 rfl (by omega) sv l.length (Lib.byteCells l) hs hown ad m.length c (Lib.byteCells m) hx (by simp [Lib.byteCells]) (fun j u hu=>?_) (fun u hu=>?_) (by unfold maxLen; omega) (by omega) hB (fun v' w' h1 h2 _=>?_)
    · have hj:j < m.length:=by
        rcases Nat.lt_or_ge j m.length with h | h
        · exact h
        · rw [List.getElem?_eq_none (by simpa [Lib.byteCells] using h)] at hu; cases hu
      rcases hcell with h0 | ⟨b,o',hae,_,hc⟩
      · subst h0; simp at hj
      cases hae
      have hadd:(⟨b,o',none⟩:Addr).add j = ⟨b,o' + j,none⟩:=by unfold Addr.add; split <;> simp_all
      have e:byt m j = m[j]:=by unfold byt; simp [List.getD,List.getElem?_eq_getElem hj]
      rw [hadd,hc j hj,e]
      simpa [Lib.byteCells,List.getElem?_eq_getElem hj] using hu
    · simp [Lib.byteCells] at hu
      obtain ⟨i,_,rfl⟩:=hu
      rfl
    · refine h v' w' ?_ ((Below.refl B w).grown h2 hB (fun k hk=>(World.ownsRow.lt hown k hk).1))
      rw [bc_append] at h1
      unfold OW; rw [List.length_append]; exact h1
theorem ow_nil (B:Nat) (w:World):OW B w (.slice none 0 0) []:=World.ownsRow_nil _ _ _ _
set_option maxHeartbeats 1000000 in
theorem twin13 (v:Value) (l:List UInt8) (w:World) (h:RB w v l) (s:v = .slice none 0 0 ∨ ∃ ad n c,v = .slice (some ad) n c) (hlim:l.length ≤ 140737488351232) :
    Calls Tryz.prog 5 #[v] w fun e w'=>∃ v,e = .returned v∧OW w.heap.size w' v l∧Below w.heap.size w w':=by
  have H1:=Lib.hid h
  have S1:=Lib.hid s
  obtain ⟨a1,c1,rfl,_⟩:=h
  clear s
  go_enter Tryz.func5,Tryz.ntmps5
  go_wp2_with (at_builtin; refine append_bl (l:=[]) (m:=l) (B:=w.heap.size) (sv:=.slice none 0 0) (v:=.slice a1 l.length c1) rfl _ _ rfl rfl (ow_nil _ _) rfl H1.out S1.out (Nat.le_refl _) (by simp; omega) ?_; intro v8 w8 ho8 hb8; have O8:=Lib.hid (And.intro ho8 hb8); clear ho8 hb8)
  go_wp2
  go_ret
  exact ⟨_,rfl,O8.out⟩
end Go.Proofs.YtdlnnnlmlaploabGreatDoor
