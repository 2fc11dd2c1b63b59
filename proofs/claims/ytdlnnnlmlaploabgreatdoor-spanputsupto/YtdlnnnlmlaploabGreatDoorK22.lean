import Derived.Test.YtdlnnnlmlaploabGreatDoorK20
import Derived.Test.YtdlnnnlmlaploabGreatDoorK21
import Derived.Test.YtdlnnnlmlaploabGreatDoorK06
import Derived.Test.YtdlnnnlmlaploabGreatDoorK18
namespace Go.Proofs.YtdlnnnlmlaploabGreatDoor
open Go.RowKit Go.Deep
theorem catN_lt {c:Nat → List UInt8}:∀ {n i:Nat},i < n → (catN c i).length + (c i).length ≤ (catN c n).length
  | 0,_,h=>by omega
  | n + 1,i,h=>by
    have e:(catN c (n + 1)).length = (catN c n).length + (c n).length:=by show (catN c n ++ c n).length = _; rw [List.length_append]
    rw [e]
    by_cases hi:i = n
    · subst hi; exact Nat.le_refl _
    · have:=catN_lt (c:=c) (n:=n) (i:=i) (by omega)
      omega
theorem ow_low {B' B:Nat} {w:World} {v:Value} {l:List UInt8} (hB:B' ≤ B) (h:OW B w v l):OW B' w v l:=by
  obtain ⟨h1,h⟩:=h
  refine ⟨h1,?_⟩
  rcases h with h | ⟨g,cap,cur,e,h2,h3⟩
  · exact .inl h
  · exact .inr ⟨g,cap,cur,e,Nat.le_trans hB h2,h3⟩
theorem rb_cut {w:World} {b:List UInt8} {g o c F U:Nat} (hcc:b.length ≤ c) (h1:F < U) (h2:U ≤ b.length) (hg:g < w.heap.size) (hc:∀ i,i < b.length → w.cell? ⟨g,o + i,none⟩ = some (.int .u8 ((byt b i).toNat:Int))):RB w (.slice (some ⟨g,o + F,none⟩) (U - F) (c - F)) ((b.drop F).take (U - F)):=by
  have hl:((b.drop F).take (U - F)).length = U - F:=by rw [List.length_take,List.length_drop]; omega
  refine ⟨_,c - F,by rw [hl],by omega,.inr ⟨g,o + F,rfl,hg,fun i hi=>?_⟩⟩
  rw [hl] at hi
  rw [Nat.add_assoc,hc (F + i) (by omega)]
  have e:byt ((b.drop F).take (U - F)) i = byt b (F + i):=by
    unfold byt
    simp [List.getD,List.getElem?_drop,hi]
  rw [e]
theorem empty_of' {s:ByteArray} (h:s.toList = []):ByteArray.empty = s:=by
  apply ba_ext
  have e:s.data.toList = []:=by rw [← ByteArray.toList_eq]; exact h
  rw [e]
  rfl
theorem run_written {t:T} (r:List UInt8) (hw:wk t 0 = 0) (hf:t.full) (hr:t.rng) (hok:t.ok):Run (txt t ++ r) (.go [] 0) (.val (nrm t) (txt t).length):=by
  have:=reads t (txt t ++ r) r [] 0 hw hf hr hok trivial rfl
  rw [Nat.zero_add] at this
  exact this
theorem dout_written {t:T} (hw:wk t 0 = 0) (hf:t.full) (hr:t.rng) (hok:t.ok) (hl:(txt t).length ≤ 1048576):DOUT (txt t) (nrm t) 0 0:=by
  have:=run_written [] hw hf hr hok
  rw [List.append_nil] at this
  exact .inl ⟨rfl,rfl,hl,_,this,Nat.le_refl _⟩
theorem wk_build {k n:Int} {s:ByteArray} {ln:Nat} {l:Nat → T} {dn:Nat} {ky:Nat → ByteArray} {dv:Nat → T} {ar:Int} (hO:ownB k n s ln dn = true) (h:3 ≤ k → ar < 32∧(∀ i,i < ln → wk (l i) (ar + 1) = 0)∧∀ i,i < dn → keyBad ky i = false∧wk (dv i) (ar + 1) = 0):wk (.mk k n s ln l dn ky dv) ar = 0:=by
  unfold wk
  rw [if_neg (by rw [hO]; decide)]
  by_cases hk:k < 3
  · rw [if_pos hk]
  · obtain ⟨h1,h2,h3⟩:=h (by omega)
    rw [if_neg hk,if_neg (by omega),if_neg (by rw [fstE_nil h2]; decide)]
    exact fstE_nil (fun i hi=>by rw [if_neg (by rw [(h3 i hi).1]; decide)]; exact (h3 i hi).2)
theorem wk_down:∀ (t:T) (ar:Int),wk t (ar + 1) = 0 → wk t ar = 0:=by
  intro t
  induction t with
  | no=>intro ar h; exact h
  | mk k n s ln l dn ky dv il id =>
    intro ar h
    obtain ⟨hO,hk⟩:=wk_mk h
    refine wk_build ((ownB_iff k n s ln dn).2 hO) fun h3=>?_
    obtain ⟨h1,h2,h4⟩:=hk h3
    exact ⟨by omega,fun i hi=>il i _ (h2 i hi),fun i hi=>⟨(h4 i hi).1,id i _ (h4 i hi).2⟩⟩
theorem wk_zero (t:T):∀ (n:Nat),wk t (n:Int) = 0 → wk t 0 = 0
  | 0,h=>h
  | n + 1,h=>wk_zero t n (wk_down t n (by rw [show ((n:Nat):Int) + 1 = ((n + 1:Nat):Int) by omega]; exact h))
def FrF (f:Fr):Prop:=(∀ t ∈ f.ls,t.full)∧∀ p ∈ f.ps,p.2.full
def FUL:Out → Prop
  | .go st _=>∀ f ∈ st,FrF f
  | .val t _=>t.full
  | .bad _ _=>True
theorem full_num (n:Int):(tNum n).full:=⟨fun _ hi=>absurd hi (Nat.not_lt_zero _),fun _ hi=>absurd hi (Nat.not_lt_zero _)⟩
theorem full_str (s:ByteArray):(tStr s).full:=⟨fun _ hi=>absurd hi (Nat.not_lt_zero _),fun _ hi=>absurd hi (Nat.not_lt_zero _)⟩
theorem getD_mem {α:Type} {l:List α} {a:α} {i:Nat} (h:i < l.length):l.getD i a ∈ l:=by
  rw [List.getD,List.getElem?_eq_getElem h]; exact List.getElem_mem h
theorem full_close {f:Fr} (h:FrF f):f.close.full:=by
  unfold Fr.close
  split
  · exact ⟨fun i hi=>absurd hi (Nat.not_lt_zero _),fun i hi=>h.2 _ (getD_mem hi)⟩
  · exact ⟨fun i hi=>h.1 _ (getD_mem hi),fun i hi=>absurd hi (Nat.not_lt_zero _)⟩
theorem ful_deliver {st:List Fr} {t:T} {j:Nat} (h:∀ f ∈ st,FrF f) (ht:t.full):FUL (deliver st t j):=by
  match st,h with
  | [],_=>exact ht
  | f :: r,h =>
    intro g hg
    rcases List.mem_cons.1 hg with rfl | hg
    · have hf:=h f (by simp)
      unfold Fr.join
      split
      · refine ⟨fun x hx=>(by cases hx),fun p hp=>?_⟩
        rcases List.mem_append.1 hp with hp | hp
        · exact hf.2 p hp
        · rw [List.mem_singleton.1 hp]; exact ht
      · refine ⟨fun x hx=>?_,fun p hp=>(by cases hp)⟩
        rcases List.mem_append.1 hx with hx | hx
        · exact hf.1 x hx
        · rw [List.mem_singleton.1 hx]; exact ht
    · exact h g (by simp [hg])
theorem ful_opn {b:List UInt8} {st:List Fr} {i:Nat} (h:∀ f ∈ st,FrF f):FUL (opn b st i):=by
  have op:∀ d,FUL (.go ({ d:=d } :: st) (i + 1)):=fun d g hg=>by
    rcases List.mem_cons.1 hg with rfl | hg
    · exact ⟨fun x hx=>(by cases hx),fun x hx=>(by cases hx)⟩
    · exact h g hg
  unfold opn
  split
  · split
    · trivial
    · exact op false
  · split
    · split
      · trivial
      · exact op true
    · unfold scal
      split
      · cases numb b i with
        | bad p e=>trivial
        | ok n j=>exact ful_deliver h (full_num n)
      · split
        · cases strg b i with
          | bad p e=>trivial
          | ok n j=>exact ful_deliver h (full_str n)
        · trivial
theorem ful_step {b:List UInt8} {st:List Fr} {i:Nat} (h:∀ f ∈ st,FrF f):FUL (step b st i):=by
  unfold step
  split
  · trivial
  · match st,h with
    | [],h=>exact ful_opn h
    | f :: r,h =>
      dsimp only
      have hc:FUL (deliver r f.close (i + 1)):=ful_deliver (fun g hg=>h g (by simp [hg])) (full_close (h f (by simp)))
      split
      · split
        · exact hc
        · unfold keyy
          split
          · trivial
          · cases strg b i with
            | bad p e=>trivial
            | ok s j =>
              dsimp only
              split
              · trivial
              · intro g hg
                rcases List.mem_cons.1 hg with rfl | hg
                · exact h f (by simp)
                · exact h g (by simp [hg])
      · split
        · exact hc
        · exact ful_opn h
theorem run_full {b:List UInt8} {o q:Out} (H:Run b o q):FUL o → FUL q:=by
  induction H with
  | refl o=>exact id
  | more _ ih=>exact fun h=>ih (ful_step h)
theorem dout_full {b:List UInt8} {t:T} {k:Nat} (hd:DOUT b t k 0):t.full:=by
  obtain ⟨n,hr⟩:=dout_run hd
  exact run_full hr (fun f hf=>by cases hf)
theorem ok_of:∀ (t:T),VT t → t.small → (txt t).length ≤ 1048576 → t.ok:=by
  intro t
  induction t with
  | no=>intro _ _ _; trivial
  | mk k n s ln l dn ky dv il id =>
    intro h hs hl
    have hg:=txt_ge h
    obtain ⟨o1,o2,o3,o4,o5,o6⟩:1 ≤ k∧k ≤ 4∧(k = 1 ∨ n = 0)∧(k = 2 ∨ s.toList = [])∧(k = 3 ∨ ln = 0)∧(k = 4 ∨ dn = 0):=of_decide_eq_true h.1
    have hsz:s.size ≤ 140737488351232:=by
      rcases o4 with rfl | e
      · have e:txt (.mk 2 n s ln l dn ky dv) = wtx s:=rfl
        have:=wtx_size s
        rw [e] at hl
        omega
      · rw [← empty_of' e]; decide
    refine ⟨hsz,by have:=hs.1; omega,by have:=hs.2.1; omega,fun i hi=>il i (h.2.1 i hi) (hs.2.2.1 i hi) ?_,fun i hi=>⟨?_,id i (h.2.2 i hi).2 (hs.2.2.2 i hi) ?_⟩⟩
    · have:=catN_lt (c:=fun i=>txt (l i)) hi
      omega
    · have:=catN_lt (c:=fun i=>wtx (ky i) ++ txt (dv i)) hi
      rw [List.length_append] at this
      have:=wtx_size (ky i)
      omega
    · have:=catN_lt (c:=fun i=>wtx (ky i) ++ txt (dv i)) hi
      rw [List.length_append] at this
      omega
def kyF (h:List Vi):List ByteArray:=h.foldl (fun ks v=>if v.dp = 1∧v.to ≠ 0 then ks ++ [v.ky] else ks) []
theorem kyF_snoc (h:List Vi) (v:Vi):kyF (h ++ [v]) = if v.dp = 1∧v.to ≠ 0 then kyF h ++ [v.ky] else kyF h:=by unfold kyF; rw [List.foldl_append]; rfl
def keysT:T → List ByteArray
  | .no=>[]
  | .mk _ _ _ _ _ dn ky _=>lsN ky dn
theorem lsN_map {l:List (ByteArray × T)}:lsN (fun i=>(l.getD i (ByteArray.empty,.no)).1) l.length = l.map (·.1):=by
  apply List.ext_getElem?
  intro i
  by_cases hi:i < l.length
  · have h1:i < (lsN (fun i=>(l.getD i (ByteArray.empty,.no)).1) l.length).length:=by rw [lsN_len]; exact hi
    have:=lsN_get (fun i=>(l.getD i (ByteArray.empty,.no)).1) ByteArray.empty hi
    rw [List.getD,List.getElem?_eq_getElem h1] at this
    rw [List.getElem?_eq_getElem h1,List.getElem?_map,List.getElem?_eq_getElem hi]
    simp only [Option.getD_some] at this
    rw [this]
    simp [List.getD,List.getElem?_eq_getElem hi]
  · rw [List.getElem?_eq_none (by rw [lsN_len]; omega),List.getElem?_eq_none (by simp; omega)]
theorem keys_dict (l:List (ByteArray × T)):keysT (tDict l) = l.map (·.1):=lsN_map
theorem info55s:(Tryz.prog.info? 55).map (·.size) = some 5:=by kernel_rfl
theorem results_cell55t {fn:Func} {p u:Tmp} (h:fn.results = #[.cell p 55,.tmp u]) (tmps:Array Value) (w:World) (g:Nat) (cs:Array Value)
    (hp:tmps.getD p undef = .pointer (some ⟨g,0,none⟩)) (hg:w.heap[g]? = some (.cells cs 55 (0,0))) (hs:cs.size = 5):(results fn tmps).run Tryz.prog w = .ok (.tuple #[.agg cs,tmps.getD u undef]) w:=by
  have hp':tmps[p]?.getD undef = .pointer (some ⟨g,0,none⟩):=by simpa using hp
  have hi:(Tryz.prog.info? 55).map (·.size) = some cs.size:=by rw [hs]; exact info55s
  simp [results,h,hp',asAddr,run_loadVar_row w g 55 55 cs (0,0) _ hg Tryz.underlying55 rfl hi]
def RS.i:RS → Nat
  | .val _ i _=>i
  | .mid _ i _=>i
theorem Rch.hlen {b:List UInt8} (hlim:b.length ≤ 1048576) {go:List Vi → Bool} {h:List Vi} {s:RS} (H:Rch b go h s):h.length ≤ s.i:=by
  induction H with
  | start=>exact Nat.le_refl _
  | @value h ls i n v ls' i' hr hv _ ih =>
    have hi:i ≤ b.length:=(hr.ok hlim).1
    have ih':h.length ≤ i:=ih
    rw [List.length_append,List.length_singleton]
    show h.length + 1 ≤ i'
    rcases hv with ⟨t,j,c1,c2,c3,_,_,rfl⟩ | ⟨_,_,_,_,rfl⟩
    · have:=leaf_pos hi hlim c1 c2 c3
      omega
    · omega
  | @part h l r i n l' i' _ _ hp ih =>
    have ih':h.length ≤ i:=ih
    show h.length ≤ i'
    rcases hp with ⟨_,_,rfl⟩ | ⟨_,_,t,j,_,_,_,rfl⟩ <;> omega
  | @close h l r i n _ _ _ _ ih =>
    have ih':h.length ≤ i:=ih
    rw [List.length_append,List.length_singleton]
    show h.length + 1 ≤ i + 1
    omega
theorem kyF_len (h:List Vi):(kyF h).length ≤ h.length:=by
  have:∀ (h:List Vi) (ks:List ByteArray),(h.foldl (fun ks v=>if v.dp = 1∧v.to ≠ 0 then ks ++ [v.ky] else ks) ks).length ≤ ks.length + h.length:=by
    intro h
    induction h with
    | nil=>intro ks; exact Nat.le_refl _
    | cons v r ih =>
      intro ks
      rw [List.foldl_cons]
      refine Nat.le_trans (ih _) ?_
      split
      · rw [List.length_append,List.length_singleton,List.length_cons]; omega
      · rw [List.length_cons]; omega
  have:=this h []
  unfold kyF
  simpa using this
structure HLaw (w:World) (W:World) (a:Option Addr) (c:Nat) (a1:Option Addr) (c1:Nat) (b:List UInt8) (pa:Option Addr) (pc:Nat) (pa1:Option Addr) (pc1:Nat) (p:List (Int × ByteArray)):Prop where
  rb:RB W (.slice a b.length c) b
  rc:RB W (.slice a1 b.length c1) b
  pp:PSA W.heap.size W (.slice pa p.length pc) p
  pw:PSA W.heap.size W (.slice pa1 p.length pc1) p
  ev:EVw W
  tb:TB W.heap.size W
  bel:Below w.heap.size w W
theorem HLaw.on {w W W':World} {a:Option Addr} {c:Nat} {a1:Option Addr} {c1:Nat} {b:List UInt8} {pa:Option Addr} {pc:Nat} {pa1:Option Addr} {pc1:Nat} {p:List (Int × ByteArray)} (h:HLaw w W a c a1 c1 b pa pc pa1 pc1 p) (hb:Below W.heap.size W W'):HLaw w W' a c a1 c1 b pa pc pa1 pc1 p:=
  ⟨h.rb.keep hb,h.rc.keep hb,h.pp.on hb,h.pw.on hb,h.ev.keep hb,tb_up (h.tb.on hb) hb.size,h.bel.trans (hb.mono h.bel.size)⟩
end Go.Proofs.YtdlnnnlmlaploabGreatDoor
