import Derived.Test.YtdlnnnlmlaploabGreatDoorK07
namespace Go.Proofs.YtdlnnnlmlaploabGreatDoor
open Go.RowKit Go.Deep
set_option maxRecDepth 10000 in
set_option maxHeartbeats 40000000 in
theorem rd21B (a:Option Addr) (c:Nat) (b:List UInt8) (w:World) (H:Nat) (wr:World) (F K:Act → World → Prop) (HT:Hid (TX w a c b)) (hl:b.length ≤ 1048576) (HH:Hid (w.heap.size = H)) (r:List Fr) (f:Fr) (S:Nat → Prop) (j:Nat) (sa:Option Addr) (sc:Nat) (HI:Hid (RI b w H wr (.slice sa (r ++ [f]).length sc) (r ++ [f]) S j))
    (u3 u4 u7 u8 u9 u10 u11 u12 u13 u14 u15 u16 u17 u18 u19 u20 u21 u22 u23 u24 u25 u26 u27 u28 u29 u30 u31 u32 u33 u34 u35 u36 u37 u38 u39 u40 u41 u42 u43 u44 u45 u46 u47 u48 u49 u50 u51 u52 u53 u54 u55 u56 u57 u58 u59 u60 u61 u62 u63 u64 u65 u66 u67 u68 u69 u70 u71 u72 u73 u74 u75 u76 u77 u78 u79 u80 u81 u82 u83 u84 u85 u86 u87 u88 u89 u90 u91 u92 u93 u94 u95 u96 u97 u98 u99 u100 u101 u102 u103 u104 u105 u106 u107 u108 u109 u110 u111 u112 u113 u114 u115 u116 u117 u118 u119 u120 u121 u122 u123 u124 u125 u126 u127 u128 u129 u130 u131 u132 u133 u134 u135 u136 u137 u138 u139 u140 u141 u142 u143 u144 u145 u146 u147 u148 u149 u150 u151 u152 u153 u154 u155 u156 u157 u158 u159 u160 u161 u162 u163 u164 u165 u166 u167 u168 u169 u170 u171 u172 u173 u174 u175 u176 u177 u178 u179 u180 u181 u182 u183 u184 u185 u186 u187 u188 u189 u190 u191 u192 u193 u194 u195 u196 u197 u198 u199 u200 u201:Value) (hjn:j < b.length) (hfd:f.d = true) (hfh:f.has = false) (h101:¬ byt b j = 101)
    (HEnd:Hid (∀ (u3 u4 u7 u8 u9 u10 u11 u12 u13 u14 u15 u16 u17 u18 u19 u20 u21 u22 u23 u24 u25 u26 u27 u28 u29 u30 u31 u32 u33 u34 u35 u36 u37 u38 u39 u40 u41 u42 u43 u44 u45 u46 u47 u48 u49 u50 u51 u52 u53 u54 u55 u56 u57 u58 u59 u60 u61 u62 u63 u64 u65 u66 u67 u68 u69 u70 u71 u72 u73 u74 u75 u76 u77 u78 u79 u80 u81 u82 u83 u84 u85 u86 u87 u88 u89 u90 u91 u92 u93 u94 u95 u96 u97 u98 u99 u100 u101 u102 u103 u104 u105 u106 u107 u108 u109 u110 u111 u112 u113 u114 u115 u116 u117 u118 u119 u120 u121 u122 u123 u124 u125 u126 u127 u128 u129 u130 u131 u132 u133 u134 u135 u136 u137 u138 u139 u140 u141 u142 u143 u144 u145 u146 u147 u148 u149 u150 u151 u152 u153 u154 u155 u156 u157 u158 u159 u160 u161 u162 u163 u164 u165 u166 u167 u168 u169 u170 u171 u172 u173 u174 u175 u176 u177 u178 u179 u180 u181 u182 u183 u184 u185 u186 u187 u188 u189 u190 u191 u192 u193 u194 u195 u196 u197 u198 u199 u200 u201 sv:Value) (fs':List Fr) (S':Nat → Prop) (j':Nat) (w':World),Hid (RI b w H w' sv fs' S' j') → j < j' → F { tmps:=#[.slice a b.length c,undef,.pointer (some ⟨H,0,none⟩),u3,u4,sv,.int .i64 (j':Int),u7,u8,u9,u10,u11,u12,u13,u14,u15,u16,u17,u18,u19,u20,u21,u22,u23,u24,u25,u26,u27,u28,u29,u30,u31,u32,u33,u34,u35,u36,u37,u38,u39,u40,u41,u42,u43,u44,u45,u46,u47,u48,u49,u50,u51,u52,u53,u54,u55,u56,u57,u58,u59,u60,u61,u62,u63,u64,u65,u66,u67,u68,u69,u70,u71,u72,u73,u74,u75,u76,u77,u78,u79,u80,u81,u82,u83,u84,u85,u86,u87,u88,u89,u90,u91,u92,u93,u94,u95,u96,u97,u98,u99,u100,u101,u102,u103,u104,u105,u106,u107,u108,u109,u110,u111,u112,u113,u114,u115,u116,u117,u118,u119,u120,u121,u122,u123,u124,u125,u126,u127,u128,u129,u130,u131,u132,u133,u134,u135,u136,u137,u138,u139,u140,u141,u142,u143,u144,u145,u146,u147,u148,u149,u150,u151,u152,u153,u154,u155,u156,u157,u158,u159,u160,u161,u162,u163,u164,u165,u166,u167,u168,u169,u170,u171,u172,u173,u174,u175,u176,u177,u178,u179,u180,u181,u182,u183,u184,u185,u186,u187,u188,u189,u190,u191,u192,u193,u194,u195,u196,u197,u198,u199,u200,u201,undef,undef,undef],defers:=[] } w')) :
    Code.wp Tryz.prog (loopOf Tryz.f56) (Exit.then F (Exit.inBlock 0 (Exit.then K (bodyPost Tryz.prog Tryz.f56 fun e w'=>RQ b w w' e)))) { tmps:=#[.slice a b.length c,undef,.pointer (some ⟨H,0,none⟩),u3,u4,.slice sa (r ++ [f]).length sc,.int .i64 (j:Int),u7,u8,u9,u10,u11,u12,u13,u14,u15,u16,u17,u18,u19,u20,u21,u22,u23,u24,u25,u26,u27,u28,u29,u30,u31,u32,u33,u34,u35,u36,u37,u38,u39,u40,u41,u42,u43,u44,u45,u46,u47,u48,u49,u50,u51,u52,u53,u54,u55,u56,u57,u58,u59,u60,u61,u62,u63,u64,u65,u66,u67,u68,u69,u70,u71,u72,u73,u74,u75,u76,u77,u78,u79,u80,u81,u82,u83,u84,u85,u86,u87,u88,u89,u90,u91,u92,u93,u94,u95,u96,u97,u98,u99,u100,u101,u102,u103,u104,u105,u106,u107,u108,u109,u110,u111,u112,u113,u114,u115,u116,u117,u118,u119,u120,u121,u122,u123,u124,u125,u126,u127,u128,u129,u130,u131,u132,u133,u134,u135,u136,u137,u138,u139,u140,u141,u142,u143,u144,u145,u146,u147,u148,u149,u150,u151,u152,u153,u154,u155,u156,u157,u158,u159,u160,u161,u162,u163,u164,u165,u166,u167,u168,u169,u170,u171,u172,u173,u174,u175,u176,u177,u178,u179,u180,u181,u182,u183,u184,u185,u186,u187,u188,u189,u190,u191,u192,u193,u194,u195,u196,u197,u198,u199,u200,u201,undef,undef,undef],defers:=[] } wr:=by
  conv=>arg 2; whnf
  have hTX:=HT.out.keep (w':=wr) (by have h:=HI.out.2.1; have:=HH.out; rw [this]; exact h)
  obtain ⟨g,o,rfl,hcell⟩:=hTX.byte hjn
  have hc:=hcell j hjn
  have j0:(0:Int) ≤ (j:Int):=by omega
  have j1:(j:Int) < (b.length:Int):=by omega
  have HTX:=Lib.hid hTX
  have OB:Hid (obj (wr.alloc (Obj.cells #[.int .i64 0,.int .i64 0,.string { data:=#[] },.slice none 0 0,.slice none 0 0] 55)) H (.int .i64 0) (.int .i64 0) (.string { data:=#[] }) (.slice none 0 0) (.slice none 0 0)∧Below H w (wr.alloc (Obj.cells #[.int .i64 0,.int .i64 0,.string { data:=#[] },.slice none 0 0,.slice none 0 0] 55))∧TX (wr.alloc (Obj.cells #[.int .i64 0,.int .i64 0,.string { data:=#[] },.slice none 0 0,.slice none 0 0] 55)) (some ⟨g,o,none⟩) c b∧obj (wr.alloc (Obj.cells #[.int .i64 0,.int .i64 0,.string { data:=#[] },.slice none 0 0,.slice none 0 0] 55)) wr.heap.size (.int .i64 0) (.int .i64 0) (.string { data:=#[] }) (.slice none 0 0) (.slice none 0 0)∧Below wr.heap.size wr (wr.alloc (Obj.cells #[.int .i64 0,.int .i64 0,.string { data:=#[] },.slice none 0 0,.slice none 0 0] 55))):=by
    have hb1:Below wr.heap.size wr (wr.alloc (Obj.cells #[.int .i64 0,.int .i64 0,.string { data:=#[] },.slice none 0 0,.slice none 0 0] 55)):=(Below.refl _ _).alloc (Nat.le_refl _) _
    have hG:=HI.out.grow hb1
    exact ⟨hG.2.2.1,hG.2.1,hTX.keep hb1,heap_new _ _,hb1⟩
  clear hcell hTX
  obtain ⟨us,L,D,hsx⟩:=HI.out.1
  obtain ⟨gs,cap,hsv,hcap,hgB,hgl,⟨k0,k1,k2,k3,k4⟩,kfr,hF⟩:=hsx.top
  injection hsv with e1 e2 e3
  subst e1 e3
  have hlen:(r ++ [f]).length = r.length + 1:=by simp
  rw [hlen] at HI hsx ⊢
  have h32:=HI.out.2.2.2.2.2.2.1
  rw [hlen] at h32
  have HSX:=Lib.hid hsx
  have n0:(0:Int) ≤ (r.length:Int):=by omega
  have n1:(r.length:Int) < (r.length:Int) + 1:=by omega
  have n2:(r.length:Int) ≤ 31:=by omega
  have hrev:(r ++ [f]).reverse = f :: r.reverse:=by simp
  have HRUN:Hid (Run b (.go [] 0) (.go (f :: r.reverse) j)):=Lib.hid (hrev ▸ HI.out.2.2.2.2.1)
  obtain ⟨la,ln,lc,hLv⟩:∃ a n c,L r.length = .slice a n c:=frow_L hF
  obtain ⟨da,dn,dc,hDv⟩:∃ a n c,D r.length = .slice a n c:=frow_D hF
  have HF:=Lib.hid hF
  rw [hLv] at k1
  rw [hDv] at k2
  unfold kd at k0
  clear hsx hF e2 hlen hrev
  rw [hfd] at k0
  simp only [if_true] at k0
  have hfhE:=hfh
  rw [hfh] at k4
  have z101:(((byt b j).toNat:Int) == 101) = false:=beq_eq_false_iff_ne.2 (u8_ne h101)
  have hst:step b (f :: r.reverse) j = keyy b f r.reverse j:=by unfold step; rw [if_neg (by omega)]; dsimp only; rw [if_pos ⟨hfd,hfh⟩,if_neg h101]
  have hk0:=cell_alloc_old (o:=Obj.cells #[.int .i64 0,.int .i64 0,.string { data:=#[] },.slice none 0 0,.slice none 0 0] 55) k0
  have hk1:=cell_alloc_old (o:=Obj.cells #[.int .i64 0,.int .i64 0,.string { data:=#[] },.slice none 0 0,.slice none 0 0] 55) k1
  have hk2:=cell_alloc_old (o:=Obj.cells #[.int .i64 0,.int .i64 0,.string { data:=#[] },.slice none 0 0,.slice none 0 0] 55) k2
  have hk3:=cell_alloc_old (o:=Obj.cells #[.int .i64 0,.int .i64 0,.string { data:=#[] },.slice none 0 0,.slice none 0 0] 55) k3
  have hk4:=cell_alloc_old (o:=Obj.cells #[.int .i64 0,.int .i64 0,.string { data:=#[] },.slice none 0 0,.slice none 0 0] 55) k4
  have HLEN:=HI.out.2.2.2.2.2.1 f (by simp)
  go_wp2_with fail
  refine (digit36 _ _).mono ?_
  rintro e w3 ⟨rfl,rfl⟩
  cases hdg:dig (byt b j) with
  | false =>
    have HE:Hid (Run b (.go [] 0) (.bad j 22)):=Lib.hid (HRUN.out.trans (Run.one (by rw [hst,keyy_eq hjn,keyP,strg_nodig hjn hdg])))
    obtain ⟨c0,c1,c2,c3,c4⟩:=(OB.out.1).cells
    have cf0:=(OB.out.1).frozen 0
    have cf1:=(OB.out.1).frozen 1
    have cf2:=(OB.out.1).frozen 2
    have cf3:=(OB.out.1).frozen 3
    have cf4:=(OB.out.1).frozen 4
    go_wp2
    refine bodyPost_ret (v:=.tuple #[zV,.int .i64 (j:Nat),.int .i64 22]) (results_cell3 Tryz.results56 _ _ H _ rfl (((((((OB.out.1).set0 _).set1 _).set2 _).set3 _).set4 _)) rfl) rfl ?_
    exact ⟨by rw [HH.out]; exact below_set5 OB.out.2.1,.inr ⟨j,22,rfl,HE.out⟩⟩
  | true =>
    go_wp2_with fail
    refine (str37 _ c b j _ OB.out.2.2.1 hjn hdg).mono ?_
    rintro e w3 ⟨rfl,hp⟩
    cases hsg:strg b j with
    | bad p er =>
      rw [hsg] at hp
      have hp':e = .returned (.tuple #[.string { data:=#[] },.int .i64 (p:Nat),.int .i64 er]):=hp
      subst hp'
      have her:(er != 0) = true:=by rcases strg_er hsg with h | h | h <;> subst h <;> rfl
      have HE:Hid (Run b (.go [] 0) (.bad p er)):=Lib.hid (HRUN.out.trans (Run.one (by rw [hst,keyy_eq hjn,keyP,hsg])))
      clear hp
      obtain ⟨c0,c1,c2,c3,c4⟩:=(OB.out.1).cells
      have cf0:=(OB.out.1).frozen 0
      have cf1:=(OB.out.1).frozen 1
      have cf2:=(OB.out.1).frozen 2
      have cf3:=(OB.out.1).frozen 3
      have cf4:=(OB.out.1).frozen 4
      go_wp2
      refine bodyPost_ret (v:=.tuple #[zV,.int .i64 (p:Nat),.int .i64 er]) (results_cell3 Tryz.results56 _ _ H _ rfl (((((((OB.out.1).set0 _).set1 _).set2 _).set3 _).set4 _)) rfl) rfl ?_
      exact ⟨by rw [HH.out]; exact below_set5 OB.out.2.1,.inr ⟨p,er,rfl,HE.out⟩⟩
    | ok s j2 =>
      rw [hsg] at hp
      have hp':e = .returned (.tuple #[.string s,.int .i64 (j2:Nat),.int .i64 0]):=hp
      subst hp'
      clear hp
      have hj3:=strg_lt hsg
      have HK:Hid (keyy b f r.reverse j = if f.ps ≠ []∧leB s (lastK f.ps) = true then .bad j 25 else .go ({ f with key:=s,has:=true } :: r.reverse) j2):=Lib.hid (by
        rw [keyy_eq hjn,keyP,hsg]
        dsimp only
        by_cases h:f.ps ≠ []∧leB s (lastK f.ps) = true
        · rw [if_pos h,if_pos h]
        · rw [if_neg h,if_neg h])
      have HFP:Hid (PRow (H + 1) S wr (.slice da dn dc) f.ps):=by
        rcases HF.out with ⟨_,_,_,h⟩ | ⟨h,_⟩
        · rw [hDv] at h; exact h
        · rw [hfd] at h; cases h
      have HGO:∀ A O,Hid (keyy b f r.reverse j = .go ({ f with key:=s,has:=true } :: r.reverse) j2) → Hid (RI b w H ((((wr.setCell ⟨gs,r.length * 5 + 3,none⟩ (.string s)).setCell ⟨gs,r.length * 5 + 4,none⟩ (.bool true)).alloc A).alloc O) (.slice (some ⟨gs,0,none⟩) (r.length + 1) sc) (r ++ [{ f with key:=s,has:=true }]) S j2):=fun A O h=>Lib.hid (HI.out.keyed HSX.out hfd hgB s A O hj3.1 hj3.2.2 (hst.trans h.out))
      by_cases hn:f.ps = []
      · have HE:Hid (keyy b f r.reverse j = .go ({ f with key:=s,has:=true } :: r.reverse) j2):=Lib.hid (by rw [HK.out,if_neg (by simp [hn])])
        have hz:dn = 0:=by
          obtain ⟨us',q1,_⟩:=HFP.out
          obtain ⟨a',c',e⟩:=ownForm q1
          injection e with _ e2 _
          rw [e2,hn]; rfl
        clear hsg HK HFP hst hn
        rw [hz] at hk2 k2
        go_wp2
        exact HEnd.out _ _ _ _ _ _ _ _ _ _ _ _ _ _ _ _ _ _ _ _ _ _ _ _ _ _ _ _ _ _ _ _ _ _ _ _ _ _ _ _ _ _ _ _ _ _ _ _ _ _ _ _ _ _ _ _ _ _ _ _ _ _ _ _ _ _ _ _ _ _ _ _ _ _ _ _ _ _ _ _ _ _ _ _ _ _ _ _ _ _ _ _ _ _ _ _ _ _ _ _ _ _ _ _ _ _ _ _ _ _ _ _ _ _ _ _ _ _ _ _ _ _ _ _ _ _ _ _ _ _ _ _ _ _ _ _ _ _ _ _ _ _ _ _ _ _ _ _ _ _ _ _ _ _ _ _ _ _ _ _ _ _ _ _ _ _ _ _ _ _ _ _ _ _ _ _ _ _ _ _ _ _ _ _ _ _ _ _ _ _ _ _ _ _ _ _ _ _ _ _ (j2) _ (HGO _ _ HE) (by omega)
      · obtain ⟨gd,hda,hdn,hgd,hgdn,hcell⟩:=HFP.out.last hn
        have hgdH:gd ≠ gs:=fun e=>by
          obtain ⟨q1,q2,q3⟩:=HSX.out
          have q:=(q2 r.length (by simp)).2.2 gd (by
            simp only [getD_snoc_eq]
            unfold rowOf; rw [if_pos hfd,hDv,hda]; rfl)
          rw [e] at q
          exact q.1 rfl
        have hcell2:=cell_alloc_old (o:=Obj.cells #[.int .i64 0,.int .i64 0,.string { data:=#[] },.slice none 0 0,.slice none 0 0] 55) hcell
        subst hda
        obtain ⟨m,hm⟩:∃ m,f.ps.length = m + 1:=⟨f.ps.length - 1,by have:=List.length_pos_iff.2 hn; omega⟩
        rw [hdn,hm] at hk2 k2
        rw [hm] at hcell hcell2
        simp only [Nat.add_sub_cancel] at hcell hcell2
        have m0:(0:Int) ≤ (m:Int):=by omega
        have m1:(m:Int) ≤ 1048576:=by omega
        have HL:Hid (f.ps ≠ []):=hn
        clear hn hm HLEN
        cases hle:leB s (lastK f.ps) with
        | true =>
          have HE:Hid (Run b (.go [] 0) (.bad j 25)):=Lib.hid (HRUN.out.trans (Run.one (by rw [hst,HK.out,if_pos ⟨HL.out,hle⟩])))
          have hlb:Op.bytesLess (lastK f.ps).toList s.toList = false:=by
            have q:=(bytes_tri s.toList (lastK f.ps).toList).trans hle
            simpa using q
          have OB4:Hid (∀ ob,obj ((wr.alloc (Obj.cells #[.int .i64 0,.int .i64 0,.string { data:=#[] },.slice none 0 0,.slice none 0 0] 55)).alloc ob) H (.int .i64 0) (.int .i64 0) (.string { data:=#[] }) (.slice none 0 0) (.slice none 0 0)∧Below H w ((wr.alloc (Obj.cells #[.int .i64 0,.int .i64 0,.string { data:=#[] },.slice none 0 0,.slice none 0 0] 55)).alloc ob)):=Lib.hid fun ob=>⟨OB.out.1.keep (Below.heap_alloc _ _ _ OB.out.1.lt),OB.out.2.1.alloc (Nat.le_of_lt OB.out.1.lt) _⟩
          clear hle HK HGO
          obtain ⟨c0,c1,c2,c3,c4⟩:=((OB4.out (Obj.cells #[.int .i64 4,.slice la ln lc,.slice (some ⟨gd,0,none⟩) (m + 1) dc,.string f.key,.bool false] 111)).1).cells
          have cf0:=((OB4.out (Obj.cells #[.int .i64 4,.slice la ln lc,.slice (some ⟨gd,0,none⟩) (m + 1) dc,.string f.key,.bool false] 111)).1).frozen 0
          have cf1:=((OB4.out (Obj.cells #[.int .i64 4,.slice la ln lc,.slice (some ⟨gd,0,none⟩) (m + 1) dc,.string f.key,.bool false] 111)).1).frozen 1
          have cf2:=((OB4.out (Obj.cells #[.int .i64 4,.slice la ln lc,.slice (some ⟨gd,0,none⟩) (m + 1) dc,.string f.key,.bool false] 111)).1).frozen 2
          have cf3:=((OB4.out (Obj.cells #[.int .i64 4,.slice la ln lc,.slice (some ⟨gd,0,none⟩) (m + 1) dc,.string f.key,.bool false] 111)).1).frozen 3
          have cf4:=((OB4.out (Obj.cells #[.int .i64 4,.slice la ln lc,.slice (some ⟨gd,0,none⟩) (m + 1) dc,.string f.key,.bool false] 111)).1).frozen 4
          go_wp2
          refine bodyPost_ret (v:=.tuple #[zV,.int .i64 (j:Nat),.int .i64 25]) (results_cell3 Tryz.results56 _ _ H _ rfl ((((((((OB4.out (Obj.cells #[.int .i64 4,.slice la ln lc,.slice (some ⟨gd,0,none⟩) (m + 1) dc,.string f.key,.bool false] 111)).1).set0 _).set1 _).set2 _).set3 _).set4 _)) rfl) rfl ?_
          exact ⟨by rw [HH.out]; exact below_set5 (OB4.out (Obj.cells #[.int .i64 4,.slice la ln lc,.slice (some ⟨gd,0,none⟩) (m + 1) dc,.string f.key,.bool false] 111)).2,.inr ⟨j,25,rfl,HE.out⟩⟩
        | false =>
          have HE:Hid (keyy b f r.reverse j = .go ({ f with key:=s,has:=true } :: r.reverse) j2):=Lib.hid (by rw [HK.out,if_neg (by simp [hle])])
          have hlb:Op.bytesLess (lastK f.ps).toList s.toList = true:=by
            have q:=(bytes_tri s.toList (lastK f.ps).toList).trans hle
            simpa using q
          clear hle HK
          go_wp2
          exact HEnd.out _ _ _ _ _ _ _ _ _ _ _ _ _ _ _ _ _ _ _ _ _ _ _ _ _ _ _ _ _ _ _ _ _ _ _ _ _ _ _ _ _ _ _ _ _ _ _ _ _ _ _ _ _ _ _ _ _ _ _ _ _ _ _ _ _ _ _ _ _ _ _ _ _ _ _ _ _ _ _ _ _ _ _ _ _ _ _ _ _ _ _ _ _ _ _ _ _ _ _ _ _ _ _ _ _ _ _ _ _ _ _ _ _ _ _ _ _ _ _ _ _ _ _ _ _ _ _ _ _ _ _ _ _ _ _ _ _ _ _ _ _ _ _ _ _ _ _ _ _ _ _ _ _ _ _ _ _ _ _ _ _ _ _ _ _ _ _ _ _ _ _ _ _ _ _ _ _ _ _ _ _ _ _ _ _ _ _ _ _ _ _ _ _ _ _ _ _ _ _ _ (j2) _ (HGO _ _ HE) (by omega)
end Go.Proofs.YtdlnnnlmlaploabGreatDoor
