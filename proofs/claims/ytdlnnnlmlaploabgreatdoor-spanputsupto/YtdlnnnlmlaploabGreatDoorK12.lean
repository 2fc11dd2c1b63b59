import Derived.Test.YtdlnnnlmlaploabGreatDoorK07
namespace Go.Proofs.YtdlnnnlmlaploabGreatDoor
open Go.RowKit Go.Deep
set_option maxRecDepth 10000 in
set_option maxHeartbeats 40000000 in
theorem rd21P (a:Option Addr) (c:Nat) (b:List UInt8) (w:World) (H:Nat) (wr:World) (F K:Act → World → Prop) (HT:Hid (TX w a c b)) (hl:b.length ≤ 1048576) (HH:Hid (w.heap.size = H)) (r:List Fr) (f:Fr) (S:Nat → Prop) (j:Nat) (sa:Option Addr) (sc:Nat) (HI:Hid (RI b w H wr (.slice sa (r ++ [f]).length sc) (r ++ [f]) S j))
    (u3 u4 u7 u8 u9 u10 u11 u12 u13 u14 u15 u16 u17 u18 u19 u20 u21 u22 u23 u24 u25 u26 u27 u28 u29 u30 u31 u32 u33 u34 u35 u36 u37 u38 u39 u40 u41 u42 u43 u44 u45 u46 u47 u48 u49 u50 u51 u52 u53 u54 u55 u56 u57 u58 u59 u60 u61 u62 u63 u64 u65 u66 u67 u68 u69 u70 u71 u72 u73 u74 u75 u76 u77 u78 u79 u80 u81 u82 u83 u84 u85 u86 u87 u88 u89 u90 u91 u92 u93 u94 u95 u96 u97 u98 u99 u100 u101 u102 u103 u104 u105 u106 u107 u108 u109 u110 u111 u112 u113 u114 u115 u116 u117 u118 u119 u120 u121 u122 u123 u124 u125 u126 u127 u128 u129 u130 u131 u132 u133 u134 u135 u136 u137 u138 u139 u140 u141 u142 u143 u144 u145 u146 u147 u148 u149 u150 u151 u152 u153 u154 u155 u156 u157 u158 u159 u160 u161 u162 u163 u164 u165 u166 u167 u168 u169 u170 u171 u172 u173 u174 u175 u176 u177 u178 u179 u180 u181 u182 u183 u184 u185 u186 u187 u188 u189 u190 u191 u192 u193 u194 u195 u196 u197 u198 u199 u200 u201:Value) (hjn:j < b.length) (hfd:f.d = false) (h101:byt b j = 101)
    (HEnd:Hid (∀ (u3 u4 u7 u8 u9 u10 u11 u12 u13 u14 u15 u16 u17 u18 u19 u20 u21 u22 u23 u24 u25 u26 u27 u28 u29 u30 u31 u32 u33 u34 u35 u36 u37 u38 u39 u40 u41 u42 u43 u44 u45 u46 u47 u48 u49 u50 u51 u52 u53 u54 u55 u56 u57 u58 u59 u60 u61 u62 u63 u64 u65 u66 u67 u68 u69 u70 u71 u72 u73 u74 u75 u76 u77 u78 u79 u80 u81 u82 u83 u84 u85 u86 u87 u88 u89 u90 u91 u92 u93 u94 u95 u96 u97 u98 u99 u100 u101 u102 u103 u104 u105 u106 u107 u108 u109 u110 u111 u112 u113 u114 u115 u116 u117 u118 u119 u120 u121 u122 u123 u124 u125 u126 u127 u128 u129 u130 u131 u132 u133 u134 u135 u136 u137 u138 u139 u140 u141 u142 u143 u144 u145 u146 u147 u148 u149 u150 u151 u152 u153 u154 u155 u156 u157 u158 u159 u160 u161 u162 u163 u164 u165 u166 u167 u168 u169 u170 u171 u172 u173 u174 u175 u176 u177 u178 u179 u180 u181 u182 u183 u184 u185 u186 u187 u188 u189 u190 u191 u192 u193 u194 u195 u196 u197 u198 u199 u200 u201 sv:Value) (fs':List Fr) (S':Nat → Prop) (j':Nat) (w':World),Hid (RI b w H w' sv fs' S' j') → j < j' → F { tmps:=#[.slice a b.length c,undef,.pointer (some ⟨H,0,none⟩),u3,u4,sv,.int .i64 (j':Int),u7,u8,u9,u10,u11,u12,u13,u14,u15,u16,u17,u18,u19,u20,u21,u22,u23,u24,u25,u26,u27,u28,u29,u30,u31,u32,u33,u34,u35,u36,u37,u38,u39,u40,u41,u42,u43,u44,u45,u46,u47,u48,u49,u50,u51,u52,u53,u54,u55,u56,u57,u58,u59,u60,u61,u62,u63,u64,u65,u66,u67,u68,u69,u70,u71,u72,u73,u74,u75,u76,u77,u78,u79,u80,u81,u82,u83,u84,u85,u86,u87,u88,u89,u90,u91,u92,u93,u94,u95,u96,u97,u98,u99,u100,u101,u102,u103,u104,u105,u106,u107,u108,u109,u110,u111,u112,u113,u114,u115,u116,u117,u118,u119,u120,u121,u122,u123,u124,u125,u126,u127,u128,u129,u130,u131,u132,u133,u134,u135,u136,u137,u138,u139,u140,u141,u142,u143,u144,u145,u146,u147,u148,u149,u150,u151,u152,u153,u154,u155,u156,u157,u158,u159,u160,u161,u162,u163,u164,u165,u166,u167,u168,u169,u170,u171,u172,u173,u174,u175,u176,u177,u178,u179,u180,u181,u182,u183,u184,u185,u186,u187,u188,u189,u190,u191,u192,u193,u194,u195,u196,u197,u198,u199,u200,u201,undef,undef,undef],defers:=[] } w')) :
    Code.wp Tryz.prog (loopOf Tryz.f56) (Exit.then F (Exit.inBlock 0 (Exit.then K (bodyPost Tryz.prog Tryz.f56 fun e w'=>RQ b w w' e)))) { tmps:=#[.slice a b.length c,undef,.pointer (some ⟨H,0,none⟩),u3,u4,.slice sa (r ++ [f]).length sc,.int .i64 (j:Int),u7,u8,u9,u10,u11,u12,u13,u14,u15,u16,u17,u18,u19,u20,u21,u22,u23,u24,u25,u26,u27,u28,u29,u30,u31,u32,u33,u34,u35,u36,u37,u38,u39,u40,u41,u42,u43,u44,u45,u46,u47,u48,u49,u50,u51,u52,u53,u54,u55,u56,u57,u58,u59,u60,u61,u62,u63,u64,u65,u66,u67,u68,u69,u70,u71,u72,u73,u74,u75,u76,u77,u78,u79,u80,u81,u82,u83,u84,u85,u86,u87,u88,u89,u90,u91,u92,u93,u94,u95,u96,u97,u98,u99,u100,u101,u102,u103,u104,u105,u106,u107,u108,u109,u110,u111,u112,u113,u114,u115,u116,u117,u118,u119,u120,u121,u122,u123,u124,u125,u126,u127,u128,u129,u130,u131,u132,u133,u134,u135,u136,u137,u138,u139,u140,u141,u142,u143,u144,u145,u146,u147,u148,u149,u150,u151,u152,u153,u154,u155,u156,u157,u158,u159,u160,u161,u162,u163,u164,u165,u166,u167,u168,u169,u170,u171,u172,u173,u174,u175,u176,u177,u178,u179,u180,u181,u182,u183,u184,u185,u186,u187,u188,u189,u190,u191,u192,u193,u194,u195,u196,u197,u198,u199,u200,u201,undef,undef,undef],defers:=[] } wr:=by
  conv=>arg 2; whnf
  have hTX:=HT.out.keep (w':=wr) (by have h:=HI.out.2.1; have:=HH.out; rw [this]; exact h)
  obtain ⟨g,o,rfl,hcell⟩:=hTX.byte hjn
  have hc:=hcell j hjn
  have j0:(0:Int) ≤ (j:Int):=by omega
  have j1:(j:Int) < (b.length:Int):=by omega
  have HTX:=Lib.hid hTX
  have OB:Hid (obj (wr.alloc (Obj.cells #[.int .i64 0,.int .i64 0,.string { data:=#[] },.slice none 0 0,.slice none 0 0] 55)) H (.int .i64 0) (.int .i64 0) (.string { data:=#[] }) (.slice none 0 0) (.slice none 0 0)∧Below H w (wr.alloc (Obj.cells #[.int .i64 0,.int .i64 0,.string { data:=#[] },.slice none 0 0,.slice none 0 0] 55))∧TX (wr.alloc (Obj.cells #[.int .i64 0,.int .i64 0,.string { data:=#[] },.slice none 0 0,.slice none 0 0] 55)) (some ⟨g,o,none⟩) c b∧obj (wr.alloc (Obj.cells #[.int .i64 0,.int .i64 0,.string { data:=#[] },.slice none 0 0,.slice none 0 0] 55)) wr.heap.size (.int .i64 0) (.int .i64 0) (.string { data:=#[] }) (.slice none 0 0) (.slice none 0 0)∧Below wr.heap.size wr (wr.alloc (Obj.cells #[.int .i64 0,.int .i64 0,.string { data:=#[] },.slice none 0 0,.slice none 0 0] 55))):=by
    have hb1:Below wr.heap.size wr (wr.alloc (Obj.cells #[.int .i64 0,.int .i64 0,.string { data:=#[] },.slice none 0 0,.slice none 0 0] 55)):=(Below.refl _ _).alloc (Nat.le_refl _) _
    have hG:=HI.out.grow hb1
    exact ⟨hG.2.2.1,hG.2.1,hTX.keep hb1,heap_new _ _,hb1⟩
  clear hcell hTX
  obtain ⟨us,L,D,hsx⟩:=HI.out.1
  obtain ⟨gs,cap,hsv,hcap,hgB,hgl,⟨k0,k1,k2,k3,k4⟩,kfr,hF⟩:=hsx.top
  injection hsv with e1 e2 e3
  subst e1 e3
  have hlen:(r ++ [f]).length = r.length + 1:=by simp
  rw [hlen] at HI hsx ⊢
  have h32:=HI.out.2.2.2.2.2.2.1
  rw [hlen] at h32
  have HSX:=Lib.hid hsx
  have n0:(0:Int) ≤ (r.length:Int):=by omega
  have n1:(r.length:Int) < (r.length:Int) + 1:=by omega
  have n2:(r.length:Int) ≤ 31:=by omega
  have hrev:(r ++ [f]).reverse = f :: r.reverse:=by simp
  have HRUN:Hid (Run b (.go [] 0) (.go (f :: r.reverse) j)):=Lib.hid (hrev ▸ HI.out.2.2.2.2.1)
  obtain ⟨la,ln,lc,hLv⟩:∃ a n c,L r.length = .slice a n c:=frow_L hF
  obtain ⟨da,dn,dc,hDv⟩:∃ a n c,D r.length = .slice a n c:=frow_D hF
  have HF:=Lib.hid hF
  rw [hLv] at k1
  rw [hDv] at k2
  unfold kd at k0
  clear hsx hF e2 hlen hrev
  rw [hfd] at k0
  simp only [Bool.false_eq_true,if_false] at k0
  have hfh:f.has = false:=by
    rcases HF.out with ⟨h,_⟩ | ⟨_,_,_,_,h,_⟩
    · rw [hfd] at h; cases h
    · exact h
  have hfhE:=hfh
  rw [hfh] at k4
  rw [h101] at hc
  have hk0:=cell_alloc_old (o:=Obj.cells #[.int .i64 0,.int .i64 0,.string { data:=#[] },.slice none 0 0,.slice none 0 0] 55) k0
  have hk1:=cell_alloc_old (o:=Obj.cells #[.int .i64 0,.int .i64 0,.string { data:=#[] },.slice none 0 0,.slice none 0 0] 55) k1
  have hk2:=cell_alloc_old (o:=Obj.cells #[.int .i64 0,.int .i64 0,.string { data:=#[] },.slice none 0 0,.slice none 0 0] 55) k2
  have hk3:=cell_alloc_old (o:=Obj.cells #[.int .i64 0,.int .i64 0,.string { data:=#[] },.slice none 0 0,.slice none 0 0] 55) k3
  have hk4:=cell_alloc_old (o:=Obj.cells #[.int .i64 0,.int .i64 0,.string { data:=#[] },.slice none 0 0,.slice none 0 0] 55) k4
  have HST:Hid (step b (f :: r.reverse) j = deliver r.reverse f.close (j + 1)):=Lib.hid (by unfold step; rw [if_neg (by omega)]; dsimp only; rw [if_neg (by simp [hfd]),if_pos ⟨hfd,h101⟩])
  go_wp2_with fail
  generalize (wr.alloc (Obj.cells #[.int .i64 0,.int .i64 0,.string { data:=#[] },.slice none 0 0,.slice none 0 0] 55)) = wv at *
  generalize hVB:wr.heap.size = VB at *
  have HCL:=Lib.hid (closed35 false f.key false wv la da ln lc dn dc)
  simp only [Bool.false_eq_true,if_false] at HCL
  refine HCL.out.mono ?_
  rintro e w2 ⟨hb2,rfl⟩
  have hle1:H ≤ VB:=by have:=HI.out.2.2.2.2.2.2.2; omega
  have hne1:VB ≠ H:=by have:=HI.out.2.2.2.2.2.2.2; omega
  have hne2:H ≠ VB:=fun e=>hne1 e.symm
  have OB2:Hid (obj w2 H (.int .i64 0) (.int .i64 0) (.string { data:=#[] }) (.slice none 0 0) (.slice none 0 0)∧Below H w w2∧obj w2 VB (.int .i64 0) (.int .i64 0) (.string { data:=#[] }) (.slice none 0 0) (.slice none 0 0)∧Below VB wr w2):=by
    have q:=OB.out
    have hHv:=q.1.lt
    have hVv:=q.2.2.2.1.lt
    exact ⟨q.1.keep (hb2.block _ q.1.lt),q.2.1.trans (hb2.mono (by omega)),q.2.2.2.1.keep (hb2.block _ q.2.2.2.1.lt),q.2.2.2.2.trans (hb2.mono (by omega))⟩
  obtain ⟨S',HS1,HS2,HS3⟩:=HSX.out.pop
  have HRVC:Hid (RV S' wr f.close (.slice la ln lc) (.slice none 0 0)):=by
    have h:=(HS3 hfd).2; rw [hLv] at h; rw [show f.close = tList f.ls from by unfold Fr.close; rw [if_neg (by rw [hfd]; decide)]]; exact h
  have HSI':=Lib.hid HS1
  have HTC:Hid (f.close.k = 3∧f.close.n = 0∧f.close.s = ByteArray.empty):=by rw [show f.close = tList f.ls from by unfold Fr.close; rw [if_neg (by rw [hfd]; decide)]]; exact ⟨rfl,rfl,rfl⟩
  clear hk0 hk1 hk2 hk3 hk4 k0 k1 k2 k3 k4 HCL HS1 HS2 HS3 hb2
  obtain ⟨d0,d1,d2,d3,d4⟩:=(OB2.out.2.2.1).cells
  have df0:=(OB2.out.2.2.1).frozen 0
  have df1:=(OB2.out.2.2.1).frozen 1
  have df2:=(OB2.out.2.2.1).frozen 2
  have df3:=(OB2.out.2.2.1).frozen 3
  have df4:=(OB2.out.2.2.1).frozen 4
  obtain ⟨c0,c1,c2,c3,c4⟩:=(OB2.out.1).cells
  have cf0:=(OB2.out.1).frozen 0
  have cf1:=(OB2.out.1).frozen 1
  have cf2:=(OB2.out.1).frozen 2
  have cf3:=(OB2.out.1).frozen 3
  have cf4:=(OB2.out.1).frozen 4
  rcases List.eq_nil_or_concat r with hr | ⟨r1,f1,hr⟩
  · have hr0:r.length = 0:=by rw [hr]; rfl
    have HE:Hid (Run b (.go [] 0) (.val f.close (j + 1))):=Lib.hid (HRUN.out.trans (Run.one (by rw [HST.out,hr]; rfl)))
    rw [hr0]
    clear hr
    go_wp2
    refine bodyPost_ret (v:=.tuple #[.agg #[.int .i64 3,.int .i64 0,.string { data:=#[] },(.slice la ln lc),(.slice none 0 0)],.int .i64 ((j:Int) + 1),.int .i64 0]) (results_cell3 Tryz.results56 _ _ H _ rfl ((((((obj_set5 hne2 OB2.out.1).set0 _).set1 _).set2 _).set3 _).set4 _) rfl) rfl ?_
    exact ⟨by rw [HH.out]; exact below_set5 (below_set5v hle1 OB2.out.2.1),.inl ⟨f.close,(.slice la ln lc),(.slice none 0 0),j + 1,vv_close HTC.out,(by rw [HH.out]; exact rv_end HRVC.out (SI.S HSI'.out) OB2.out.2.2.2 hVB),HE.out⟩⟩
  · rw [List.concat_eq_append] at hr
    have hrl:r.length = r1.length + 1:=by rw [hr]; simp
    have hsx0:=HSI'.out
    rw [hrl,hr] at hsx0
    obtain ⟨us1,L1,D1,hsx1⟩:=hsx0
    have HF1:Hid (FRow (H + 1) S' wr f1 (L1 r1.length) (D1 r1.length)):=by
      obtain ⟨_,_,_,_,_,_,_,_,hF1⟩:=hsx1.top
      exact hF1
    have hRUN2:Hid (Run b (.go [] 0) (.go (f1.join f.close :: r1.reverse) (j + 1))):=Lib.hid (HRUN.out.trans (Run.one (by rw [HST.out,hr]; simp; rfl)))
    have HLEN:=HI.out.2.2.2.2.2.1 f1 (by rw [hr]; simp)
    have HLENS:Hid (∀ f',f' ∈ r1 → f'.ls.length ≤ j∧f'.ps.length ≤ j):=Lib.hid (fun f' h=>HI.out.2.2.2.2.2.1 f' (by rw [hr]; simp [h]))
    have HIP:Hid (Below H w wr∧obj wr H (.int .i64 0) (.int .i64 0) (.string { data:=#[] }) (.slice none 0 0) (.slice none 0 0)∧H + 1 ≤ wr.heap.size):=Lib.hid ⟨HI.out.2.1,HI.out.2.2.1,HI.out.2.2.2.2.2.2.2⟩
    have HW3:Hid (Below VB wr (((((w2.setCell ⟨VB,0,none⟩ (.int .i64 3)).setCell ⟨VB,1,none⟩ (.int .i64 0)).setCell ⟨VB,2,none⟩ (.string { data:=#[] })).setCell ⟨VB,3,none⟩ (.slice la ln lc)).setCell ⟨VB,4,none⟩ (.slice none 0 0))∧obj (((((w2.setCell ⟨VB,0,none⟩ (.int .i64 3)).setCell ⟨VB,1,none⟩ (.int .i64 0)).setCell ⟨VB,2,none⟩ (.string { data:=#[] })).setCell ⟨VB,3,none⟩ (.slice la ln lc)).setCell ⟨VB,4,none⟩ (.slice none 0 0)) VB (.int .i64 3) (.int .i64 0) (.string { data:=#[] }) (.slice la ln lc) (.slice none 0 0)):=
      Lib.hid ⟨below_set5 OB2.out.2.2.2,(((((OB2.out.2.2.1).set0 _).set1 _).set2 _).set3 _).set4 _⟩
    clear c0 c1 c2 c3 c4 cf0 cf1 cf2 cf3 cf4 n1 hr
    rw [hrl] at hcap h32 n0 n2 ⊢
    clear HRUN HST HI HSX HF OB hfh hfhE
    generalize hMM:r1.length + 1 = M at *
    rw [show (M:Int) + 1 = ((M + 1:Nat):Int) from by omega]
    generalize hNN:M + 1 = N at *
    have hwr0:(N:Int) - 1 = (M:Int):=by omega
    have hwr1:IntKind.i64.wrap ((N:Int) - 1) = (M:Int):=by rw [hwr0]; exact IntWalk.i64_in _ (by omega)
    have hwr2:(M:Int) < (N:Int):=by omega
    have hwr4:wrap64 ((N:Int) - 1) = (M:Int):=by rw [IntWalk.wrap64_in _ (by omega)]; exact hwr0
    have hwr5:(0:Int) ≤ (N:Int) - 1:=by omega
    have hwr7:((N:Int) - 1).toNat = M:=by omega
    have hwr8:M < N:=by omega
    have hwr9:IntKind.i64.wrap (M:Int) = (M:Int):=IntWalk.i64_in _ (by omega)
    have hwra:(M:Int) ≤ (sc:Int):=by omega
    have hwrb:M ≤ sc:=by omega
    have hwrc:((M:Int) == 0) = false:=beq_eq_false_iff_ne.2 (by omega)
    have hwrd:(0:Int) ≤ (M:Int):=by omega
    have HSX1:=Lib.hid hsx1
    clear hsx1
    go_wp2
    generalize (((((w2.setCell ⟨VB,0,none⟩ (.int .i64 3)).setCell ⟨VB,1,none⟩ (.int .i64 0)).setCell ⟨VB,2,none⟩ (.string { data:=#[] })).setCell ⟨VB,3,none⟩ (.slice la ln lc)).setCell ⟨VB,4,none⟩ (.slice none 0 0)) = w3 at *
    clear hwr0 hwr1 hwr2 hwr4 hwr5 hwr7 hwr8 hwra hwrc d0 d1 d2 d3 d4 df0 df1 df2 df3 df4 hc HTX
    have hSX3:SIx (H + 1) S' w3 (.slice (some ⟨gs,0,none⟩) (r1.length + 1) sc) (r1 ++ [f1]) us1 L1 D1:=by
      have h:=HSX1.out
      rw [← hMM] at h
      exact h.keep (Nat.le_trans (by omega) HW3.out.1.size) (fun x _ hx=>HW3.out.1.block x (by omega))
    have hv3:obj w3 VB (.int .i64 f.close.k) (.int .i64 f.close.n) (.string f.close.s) (.slice la ln lc) (.slice none 0 0):=by
      rw [HTC.out.1,HTC.out.2.1,HTC.out.2.2]; exact HW3.out.2
    have hrv3:RV S' w3 f.close (.slice la ln lc) (.slice none 0 0):=RV.keep (fun _ h=>h) (by have:=HW3.out.1.size; omega) (fun k hk hl=>HW3.out.1.block k (by omega)) _ _ _ HRVC.out
    obtain ⟨tcv,hcall⟩:=join_call hSX3 hv3 (fun g' hg'=>by have:=(HF1.out.low hg').2; omega) (by have:=HW3.out.1.size; have:=HIP.out.2.2; omega) (by omega) (by omega) hrv3
    have hkj:kd (f1.join f.close) = kd f1:=by unfold kd Fr.join; cases f1.d <;> rfl
    obtain ⟨kk,hkk⟩:∃ kk:Int,kd f1 = .int .i64 kk:=by unfold kd; split <;> exact ⟨_,rfl⟩
    rw [hkj] at hcall
    rw [hkk,HTC.out.1,HTC.out.2.1,HTC.out.2.2] at hcall tcv
    simp only [hMM] at hcall
    have HCALL:=Lib.hid hcall
    have HB3:Hid (Below (H + 1) wr w3):=Lib.hid (HW3.out.1.mono (by have:=HIP.out.2.2; omega))
    have HFJ:Hid ((f1.join f.close).ls.length ≤ j + 1∧(f1.join f.close).ps.length ≤ j + 1):=Lib.hid (join_len f1 f.close (by omega) (by omega))
    obtain ⟨p0,p1,p2,p3,p4,p5,p6,p7,p8,p9,p10,p11,p12,p13,p14⟩:=tcv
    clear hcall hSX3 hkj HLEN hv3 hrv3 HTC HRVC HSI' HF1 HSX1 OB2
    have hm0:(M:Int) - 1 = (r1.length:Int):=by omega
    have hm1:IntKind.i64.wrap ((M:Int) - 1) = (r1.length:Int):=by rw [hm0]; exact IntWalk.i64_in _ (by omega)
    have hm2:(r1.length:Int) < (M:Int):=by omega
    have hm4:wrap64 ((M:Int) - 1) = (r1.length:Int):=by rw [IntWalk.wrap64_in _ (by omega)]; exact hm0
    have hm5:(0:Int) ≤ (M:Int) - 1:=by omega
    have hm7:((M:Int) - 1).toNat = r1.length:=by omega
    have hm8:r1.length < M:=by omega
    have hm9:IntKind.i64.wrap (r1.length:Int) = (r1.length:Int):=IntWalk.i64_in _ (by omega)
    have hma:(0:Int) ≤ (r1.length:Int):=by omega
    go_region_with (first | (go_at_call 74; refine HCALL.out.mono ?_; rintro e w4 ⟨la',ln',lc',da',dn',dc',rfl,⟨q0,q1,q2,q3,q4,q5,q6,q7,q8,q9,q10,q11,q12,q13,q14⟩,HJ⟩))
    all_goals
      have HN:Hid (RI b w H _ (.slice (some ⟨gs,0,none⟩) M sc) (r1 ++ [f1.join f.close]) S' (j + 1)):=Lib.hid ⟨HJ.out.1,(HIP.out.1.trans (HB3.out.mono (by omega))).trans (HJ.out.2.mono (by omega)),(HIP.out.2.1.keep (HB3.out.block H (by omega))).keep (HJ.out.2.block H (by omega)),by omega,by simpa using hRUN2.out,(fun f' hf'=>by
        rcases List.mem_append.1 hf' with h | h
        · have:=HLENS.out f' h; omega
        · simp at h; subst h; exact HFJ.out),by simp; omega,Nat.le_trans HIP.out.2.2 (Nat.le_trans HB3.out.size HJ.out.2.size)⟩
      clear HJ HCALL HW3 p0 p1 p2 p3 p4 p5 p6 p7 p8 p9 p10 p11 p12 p13 p14
      go_wp2
      exact HEnd.out _ _ _ _ _ _ _ _ _ _ _ _ _ _ _ _ _ _ _ _ _ _ _ _ _ _ _ _ _ _ _ _ _ _ _ _ _ _ _ _ _ _ _ _ _ _ _ _ _ _ _ _ _ _ _ _ _ _ _ _ _ _ _ _ _ _ _ _ _ _ _ _ _ _ _ _ _ _ _ _ _ _ _ _ _ _ _ _ _ _ _ _ _ _ _ _ _ _ _ _ _ _ _ _ _ _ _ _ _ _ _ _ _ _ _ _ _ _ _ _ _ _ _ _ _ _ _ _ _ _ _ _ _ _ _ _ _ _ _ _ _ _ _ _ _ _ _ _ _ _ _ _ _ _ _ _ _ _ _ _ _ _ _ _ _ _ _ _ _ _ _ _ _ _ _ _ _ _ _ _ _ _ _ _ _ _ _ _ _ _ _ _ _ _ _ _ _ _ _ _ (j + 1) _ (HN) (by omega)
end Go.Proofs.YtdlnnnlmlaploabGreatDoor
