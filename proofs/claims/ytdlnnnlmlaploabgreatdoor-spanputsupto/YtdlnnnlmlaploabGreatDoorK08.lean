import Derived.Test.YtdlnnnlmlaploabGreatDoorK07
namespace Go.Proofs.YtdlnnnlmlaploabGreatDoor
open Go.RowKit Go.Deep
set_option maxRecDepth 10000 in
set_option maxHeartbeats 40000000 in
theorem rd21A (a:Option Addr) (c:Nat) (b:List UInt8) (w:World) (H:Nat) (wr:World) (F K:Act → World → Prop) (HT:Hid (TX w a c b)) (hl:b.length ≤ 1048576) (HH:Hid (w.heap.size = H))  (S:Nat → Prop) (j:Nat) (sa:Option Addr) (sc:Nat) (HI:Hid (RI b w H wr (.slice sa ([]:List Fr).length sc) ([]:List Fr) S j))
    (u3 u4 u7 u8 u9 u10 u11 u12 u13 u14 u15 u16 u17 u18 u19 u20 u21 u22 u23 u24 u25 u26 u27 u28 u29 u30 u31 u32 u33 u34 u35 u36 u37 u38 u39 u40 u41 u42 u43 u44 u45 u46 u47 u48 u49 u50 u51 u52 u53 u54 u55 u56 u57 u58 u59 u60 u61 u62 u63 u64 u65 u66 u67 u68 u69 u70 u71 u72 u73 u74 u75 u76 u77 u78 u79 u80 u81 u82 u83 u84 u85 u86 u87 u88 u89 u90 u91 u92 u93 u94 u95 u96 u97 u98 u99 u100 u101 u102 u103 u104 u105 u106 u107 u108 u109 u110 u111 u112 u113 u114 u115 u116 u117 u118 u119 u120 u121 u122 u123 u124 u125 u126 u127 u128 u129 u130 u131 u132 u133 u134 u135 u136 u137 u138 u139 u140 u141 u142 u143 u144 u145 u146 u147 u148 u149 u150 u151 u152 u153 u154 u155 u156 u157 u158 u159 u160 u161 u162 u163 u164 u165 u166 u167 u168 u169 u170 u171 u172 u173 u174 u175 u176 u177 u178 u179 u180 u181 u182 u183 u184 u185 u186 u187 u188 u189 u190 u191 u192 u193 u194 u195 u196 u197 u198 u199 u200 u201:Value) (hjn:j < b.length)
    (HEnd:Hid (∀ (u3 u4 u7 u8 u9 u10 u11 u12 u13 u14 u15 u16 u17 u18 u19 u20 u21 u22 u23 u24 u25 u26 u27 u28 u29 u30 u31 u32 u33 u34 u35 u36 u37 u38 u39 u40 u41 u42 u43 u44 u45 u46 u47 u48 u49 u50 u51 u52 u53 u54 u55 u56 u57 u58 u59 u60 u61 u62 u63 u64 u65 u66 u67 u68 u69 u70 u71 u72 u73 u74 u75 u76 u77 u78 u79 u80 u81 u82 u83 u84 u85 u86 u87 u88 u89 u90 u91 u92 u93 u94 u95 u96 u97 u98 u99 u100 u101 u102 u103 u104 u105 u106 u107 u108 u109 u110 u111 u112 u113 u114 u115 u116 u117 u118 u119 u120 u121 u122 u123 u124 u125 u126 u127 u128 u129 u130 u131 u132 u133 u134 u135 u136 u137 u138 u139 u140 u141 u142 u143 u144 u145 u146 u147 u148 u149 u150 u151 u152 u153 u154 u155 u156 u157 u158 u159 u160 u161 u162 u163 u164 u165 u166 u167 u168 u169 u170 u171 u172 u173 u174 u175 u176 u177 u178 u179 u180 u181 u182 u183 u184 u185 u186 u187 u188 u189 u190 u191 u192 u193 u194 u195 u196 u197 u198 u199 u200 u201 sv:Value) (fs':List Fr) (S':Nat → Prop) (j':Nat) (w':World),Hid (RI b w H w' sv fs' S' j') → j < j' → F { tmps:=#[.slice a b.length c,undef,.pointer (some ⟨H,0,none⟩),u3,u4,sv,.int .i64 (j':Int),u7,u8,u9,u10,u11,u12,u13,u14,u15,u16,u17,u18,u19,u20,u21,u22,u23,u24,u25,u26,u27,u28,u29,u30,u31,u32,u33,u34,u35,u36,u37,u38,u39,u40,u41,u42,u43,u44,u45,u46,u47,u48,u49,u50,u51,u52,u53,u54,u55,u56,u57,u58,u59,u60,u61,u62,u63,u64,u65,u66,u67,u68,u69,u70,u71,u72,u73,u74,u75,u76,u77,u78,u79,u80,u81,u82,u83,u84,u85,u86,u87,u88,u89,u90,u91,u92,u93,u94,u95,u96,u97,u98,u99,u100,u101,u102,u103,u104,u105,u106,u107,u108,u109,u110,u111,u112,u113,u114,u115,u116,u117,u118,u119,u120,u121,u122,u123,u124,u125,u126,u127,u128,u129,u130,u131,u132,u133,u134,u135,u136,u137,u138,u139,u140,u141,u142,u143,u144,u145,u146,u147,u148,u149,u150,u151,u152,u153,u154,u155,u156,u157,u158,u159,u160,u161,u162,u163,u164,u165,u166,u167,u168,u169,u170,u171,u172,u173,u174,u175,u176,u177,u178,u179,u180,u181,u182,u183,u184,u185,u186,u187,u188,u189,u190,u191,u192,u193,u194,u195,u196,u197,u198,u199,u200,u201,undef,undef,undef],defers:=[] } w')) :
    Code.wp Tryz.prog (loopOf Tryz.f56) (Exit.then F (Exit.inBlock 0 (Exit.then K (bodyPost Tryz.prog Tryz.f56 fun e w'=>RQ b w w' e)))) { tmps:=#[.slice a b.length c,undef,.pointer (some ⟨H,0,none⟩),u3,u4,.slice sa ([]:List Fr).length sc,.int .i64 (j:Int),u7,u8,u9,u10,u11,u12,u13,u14,u15,u16,u17,u18,u19,u20,u21,u22,u23,u24,u25,u26,u27,u28,u29,u30,u31,u32,u33,u34,u35,u36,u37,u38,u39,u40,u41,u42,u43,u44,u45,u46,u47,u48,u49,u50,u51,u52,u53,u54,u55,u56,u57,u58,u59,u60,u61,u62,u63,u64,u65,u66,u67,u68,u69,u70,u71,u72,u73,u74,u75,u76,u77,u78,u79,u80,u81,u82,u83,u84,u85,u86,u87,u88,u89,u90,u91,u92,u93,u94,u95,u96,u97,u98,u99,u100,u101,u102,u103,u104,u105,u106,u107,u108,u109,u110,u111,u112,u113,u114,u115,u116,u117,u118,u119,u120,u121,u122,u123,u124,u125,u126,u127,u128,u129,u130,u131,u132,u133,u134,u135,u136,u137,u138,u139,u140,u141,u142,u143,u144,u145,u146,u147,u148,u149,u150,u151,u152,u153,u154,u155,u156,u157,u158,u159,u160,u161,u162,u163,u164,u165,u166,u167,u168,u169,u170,u171,u172,u173,u174,u175,u176,u177,u178,u179,u180,u181,u182,u183,u184,u185,u186,u187,u188,u189,u190,u191,u192,u193,u194,u195,u196,u197,u198,u199,u200,u201,undef,undef,undef],defers:=[] } wr:=by
  conv=>arg 2; whnf
  have hTX:=HT.out.keep (w':=wr) (by have h:=HI.out.2.1; have:=HH.out; rw [this]; exact h)
  obtain ⟨g,o,rfl,hcell⟩:=hTX.byte hjn
  have hc:=hcell j hjn
  have j0:(0:Int) ≤ (j:Int):=by omega
  have j1:(j:Int) < (b.length:Int):=by omega
  have HTX:=Lib.hid hTX
  have OB:Hid (obj (wr.alloc (Obj.cells #[.int .i64 0,.int .i64 0,.string { data:=#[] },.slice none 0 0,.slice none 0 0] 55)) H (.int .i64 0) (.int .i64 0) (.string { data:=#[] }) (.slice none 0 0) (.slice none 0 0)∧Below H w (wr.alloc (Obj.cells #[.int .i64 0,.int .i64 0,.string { data:=#[] },.slice none 0 0,.slice none 0 0] 55))∧TX (wr.alloc (Obj.cells #[.int .i64 0,.int .i64 0,.string { data:=#[] },.slice none 0 0,.slice none 0 0] 55)) (some ⟨g,o,none⟩) c b∧obj (wr.alloc (Obj.cells #[.int .i64 0,.int .i64 0,.string { data:=#[] },.slice none 0 0,.slice none 0 0] 55)) wr.heap.size (.int .i64 0) (.int .i64 0) (.string { data:=#[] }) (.slice none 0 0) (.slice none 0 0)∧Below wr.heap.size wr (wr.alloc (Obj.cells #[.int .i64 0,.int .i64 0,.string { data:=#[] },.slice none 0 0,.slice none 0 0] 55))):=by
    have hb1:Below wr.heap.size wr (wr.alloc (Obj.cells #[.int .i64 0,.int .i64 0,.string { data:=#[] },.slice none 0 0,.slice none 0 0] 55)):=(Below.refl _ _).alloc (Nat.le_refl _) _
    have hG:=HI.out.grow hb1
    exact ⟨hG.2.2.1,hG.2.1,hTX.keep hb1,heap_new _ _,hb1⟩
  clear hcell hTX
  have hst:step b [] j = opn b [] j:=step_ready trivial hjn
  by_cases h108:byt b j = 108
  · rw [h108] at hc
    have HE:Hid (step b [] j = .go [{ d:=false }] (j + 1)):=Lib.hid (by rw [hst,opn,if_pos h108,if_neg (by simp)])
    clear hst
    obtain ⟨pb1,pb2⟩:=push_boxes (.int .i64 3) wr (Obj.cells #[.int .i64 0,.int .i64 0,.string { data:=#[] },.slice none 0 0,.slice none 0 0] 55) (Obj.cells #[.int .i64 3,.slice none 0 0,.slice none 0 0,.string { data:=#[] },.bool false] 111) rfl
    have hsi:=(HI.out.grow pb1).1
    have hB1:=(HI.out.grow pb1).2.2.2.2.2.2.2
    have PB:=Lib.hid pb1
    clear pb1
    go_wp2_with (at_builtin; refine append_open (dd:=false) rfl _ _ rfl rfl hsi _ rfl pb2 hB1 (by simp) ?_)
    intro sa' sc' w2 hsi2 hb2
    have HN:Hid (RI b w H w2 (.slice sa' (([]:List Fr).length + 1) sc') (([]:List Fr) ++ [{ d:=false }]) S (j + 1)):=Lib.hid (HI.out.next ((PB.out.mono HI.out.2.2.2.2.2.2.2).trans hb2) hsi2 (Run.one HE.out) (by omega) (fun f' hf'=>by
      rcases List.mem_append.1 hf' with h | h
      · have:=HI.out.2.2.2.2.2.1 f' h; omega
      · simp at h; subst h; simp) (by simp))
    clear hsi pb2 hsi2 hb2 hB1
    go_wp2
    exact HEnd.out _ _ _ _ _ _ _ _ _ _ _ _ _ _ _ _ _ _ _ _ _ _ _ _ _ _ _ _ _ _ _ _ _ _ _ _ _ _ _ _ _ _ _ _ _ _ _ _ _ _ _ _ _ _ _ _ _ _ _ _ _ _ _ _ _ _ _ _ _ _ _ _ _ _ _ _ _ _ _ _ _ _ _ _ _ _ _ _ _ _ _ _ _ _ _ _ _ _ _ _ _ _ _ _ _ _ _ _ _ _ _ _ _ _ _ _ _ _ _ _ _ _ _ _ _ _ _ _ _ _ _ _ _ _ _ _ _ _ _ _ _ _ _ _ _ _ _ _ _ _ _ _ _ _ _ _ _ _ _ _ _ _ _ _ _ _ _ _ _ _ _ _ _ _ _ _ _ _ _ _ _ _ _ _ _ _ _ _ _ _ _ _ _ _ _ _ _ _ _ _ (j + 1) _ (HN) (by omega)
  by_cases h100:byt b j = 100
  · rw [h100] at hc
    have HE:Hid (step b [] j = .go [{ d:=true }] (j + 1)):=Lib.hid (by rw [hst,opn,if_neg h108,if_pos h100,if_neg (by simp)])
    clear hst
    obtain ⟨pb1,pb2⟩:=push_boxes (.int .i64 4) wr (Obj.cells #[.int .i64 0,.int .i64 0,.string { data:=#[] },.slice none 0 0,.slice none 0 0] 55) (Obj.cells #[.int .i64 4,.slice none 0 0,.slice none 0 0,.string { data:=#[] },.bool false] 111) rfl
    have hsi:=(HI.out.grow pb1).1
    have hB1:=(HI.out.grow pb1).2.2.2.2.2.2.2
    have PB:=Lib.hid pb1
    clear pb1
    go_wp2_with (at_builtin; refine append_open (dd:=true) rfl _ _ rfl rfl hsi _ rfl pb2 hB1 (by simp) ?_)
    intro sa' sc' w2 hsi2 hb2
    have HN:Hid (RI b w H w2 (.slice sa' (([]:List Fr).length + 1) sc') (([]:List Fr) ++ [{ d:=true }]) S (j + 1)):=Lib.hid (HI.out.next ((PB.out.mono HI.out.2.2.2.2.2.2.2).trans hb2) hsi2 (Run.one HE.out) (by omega) (fun f' hf'=>by
      rcases List.mem_append.1 hf' with h | h
      · have:=HI.out.2.2.2.2.2.1 f' h; omega
      · simp at h; subst h; simp) (by simp))
    clear hsi pb2 hsi2 hb2 hB1
    go_wp2
    exact HEnd.out _ _ _ _ _ _ _ _ _ _ _ _ _ _ _ _ _ _ _ _ _ _ _ _ _ _ _ _ _ _ _ _ _ _ _ _ _ _ _ _ _ _ _ _ _ _ _ _ _ _ _ _ _ _ _ _ _ _ _ _ _ _ _ _ _ _ _ _ _ _ _ _ _ _ _ _ _ _ _ _ _ _ _ _ _ _ _ _ _ _ _ _ _ _ _ _ _ _ _ _ _ _ _ _ _ _ _ _ _ _ _ _ _ _ _ _ _ _ _ _ _ _ _ _ _ _ _ _ _ _ _ _ _ _ _ _ _ _ _ _ _ _ _ _ _ _ _ _ _ _ _ _ _ _ _ _ _ _ _ _ _ _ _ _ _ _ _ _ _ _ _ _ _ _ _ _ _ _ _ _ _ _ _ _ _ _ _ _ _ _ _ _ _ _ _ _ _ _ _ _ (j + 1) _ (HN) (by omega)
  have hst2:step b [] j = scal b [] j:=by rw [hst,opn,if_neg h108,if_neg h100]
  have z108:(((byt b j).toNat:Int) == 108) = false:=beq_eq_false_iff_ne.2 (u8_ne h108)
  have z100:(((byt b j).toNat:Int) == 100) = false:=beq_eq_false_iff_ne.2 (u8_ne h100)
  by_cases h105:byt b j = 105
  · rw [h105] at hc
    go_wp2_with fail
    generalize (wr.alloc (Obj.cells #[.int .i64 0,.int .i64 0,.string { data:=#[] },.slice none 0 0,.slice none 0 0] 55)) = wv at *
    generalize hVB:wr.heap.size = VB at *
    refine (scalar38 _ c b j wv OB.out.2.2.1 hjn (.inl h105)).mono ?_
    rintro e w2 ⟨hb2,hp⟩
    have OB2:Hid (obj w2 H (.int .i64 0) (.int .i64 0) (.string { data:=#[] }) (.slice none 0 0) (.slice none 0 0)∧Below H w w2∧obj w2 VB (.int .i64 0) (.int .i64 0) (.string { data:=#[] }) (.slice none 0 0) (.slice none 0 0)):=by
      have q:=OB.out
      have hHv:=q.1.lt
      exact ⟨q.1.keep (hb2.block _ q.1.lt),q.2.1.trans (hb2.mono (by omega)),q.2.2.2.1.keep (hb2.block _ q.2.2.2.1.lt)⟩
    have OB3:Hid (∀ ob,obj (w2.alloc ob) H (.int .i64 0) (.int .i64 0) (.string { data:=#[] }) (.slice none 0 0) (.slice none 0 0)∧Below H w (w2.alloc ob)∧obj (w2.alloc ob) VB (.int .i64 0) (.int .i64 0) (.string { data:=#[] }) (.slice none 0 0) (.slice none 0 0)):=Lib.hid fun ob=>⟨OB2.out.1.keep (Below.heap_alloc _ _ _ OB2.out.1.lt),OB2.out.2.1.alloc (Nat.le_of_lt OB2.out.1.lt) _,OB2.out.2.2.keep (Below.heap_alloc _ _ _ OB2.out.2.2.lt)⟩
    rcases hp.cases with ⟨t,j2,hn,rfl⟩ | ⟨p,er,hn,rfl⟩
    · have hj2:=scal_ok (st:=[]) (.inl h105) hn
      have hj3:=scP_le hn
      have HRV:=Lib.hid (scal_rv hn)
      have HE:Hid (Run b (.go [] 0) (.val t j2)):=Lib.hid (HI.out.2.2.2.2.1.trans (Run.one (hst2.trans hj2.1)))
      have hle1:H ≤ VB:=by have:=HI.out.2.2.2.2.2.2.2; omega
      have hne1:VB ≠ H:=by have:=HI.out.2.2.2.2.2.2.2; omega
      have hne2:H ≠ VB:=fun e=>hne1 e.symm
      clear hp hn hj2
      obtain ⟨c0,c1,c2,c3,c4⟩:=((OB3.out (Obj.cells #[.int .i64 t.k,.int .i64 t.n,.string t.s,.slice none 0 0,.slice none 0 0] 55)).1).cells
      have cf0:=((OB3.out (Obj.cells #[.int .i64 t.k,.int .i64 t.n,.string t.s,.slice none 0 0,.slice none 0 0] 55)).1).frozen 0
      have cf1:=((OB3.out (Obj.cells #[.int .i64 t.k,.int .i64 t.n,.string t.s,.slice none 0 0,.slice none 0 0] 55)).1).frozen 1
      have cf2:=((OB3.out (Obj.cells #[.int .i64 t.k,.int .i64 t.n,.string t.s,.slice none 0 0,.slice none 0 0] 55)).1).frozen 2
      have cf3:=((OB3.out (Obj.cells #[.int .i64 t.k,.int .i64 t.n,.string t.s,.slice none 0 0,.slice none 0 0] 55)).1).frozen 3
      have cf4:=((OB3.out (Obj.cells #[.int .i64 t.k,.int .i64 t.n,.string t.s,.slice none 0 0,.slice none 0 0] 55)).1).frozen 4
      obtain ⟨d0,d1,d2,d3,d4⟩:=((OB3.out (Obj.cells #[.int .i64 t.k,.int .i64 t.n,.string t.s,.slice none 0 0,.slice none 0 0] 55)).2.2).cells
      have df0:=((OB3.out (Obj.cells #[.int .i64 t.k,.int .i64 t.n,.string t.s,.slice none 0 0,.slice none 0 0] 55)).2.2).frozen 0
      have df1:=((OB3.out (Obj.cells #[.int .i64 t.k,.int .i64 t.n,.string t.s,.slice none 0 0,.slice none 0 0] 55)).2.2).frozen 1
      have df2:=((OB3.out (Obj.cells #[.int .i64 t.k,.int .i64 t.n,.string t.s,.slice none 0 0,.slice none 0 0] 55)).2.2).frozen 2
      have df3:=((OB3.out (Obj.cells #[.int .i64 t.k,.int .i64 t.n,.string t.s,.slice none 0 0,.slice none 0 0] 55)).2.2).frozen 3
      have df4:=((OB3.out (Obj.cells #[.int .i64 t.k,.int .i64 t.n,.string t.s,.slice none 0 0,.slice none 0 0] 55)).2.2).frozen 4
      go_wp2
      refine bodyPost_ret (v:=.tuple #[.agg #[.int .i64 t.k,.int .i64 t.n,.string t.s,.slice none 0 0,.slice none 0 0],.int .i64 j2,.int .i64 0]) (results_cell3 Tryz.results56 _ _ H _ rfl ((((((obj_set5 hne2 (OB3.out (Obj.cells #[.int .i64 t.k,.int .i64 t.n,.string t.s,.slice none 0 0,.slice none 0 0] 55)).1).set0 _).set1 _).set2 _).set3 _).set4 _) rfl) rfl ?_
      exact ⟨by rw [HH.out]; exact below_set5 (below_set5v hle1 (OB3.out (Obj.cells #[.int .i64 t.k,.int .i64 t.n,.string t.s,.slice none 0 0,.slice none 0 0] 55)).2.1),.inl ⟨t,_,_,j2,rfl,HRV.out _ _,HE.out⟩⟩
    · have her:(er != 0) = true:=scP_er hn
      have HE:Hid (Run b (.go [] 0) (.bad p er)):=Lib.hid (HI.out.2.2.2.2.1.trans (Run.one (hst2.trans (scal_bad (.inl h105) hn))))
      clear hp hn
      unfold zV
      obtain ⟨c0,c1,c2,c3,c4⟩:=((OB3.out (Obj.cells #[.int .i64 0,.int .i64 0,.string { data:=#[] },.slice none 0 0,.slice none 0 0] 55)).1).cells
      have cf0:=((OB3.out (Obj.cells #[.int .i64 0,.int .i64 0,.string { data:=#[] },.slice none 0 0,.slice none 0 0] 55)).1).frozen 0
      have cf1:=((OB3.out (Obj.cells #[.int .i64 0,.int .i64 0,.string { data:=#[] },.slice none 0 0,.slice none 0 0] 55)).1).frozen 1
      have cf2:=((OB3.out (Obj.cells #[.int .i64 0,.int .i64 0,.string { data:=#[] },.slice none 0 0,.slice none 0 0] 55)).1).frozen 2
      have cf3:=((OB3.out (Obj.cells #[.int .i64 0,.int .i64 0,.string { data:=#[] },.slice none 0 0,.slice none 0 0] 55)).1).frozen 3
      have cf4:=((OB3.out (Obj.cells #[.int .i64 0,.int .i64 0,.string { data:=#[] },.slice none 0 0,.slice none 0 0] 55)).1).frozen 4
      go_wp2
      refine bodyPost_ret (v:=.tuple #[zV,.int .i64 (p:Nat),.int .i64 er]) (results_cell3 Tryz.results56 _ _ H _ rfl ((((((((OB3.out (Obj.cells #[.int .i64 0,.int .i64 0,.string { data:=#[] },.slice none 0 0,.slice none 0 0] 55)).1).set0 _).set1 _).set2 _).set3 _).set4 _)) rfl) rfl ?_
      exact ⟨by rw [HH.out]; exact below_set5 (OB3.out (Obj.cells #[.int .i64 0,.int .i64 0,.string { data:=#[] },.slice none 0 0,.slice none 0 0] 55)).2.1,.inr ⟨p,er,rfl,HE.out⟩⟩
  have z105:(((byt b j).toNat:Int) == 105) = false:=beq_eq_false_iff_ne.2 (u8_ne h105)
  go_wp2_with fail
  refine (digit36 _ _).mono ?_
  rintro e w3 ⟨rfl,rfl⟩
  cases hdg:dig (byt b j) with
  | true =>
    go_wp2_with fail
    generalize (wr.alloc (Obj.cells #[.int .i64 0,.int .i64 0,.string { data:=#[] },.slice none 0 0,.slice none 0 0] 55)) = wv at *
    generalize hVB:wr.heap.size = VB at *
    refine (scalar38 _ c b j wv OB.out.2.2.1 hjn (.inr hdg)).mono ?_
    rintro e w2 ⟨hb2,hp⟩
    have OB2:Hid (obj w2 H (.int .i64 0) (.int .i64 0) (.string { data:=#[] }) (.slice none 0 0) (.slice none 0 0)∧Below H w w2∧obj w2 VB (.int .i64 0) (.int .i64 0) (.string { data:=#[] }) (.slice none 0 0) (.slice none 0 0)):=by
      have q:=OB.out
      have hHv:=q.1.lt
      exact ⟨q.1.keep (hb2.block _ q.1.lt),q.2.1.trans (hb2.mono (by omega)),q.2.2.2.1.keep (hb2.block _ q.2.2.2.1.lt)⟩
    have OB3:Hid (∀ ob,obj (w2.alloc ob) H (.int .i64 0) (.int .i64 0) (.string { data:=#[] }) (.slice none 0 0) (.slice none 0 0)∧Below H w (w2.alloc ob)∧obj (w2.alloc ob) VB (.int .i64 0) (.int .i64 0) (.string { data:=#[] }) (.slice none 0 0) (.slice none 0 0)):=Lib.hid fun ob=>⟨OB2.out.1.keep (Below.heap_alloc _ _ _ OB2.out.1.lt),OB2.out.2.1.alloc (Nat.le_of_lt OB2.out.1.lt) _,OB2.out.2.2.keep (Below.heap_alloc _ _ _ OB2.out.2.2.lt)⟩
    rcases hp.cases with ⟨t,j2,hn,rfl⟩ | ⟨p,er,hn,rfl⟩
    · have hj2:=scal_ok (st:=[]) (.inr hdg) hn
      have hj3:=scP_le hn
      have HRV:=Lib.hid (scal_rv hn)
      have HE:Hid (Run b (.go [] 0) (.val t j2)):=Lib.hid (HI.out.2.2.2.2.1.trans (Run.one (hst2.trans hj2.1)))
      have hle1:H ≤ VB:=by have:=HI.out.2.2.2.2.2.2.2; omega
      have hne1:VB ≠ H:=by have:=HI.out.2.2.2.2.2.2.2; omega
      have hne2:H ≠ VB:=fun e=>hne1 e.symm
      clear hp hn hj2
      obtain ⟨c0,c1,c2,c3,c4⟩:=((OB3.out (Obj.cells #[.int .i64 t.k,.int .i64 t.n,.string t.s,.slice none 0 0,.slice none 0 0] 55)).1).cells
      have cf0:=((OB3.out (Obj.cells #[.int .i64 t.k,.int .i64 t.n,.string t.s,.slice none 0 0,.slice none 0 0] 55)).1).frozen 0
      have cf1:=((OB3.out (Obj.cells #[.int .i64 t.k,.int .i64 t.n,.string t.s,.slice none 0 0,.slice none 0 0] 55)).1).frozen 1
      have cf2:=((OB3.out (Obj.cells #[.int .i64 t.k,.int .i64 t.n,.string t.s,.slice none 0 0,.slice none 0 0] 55)).1).frozen 2
      have cf3:=((OB3.out (Obj.cells #[.int .i64 t.k,.int .i64 t.n,.string t.s,.slice none 0 0,.slice none 0 0] 55)).1).frozen 3
      have cf4:=((OB3.out (Obj.cells #[.int .i64 t.k,.int .i64 t.n,.string t.s,.slice none 0 0,.slice none 0 0] 55)).1).frozen 4
      obtain ⟨d0,d1,d2,d3,d4⟩:=((OB3.out (Obj.cells #[.int .i64 t.k,.int .i64 t.n,.string t.s,.slice none 0 0,.slice none 0 0] 55)).2.2).cells
      have df0:=((OB3.out (Obj.cells #[.int .i64 t.k,.int .i64 t.n,.string t.s,.slice none 0 0,.slice none 0 0] 55)).2.2).frozen 0
      have df1:=((OB3.out (Obj.cells #[.int .i64 t.k,.int .i64 t.n,.string t.s,.slice none 0 0,.slice none 0 0] 55)).2.2).frozen 1
      have df2:=((OB3.out (Obj.cells #[.int .i64 t.k,.int .i64 t.n,.string t.s,.slice none 0 0,.slice none 0 0] 55)).2.2).frozen 2
      have df3:=((OB3.out (Obj.cells #[.int .i64 t.k,.int .i64 t.n,.string t.s,.slice none 0 0,.slice none 0 0] 55)).2.2).frozen 3
      have df4:=((OB3.out (Obj.cells #[.int .i64 t.k,.int .i64 t.n,.string t.s,.slice none 0 0,.slice none 0 0] 55)).2.2).frozen 4
      go_wp2
      refine bodyPost_ret (v:=.tuple #[.agg #[.int .i64 t.k,.int .i64 t.n,.string t.s,.slice none 0 0,.slice none 0 0],.int .i64 j2,.int .i64 0]) (results_cell3 Tryz.results56 _ _ H _ rfl ((((((obj_set5 hne2 (OB3.out (Obj.cells #[.int .i64 t.k,.int .i64 t.n,.string t.s,.slice none 0 0,.slice none 0 0] 55)).1).set0 _).set1 _).set2 _).set3 _).set4 _) rfl) rfl ?_
      exact ⟨by rw [HH.out]; exact below_set5 (below_set5v hle1 (OB3.out (Obj.cells #[.int .i64 t.k,.int .i64 t.n,.string t.s,.slice none 0 0,.slice none 0 0] 55)).2.1),.inl ⟨t,_,_,j2,rfl,HRV.out _ _,HE.out⟩⟩
    · have her:(er != 0) = true:=scP_er hn
      have HE:Hid (Run b (.go [] 0) (.bad p er)):=Lib.hid (HI.out.2.2.2.2.1.trans (Run.one (hst2.trans (scal_bad (.inr hdg) hn))))
      clear hp hn
      unfold zV
      obtain ⟨c0,c1,c2,c3,c4⟩:=((OB3.out (Obj.cells #[.int .i64 0,.int .i64 0,.string { data:=#[] },.slice none 0 0,.slice none 0 0] 55)).1).cells
      have cf0:=((OB3.out (Obj.cells #[.int .i64 0,.int .i64 0,.string { data:=#[] },.slice none 0 0,.slice none 0 0] 55)).1).frozen 0
      have cf1:=((OB3.out (Obj.cells #[.int .i64 0,.int .i64 0,.string { data:=#[] },.slice none 0 0,.slice none 0 0] 55)).1).frozen 1
      have cf2:=((OB3.out (Obj.cells #[.int .i64 0,.int .i64 0,.string { data:=#[] },.slice none 0 0,.slice none 0 0] 55)).1).frozen 2
      have cf3:=((OB3.out (Obj.cells #[.int .i64 0,.int .i64 0,.string { data:=#[] },.slice none 0 0,.slice none 0 0] 55)).1).frozen 3
      have cf4:=((OB3.out (Obj.cells #[.int .i64 0,.int .i64 0,.string { data:=#[] },.slice none 0 0,.slice none 0 0] 55)).1).frozen 4
      go_wp2
      refine bodyPost_ret (v:=.tuple #[zV,.int .i64 (p:Nat),.int .i64 er]) (results_cell3 Tryz.results56 _ _ H _ rfl ((((((((OB3.out (Obj.cells #[.int .i64 0,.int .i64 0,.string { data:=#[] },.slice none 0 0,.slice none 0 0] 55)).1).set0 _).set1 _).set2 _).set3 _).set4 _)) rfl) rfl ?_
      exact ⟨by rw [HH.out]; exact below_set5 (OB3.out (Obj.cells #[.int .i64 0,.int .i64 0,.string { data:=#[] },.slice none 0 0,.slice none 0 0] 55)).2.1,.inr ⟨p,er,rfl,HE.out⟩⟩
  | false =>
    have HE:Hid (Run b (.go [] 0) (.bad j 22)):=Lib.hid (HI.out.2.2.2.2.1.trans (Run.one (by rw [show ([]:List Fr).reverse = [] from rfl,hst2,scal,if_neg h105,if_neg (by rw [hdg]; decide)])))
    obtain ⟨c0,c1,c2,c3,c4⟩:=(OB.out.1).cells
    have cf0:=(OB.out.1).frozen 0
    have cf1:=(OB.out.1).frozen 1
    have cf2:=(OB.out.1).frozen 2
    have cf3:=(OB.out.1).frozen 3
    have cf4:=(OB.out.1).frozen 4
    go_wp2
    refine bodyPost_ret (v:=.tuple #[zV,.int .i64 (j:Nat),.int .i64 22]) (results_cell3 Tryz.results56 _ _ H _ rfl (((((((OB.out.1).set0 _).set1 _).set2 _).set3 _).set4 _)) rfl) rfl ?_
    exact ⟨by rw [HH.out]; exact below_set5 OB.out.2.1,.inr ⟨j,22,rfl,HE.out⟩⟩
end Go.Proofs.YtdlnnnlmlaploabGreatDoor
