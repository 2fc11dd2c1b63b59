import Derived.Test.YtdlnnnlmlaploabGreatDoorK08
import Derived.Test.YtdlnnnlmlaploabGreatDoorK09
import Derived.Test.YtdlnnnlmlaploabGreatDoorK10
import Derived.Test.YtdlnnnlmlaploabGreatDoorK11
import Derived.Test.YtdlnnnlmlaploabGreatDoorK12
import Derived.Test.YtdlnnnlmlaploabGreatDoorK13
import Derived.Test.YtdlnnnlmlaploabGreatDoorK05
import Derived.Test.YtdlnnnlmlaploabGreatDoorK06
import Derived.Test.YtdlnnnlmlaploabGreatDoorK17
namespace Go.Proofs.YtdlnnnlmlaploabGreatDoor
open Go.RowKit Go.Deep
set_option maxRecDepth 10000 in
set_option maxHeartbeats 40000000 in
theorem read21 (a:Option Addr) (c:Nat) (b:List UInt8) (w:World) (h:TX w a c b) :
    Calls Tryz.prog 56 #[.slice a b.length c] w fun e w'=>RQ b w w' e:=by
  have HT:=Lib.hid h
  have hl:=h.2.1
  clear h
  have HX:Hid (obj (w.alloc (Obj.cells #[.int .i64 0,.int .i64 0,.string { data:=#[] },.slice none 0 0,.slice none 0 0] 55)) w.heap.size (.int .i64 0) (.int .i64 0) (.string { data:=#[] }) (.slice none 0 0) (.slice none 0 0)∧Below w.heap.size w (w.alloc (Obj.cells #[.int .i64 0,.int .i64 0,.string { data:=#[] },.slice none 0 0,.slice none 0 0] 55))∧(w.alloc (Obj.cells #[.int .i64 0,.int .i64 0,.string { data:=#[] },.slice none 0 0,.slice none 0 0] 55)).heap.size = w.heap.size + 1):=⟨heap_new _ _,(Below.refl _ _).alloc (Nat.le_refl _) _,by simp⟩
  go_enter Tryz.func56,Tryz.ntmps56
  go_wp2
  generalize (w.alloc (Obj.cells #[.int .i64 0,.int .i64 0,.string { data:=#[] },.slice none 0 0,.slice none 0 0] 55)) = w0 at *
  generalize hH:w.heap.size = H at *
  have HH:=Lib.hid hH
  clear hH
  go_loopw [5,6] (fun sv v wr=>∃ (fs:List Fr) (S:Nat → Prop) (j:Nat),v = .int .i64 (j:Int)∧Hid (RI b w H wr sv fs S j)) (fun _ v _=>b.length - (intOf v).toNat)
  case atStart=>exact ⟨[],_,0,rfl,SI.nil _ _,HX.out.2.1,HX.out.1,Nat.zero_le _,.refl _,fun f hf=>absurd hf (by simp),Nat.zero_le _,by have:=HX.out.2.2; omega⟩
  case round =>
    clear HX
    obtain ⟨fs,S,j,rfl,HI⟩:=hrel
    obtain ⟨sa,sc,rfl⟩:∃ sa sc,u5 = .slice sa fs.length sc:=by
      obtain ⟨us,L,D,q1,_⟩:=HI.out.1
      exact ownForm q1
    by_cases hjn:j < b.length
    · rcases List.eq_nil_or_concat fs with rfl | ⟨r,f,hfs⟩
      · refine rd21A a c b w H wr _ _ HT hl HH S j sa sc HI _ _ _ _ _ _ _ _ _ _ _ _ _ _ _ _ _ _ _ _ _ _ _ _ _ _ _ _ _ _ _ _ _ _ _ _ _ _ _ _ _ _ _ _ _ _ _ _ _ _ _ _ _ _ _ _ _ _ _ _ _ _ _ _ _ _ _ _ _ _ _ _ _ _ _ _ _ _ _ _ _ _ _ _ _ _ _ _ _ _ _ _ _ _ _ _ _ _ _ _ _ _ _ _ _ _ _ _ _ _ _ _ _ _ _ _ _ _ _ _ _ _ _ _ _ _ _ _ _ _ _ _ _ _ _ _ _ _ _ _ _ _ _ _ _ _ _ _ _ _ _ _ _ _ _ _ _ _ _ _ _ _ _ _ _ _ _ _ _ _ _ _ _ _ _ _ _ _ _ _ _ _ _ _ _ _ _ _ _ _ _ _ _ _ _ _ _ hjn ?_
        refine Lib.hid ?_
        intro u3 u4 u7 u8 u9 u10 u11 u12 u13 u14 u15 u16 u17 u18 u19 u20 u21 u22 u23 u24 u25 u26 u27 u28 u29 u30 u31 u32 u33 u34 u35 u36 u37 u38 u39 u40 u41 u42 u43 u44 u45 u46 u47 u48 u49 u50 u51 u52 u53 u54 u55 u56 u57 u58 u59 u60 u61 u62 u63 u64 u65 u66 u67 u68 u69 u70 u71 u72 u73 u74 u75 u76 u77 u78 u79 u80 u81 u82 u83 u84 u85 u86 u87 u88 u89 u90 u91 u92 u93 u94 u95 u96 u97 u98 u99 u100 u101 u102 u103 u104 u105 u106 u107 u108 u109 u110 u111 u112 u113 u114 u115 u116 u117 u118 u119 u120 u121 u122 u123 u124 u125 u126 u127 u128 u129 u130 u131 u132 u133 u134 u135 u136 u137 u138 u139 u140 u141 u142 u143 u144 u145 u146 u147 u148 u149 u150 u151 u152 u153 u154 u155 u156 u157 u158 u159 u160 u161 u162 u163 u164 u165 u166 u167 u168 u169 u170 u171 u172 u173 u174 u175 u176 u177 u178 u179 u180 u181 u182 u183 u184 u185 u186 u187 u188 u189 u190 u191 u192 u193 u194 u195 u196 u197 u198 u199 u200 u201 sv fs' S' j' w' hI hj
        exact ⟨⟨u3,u4,sv,.int .i64 (j':Int),u7,u8,u9,u10,u11,u12,u13,u14,u15,u16,u17,u18,u19,u20,u21,u22,u23,u24,u25,u26,u27,u28,u29,u30,u31,u32,u33,u34,u35,u36,u37,u38,u39,u40,u41,u42,u43,u44,u45,u46,u47,u48,u49,u50,u51,u52,u53,u54,u55,u56,u57,u58,u59,u60,u61,u62,u63,u64,u65,u66,u67,u68,u69,u70,u71,u72,u73,u74,u75,u76,u77,u78,u79,u80,u81,u82,u83,u84,u85,u86,u87,u88,u89,u90,u91,u92,u93,u94,u95,u96,u97,u98,u99,u100,u101,u102,u103,u104,u105,u106,u107,u108,u109,u110,u111,u112,u113,u114,u115,u116,u117,u118,u119,u120,u121,u122,u123,u124,u125,u126,u127,u128,u129,u130,u131,u132,u133,u134,u135,u136,u137,u138,u139,u140,u141,u142,u143,u144,u145,u146,u147,u148,u149,u150,u151,u152,u153,u154,u155,u156,u157,u158,u159,u160,u161,u162,u163,u164,u165,u166,u167,u168,u169,u170,u171,u172,u173,u174,u175,u176,u177,u178,u179,u180,u181,u182,u183,u184,u185,u186,u187,u188,u189,u190,u191,u192,u193,u194,u195,u196,u197,u198,u199,u200,u201,⟨fs',S',j',rfl,hI⟩,rfl⟩,by simp [intOf]; omega⟩
      · rw [List.concat_eq_append] at hfs
        subst hfs
        cases hfd:f.d with
        | true =>
          cases hfh:f.has with
          | true =>
            refine rd21D a c b w H wr _ _ HT hl HH r f S j sa sc HI _ _ _ _ _ _ _ _ _ _ _ _ _ _ _ _ _ _ _ _ _ _ _ _ _ _ _ _ _ _ _ _ _ _ _ _ _ _ _ _ _ _ _ _ _ _ _ _ _ _ _ _ _ _ _ _ _ _ _ _ _ _ _ _ _ _ _ _ _ _ _ _ _ _ _ _ _ _ _ _ _ _ _ _ _ _ _ _ _ _ _ _ _ _ _ _ _ _ _ _ _ _ _ _ _ _ _ _ _ _ _ _ _ _ _ _ _ _ _ _ _ _ _ _ _ _ _ _ _ _ _ _ _ _ _ _ _ _ _ _ _ _ _ _ _ _ _ _ _ _ _ _ _ _ _ _ _ _ _ _ _ _ _ _ _ _ _ _ _ _ _ _ _ _ _ _ _ _ _ _ _ _ _ _ _ _ _ _ _ _ _ _ _ _ _ _ _ hjn hfd hfh ?_
            refine Lib.hid ?_
            intro u3 u4 u7 u8 u9 u10 u11 u12 u13 u14 u15 u16 u17 u18 u19 u20 u21 u22 u23 u24 u25 u26 u27 u28 u29 u30 u31 u32 u33 u34 u35 u36 u37 u38 u39 u40 u41 u42 u43 u44 u45 u46 u47 u48 u49 u50 u51 u52 u53 u54 u55 u56 u57 u58 u59 u60 u61 u62 u63 u64 u65 u66 u67 u68 u69 u70 u71 u72 u73 u74 u75 u76 u77 u78 u79 u80 u81 u82 u83 u84 u85 u86 u87 u88 u89 u90 u91 u92 u93 u94 u95 u96 u97 u98 u99 u100 u101 u102 u103 u104 u105 u106 u107 u108 u109 u110 u111 u112 u113 u114 u115 u116 u117 u118 u119 u120 u121 u122 u123 u124 u125 u126 u127 u128 u129 u130 u131 u132 u133 u134 u135 u136 u137 u138 u139 u140 u141 u142 u143 u144 u145 u146 u147 u148 u149 u150 u151 u152 u153 u154 u155 u156 u157 u158 u159 u160 u161 u162 u163 u164 u165 u166 u167 u168 u169 u170 u171 u172 u173 u174 u175 u176 u177 u178 u179 u180 u181 u182 u183 u184 u185 u186 u187 u188 u189 u190 u191 u192 u193 u194 u195 u196 u197 u198 u199 u200 u201 sv fs' S' j' w' hI hj
            exact ⟨⟨u3,u4,sv,.int .i64 (j':Int),u7,u8,u9,u10,u11,u12,u13,u14,u15,u16,u17,u18,u19,u20,u21,u22,u23,u24,u25,u26,u27,u28,u29,u30,u31,u32,u33,u34,u35,u36,u37,u38,u39,u40,u41,u42,u43,u44,u45,u46,u47,u48,u49,u50,u51,u52,u53,u54,u55,u56,u57,u58,u59,u60,u61,u62,u63,u64,u65,u66,u67,u68,u69,u70,u71,u72,u73,u74,u75,u76,u77,u78,u79,u80,u81,u82,u83,u84,u85,u86,u87,u88,u89,u90,u91,u92,u93,u94,u95,u96,u97,u98,u99,u100,u101,u102,u103,u104,u105,u106,u107,u108,u109,u110,u111,u112,u113,u114,u115,u116,u117,u118,u119,u120,u121,u122,u123,u124,u125,u126,u127,u128,u129,u130,u131,u132,u133,u134,u135,u136,u137,u138,u139,u140,u141,u142,u143,u144,u145,u146,u147,u148,u149,u150,u151,u152,u153,u154,u155,u156,u157,u158,u159,u160,u161,u162,u163,u164,u165,u166,u167,u168,u169,u170,u171,u172,u173,u174,u175,u176,u177,u178,u179,u180,u181,u182,u183,u184,u185,u186,u187,u188,u189,u190,u191,u192,u193,u194,u195,u196,u197,u198,u199,u200,u201,⟨fs',S',j',rfl,hI⟩,rfl⟩,by simp [intOf]; omega⟩
          | false =>
            by_cases h101:byt b j = 101
            · refine rd21Q a c b w H wr _ _ HT hl HH r f S j sa sc HI _ _ _ _ _ _ _ _ _ _ _ _ _ _ _ _ _ _ _ _ _ _ _ _ _ _ _ _ _ _ _ _ _ _ _ _ _ _ _ _ _ _ _ _ _ _ _ _ _ _ _ _ _ _ _ _ _ _ _ _ _ _ _ _ _ _ _ _ _ _ _ _ _ _ _ _ _ _ _ _ _ _ _ _ _ _ _ _ _ _ _ _ _ _ _ _ _ _ _ _ _ _ _ _ _ _ _ _ _ _ _ _ _ _ _ _ _ _ _ _ _ _ _ _ _ _ _ _ _ _ _ _ _ _ _ _ _ _ _ _ _ _ _ _ _ _ _ _ _ _ _ _ _ _ _ _ _ _ _ _ _ _ _ _ _ _ _ _ _ _ _ _ _ _ _ _ _ _ _ _ _ _ _ _ _ _ _ _ _ _ _ _ _ _ _ _ _ hjn hfd hfh h101 ?_
              refine Lib.hid ?_
              intro u3 u4 u7 u8 u9 u10 u11 u12 u13 u14 u15 u16 u17 u18 u19 u20 u21 u22 u23 u24 u25 u26 u27 u28 u29 u30 u31 u32 u33 u34 u35 u36 u37 u38 u39 u40 u41 u42 u43 u44 u45 u46 u47 u48 u49 u50 u51 u52 u53 u54 u55 u56 u57 u58 u59 u60 u61 u62 u63 u64 u65 u66 u67 u68 u69 u70 u71 u72 u73 u74 u75 u76 u77 u78 u79 u80 u81 u82 u83 u84 u85 u86 u87 u88 u89 u90 u91 u92 u93 u94 u95 u96 u97 u98 u99 u100 u101 u102 u103 u104 u105 u106 u107 u108 u109 u110 u111 u112 u113 u114 u115 u116 u117 u118 u119 u120 u121 u122 u123 u124 u125 u126 u127 u128 u129 u130 u131 u132 u133 u134 u135 u136 u137 u138 u139 u140 u141 u142 u143 u144 u145 u146 u147 u148 u149 u150 u151 u152 u153 u154 u155 u156 u157 u158 u159 u160 u161 u162 u163 u164 u165 u166 u167 u168 u169 u170 u171 u172 u173 u174 u175 u176 u177 u178 u179 u180 u181 u182 u183 u184 u185 u186 u187 u188 u189 u190 u191 u192 u193 u194 u195 u196 u197 u198 u199 u200 u201 sv fs' S' j' w' hI hj
              exact ⟨⟨u3,u4,sv,.int .i64 (j':Int),u7,u8,u9,u10,u11,u12,u13,u14,u15,u16,u17,u18,u19,u20,u21,u22,u23,u24,u25,u26,u27,u28,u29,u30,u31,u32,u33,u34,u35,u36,u37,u38,u39,u40,u41,u42,u43,u44,u45,u46,u47,u48,u49,u50,u51,u52,u53,u54,u55,u56,u57,u58,u59,u60,u61,u62,u63,u64,u65,u66,u67,u68,u69,u70,u71,u72,u73,u74,u75,u76,u77,u78,u79,u80,u81,u82,u83,u84,u85,u86,u87,u88,u89,u90,u91,u92,u93,u94,u95,u96,u97,u98,u99,u100,u101,u102,u103,u104,u105,u106,u107,u108,u109,u110,u111,u112,u113,u114,u115,u116,u117,u118,u119,u120,u121,u122,u123,u124,u125,u126,u127,u128,u129,u130,u131,u132,u133,u134,u135,u136,u137,u138,u139,u140,u141,u142,u143,u144,u145,u146,u147,u148,u149,u150,u151,u152,u153,u154,u155,u156,u157,u158,u159,u160,u161,u162,u163,u164,u165,u166,u167,u168,u169,u170,u171,u172,u173,u174,u175,u176,u177,u178,u179,u180,u181,u182,u183,u184,u185,u186,u187,u188,u189,u190,u191,u192,u193,u194,u195,u196,u197,u198,u199,u200,u201,⟨fs',S',j',rfl,hI⟩,rfl⟩,by simp [intOf]; omega⟩
            · refine rd21B a c b w H wr _ _ HT hl HH r f S j sa sc HI _ _ _ _ _ _ _ _ _ _ _ _ _ _ _ _ _ _ _ _ _ _ _ _ _ _ _ _ _ _ _ _ _ _ _ _ _ _ _ _ _ _ _ _ _ _ _ _ _ _ _ _ _ _ _ _ _ _ _ _ _ _ _ _ _ _ _ _ _ _ _ _ _ _ _ _ _ _ _ _ _ _ _ _ _ _ _ _ _ _ _ _ _ _ _ _ _ _ _ _ _ _ _ _ _ _ _ _ _ _ _ _ _ _ _ _ _ _ _ _ _ _ _ _ _ _ _ _ _ _ _ _ _ _ _ _ _ _ _ _ _ _ _ _ _ _ _ _ _ _ _ _ _ _ _ _ _ _ _ _ _ _ _ _ _ _ _ _ _ _ _ _ _ _ _ _ _ _ _ _ _ _ _ _ _ _ _ _ _ _ _ _ _ _ _ _ _ hjn hfd hfh h101 ?_
              refine Lib.hid ?_
              intro u3 u4 u7 u8 u9 u10 u11 u12 u13 u14 u15 u16 u17 u18 u19 u20 u21 u22 u23 u24 u25 u26 u27 u28 u29 u30 u31 u32 u33 u34 u35 u36 u37 u38 u39 u40 u41 u42 u43 u44 u45 u46 u47 u48 u49 u50 u51 u52 u53 u54 u55 u56 u57 u58 u59 u60 u61 u62 u63 u64 u65 u66 u67 u68 u69 u70 u71 u72 u73 u74 u75 u76 u77 u78 u79 u80 u81 u82 u83 u84 u85 u86 u87 u88 u89 u90 u91 u92 u93 u94 u95 u96 u97 u98 u99 u100 u101 u102 u103 u104 u105 u106 u107 u108 u109 u110 u111 u112 u113 u114 u115 u116 u117 u118 u119 u120 u121 u122 u123 u124 u125 u126 u127 u128 u129 u130 u131 u132 u133 u134 u135 u136 u137 u138 u139 u140 u141 u142 u143 u144 u145 u146 u147 u148 u149 u150 u151 u152 u153 u154 u155 u156 u157 u158 u159 u160 u161 u162 u163 u164 u165 u166 u167 u168 u169 u170 u171 u172 u173 u174 u175 u176 u177 u178 u179 u180 u181 u182 u183 u184 u185 u186 u187 u188 u189 u190 u191 u192 u193 u194 u195 u196 u197 u198 u199 u200 u201 sv fs' S' j' w' hI hj
              exact ⟨⟨u3,u4,sv,.int .i64 (j':Int),u7,u8,u9,u10,u11,u12,u13,u14,u15,u16,u17,u18,u19,u20,u21,u22,u23,u24,u25,u26,u27,u28,u29,u30,u31,u32,u33,u34,u35,u36,u37,u38,u39,u40,u41,u42,u43,u44,u45,u46,u47,u48,u49,u50,u51,u52,u53,u54,u55,u56,u57,u58,u59,u60,u61,u62,u63,u64,u65,u66,u67,u68,u69,u70,u71,u72,u73,u74,u75,u76,u77,u78,u79,u80,u81,u82,u83,u84,u85,u86,u87,u88,u89,u90,u91,u92,u93,u94,u95,u96,u97,u98,u99,u100,u101,u102,u103,u104,u105,u106,u107,u108,u109,u110,u111,u112,u113,u114,u115,u116,u117,u118,u119,u120,u121,u122,u123,u124,u125,u126,u127,u128,u129,u130,u131,u132,u133,u134,u135,u136,u137,u138,u139,u140,u141,u142,u143,u144,u145,u146,u147,u148,u149,u150,u151,u152,u153,u154,u155,u156,u157,u158,u159,u160,u161,u162,u163,u164,u165,u166,u167,u168,u169,u170,u171,u172,u173,u174,u175,u176,u177,u178,u179,u180,u181,u182,u183,u184,u185,u186,u187,u188,u189,u190,u191,u192,u193,u194,u195,u196,u197,u198,u199,u200,u201,⟨fs',S',j',rfl,hI⟩,rfl⟩,by simp [intOf]; omega⟩
        | false =>
          by_cases h101:byt b j = 101
          · refine rd21P a c b w H wr _ _ HT hl HH r f S j sa sc HI _ _ _ _ _ _ _ _ _ _ _ _ _ _ _ _ _ _ _ _ _ _ _ _ _ _ _ _ _ _ _ _ _ _ _ _ _ _ _ _ _ _ _ _ _ _ _ _ _ _ _ _ _ _ _ _ _ _ _ _ _ _ _ _ _ _ _ _ _ _ _ _ _ _ _ _ _ _ _ _ _ _ _ _ _ _ _ _ _ _ _ _ _ _ _ _ _ _ _ _ _ _ _ _ _ _ _ _ _ _ _ _ _ _ _ _ _ _ _ _ _ _ _ _ _ _ _ _ _ _ _ _ _ _ _ _ _ _ _ _ _ _ _ _ _ _ _ _ _ _ _ _ _ _ _ _ _ _ _ _ _ _ _ _ _ _ _ _ _ _ _ _ _ _ _ _ _ _ _ _ _ _ _ _ _ _ _ _ _ _ _ _ _ _ _ _ _ hjn hfd h101 ?_
            refine Lib.hid ?_
            intro u3 u4 u7 u8 u9 u10 u11 u12 u13 u14 u15 u16 u17 u18 u19 u20 u21 u22 u23 u24 u25 u26 u27 u28 u29 u30 u31 u32 u33 u34 u35 u36 u37 u38 u39 u40 u41 u42 u43 u44 u45 u46 u47 u48 u49 u50 u51 u52 u53 u54 u55 u56 u57 u58 u59 u60 u61 u62 u63 u64 u65 u66 u67 u68 u69 u70 u71 u72 u73 u74 u75 u76 u77 u78 u79 u80 u81 u82 u83 u84 u85 u86 u87 u88 u89 u90 u91 u92 u93 u94 u95 u96 u97 u98 u99 u100 u101 u102 u103 u104 u105 u106 u107 u108 u109 u110 u111 u112 u113 u114 u115 u116 u117 u118 u119 u120 u121 u122 u123 u124 u125 u126 u127 u128 u129 u130 u131 u132 u133 u134 u135 u136 u137 u138 u139 u140 u141 u142 u143 u144 u145 u146 u147 u148 u149 u150 u151 u152 u153 u154 u155 u156 u157 u158 u159 u160 u161 u162 u163 u164 u165 u166 u167 u168 u169 u170 u171 u172 u173 u174 u175 u176 u177 u178 u179 u180 u181 u182 u183 u184 u185 u186 u187 u188 u189 u190 u191 u192 u193 u194 u195 u196 u197 u198 u199 u200 u201 sv fs' S' j' w' hI hj
            exact ⟨⟨u3,u4,sv,.int .i64 (j':Int),u7,u8,u9,u10,u11,u12,u13,u14,u15,u16,u17,u18,u19,u20,u21,u22,u23,u24,u25,u26,u27,u28,u29,u30,u31,u32,u33,u34,u35,u36,u37,u38,u39,u40,u41,u42,u43,u44,u45,u46,u47,u48,u49,u50,u51,u52,u53,u54,u55,u56,u57,u58,u59,u60,u61,u62,u63,u64,u65,u66,u67,u68,u69,u70,u71,u72,u73,u74,u75,u76,u77,u78,u79,u80,u81,u82,u83,u84,u85,u86,u87,u88,u89,u90,u91,u92,u93,u94,u95,u96,u97,u98,u99,u100,u101,u102,u103,u104,u105,u106,u107,u108,u109,u110,u111,u112,u113,u114,u115,u116,u117,u118,u119,u120,u121,u122,u123,u124,u125,u126,u127,u128,u129,u130,u131,u132,u133,u134,u135,u136,u137,u138,u139,u140,u141,u142,u143,u144,u145,u146,u147,u148,u149,u150,u151,u152,u153,u154,u155,u156,u157,u158,u159,u160,u161,u162,u163,u164,u165,u166,u167,u168,u169,u170,u171,u172,u173,u174,u175,u176,u177,u178,u179,u180,u181,u182,u183,u184,u185,u186,u187,u188,u189,u190,u191,u192,u193,u194,u195,u196,u197,u198,u199,u200,u201,⟨fs',S',j',rfl,hI⟩,rfl⟩,by simp [intOf]; omega⟩
          · refine rd21C a c b w H wr _ _ HT hl HH r f S j sa sc HI _ _ _ _ _ _ _ _ _ _ _ _ _ _ _ _ _ _ _ _ _ _ _ _ _ _ _ _ _ _ _ _ _ _ _ _ _ _ _ _ _ _ _ _ _ _ _ _ _ _ _ _ _ _ _ _ _ _ _ _ _ _ _ _ _ _ _ _ _ _ _ _ _ _ _ _ _ _ _ _ _ _ _ _ _ _ _ _ _ _ _ _ _ _ _ _ _ _ _ _ _ _ _ _ _ _ _ _ _ _ _ _ _ _ _ _ _ _ _ _ _ _ _ _ _ _ _ _ _ _ _ _ _ _ _ _ _ _ _ _ _ _ _ _ _ _ _ _ _ _ _ _ _ _ _ _ _ _ _ _ _ _ _ _ _ _ _ _ _ _ _ _ _ _ _ _ _ _ _ _ _ _ _ _ _ _ _ _ _ _ _ _ _ _ _ _ _ hjn hfd h101 ?_
            refine Lib.hid ?_
            intro u3 u4 u7 u8 u9 u10 u11 u12 u13 u14 u15 u16 u17 u18 u19 u20 u21 u22 u23 u24 u25 u26 u27 u28 u29 u30 u31 u32 u33 u34 u35 u36 u37 u38 u39 u40 u41 u42 u43 u44 u45 u46 u47 u48 u49 u50 u51 u52 u53 u54 u55 u56 u57 u58 u59 u60 u61 u62 u63 u64 u65 u66 u67 u68 u69 u70 u71 u72 u73 u74 u75 u76 u77 u78 u79 u80 u81 u82 u83 u84 u85 u86 u87 u88 u89 u90 u91 u92 u93 u94 u95 u96 u97 u98 u99 u100 u101 u102 u103 u104 u105 u106 u107 u108 u109 u110 u111 u112 u113 u114 u115 u116 u117 u118 u119 u120 u121 u122 u123 u124 u125 u126 u127 u128 u129 u130 u131 u132 u133 u134 u135 u136 u137 u138 u139 u140 u141 u142 u143 u144 u145 u146 u147 u148 u149 u150 u151 u152 u153 u154 u155 u156 u157 u158 u159 u160 u161 u162 u163 u164 u165 u166 u167 u168 u169 u170 u171 u172 u173 u174 u175 u176 u177 u178 u179 u180 u181 u182 u183 u184 u185 u186 u187 u188 u189 u190 u191 u192 u193 u194 u195 u196 u197 u198 u199 u200 u201 sv fs' S' j' w' hI hj
            exact ⟨⟨u3,u4,sv,.int .i64 (j':Int),u7,u8,u9,u10,u11,u12,u13,u14,u15,u16,u17,u18,u19,u20,u21,u22,u23,u24,u25,u26,u27,u28,u29,u30,u31,u32,u33,u34,u35,u36,u37,u38,u39,u40,u41,u42,u43,u44,u45,u46,u47,u48,u49,u50,u51,u52,u53,u54,u55,u56,u57,u58,u59,u60,u61,u62,u63,u64,u65,u66,u67,u68,u69,u70,u71,u72,u73,u74,u75,u76,u77,u78,u79,u80,u81,u82,u83,u84,u85,u86,u87,u88,u89,u90,u91,u92,u93,u94,u95,u96,u97,u98,u99,u100,u101,u102,u103,u104,u105,u106,u107,u108,u109,u110,u111,u112,u113,u114,u115,u116,u117,u118,u119,u120,u121,u122,u123,u124,u125,u126,u127,u128,u129,u130,u131,u132,u133,u134,u135,u136,u137,u138,u139,u140,u141,u142,u143,u144,u145,u146,u147,u148,u149,u150,u151,u152,u153,u154,u155,u156,u157,u158,u159,u160,u161,u162,u163,u164,u165,u166,u167,u168,u169,u170,u171,u172,u173,u174,u175,u176,u177,u178,u179,u180,u181,u182,u183,u184,u185,u186,u187,u188,u189,u190,u191,u192,u193,u194,u195,u196,u197,u198,u199,u200,u201,⟨fs',S',j',rfl,hI⟩,rfl⟩,by simp [intOf]; omega⟩
    · have hje:j = b.length:=by have:=HI.out.2.2.2.1; omega
      have HE:Hid (Run b (.go [] 0) (.bad b.length 21)):=Lib.hid (HI.out.2.2.2.2.1.trans (Run.one (by unfold step; rw [if_pos (by omega)])))
      have j1:¬ ((j:Int) < (b.length:Int)):=by omega
      obtain ⟨c0,c1,c2,c3,c4⟩:=(HI.out.2.2.1).cells
      have cf0:=(HI.out.2.2.1).frozen 0
      have cf1:=(HI.out.2.2.1).frozen 1
      have cf2:=(HI.out.2.2.1).frozen 2
      have cf3:=(HI.out.2.2.1).frozen 3
      have cf4:=(HI.out.2.2.1).frozen 4
      go_wp2
      refine bodyPost_ret (v:=.tuple #[zV,.int .i64 (b.length:Nat),.int .i64 21]) (results_cell3 Tryz.results56 _ _ H _ rfl (((((((HI.out.2.2.1).set0 _).set1 _).set2 _).set3 _).set4 _)) rfl) rfl ?_
      exact ⟨by rw [HH.out]; exact below_set5 HI.out.2.1,.inr ⟨b.length,21,rfl,HE.out⟩⟩
set_option maxRecDepth 10000 in
set_option maxHeartbeats 400000 in
theorem prefix13 (v:Value) (b:List UInt8) (w:World) (hr:RB w v b) (hl0:b.length ≤ 140737488351232) :
    Calls Tryz.prog 38 #[v] w fun e w'=>∃ t x y k er,e = .returned (.tuple #[vv t x y,.int .i64 (k:Nat),.int .i64 er])∧RV (fun x=>w.heap.size ≤ x) w' t x y∧OUT b t k er∧Below w.heap.size w w':=by
  have hb0:Below w.heap.size w (w.alloc (Obj.cells #[.int .i64 0,.int .i64 0,.string { data:=#[] },.slice none 0 0,.slice none 0 0] 55)):=(Below.refl _ _).alloc (Nat.le_refl _) _
  have HX:Hid (obj (w.alloc (Obj.cells #[.int .i64 0,.int .i64 0,.string { data:=#[] },.slice none 0 0,.slice none 0 0] 55)) w.heap.size (.int .i64 0) (.int .i64 0) (.string { data:=#[] }) (.slice none 0 0) (.slice none 0 0)∧Below w.heap.size w (w.alloc (Obj.cells #[.int .i64 0,.int .i64 0,.string { data:=#[] },.slice none 0 0,.slice none 0 0] 55))∧(w.alloc (Obj.cells #[.int .i64 0,.int .i64 0,.string { data:=#[] },.slice none 0 0,.slice none 0 0] 55)).heap.size = w.heap.size + 1∧RB (w.alloc (Obj.cells #[.int .i64 0,.int .i64 0,.string { data:=#[] },.slice none 0 0,.slice none 0 0] 55)) v b):=
    ⟨heap_new _ _,hb0,by simp,hr.keep hb0⟩
  clear hb0
  obtain ⟨a,c,rfl,_⟩:=hr
  by_cases hbig:1048576 < b.length
  · have hbi:(1048576:Int) < (b.length:Int):=by omega
    have OB:=Lib.hid HX.out.1
    obtain ⟨c0,c1,c2,c3,c4⟩:=OB.out.cells
    have cf0:=OB.out.frozen 0
    have cf1:=OB.out.frozen 1
    have cf2:=OB.out.frozen 2
    have cf3:=OB.out.frozen 3
    have cf4:=OB.out.frozen 4
    have HB:=Lib.hid HX.out.2.1
    clear HX
    go_enter Tryz.func38,Tryz.ntmps38
    go_wp2
    generalize (w.alloc (Obj.cells #[.int .i64 0,.int .i64 0,.string { data:=#[] },.slice none 0 0,.slice none 0 0] 55)) = w0 at *
    refine bodyPost_ret (v:=.tuple #[vv t0 (.slice none 0 0) (.slice none 0 0),.int .i64 ((0:Nat):Int),.int .i64 20]) (results_cell3 Tryz.results38 _ _ w.heap.size _ rfl OB.out rfl) rfl ?_
    exact ⟨t0,_,_,0,20,rfl,rv_t0 _ _,.inr ⟨rfl,.inr ⟨hbig,rfl,rfl⟩⟩,HB.out⟩
  have hsm:b.length ≤ 1048576:=by omega
  clear hbig
  go_enter Tryz.func38,Tryz.ntmps38
  go_wp2_with fail
  generalize (w.alloc (Obj.cells #[.int .i64 0,.int .i64 0,.string { data:=#[] },.slice none 0 0,.slice none 0 0] 55)) = w0 at *
  generalize hH:w.heap.size = H at *
  have HH:=Lib.hid hH
  clear hH
  obtain ⟨a',c',hv',hcap,hx⟩:=HX.out.2.2.2
  injection hv' with e1 e2 e3
  subst e1 e3
  refine (read21 a c b w0 ⟨hcap,hsm,hx⟩).mono ?_
  rintro e w2 ⟨hb2,hp⟩
  have OB:Hid (obj w2 H (.int .i64 0) (.int .i64 0) (.string { data:=#[] }) (.slice none 0 0) (.slice none 0 0)∧Below H w w2):=by
    obtain ⟨q1,q2,q3,_⟩:=HX.out
    exact ⟨q1.keep (hb2.block _ q1.lt),q2.trans (hb2.mono (by omega))⟩
  obtain ⟨c0,c1,c2,c3,c4⟩:=OB.out.1.cells
  have cf0:=OB.out.1.frozen 0
  have cf1:=OB.out.1.frozen 1
  have cf2:=OB.out.1.frozen 2
  have cf3:=OB.out.1.frozen 3
  have cf4:=OB.out.1.frozen 4
  have hsz:=HX.out.2.2.1
  clear HX hx hb2
  rcases hp with ⟨t,x,y,j,rfl,hrv,hrun⟩ | ⟨p,er,rfl,hbad⟩
  · obtain ⟨⟨xa,xn,xc,rfl⟩,⟨ya,yn,yc,rfl⟩⟩:=hrv.slices
    have HE:Hid (RV (fun x=>w0.heap.size ≤ x) w2 t (.slice xa xn xc) (.slice ya yn yc)∧Run b (.go [] 0) (.val t j)):=⟨hrv,hrun⟩
    clear hrv hrun
    unfold vv
    go_wp2
    refine bodyPost_ret (v:=.tuple #[vv t (.slice xa xn xc) (.slice ya yn yc),.int .i64 (j:Nat),.int .i64 0]) (results_cell3 Tryz.results38 _ _ H _ rfl (((((OB.out.1.set0 _).set1 _).set2 _).set3 _).set4 _) rfl) rfl ?_
    refine ⟨t,_,_,j,0,rfl,?_,.inl ⟨rfl,HE.out.2,hsm⟩,by rw [HH.out]; exact below_set5 OB.out.2⟩
    refine RV.keep (w:=w2) (fun x hx=>by have h1:=HH.out; have h2:w0.heap.size ≤ x:=hx; show w.heap.size ≤ x; omega) (by simp) (fun k hk hl=>?_) _ _ _ HE.out.1
    have hn:k ≠ H:=by omega
    rw [Below.heap_setCell _ _ _ _ hn,Below.heap_setCell _ _ _ _ hn,Below.heap_setCell _ _ _ _ hn,Below.heap_setCell _ _ _ _ hn,Below.heap_setCell _ _ _ _ hn]
  · have HE:Hid (Run b (.go [] 0) (.bad p er)):=hbad
    clear hbad
    go_wp2
    refine bodyPost_ret (v:=.tuple #[vv t0 (.slice none 0 0) (.slice none 0 0),.int .i64 (p:Nat),.int .i64 er]) (results_cell3 Tryz.results38 _ _ H _ rfl (((((OB.out.1.set0 _).set1 _).set2 _).set3 _).set4 _) rfl) rfl ?_
    exact ⟨t0,_,_,p,er,rfl,rv_t0 _ _,.inr ⟨rfl,.inl ⟨HE.out,hsm⟩⟩,by rw [HH.out]; exact below_set5 OB.out.2⟩
set_option maxRecDepth 10000 in
set_option maxHeartbeats 4000000 in
theorem decode11 (v:Value) (b:List UInt8) (w:World) (hr:RB w v b) (hl0:b.length ≤ 140737488351232) :
    Calls Tryz.prog 22 #[v] w fun e w'=>∃ t x y k er,e = .returned (.tuple #[vv t x y,.int .i64 (k:Nat),.int .i64 er])∧RV (fun _=>True) w' t x y∧DOUT b t k er∧Below w.heap.size w w':=by
  have hb0:Below w.heap.size w (w.alloc (Obj.cells #[.int .i64 0,.int .i64 0,.string { data:=#[] },.slice none 0 0,.slice none 0 0] 55)):=(Below.refl _ _).alloc (Nat.le_refl _) _
  have HX:Hid (obj (w.alloc (Obj.cells #[.int .i64 0,.int .i64 0,.string { data:=#[] },.slice none 0 0,.slice none 0 0] 55)) w.heap.size (.int .i64 0) (.int .i64 0) (.string { data:=#[] }) (.slice none 0 0) (.slice none 0 0)∧Below w.heap.size w (w.alloc (Obj.cells #[.int .i64 0,.int .i64 0,.string { data:=#[] },.slice none 0 0,.slice none 0 0] 55))∧(w.alloc (Obj.cells #[.int .i64 0,.int .i64 0,.string { data:=#[] },.slice none 0 0,.slice none 0 0] 55)).heap.size = w.heap.size + 1∧RB (w.alloc (Obj.cells #[.int .i64 0,.int .i64 0,.string { data:=#[] },.slice none 0 0,.slice none 0 0] 55)) v b):=
    ⟨heap_new _ _,hb0,by simp,hr.keep hb0⟩
  clear hb0
  obtain ⟨a,c,rfl,_⟩:=hr
  go_enter Tryz.func22,Tryz.ntmps22
  go_wp2_with fail
  generalize (w.alloc (Obj.cells #[.int .i64 0,.int .i64 0,.string { data:=#[] },.slice none 0 0,.slice none 0 0] 55)) = w0 at *
  generalize hH:w.heap.size = H at *
  have HH:=Lib.hid hH
  clear hH
  refine (prefix13 _ b _ HX.out.2.2.2 hl0).mono ?_
  rintro e w2 ⟨t,x,y,k,er,rfl,hrv,hout,hb2⟩
  obtain ⟨⟨xa,xn,xc,rfl⟩,⟨ya,yn,yc,rfl⟩⟩:=hrv.slices
  have O2:Hid (obj w2 H (.int .i64 0) (.int .i64 0) (.string { data:=#[] }) (.slice none 0 0) (.slice none 0 0)∧Below H w w2∧H < w0.heap.size∧RV (fun x=>w0.heap.size ≤ x) w2 t (.slice xa xn xc) (.slice ya yn yc)):=by
    obtain ⟨q1,q2,q3,_⟩:=HX.out
    exact ⟨q1.keep (hb2.block _ q1.lt),q2.trans (hb2.mono (by omega)),q1.lt,hrv⟩
  have HO:=Lib.hid hout
  obtain ⟨c0,c1,c2,c3,c4⟩:=O2.out.1.cells
  have cf0:=O2.out.1.frozen 0
  have cf1:=O2.out.1.frozen 1
  have cf2:=O2.out.1.frozen 2
  have cf3:=O2.out.1.frozen 3
  have cf4:=O2.out.1.frozen 4
  have hlt:H < w2.heap.size:=O2.out.1.lt
  clear HX hrv hout hb2
  unfold vv
  by_cases he:er = 0
  · subst he
    have HG:=Lib.hid (out_good HO.out)
    by_cases hk:k < b.length
    · have hki:(k:Int) < (b.length:Int):=by omega
      go_wp2
      refine bodyPost_ret (v:=.tuple #[vv t0 (.slice none 0 0) (.slice none 0 0),.int .i64 (k:Nat),.int .i64 26]) (results_cell3 Tryz.results22 _ _ H _ rfl (objAlloc (((((O2.out.1.set0 _).set1 _).set2 _).set3 _).set4 _) _) rfl) rfl ?_
      exact ⟨t0,_,_,k,26,rfl,rv_t0 _ _,.inr ⟨rfl,.inl ⟨rfl,hk,HG.out.2,t,HG.out.1⟩⟩,by rw [HH.out]; exact (below_set5 O2.out.2.1).alloc (by simp [World.setCell]; omega) _⟩
    · have hki:¬ (k:Int) < (b.length:Int):=by omega
      go_wp2
      refine bodyPost_ret (v:=.tuple #[vv t (.slice xa xn xc) (.slice ya yn yc),.int .i64 ((0:Nat):Int),.int .i64 0]) (results_cell3 Tryz.results22 _ _ H _ rfl (objAlloc (((((O2.out.1.set0 _).set1 _).set2 _).set3 _).set4 _) _) rfl) rfl ?_
      refine ⟨t,_,_,0,0,rfl,?_,.inl ⟨rfl,rfl,HG.out.2,k,HG.out.1,by omega⟩,by rw [HH.out]; exact (below_set5 O2.out.2.1).alloc (by simp [World.setCell]; omega) _⟩
      refine RV.keep (w:=w2) (fun _ _=>trivial) (by simp [World.setCell]) (fun k hk hl=>?_) _ _ _ O2.out.2.2.2
      have hn:k ≠ H:=by have h1:=O2.out.2.2.1; have h2:w0.heap.size ≤ k:=hk; omega
      rw [Below.heap_alloc _ _ _ (by simp [World.setCell]; exact hl),Below.heap_setCell _ _ _ _ hn,Below.heap_setCell _ _ _ _ hn,Below.heap_setCell _ _ _ _ hn,Below.heap_setCell _ _ _ _ hn,Below.heap_setCell _ _ _ _ hn]
  · have he':(er == 0) = false:=beq_eq_false_iff_ne.2 he
    have HG:=Lib.hid (out_bad HO.out he)
    go_wp2
    refine bodyPost_ret (v:=.tuple #[vv t0 (.slice none 0 0) (.slice none 0 0),.int .i64 (k:Nat),.int .i64 er]) (results_cell3 Tryz.results22 _ _ H _ rfl (objAlloc (((((O2.out.1.set0 _).set1 _).set2 _).set3 _).set4 _) _) rfl) rfl ?_
    exact ⟨t0,_,_,k,er,rfl,rv_t0 _ _,HG.out,by rw [HH.out]; exact (below_set5 O2.out.2.1).alloc (by simp [World.setCell]; omega) _⟩
def Sp.v (s:Sp):Vi:=⟨s.kind,s.fr,s.to,s.dep,s.up,s.nth,s.key,0,0⟩
def Vi.o (v:Vi):Vi:={ v with pl:=0,fi:=0 }
theorem modify_mid {α:Type} (f:α → α) (x:α) (B:List α):∀ A:List α,(A ++ x :: B).modify A.length f = A ++ f x :: B
  | []=>rfl
  | a :: A=>by show a :: (A ++ x :: B).modify A.length f = _; rw [modify_mid f x B A]; rfl
theorem map_modify {α β:Type} (g:α → β) (f:α → α) (f':β → β) (h:∀ x,g (f x) = f' (g x)):∀ (l:List α) (k:Nat),(l.modify k f).map g = (l.map g).modify k f'
  | [],k=>by cases k <;> rfl
  | x :: l,0=>by show g (f x) :: l.map g = f' (g x) :: l.map g; rw [h]
  | x :: l,k + 1=>by show g x :: (l.modify k f).map g = g x :: (l.map g).modify k f'; rw [map_modify g f f' h l k]
theorem sk_app {h:List Vi} {v:Vi} (hp:v.pl = ((sk h).length:Int)):(sk (h ++ [v])).map Vi.o = (sk h).map Vi.o ++ [v.o]:=by
  rw [sk_snoc]
  unfold skStep
  rw [if_pos hp,hp]
  have:=modify_mid (fun x:Vi=>{ x with to:=v.to }) v [] (sk h)
  rw [show ((sk h).length:Int).toNat = (sk h).length from rfl,this,List.map_append]
  rfl
theorem sk_end {h:List Vi} {v:Vi} {k:Nat} (hp:v.pl = (k:Int)) (hk:k < (sk h).length):(sk (h ++ [v])).map Vi.o = ((sk h).map Vi.o).modify k (fun x=>{ x with to:=v.to }):=by
  rw [sk_snoc]
  unfold skStep
  rw [if_neg (by omega),hp]
  exact map_modify Vi.o (fun x=>{ x with to:=v.to }) (fun x=>{ x with to:=v.to }) (fun _=>rfl) (sk h) k
def Lv.o (l:Lv):Vi:=⟨l.kd,l.fr,0,l.dp,l.up,l.nt,l.ky,0,0⟩
structure LBs (l:Lv) (f:Fr) (s:List Fr):Prop where
  o:l.o = ({ dueS s with kind:=f.kd,to:=0 }:Sp).v
  pl:l.pl = ((stS s).1.length:Int)
structure LW (l:Lv) (f:Fr) (s:List Fr):Prop where
  bs:LBs l f s
  pa:l.pa = (f.num:Int) + 1
  kk:l.kk = f.ky
  has:f.d = true → f.has = true
structure LB (l:Lv) (f:Fr) (s:List Fr):Prop where
  bs:LBs l f s
  pa:l.pa = (f.num:Int)
  kl:f.d = false → l.kk = ByteArray.empty
  has:f.d = true → f.has = false
  kd:f.d = true → f.ps ≠ [] → l.kk = (f.ps.getLastD (ByteArray.empty,.no)).1
def LRw:List Lv → List Fr → Prop
  | [], []=>True
  | l :: r,f :: s=>LW l f s∧LRw r s
  | _,_=>False
theorem LRw.len:∀ {ls:List Lv} {st:List Fr},LRw ls st → ls.length = st.length
  | [], [],_=>rfl
  | _ :: _,_ :: _,h=>congrArg (· + 1) h.2.len
  | [],_ :: _,h=>h.elim
  | _ :: _, [],h=>h.elim
theorem due_o {ls:List Lv} {st:List Fr} {i n:Nat} (h:LRw ls st) (hi:i = (stx st).length):Vi.o (dueV ls i n) = (dueS st).v:=by
  match ls,st,h with
  | [], [],_=>subst hi; rfl
  | l :: r,f :: s,h =>
    obtain ⟨h1,h2⟩:=h
    show (⟨0,(i:Int),0,((r.length + 1:Nat):Int),l.pl,l.pa - 1,l.kk,0,0⟩:Vi) = ⟨0,((stx (f :: s)).length:Int),0,((s.length + 1:Nat):Int),((stS s).1.length:Int),(f.num:Int),f.ky,0,0⟩
    rw [h1.bs.pl,h1.pa,h1.kk,h2.len,hi,show (f.num:Int) + 1 - 1 = f.num by omega]
def PI (b:List UInt8) (h:List Vi):RS → Prop
  | .val ls i _=>∃ st,Run b (.go [] 0) (.go st i)∧Waits b st i∧LRw ls st∧(sk h).map Vi.o = (stS st).1.map Sp.v
  | .mid [] i _=>∃ t,Run b (.go [] 0) (.val t i)∧(sk h).map Vi.o = (walkT t 0 (dueS [])).map Sp.v
  | .mid (l :: r) i _=>∃ f s,Run b (.go [] 0) (.go (f :: s) i)∧LB l f s∧LRw r s∧(sk h).map Vi.o = (stS (f :: s)).1.map Sp.v
theorem run_at {b:List UInt8} (hlim:b.length ≤ 1048576) {st:List Fr} {i:Nat} (h:Run b (.go [] 0) (.go st i)):i ≤ b.length∧i = (stx st).length:=by
  obtain ⟨h1,h2,_⟩:=oi_run (by omega) h (⟨Nat.zero_le _,rfl,trivial⟩:OI b (.go [] 0))
  refine ⟨h1,?_⟩
  rw [← h2,List.length_take]
  omega
theorem run_atv {b:List UInt8} (hlim:b.length ≤ 1048576) {t:T} {i:Nat} (h:Run b (.go [] 0) (.val t i)):i ≤ b.length∧i = (txt t).length:=by
  obtain ⟨h1,h2,_⟩:=run_txt (by omega) h
  refine ⟨h1,?_⟩
  rw [← h2,List.length_take]
  omega
theorem Run.snoc {b:List UInt8} {st:List Fr} {i:Nat} {o p:Out} (h:Run b o (.go st i)) (e:step b st i = p):Run b o p:=h.trans (.one e)
theorem deliver_PI {b:List UInt8} {h':List Vi} {ls:List Lv} {st:List Fr} {t:T} {j n:Nat} (hr:Run b (.go [] 0) (deliver st t j)) (hw:LRw ls st) (hs:(sk h').map Vi.o = ((stS st).1 ++ walkT t (stS st).1.length (dueS st)).map Sp.v):PI b h' (.mid ls j n):=by
  match ls,st,hw with
  | [], [],_=>exact ⟨t,hr,hs⟩
  | l :: r,f :: s,hw =>
    obtain ⟨h1,h2⟩:=hw
    refine ⟨f.join t,s,hr,⟨⟨?_,h1.bs.pl⟩,?_,fun hd=>?_,fun hd=>?_,fun hd _=>?_⟩,h2,by rw [stS_join h1.has]; exact hs⟩
    · rw [h1.bs.o]
      unfold Fr.join Fr.kd
      by_cases hd:f.d = true
      · simp [hd]
      · simp [hd]
    · rw [h1.pa]
      unfold Fr.join Fr.num
      by_cases hd:f.d = true
      · simp [hd]
      · simp [hd]
    · rw [h1.kk]
      unfold Fr.join at hd
      unfold Fr.ky
      by_cases hd2:f.d = true
      · rw [if_pos hd2] at hd; cases hd
      · rw [if_neg hd2]
    · unfold Fr.join at hd ⊢
      by_cases hd2:f.d = true
      · rw [if_pos hd2]
      · rw [if_neg hd2] at hd; cases hd
    · unfold Fr.join at hd ⊢
      by_cases hd2:f.d = true
      · rw [if_pos hd2,h1.kk]
        unfold Fr.ky
        rw [if_pos hd2]
        simp
      · rw [if_neg hd2] at hd; cases hd
theorem Rch.plain {b:List UInt8} (hlim:b.length ≤ 1048576) {h:List Vi} {s:RS} (H:Rch b gT h s):PI b h s:=by
  induction H with
  | start=>exact ⟨[],.refl _,waits_nil _ _,trivial,rfl⟩
  | @value h ls i n v ls' i' hr hv _ ih =>
    obtain ⟨st,h1,h2,h3,h4⟩:=ih
    obtain ⟨hi,hx⟩:=run_at hlim h1
    obtain ⟨pn,_⟩:=hr.places
    have pn':(sk h).length = n:=pn
    have hd:=due_o (n:=n) h3 hx
    have hL:(stS st).1.length = n:=by rw [← pn', ← List.length_map (f:=Vi.o),h4,List.length_map]
    rcases hv with ⟨t,j,c1,c2,c3,rfl,rfl,rfl⟩ | ⟨c1,c2,c3,rfl,rfl⟩
    · have e:=step_leaf hi h2 c1 c2
      rw [c3] at e
      obtain ⟨q1,q2,q3⟩:=leaf_val hi hlim c1 c2 c3
      refine deliver_PI (h1.snoc e) h3 ?_
      rw [sk_app (by rw [pn']; exact (due_fr' ls' i n).2.2.1),h4,leaf_walk q3,List.map_append]
      congr 1
      show [_] = [_]
      congr 1
      have hv:Vi.o { dueV ls' i n with kd:=t.k,to:=(i:Int) + (j:Int) } = { Vi.o (dueV ls' i n) with kd:=t.k,to:=(i:Int) + (j:Int) }:=rfl
      rw [hv,hd]
      have:(dueS st).fr = i:=by unfold dueS; rw [due_fr,hx]
      simp only [Sp.v,this,q2,Int.natCast_add]
    · have hl:st.length < 32:=by rw [← h3.len]; exact c2
      have key:∀ (d:Bool) (kdv:Int),kdv = (if d = true then 4 else 3) → v = { dueV ls i n with kd:=kdv } → step b st i = .go ({ d:=d } :: st) (i + 1) → PI b (h ++ [v]) (.mid (newL v :: ls) (i + 1) (n + 1)):=by
        intro d kdv hk hv hst
        subst hv
        refine ⟨{ d:=d },st,h1.snoc hst,⟨⟨?_,?_⟩,?_,fun _=>rfl,fun _=>rfl,fun _ hp=>absurd rfl hp⟩,h3,?_⟩
        · have e1:(newL { dueV ls i n with kd:=kdv }).o = { Vi.o (dueV ls i n) with kd:=kdv,to:=0 }:=rfl
          rw [e1,hd,hk]
          rfl
        · show (dueV ls i n).pl = _
          rw [(due_fr' ls i n).2.2.1,hL]
        · show (0:Int) = _
          unfold Fr.num
          cases d <;> rfl
        · rw [sk_app (by rw [pn']; exact (due_fr' ls i n).2.2.1),h4,stS_open,List.map_append]
          congr 1
          show [_] = [_]
          congr 1
          have e1:Vi.o { dueV ls i n with kd:=kdv } = { Vi.o (dueV ls i n) with kd:=kdv }:=rfl
          rw [e1,hd,hk]
          show (⟨_,_,((dueS st).to:Int),_,_,_,_,_,_⟩:Vi) = ⟨_,_,0,_,_,_,_,_,_⟩
          have:(dueS st).to = 0:=by unfold dueS; cases st <;> rfl
          rw [this]
          rfl
      rcases c3 with ⟨c3,hv⟩ | ⟨c3,hv⟩
      · exact key false 3 rfl hv (by rw [sx_list c1 h2 c3,if_neg (by omega)])
      · exact key true 4 rfl hv (by rw [sx_dict c1 h2 c3,if_neg (by omega)])
  | @part h l r i n l' i' hr hb hp ih =>
    obtain ⟨f,s,h1,h2,h3,h4⟩:=ih
    obtain ⟨hi,hx⟩:=run_at hlim h1
    have hkd:l.kd = f.kd:=by have:=congrArg Vi.kd h2.bs.o; exact this
    rcases hp with ⟨c1,rfl,rfl⟩ | ⟨c1,c2,t,j,c3,c4,rfl,rfl⟩
    · have hd:f.d = false:=by
        rw [c1] at hkd
        unfold Fr.kd at hkd
        cases hf:f.d with
        | false=>rfl
        | true=>rw [hf] at hkd; cases hkd
      refine ⟨f :: s,h1,fun f' r' e=>?_,⟨⟨⟨h2.bs.o,h2.bs.pl⟩,by show l.pa + 1 = _; rw [h2.pa],?_,fun e=>by rw [hd] at e; cases e⟩,h3⟩,h4⟩
      · injection e with e1 e2; subst e1; exact ⟨(fun e=>by rw [hd] at e; cases e),fun _=>hb⟩
      · show l.kk = f.ky
        rw [h2.kl hd]
        unfold Fr.ky
        rw [hd]
        rfl
    · have hd:f.d = true:=by
        rw [c1] at hkd
        unfold Fr.kd at hkd
        cases hf:f.d with
        | true=>rfl
        | false=>rw [hf] at hkd; cases hkd
      have e:=sx_key (r:=s) hi hd (h2.has hd) hb (fun e=>c2 (.inr (.inl e))) (fun e=>c2 (.inr (.inr e))) (fun e=>c2 (.inl e))
      rw [c3] at e
      have hn:¬ (f.ps ≠ []∧leB t.s (f.ps.getLastD (ByteArray.empty,.no)).1 = true):=fun ⟨e1,e2⟩=>c4 ⟨by
        rw [h2.pa]
        unfold Fr.num
        rw [if_pos hd]
        have:=List.length_pos_iff.2 e1
        omega,by rw [h2.kd hd e1]; exact e2⟩
      dsimp only at e
      rw [if_neg hn] at e
      refine ⟨{ f with key:=t.s,has:=true } :: s,h1.snoc e,fun f' r' e=>?_,⟨⟨⟨h2.bs.o,h2.bs.pl⟩,by show l.pa + 1 = _; rw [h2.pa]; rfl,?_,fun _=>rfl⟩,h3⟩,h4⟩
      · injection e with e1 e2; subst e1; exact ⟨fun _=>rfl,fun e=>by rw [show ({ f with key:=t.s,has:=true }:Fr).d = f.d from rfl,hd] at e; cases e⟩
      · show t.s = Fr.ky { f with key:=t.s,has:=true }
        unfold Fr.ky
        rw [if_pos hd]
  | @close h l r i n hr hi hb _ ih =>
    obtain ⟨f,s,h1,h2,h3,h4⟩:=ih
    have e:=sx_end (r:=s) hi h2.has hb
    have hr':=h1.snoc e
    refine deliver_PI hr' h3 ?_
    obtain ⟨pn,pl⟩:=hr.places
    have hlt:=pl l (by simp [RS.ls])
    have pn':(sk h).length = n:=pn
    have hlt':l.pl < (n:Int):=hlt.2
    have hpl:(endV l i).pl = ((stS s).1.length:Int):=h2.bs.pl
    rw [sk_end hpl (by have:=h2.bs.pl; omega),h4,stS_close,stS_top,List.map_append,List.map_cons,List.map_append,List.map_cons]
    have hm:=modify_mid (fun x:Vi=>{ x with to:=(endV l i).to }) (({ dueS s with kind:=f.kd,to:=0 }:Sp).v) ((f.rest (stS s).1.length (dueS s)).map Sp.v) ((stS s).1.map Sp.v)
    rw [List.length_map] at hm
    rw [hm]
    have hlen:i + 1 = (stx s).length + (txt f.close).length:=by
      match s,r,h3,hr' with
      | [], [],_,hr'=>have:=(run_atv hlim hr').2; simpa [stx] using this
      | g :: u,l2 :: r2,h3,hr' =>
        have h5:=(run_at hlim hr').2
        rw [h5]
        show (stx u ++ (g.join f.close).tx).length = (stx u ++ g.tx).length + _
        rw [join_tx h3.1.has,List.length_append,List.length_append,List.length_append]
        omega
    have hE:({ (({ dueS s with kind:=f.kd,to:=0 }:Sp).v) with to:=(endV l i).to }:Vi) = (endS f s).v:=by
      have:(endV l i).to = (((stx s).length + (txt f.close).length:Nat):Int):=by rw [← hlen]; rfl
      rw [this]
      rfl
    rw [hE]
theorem byt_lt {b:List UInt8} {i:Nat} {x:UInt8} (h:byt b i = x) (hx:x ≠ 0):i < b.length:=by
  rcases Nat.lt_or_ge i b.length with g | g
  · exact g
  · rw [byt_end g] at h; exact absurd h.symm hx
theorem Fin.out {b:List UInt8} (hlim:b.length ≤ 1048576) {h:List Vi} {p er:Int} (H:Fin b gT h p er):∃ t, ∃ k:Nat,p = (k:Int)∧DOUT b t k er∧(er = 0 → (sk h).map Vi.o = (walkT t 0 (dueS [])).map Sp.v):=by
  have bad:∀ {k:Nat} {e:Int},Run b (.go [] 0) (.bad k e) → DOUT b t0 k e:=fun hr=>.inr ⟨rfl,.inr (.inl ⟨hr,hlim⟩)⟩
  cases H with
  | vstop _ _ hg=>cases hg
  | estop _ _ _ hg=>cases hg
  | @vbad h ls i n er i' hr hz hv =>
    obtain ⟨st,h1,h2,h3,_⟩:=hr.plain hlim
    obtain ⟨hi,_⟩:=run_at hlim h1
    refine ⟨t0,i',rfl,bad ?_,fun e=>absurd e hz⟩
    rcases hv with ⟨c1,c2,j,c3,rfl⟩ | ⟨c1,c2,c3,rfl,rfl⟩
    · have e:=step_leaf hi h2 c1 c2
      rw [c3] at e
      exact h1.snoc e
    · have hl:32 ≤ st.length:=by rw [← h3.len]; exact c2
      rcases c3 with c3 | c3
      · exact h1.snoc (by rw [sx_list c1 h2 c3,if_pos hl])
      · exact h1.snoc (by rw [sx_dict c1 h2 c3,if_pos hl])
  | @pbad h l r i n er i' hr hb hp =>
    obtain ⟨f,s,h1,h2,h3,_⟩:=hr.plain hlim
    obtain ⟨hi,_⟩:=run_at hlim h1
    obtain ⟨c1,hp⟩:=hp
    have hkd:l.kd = f.kd:=by have:=congrArg Vi.kd h2.bs.o; exact this
    have hd:f.d = true:=by
      rw [c1] at hkd
      unfold Fr.kd at hkd
      cases hf:f.d with
      | true=>rfl
      | false=>rw [hf] at hkd; cases hkd
    have hnz:er ≠ 0:=by
      rcases hp with ⟨_,e,_⟩ | ⟨_,⟨_,_,e,_⟩ | ⟨_,_,_,_,_,e,_⟩⟩
      · rw [e]; decide
      · exact e
      · rw [e]; decide
    refine ⟨t0,i',rfl,bad ?_,fun e=>absurd e hnz⟩
    rcases hp with ⟨c2,rfl,rfl⟩ | ⟨c2,c3⟩
    · refine h1.snoc ?_
      have hlt:i' < b.length:=by
        rcases c2 with c2 | c2 | c2
        · exact byt_lt c2 (by decide)
        · exact byt_lt c2 (by decide)
        · exact byt_lt c2 (by decide)
      unfold step
      rw [if_neg (by omega)]
      dsimp only
      rw [if_pos ⟨hd,h2.has hd⟩,if_neg hb]
      unfold keyy
      rw [if_pos (by rcases c2 with c2 | c2 | c2 <;> rw [c2] <;> rfl)]
    · have e:=sx_key (r:=s) hi hd (h2.has hd) hb (fun e=>c2 (.inr (.inl e))) (fun e=>c2 (.inr (.inr e))) (fun e=>c2 (.inl e))
      rcases c3 with ⟨j,c3,_,rfl⟩ | ⟨t,j,c3,c4,c5,rfl,rfl⟩
      · rw [c3] at e
        exact h1.snoc e
      · rw [c3] at e
        dsimp only at e
        have hps:f.ps ≠ []:=fun e0=>by
          rw [h2.pa] at c4
          unfold Fr.num at c4
          rw [if_pos hd,e0] at c4
          simp at c4
        rw [if_pos ⟨hps,by rw [← h2.kd hd hps]; exact c5⟩] at e
        exact h1.snoc e
  | @trail h i n hr hi =>
    obtain ⟨t,h1,_⟩:=hr.plain hlim
    exact ⟨t0,i,rfl,.inr ⟨rfl,.inl ⟨rfl,hi,hlim,t,h1⟩⟩,fun e=>by cases e⟩
  | @done h i n hr hi =>
    obtain ⟨t,h1,h2⟩:=hr.plain hlim
    exact ⟨t,0,rfl,.inl ⟨rfl,rfl,hlim,i,h1,hi⟩,fun _=>h2⟩
theorem check33 (v:Vi) (w:World):Calls Tryz.prog 31 #[.agg (Vi.cs v)] w fun e w'=>e = .returned (.bool true)∧Below w.heap.size w w':=by
  go_enter Tryz.func31,Tryz.ntmps31
  go_wp2
  go_ret
  exact ⟨rfl,(Below.refl _ _).alloc (Nat.le_refl _) _⟩
theorem visC {b:List UInt8} {A:Nat}:Vis b 31 #[] gT (fun _ _ S=>∀ k, ¬ S k) A where
  keep:=fun _ _ _ _ h _ _=>h
  own:=fun _ _ _ h k hk=>absurd hk (h k)
  enter:=fun args w=>by
    show (callFunc 31 args).run Tryz.prog w = .ok (.enter 31 args) w
    kernel_rfl
  call:=fun h w S v hS hx=>by
    refine (check33 v w).mono ?_
    rintro e w' ⟨rfl,hb⟩
    exact ⟨rfl,S,hS,⟨hb.os,hb.tape,hb.output,hb.size,fun k hk _=>hb.block k hk,fun k hk=>.inl hk⟩⟩
set_option maxHeartbeats 1000000 in
theorem check21 (v:Value) (b:List UInt8) (w:World) (hr:RB w v b) (hev:EVw w) :
    Calls Tryz.prog 18 #[v] w fun e w'=>∃ t k er,e = .returned (.int .i64 er)∧DOUT b t k er∧Below w.heap.size w w':=by
  obtain ⟨a,c,rfl,hc,ht⟩:=hr
  by_cases hl:b.length ≤ 1048576
  · have hA:b = [] ∨ ∀ g o,a = some ⟨g,o,none⟩ → g < w.heap.size:=by
      rcases ht with h | ⟨g',o',e',h1,_⟩
      · exact .inl h
      · exact .inr fun g o e=>by rw [e'] at e; injection e with e; injection e with e1; omega
    have h4:4 < w.heap.size:=by obtain ⟨_,⟨t,p,h2⟩⟩:=hev; exact World.block_lt_of_cell? w _ h2
    have C:=Lib.hid (read26 (visC (A:=w.heap.size)) hl hc hA h4 (Nat.le_refl _) hev ht (fun k=>id))
    have HB:=Lib.hid hl
    clear ht hev hA h4 hc hl
    go_enter Tryz.func18,Tryz.ntmps18
    go_wp2_with fail
    refine C.out.mono ?_
    rintro e w' ⟨h,p,er,S,rfl,hF,_,hv⟩
    obtain ⟨t,k,rfl,hd,_⟩:=hF.out HB.out
    have HF:Hid (DOUT b t k er∧Below w.heap.size w w'):=⟨hd,hv.os,hv.tape,hv.output,hv.size,fun k hk=>hv.block k hk id⟩
    clear hF hd hv C
    go_wp2
    go_ret
    exact ⟨t,k,er,rfl,HF.out⟩
  · have C:=read26x (w:=w) (a:=a) (c:=c) (show 1048576 < b.length by omega) (.func (.func 31) #[] #[])
    have HL:Hid (1048576 < b.length):=by show _ < _; omega
    clear ht hc hev
    go_enter Tryz.func18,Tryz.ntmps18
    go_wp2_with fail
    refine C.mono ?_
    rintro e w' ⟨rfl,rfl⟩
    go_wp2
    go_ret
    exact ⟨t0,0,20,rfl,.inr ⟨rfl,.inr (.inr ⟨HL.out,rfl,rfl⟩)⟩,Below.refl _ _⟩
end Go.Proofs.YtdlnnnlmlaploabGreatDoor
