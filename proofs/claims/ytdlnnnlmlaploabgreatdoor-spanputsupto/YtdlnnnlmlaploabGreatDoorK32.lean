import Derived.Test.YtdlnnnlmlaploabGreatDoorK31
import Derived.Test.YtdlnnnlmlaploabGreatDoorTie
import Derived.Test.YtdlnnnlmlaploabGreatDoorCards
import Derived.ProofKit
import Derived.OpenShut
import Derived.SizedLaws
import Derived.Carry
import Derived.LaidMore
import Derived.Lay
import Derived.SevenTiedAt
import Derived.Stop.Joined
import Derived.Stop.LaidErr
import Derived.Lib.AppendIntMem
import Derived.Lib.LaidTab
import Derived.ChangeSlices
import Derived.LaidLaws
import Derived.Deep.DeepHandedRow
namespace Go.Proofs.YtdlnnnlmlaploabGreatDoor
open Go.ChangeShapes Go.WideShapes Go.ChangeAt Go.RowKit
theorem ownKn:ownKnob Tryz.prog.godebug = none:=by kernel_rfl
theorem laidO:laidOutB Tryz.prog = true:=by kernel_rfl
theorem trodLt {H:Type} {enc:TypeId × Value → H} {W:World} {t:TypeId} {v:Value} {d:DataW H} {p:List MemPlace} (h:DataW.Trod enc Tryz.prog W 0 (fun _=>true) true t v d p):∀ x ∈ p,x.block < W.heap.size:=by
  obtain ⟨m,hm⟩:=h
  exact DataW.trod_lt m _ _ _ hm
set_option maxRecDepth 100000 in
theorem openInts {H:Type} {enc:TypeId × Value → H} {W:World} {base:Nat} {v:Value} {d:DataW H} {p:List MemPlace} {t e:TypeId} {k:IntKind} (ht:Tryz.prog.underlying t = some (.slice e)) (he:Tryz.prog.underlying e = some (.int k)) (hc:Tryz.prog.cellsOf e = 1)
    (hv:Value.okWide Tryz.prog W .any base t v)
    (h:DataW.Trod enc Tryz.prog W 0 (fun _=>true) true t v d p) (hw:∀ q ∈ DataW.weights Tryz.prog t d,q ≤ reachBytes) :
    ∃ (a:Option Addr) (c:Nat) (zs:List Int),v = .slice a zs.length c∧zs.length ≤ c∧zs.length * Tryz.prog.bytesOf e ≤ reachBytes∧(∀ z ∈ zs,(Lit.int k z).wf = true) ∧
      (zs = [] ∨ ∃ g o,a = some ⟨g,o,none⟩∧g < W.heap.size∧∀ i,i < zs.length → W.cell? ⟨g,o + i,none⟩ = some (.int k (zs.getD i 0))):=by
  obtain ⟨a0,len0,cap0,rfl⟩:=okWide_slice ht hv
  obtain ⟨fuel,hf⟩:=h
  rcases open_ints ht he hc hf with ⟨hcs,_⟩ | ⟨x,l,c,zs,hcs,_,hl,hm,hz,hx,hcell,hwz⟩
  · simp [Value.cells] at hcs
    obtain ⟨rfl,rfl,rfl⟩:=hcs
    exact ⟨none,0, [],rfl,Nat.le_refl _,by simp,by simp,.inl rfl⟩
  · simp [Value.cells] at hcs
    obtain ⟨rfl,rfl,rfl⟩:=hcs
    have hz':zs.length = cap0:=by simpa using hz
    have hlen:(zs.take len0).length = len0:=by rw [List.length_take]; omega
    simp only [Prod.mk.injEq] at hx
    obtain ⟨rfl,_⟩:=hx
    refine ⟨some x,cap0,zs.take len0,by rw [hlen],by rw [hlen]; exact hl,?_,fun z hz=>hwz z (List.mem_of_mem_take hz),?_⟩
    · have:=hw (((lits (H:=H) k (zs.take len0)).length + (lits (H:=H) k (zs.drop len0)).length) * Tryz.prog.bytesOf e) (by simp [DataW.weights,ht])
      refine Nat.le_trans (Nat.mul_le_mul_right _ ?_) this
      simp [lits]
    · by_cases h00:zs.take len0 = []
      · exact .inl h00
      · have hpos:0 < len0:=by
          rcases Nat.eq_zero_or_pos len0 with h | h
          · subst h; simp at h00
          · exact h
        obtain ⟨b,off,spot⟩:=x
        have hc0:=hcell 0 (by omega)
        have hspot:spot = none:=by simpa [Addr.add] using World.cell?_spot hc0
        subst hspot
        refine .inr ⟨b,off,rfl,by simpa [Addr.add] using World.block_lt_of_cell? W _ hc0,fun i hi=>?_⟩
        have hi':i < len0:=by rw [hlen] at hi; exact hi
        have:=hcell i (by omega)
        have hadd:(⟨b,off,none⟩:Addr).add i = ⟨b,off + i,none⟩:=by unfold Addr.add; split <;> simp_all
        rw [hadd] at this
        rw [this]
        simp [List.getD,hi']
set_option maxRecDepth 100000 in
theorem openBytes {H:Type} {enc:TypeId × Value → H} {W:World} {base:Nat} {v:Value} {d:DataW H} {p:List MemPlace} (hv:Value.okWide Tryz.prog W .any base 22 v)
    (h:DataW.Trod enc Tryz.prog W 0 (fun _=>true) true 22 v d p) (hw:∀ q ∈ DataW.weights Tryz.prog 22 d,q ≤ reachBytes) :
    ∃ l,RB W v l∧l.length ≤ 140737488351232:=by
  obtain ⟨a,c,zs,rfl,h0c,h1,h2,h3⟩:=openInts (k:=.u8) Tryz.underlying22 Tryz.underlying5 (by kernel_rfl) hv h hw
  have hb:Tryz.prog.bytesOf 5 = 1:=by kernel_rfl
  rw [hb] at h1
  refine ⟨zs.map fun z=>UInt8.ofNat z.toNat,⟨a,c,by rw [List.length_map],by rw [List.length_map]; exact h0c,?_⟩,by rw [List.length_map]; simpa [reachBytes] using h1⟩
  rcases h3 with rfl | ⟨g,o,rfl,hg,hc⟩
  · exact .inl rfl
  · refine .inr ⟨g,o,rfl,hg,fun i hi=>?_⟩
    rw [List.length_map] at hi
    rw [hc i hi]
    have hm:zs.getD i 0 ∈ zs:=by simp [List.getD,List.getElem?_eq_getElem hi]
    have hwf:=h2 _ hm
    have h255:0 ≤ zs.getD i 0∧zs.getD i 0 ≤ 255:=by simpa [Lit.wf,IntKind.min,IntKind.max,IntKind.signed,IntKind.bits] using hwf
    have e:byt (zs.map fun z=>UInt8.ofNat z.toNat) i = UInt8.ofNat (zs.getD i 0).toNat:=by
      unfold byt; simp [List.getD,List.getElem?_map,List.getElem?_eq_getElem hi]
    rw [e,UInt8.toNat_ofNat',Nat.mod_eq_of_lt (by omega)]
    congr 2
    omega
theorem star_es : "*" ++ "errors.errorString" = "*errors.errorString" := by decide
theorem row131 (u : TypeId) (h : Tryz.prog.typeName? 3 u = some "*errors.errorString") : u = 183 :=
  typeName_ptr_named (nm := "errors.errorString") (by rw [star_es]; kernel_rfl) (by kernel_rfl) (by decide) u (by rw [star_es]; exact h)
theorem ev_of_laid {W : World} {r : List (String × DataW Unit)} (h : laidMet Tryz.prog (("math/bits.deBruijn32tab", Rows.laid_math_bits_deBruijn32tab) :: ("math/bits.deBruijn64tab", Rows.laid_math_bits_deBruijn64tab) :: ("internal/strconv.uint64pow10", Rows.laid_internal_strconv_uint64pow10) :: ("strconv.ErrRange", Rows.laid_strconv_ErrRange) :: ("strconv.ErrSyntax", Rows.laid_strconv_ErrSyntax) :: r) W) : EVw W := by
  have h3:=laidMet.tail (laidMet.tail (laidMet.tail h))
  have gR : Tryz.prog.globalNamed "strconv.ErrRange" = some 4 := by kernel_rfl
  have gS : Tryz.prog.globalNamed "strconv.ErrSyntax" = some 3 := by kernel_rfl
  have u94 : Tryz.prog.underlying 151 = some (.interface #[("Error", 186)]) := by kernel_rfl
  have u131:Tryz.prog.underlying 183 = some (.pointer 185):=by kernel_rfl
  obtain ⟨a0,s0,hv0,_,_,_⟩:=laid_sentinel h3 gR (by kernel_rfl) u94 row131 u131 (f:=(match Tryz.prog.underlying 185 with | some (.struct fs)=>fs.getD 0 default | _=>default)) (by kernel_rfl) (by kernel_rfl) (by kernel_rfl) (ts:=9) (by kernel_rfl) (by kernel_rfl) (by kernel_rfl)
  obtain ⟨a1,s1,hv1,_,_,_⟩:=laid_sentinel (laidMet.tail h3) gS (by kernel_rfl) u94 row131 u131 (f:=(match Tryz.prog.underlying 185 with | some (.struct fs)=>fs.getD 0 default | _=>default)) (by kernel_rfl) (by kernel_rfl) (by kernel_rfl) (ts:=9) (by kernel_rfl) (by kernel_rfl) (by kernel_rfl)
  exact ⟨⟨_,_,by simpa using World.var?_cell gS hv1 0⟩,⟨_,_,by simpa using World.var?_cell gR hv0 0⟩⟩
theorem tab_of_laid {W : World} {r : List (String × DataW Unit)} (h : laidMet Tryz.prog (("math/bits.deBruijn32tab", Rows.laid_math_bits_deBruijn32tab) :: ("math/bits.deBruijn64tab", Rows.laid_math_bits_deBruijn64tab) :: ("internal/strconv.uint64pow10", Rows.laid_internal_strconv_uint64pow10) :: r) W) : TB W.heap.size W :=
  Lib.tabBelow_of_tabIs (Lib.tabIs_of_head (g:=0) (t:=161) (e:=144) (n:=20) (by kernel_rfl) (by kernel_rfl) (by kernel_rfl) (by kernel_rfl) (by kernel_rfl) (by kernel_rfl) (laidMet.tail (laidMet.tail h)))
set_option maxRecDepth 100000 in
theorem openBytesS {H:Type} {enc:TypeId × Value → H} {W:World} {base:Nat} {v:Value} {d:DataW H} {p:List MemPlace} (hv:Value.okWide Tryz.prog W .any base 22 v)
    (h:DataW.Trod enc Tryz.prog W 0 (fun _=>true) true 22 v d p) (hw:∀ q ∈ DataW.weights Tryz.prog 22 d,q ≤ reachBytes) :
    ∃ l,RB W v l∧l.length ≤ 140737488351232∧(v = .slice none 0 0 ∨ ∃ ad n c,v = .slice (some ad) n c):=by
  obtain ⟨l,hr,hl⟩:=openBytes hv h hw
  refine ⟨l,hr,hl,?_⟩
  obtain ⟨a,len,cap,rfl⟩:=okWide_slice Tryz.underlying22 hv
  obtain ⟨fuel,hf⟩:=h
  have hf':DataW.trod enc Tryz.prog W 0 (fun _=>true) true fuel 22 [.slice a len cap] = some (d,p):=hf
  obtain ⟨a',c',he,_,_⟩:=hr
  cases he
  rcases DataW.trod_slice Tryz.underlying22 hf' with ⟨h0,h1⟩ | ⟨a1,len1,cap1,elems,rest,m,_,h0,h1,_,_,_,hlen,_,_,_⟩
  · simp at h0
    obtain ⟨rfl,rfl,rfl⟩:=h0
    exact .inl (by simp)
  · simp at h0 h1
    obtain ⟨rfl,h2,rfl⟩:=h0
    exact .inr ⟨_,_,_,rfl⟩
theorem cells55:Tryz.prog.cellsOf 51 = 2:=by kernel_rfl
theorem bytes55:Tryz.prog.bytesOf 51 = 24:=by kernel_rfl
theorem open55 {H:Type} {enc:TypeId × Value → H} {w:World} {fuel:Nat} {cs:List Value} {x:DataW H × List MemPlace} (h:DataW.trod enc Tryz.prog w 0 (fun _=>true) true fuel 51 cs = some x):∃ (n:Int) (s:ByteArray),cs = [.int .i64 n,.string s]:=by
  obtain ⟨xs,m,rfl,rfl,hl,hx,hf⟩:=DataW.trod_struct Tryz.underlying51 h
  rw [cells55] at hl
  obtain ⟨c0,c1,rfl⟩:=len2 (l:=cs) hl
  obtain ⟨x0,x1,rfl⟩:=len2 (l:=xs) (by simpa using hx)
  have f0:=hf 0 _ rfl
  have f1:=hf 1 _ rfl
  have c3:Tryz.prog.cellsOf 3 = 1:=by kernel_rfl
  simp [cells9,c3] at f0 f1
  obtain ⟨n,e1,_⟩:=DataW.trod_int Tryz.underlying3 f0
  obtain ⟨s,e2,_⟩:=DataW.trod_string Tryz.underlying9 f1
  simp at e1 e2
  subst e1 e2
  exact ⟨n,s,rfl⟩
set_option maxRecDepth 100000 in
theorem openSteps {H:Type} {enc:TypeId × Value → H} {W:World} {base:Nat} {v:Value} {d:DataW H} {p:List MemPlace} (hv:Value.okWide Tryz.prog W .any base 23 v)
    (h:DataW.Trod enc Tryz.prog W 0 (fun _=>true) true 23 v d p) (hw:∀ q ∈ DataW.weights Tryz.prog 23 d,q ≤ reachBytes) :
    ∃ l,PSA W.heap.size W v l∧l.length * 24 ≤ 140737488355328∧(v = .slice none 0 0 ∨ ∃ ad n c,v = .slice (some ad) n c):=by
  obtain ⟨a0,len0,cap0,rfl⟩:=okWide_slice Tryz.underlying23 hv
  obtain ⟨fuel,hf⟩:=h
  have hf':DataW.trod enc Tryz.prog W 0 (fun _=>true) true fuel 23 [.slice a0 len0 cap0] = some (d,p):=hf
  have shape:Value.slice a0 len0 cap0 = .slice none 0 0 ∨ ∃ ad n c,Value.slice a0 len0 cap0 = .slice (some ad) n c:=by
    rcases DataW.trod_slice Tryz.underlying23 hf' with ⟨h0,_⟩ | ⟨a1,len1,cap1,elems,rest,m,_,h0,_⟩
    · simp at h0
      obtain ⟨rfl,rfl,rfl⟩:=h0
      exact .inl rfl
    · simp at h0
      obtain ⟨rfl,_,_⟩:=h0
      exact .inr ⟨_,_,_,rfl⟩
  obtain ⟨a,len,cap,e,hby,hrow⟩:=openRow Tryz.underlying23 hf' hw (by rw [cells55]; omega)
  cases e
  rw [bytes55] at hby
  have hby':len0 * 24 ≤ 140737488355328:=Nat.le_trans hby (by decide)
  rcases hrow with rfl | ⟨m,_,b,o,rfl,hlt,hel⟩
  · exact ⟨[],⟨a0,cap0,rfl,.inl rfl⟩,by simp,shape⟩
  have each:∀ i,i < len0 → ∃ x:Int × ByteArray,W.cell? ⟨b,o + i * 2,none⟩ = some (.int .i64 x.1)∧W.cell? ⟨b,o + i * 2 + 1,none⟩ = some (.string x.2):=fun i hi=>by
    obtain ⟨cs,y,_,hc,ht,_⟩:=hel i hi
    obtain ⟨n,s,rfl⟩:=open55 ht
    rw [cells55] at hc
    exact ⟨(n,s),hc 0 (by omega),hc 1 (by omega)⟩
  have hinh:Inhabited (Int × ByteArray):=⟨(0,ByteArray.empty)⟩
  obtain ⟨f,hf2⟩:=Go.Deep.choose_lt each
  refine ⟨(List.range len0).map f,⟨_,cap0,by simp,.inr ⟨b,o,rfl,hlt,fun i n k hi=>?_⟩⟩,by simpa using hby',shape⟩
  rw [List.getElem?_map,Option.map_eq_some_iff] at hi
  obtain ⟨j,hj,e⟩:=hi
  have hj2:=List.getElem?_eq_some_iff.1 hj
  obtain ⟨hj3,hj4⟩:=hj2
  simp at hj3 hj4
  subst hj4
  have:=hf2 i hj3
  rw [e] at this
  exact this
theorem part_le {H:Type} {d:DataW H} {l:List (DataW H)} (h:d ∈ l):Rows.uptoBulk d ≤ Rows.uptoBulkAll l:=by
  induction l with
  | nil=>cases h
  | cons x r ih =>
    simp only [Rows.uptoBulkAll]
    cases List.mem_cons.1 h with
    | inl e=>subst e; omega
    | inr e=>have:=ih e; omega
set_option maxRecDepth 100000 in
theorem steps_bulk {H:Type} {enc:TypeId × Value → H} {W:World} {v:Value} {d:DataW H} {ps:List MemPlace} {l:List (Int × ByteArray)} (h:DataW.Trod enc Tryz.prog W 0 (fun _=>true) true 23 v d ps) (hP:PSA W.heap.size W v l):∀ q ∈ l,q.2.size ≤ Rows.uptoBulk d:=by
  obtain ⟨fuel,hf⟩:=h
  obtain ⟨a,c,rfl,hcell⟩:=hP
  have hf':DataW.trod enc Tryz.prog W 0 (fun _=>true) true fuel 23 [.slice a l.length c] = some (d,ps):=hf
  rcases DataW.trod_slice Tryz.underlying23 hf' with ⟨h0,_⟩ | ⟨a1,len1,cap1,elems,rest,m,_,h0,h1,_,_,_,hlen,hel,_,_⟩
  · simp at h0
    obtain ⟨_,h2,_⟩:=h0
    intro q hq
    rw [h2] at hq; cases hq
  · simp at h0 h1
    obtain ⟨rfl,h2,rfl⟩:=h0
    obtain ⟨rfl,_⟩:=h1
    intro q hq
    obtain ⟨i,hi⟩:=List.getElem?_of_mem hq
    have hil:i < l.length:=(List.getElem?_eq_some_iff.1 hi).1
    rcases hcell with h00 | ⟨g,o,ea,_,hc⟩
    · rw [h00] at hil; simp at hil
    injection ea with ea
    subst ea
    obtain ⟨_,z2⟩:=hc i q.1 q.2 hi
    have:=hel i (by omega)
    rw [List.getElem?_eq_getElem (by omega)] at this
    obtain ⟨cs,g1,g2⟩:=Option.bind_eq_some_iff.1 this
    have hmem:elems[i] ∈ elems:=List.getElem_mem _
    generalize elems[i] = el at *
    obtain ⟨_,hl2,hj2⟩:=World.cells?_some g1
    rw [cells55] at hl2 hj2
    obtain ⟨xs,m',rfl,rfl,hl,hx,hfx⟩:=DataW.trod_struct Tryz.underlying51 g2
    obtain ⟨c0,c1,rfl⟩:=len2 (l:=cs) hl2
    obtain ⟨x0,x1,rfl⟩:=len2 (l:=xs) (by simpa using hx)
    have f1:=hfx 1 _ rfl
    simp [cells9] at f1
    obtain ⟨s,e2,e3,_⟩:=DataW.trod_string Tryz.underlying9 f1
    simp at e2
    subst e2
    have hk:=hj2 1 (by omega)
    have hadd:∀ m:Nat, ∀ o':Nat,(⟨g,o',none⟩:Addr).add m = ⟨g,o' + m,none⟩:=fun m o'=>by unfold Addr.add; split <;> simp_all
    rw [hadd,hadd] at hk
    have hz:W.cell? ⟨g,o + i * 2 + 1,none⟩ = some (.string s):=by simpa using hk
    rw [z2] at hz
    have hqs:q.2 = s:=by simpa using hz
    have hb:=part_le (List.mem_map_of_mem (f:=(·.1)) hmem)
    rw [e3] at hb
    simp only [List.map_cons,List.map_nil,Rows.uptoBulk,Rows.uptoBulkAll] at hb ⊢
    have hsz:s.data.toList.length = s.size:=by rw [Array.length_toList]; rfl
    rw [hqs]
    omega
set_option maxRecDepth 100000 in
theorem spanPutsUpto_contract (H:Type) (enc:TypeId × Value → H) (W:World) (base:Nat) (args:Array Value) (ds gs:List (DataW H)) (before:List MemPlace)
    (hval0:∀ (j:Nat) t v,Tryz.f3.params[j]? = some t → args[j]? = some v → Value.okWide Tryz.prog W .any base t v)
    (hW:DataW.Whole enc Tryz.prog Tryz.f3.params.toList Rows.spanPutsSpec.vars false W args.toList ds gs before)
    (hk0:Rows.uptoSmall H (ds ++ gs) = true) (hL:laidMetH Tryz.prog Rows.spanPutsUptoRow.laid W)
    (hsz0:(DataW.weightsEach Tryz.prog (Tryz.f3.params.toList ++ Rows.spanPutsSpec.plain.varTypes Tryz.prog) (ds ++ gs)).all (· ≤ reachBytes) = true) :
    Calls Tryz.prog 3 args W fun e W'=>∃ v,e = .returned v∧Rows.spanPutsSpec.post enc Tryz.prog Tryz.f3 false true false false W args v W':=by
  have hval:∀ (j:Nat) t v,Tryz.f3.params[j]? = some t → args[j]? = some v → Value.okWide Tryz.prog W .any base t v:=hval0
  have hsz:=hsz0
  have hLT:EVw W∧TB W.heap.size W:=by
    have hL2:=hL
    rw [MakeChecks.laidMetH_plain _ _ _ (by kernel_rfl)] at hL2
    exact ⟨ev_of_laid hL2,tab_of_laid hL2⟩
  have hW':=hW
  obtain ⟨p,q,hA0,hV,rfl,_,_⟩:=hW
  have hA:DataW.TrodAll enc Tryz.prog W 0 (fun _=>true) true Tryz.f3.params.toList args.toList ds p:=hA0
  rw [Tryz.params3] at hA hval hsz
  obtain ⟨v0,vs0,d0,ds0,p0,q0,hargs,rfl,rfl,h0,r0⟩:=trodAll_cons hA
  obtain ⟨v1,vs1,d1,ds1,p1,q1,rfl,rfl,rfl,h1,r1⟩:=trodAll_cons r0
  obtain ⟨v2,vs2,d2,ds2,p2,q2,rfl,rfl,rfl,h2,r2⟩:=trodAll_cons r1
  obtain ⟨rfl,rfl,rfl⟩:=trodAll_nil r2
  obtain rfl:args = #[v0,v1,v2]:=by cases args; simp_all
  obtain ⟨rfl,rfl⟩:=trodVars_none hV
  have hk:Rows.uptoBulk d0 + Rows.uptoBulk d1 + Rows.uptoBulk d2 ≤ 1048576:=by
    have h:=of_decide_eq_true hk0
    simp only [List.cons_append,List.nil_append,Rows.uptoBulkAll] at h
    omega
  obtain ⟨x0,e0,g0,s0⟩:=openBytesS (hval 0 22 v0 rfl rfl) h0 (fun q hq=>by
    have:=List.all_eq_true.1 hsz q (by simp [DataW.weightsEach,hq])
    simpa using this)
  obtain ⟨x1,e1,g1,s1⟩:=openSteps (hval 1 23 v1 rfl rfl) h1 (fun q hq=>by
    have:=List.all_eq_true.1 hsz q (by simp [DataW.weightsEach,hq])
    simpa using this)
  obtain ⟨x2,e2,g2,s2⟩:=openBytesS (hval 2 22 v2 rfl rfl) h2 (fun q hq=>by
    have:=List.all_eq_true.1 hsz q (by simp [DataW.weightsEach,hq])
    simpa using this)
  have hks:∀ q ∈ x1,q.2.size ≤ 10000000000000:=fun q hq=>by have:=steps_bulk h1 e1 q hq; omega
  clear hA0 hval0
  simp only [List.append_nil] at hW'
  refine (puts3 awi v0 v1 v2 x0 x2 x1 W e0 s0 g0 e2 s2 g2 e1 s1 g1 hks hLT.1 hLT.2).mono fun e W' ⟨he,bel⟩=>?_
  subst he
  exact ⟨_,rfl,_,_,_, [],_, [],hW',trodAll_mk1 (shut_bool Tryz.underlying4 _),(trodAll_cons_mk (Below.trod laidO (by kernel_rfl) (of_decide_eq_true (by kernel_rfl)) h0 bel (trodLt h0)) (trodAll_cons_mk (Below.trod laidO (by kernel_rfl) (of_decide_eq_true (by kernel_rfl)) h1 bel (trodLt h1)) (trodAll_cons_mk (Below.trod laidO (by kernel_rfl) (of_decide_eq_true (by kernel_rfl)) h2 bel (trodLt h2)) trodAll_mk0))),rfl,bel.frame _,fun h=>by cases h⟩
theorem spanPutsUpto_laid (os:Os):laidMet Tryz.prog Rows.spanPutsUptoRow.laid ((World.laidAll Tryz.prog os Rows.spanPutsUptoRow.laid).forCall (fun _ _=>0) ⟨#[],#[.slice none 0 0,.slice none 0 0,.slice none 0 0], []⟩).memory:=
  laidMet.of_heap (by rfl) (laidMet_laidAll (os:=os) _ (by kernel_rfl) (by kernel_rfl))
theorem spanPutsUpto_reads (os:Os) {H:Type} (enc:TypeId × Value → H):∃ places,DataW.whole enc Tryz.prog ((World.laidAll Tryz.prog os Rows.spanPutsUptoRow.laid).forCall (fun _ _=>0) ⟨#[],#[.slice none 0 0,.slice none 0 0,.slice none 0 0], []⟩).memory Tryz.f3.params.toList Rows.spanPutsSpec.vars false #[.slice none 0 0,.slice none 0 0,.slice none 0 0].toList 8 = some ([.nil,.nil,.nil], [],places):=
  ⟨[],by kernel_rfl⟩
set_option maxRecDepth 100000 in
theorem spanPutsUpto_lifted (os:Os) (started:os.Started) (H:Type) (enc:TypeId × Value → H) (F:Stop.Interp) :
    ReturnsInHanded {} Tryz.checked os 3 .any ((Rows.OpenSpec.upto Rows.spanPutsSpec).preRow enc Tryz.prog Tryz.f3 Rows.spanPutsUptoRow.domain false Rows.spanPutsUptoRow.laid) (((Rows.OpenSpec.upto Rows.spanPutsSpec).at F).post enc Tryz.prog Tryz.f3 false true false false):=by
  obtain ⟨places,hx⟩:=spanPutsUpto_reads os enc
  refine returnsInHanded_of_row (C:=Tryz.checked) (s:=Rows.OpenSpec.upto Rows.spanPutsSpec) ownKn started (by kernel_rfl) Tryz.func3
    (witness_row_at (enc:=enc) (C:=Tryz.checked) false (World.laidAll Tryz.prog os Rows.spanPutsUptoRow.laid) #[.slice none 0 0,.slice none 0 0,.slice none 0 0] (World.laidAll_os _ _ _) (by kernel_rfl) (by kernel_rfl) (by kernel_rfl)
      (OpenSpec.preRow_of_cond 8 hx (by kernel_rfl) (fun k hk=>by cases hk; kernel_rfl) (by kernel_rfl) (spanPutsUpto_laid os))) ?_
  intro W base args ds gs before hval hW _ hcond hsz hL _ _
  exact spanPutsUpto_contract H enc W base args ds gs before hval hW (hcond _ rfl) hL hsz
theorem spanPutsUpto_holds:Rows.SpanPutsUptoSaid:=
  OpenClaim.holds_of_cond 3 Tryz.f3 rfl rfl rfl rfl rfl rfl rfl ⟨rfl,rfl,rfl,rfl,rfl⟩ rfl rfl rfl rfl rfl (by kernel_rfl) Tryz.func3 (by kernel_rfl)
    (of_decide_eq_true (by kernel_rfl)) (by unfold Func.isWrapper; first | (rw [if_pos (by decide +kernel)]; kernel_rfl) | (rw [if_neg (by decide +kernel)]; exact ⟨rfl,rfl⟩))
    (fun os started H enc _ F=>by rw [OpenClaim.pre_eq_preRow]; exact spanPutsUpto_lifted os started H enc F)
theorem spanPutsUpto_card_holds:Rows.SpanPutsUptoCardSaid:=
  Claim7.holds_tied_plain_at .later [] _ _ _ _ spanPutsUpto_holds (fun _ h=>by cases h) (by kernel_rfl) (fun _ h=>by cases h) spanPutsUpto_row_tie rfl ⟨rfl,rfl⟩ (by kernel_rfl) rfl
    (fun f fn hf hfn=>by
      obtain rfl : f = 3 := Option.some.inj ((show Tryz.prog.funcNamed "torrent/torrentlaw3.SpanPuts" = some 3 by kernel_rfl).symm.trans hf) |>.symm
      obtain rfl:fn = Tryz.f3:=(Option.some.inj (Tryz.func3.symm.trans hfn)).symm
      exact ⟨by kernel_rfl,fun j t ht=>by
        rw [Tryz.params3] at ht
        have hm:t ∈ [22,23,22]:=by simpa using Array.mem_of_getElem? ht
        have hall:([22,23,22].all fun u=>!Tryz.prog.wantsStandIn u) = true:=by kernel_rfl
        exact (show Tryz.prog.wantsStandIn t = false by simpa using List.all_eq_true.1 hall t hm)⟩)
    (by kernel_rfl)
end Go.Proofs.YtdlnnnlmlaploabGreatDoor
