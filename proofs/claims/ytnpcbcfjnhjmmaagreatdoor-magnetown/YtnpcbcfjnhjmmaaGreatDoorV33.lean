import Derived.Test.YtnpcbcfjnhjmmaaGreatDoorV32
import Derived.Lib.Join
import Derived.Shelf.Strings.OnBuilder
import Derived.OwnWalk
import Derived.Test.YtnpcbcfjnhjmmaaGreatDoorV02
namespace Go.Proofs.YtnpcbcfjnhjmmaaGreatDoor
open Go.Shelf Go.RowKit Go.Deep Go.Sort
/-- a parameter of a link: its key and its value -/
abbrev KV := ByteArray × ByteArray
def bs (l : List UInt8) : ByteArray := ⟨l.toArray⟩
theorem bs_tl (l : List UInt8) : (bs l).data.toList = l := by simp [bs]
theorem bs_size (l : List UInt8) : (bs l).size = l.length := by simp [bs, ByteArray.size]
/-- a parameter as it is written -/
def pcT (p : KV) : List UInt8 := esc p.1.data.toList ++ ([61] ++ esc p.2.data.toList)
def txtT (ps : List KV) : List UInt8 := ps.flatMap fun p => [38] ++ pcT p
def scm : List UInt8 := [109, 97, 103, 110, 101, 116, 58, 63]
/-- parameters as they are written -/
def wS : List KV → List UInt8
  | [] => []
  | p :: ps => scm ++ pcT p ++ txtT ps
theorem txtT_app (a b : List KV) : txtT (a ++ b) = txtT a ++ txtT b := by simp [txtT]
theorem wS_one (p : KV) : wS [p] = scm ++ pcT p := by simp [wS, txtT]
theorem wS_app (ps qs : List KV) (h : ps ≠ []) : wS (ps ++ qs) = wS ps ++ txtT qs := by
  cases ps with
  | nil => exact absurd rfl h
  | cons a t => simp [wS, txtT_app]
theorem wS_snoc (ps : List KV) (p : KV) (h : ps ≠ []) : wS (ps ++ [p]) = wS ps ++ ([38] ++ pcT p) := by
  rw [wS_app ps [p] h]; simp [txtT]
theorem sg_pos (x : UInt8) : 1 ≤ (sg x).length := by unfold sg; split <;> simp
theorem esc_ge (l : List UInt8) : l.length ≤ (esc l).length := by
  induction l with
  | nil => simp [esc]
  | cons x l ih =>
    have h1 := sg_pos x
    have e : esc (x :: l) = sg x ++ esc l := rfl
    rw [e, List.length_append, List.length_cons]
    omega
theorem tl_len (s : ByteArray) : s.data.toList.length = s.size := by rw [Array.length_toList]; rfl
theorem pcT_ge (p : KV) : p.1.size ≤ (pcT p).length ∧ p.2.size ≤ (pcT p).length := by
  have h1 := esc_ge p.1.data.toList
  have h2 := esc_ge p.2.data.toList
  rw [tl_len] at h1 h2
  unfold pcT
  simp only [List.length_append, List.length_cons, List.length_nil]
  omega
theorem wS_pre {a b : List KV} (h : a <+: b) : (wS a).length ≤ (wS b).length := by
  obtain ⟨t, rfl⟩ := h
  cases a with
  | nil => simp [wS]
  | cons p ps => rw [wS_app _ _ (by simp)]; simp
theorem wS_last (ps : List KV) (p : KV) : (pcT p).length ≤ (wS (ps ++ [p])).length := by
  cases ps with
  | nil => rw [List.nil_append, wS_one]; simp
  | cons a t => rw [wS_snoc _ _ (by simp)]; simp; omega
theorem wS_big {ps : List KV} {p : KV} (h : 4096 < p.1.size ∨ 4096 < p.2.size) : 4096 < (wS (ps ++ [p])).length := by
  have h1 := wS_last ps p
  have h2 := pcT_ge p
  omega
theorem wS_stop {pre ps : List KV} (h : pre <+: ps) (h2 : 4096 < (wS pre).length) : ¬ (wS ps).length ≤ 4096 := by
  have := wS_pre h
  omega
/-- urn:btmh:1220 -/
def inB : List UInt8 := [117, 114, 110, 58, 98, 116, 109, 104, 58, 49, 50, 50, 48]
def hxL (l : List UInt8) : List Int := Hx2.hexI (l.map fun x => (x.toNat : Int))
def infoV (k : Lk) : ByteArray := bs inB ++ Hx2.strI (hxL k.l)
def rsT (rs : List (Int × Int)) : List UInt8 := Lib.join (rs.map rnT) [44]
/-- the parameters of a link -/
def prm (k : Lk) : List KV :=
  (bs [120, 116], infoV k) :: ((if k.nm.toList == [] then [] else [(bs [100, 110], k.nm)]) ++ ((if k.rs.length = 0 then [] else [(bs [115, 111], bs (rsT k.rs))]) ++
    (k.ts.map (fun t => (bs [116, 114], t)) ++ (k.ps.map (fun t => (bs [120, 46, 112, 101], t)) ++ (List.range k.dn).map fun i => (k.ky i, (k.dv i).s)))))
end Go.Proofs.YtnpcbcfjnhjmmaaGreatDoor
namespace Go.Proofs.YtnpcbcfjnhjmmaaGreatDoor
open Go.Shelf Go.RowKit Go.Deep Go.Sort
shelf_lay Lays.n156 Nm 156 at Tryz as laysJoin
theorem bxJoin : Builder.Extra Tryz.prog laysJoin_ren where
  sizeBuilder := by kernel_rfl
  liesBuilder := by kernel_rfl
  t5 := Tryz.underlying5
  a5 := Tryz.isAgg5
  z5 := Tryz.sizeOf5
  v5 := Tryz.zeroValue5
  infoByte := by kernel_rfl
  cellsByte := by kernel_rfl
  sizeByte := by kernel_rfl
  neB5 := by decide
theorem own_setR {w : World} {B e s n g i cap : Nat} {u : Value} {us : List Value} (h : w.ownsRow B e s (.slice (some ⟨g, 0, none⟩) n cap) n us) : (w.setCell ⟨g, i, none⟩ u).ownsRow B e s (.slice (some ⟨g, 0, none⟩) n cap) n (us.set i u) := by
  refine ⟨by rw [List.length_set]; exact h.1, ?_⟩
  rcases h.2 with ⟨h', _⟩ | ⟨g', cap', cur, h', h2, h3, h4, h5, h6, h7⟩
  · simp at h'
  · simp only [Value.slice.injEq, Option.some.injEq, Addr.mk.injEq, and_true, true_and] at h'
    obtain ⟨rfl, rfl⟩ := h'
    refine .inr ⟨_, cap, cur.setIfInBounds i u, rfl, h2, by simp [World.setCell, Array.getElem?_modify, h3], h4, h5, by simpa using h6, ?_⟩
    rw [← h7]
    simp [List.take_set]
theorem own_atR {w : World} {B e n g cap : Nat} {us : List Value} (h : w.ownsRow B e 1 (.slice (some ⟨g, 0, none⟩) n cap) n us) (i : Nat) (u : Value) (hu : us[i]? = some u) : w.cell? ⟨g, i, none⟩ = some u ∧ w.frozen? ⟨g, i, none⟩ = false := by
  have h1 := h.cells (g := g) rfl i u hu
  have hadd : (⟨g, 0, none⟩ : Addr).add i = ⟨g, i, none⟩ := by unfold Addr.add; split <;> simp_all
  rw [hadd] at h1
  refine ⟨h1, ?_⟩
  rcases h.2 with ⟨e, _⟩ | ⟨g', cap', cur, e, _, h3, _⟩
  · cases e
  · cases e
    simp [World.frozen?, h3]
/-- the texts of the first k runs, the rest empty -/
def rtC (rs : List (Int × Int)) (k : Nat) : List Value := (rs.take k).map (fun x => Value.string (bs (rnT x))) ++ List.replicate (rs.length - k) (.string ByteArray.empty)
theorem rtC_zero (rs : List (Int × Int)) : rtC rs 0 = List.replicate rs.length (.string ByteArray.empty) := by simp [rtC]
theorem rtC_at (rs : List (Int × Int)) (k : Nat) (h : k < rs.length) : (rtC rs k)[k]? = some (.string ByteArray.empty) := by
  unfold rtC
  have hl : ((rs.take k).map (fun x => Value.string (bs (rnT x)))).length = k := by rw [List.length_map, List.length_take]; omega
  rw [List.getElem?_append_right (by rw [hl]; exact Nat.le_refl _), hl, Nat.sub_self, List.getElem?_replicate, if_pos (by omega)]
theorem rtC_set (rs : List (Int × Int)) (k : Nat) (x : Int × Int) (h : rs[k]? = some x) : (rtC rs k).set k (.string (bs (rnT x))) = rtC rs (k + 1) := by
  have hk := (List.getElem?_eq_some_iff.1 h).1
  unfold rtC
  obtain ⟨m, hm⟩ : ∃ m, rs.length - k = m + 1 := ⟨rs.length - k - 1, by omega⟩
  rw [List.take_add_one, h, hm, show rs.length - (k + 1) = m by omega, List.set_append]
  have hl : ((rs.take k).map (fun x => Value.string (bs (rnT x)))).length = k := by simp; omega
  rw [hl, if_neg (by omega)]
  simp [List.replicate_succ]
theorem rtC_all (rs : List (Int × Int)) : rtC rs rs.length = (rs.map fun x => bs (rnT x)).map Value.string := by simp [rtC]
theorem rnT_len (x : Int × Int) (hx : RnOk x) (hs : x.1 + x.2 ≤ 4096) : (rnT x).length ≤ 43 := by
  obtain ⟨⟨p1, p2⟩, q1, q2⟩ := hx
  have h1 := Lib.itoa_length_le x.1 (by omega) (by omega)
  have h2 := Lib.itoa_length_le (x.1 + x.2 - 1) (by omega) (by omega)
  unfold rnT
  split <;> simp <;> omega
theorem lens_le (l : List (List UInt8)) (n : Nat) (h : ∀ x ∈ l, x.length ≤ n) : Lib.lens l ≤ n * l.length := by
  induction l with
  | nil => simp [Lib.lens]
  | cons a t ih =>
    have h1 := h a (by simp)
    have h2 := ih fun x hx => h x (by simp [hx])
    simp [Lib.lens] at h2 ⊢
    rw [Nat.mul_succ]
    omega
theorem rsT_len (rs : List (Int × Int)) (hok : ∀ x ∈ rs, RnOk x ∧ x.1 + x.2 ≤ 4096) : (rsT rs).length ≤ 44 * rs.length := by
  unfold rsT
  cases rs with
  | nil => simp [Lib.join_nil]
  | cons a t =>
    rw [List.map_cons, Lib.join_length]
    have := lens_le ((a :: t).map rnT) 43 (by
      intro x hx
      obtain ⟨y, hy, rfl⟩ := List.mem_map.1 hx
      exact rnT_len y (hok y hy).1 (hok y hy).2)
    simp at this ⊢
    omega
theorem info9z : (Tryz.prog.info? 9).map (fun i => (i.zero, i.size, i.bytes)) = some (some (.string ByteArray.empty), 1, 16) := by kernel_rfl
theorem mk9 (n : Nat) : (madeCells (Value.string ByteArray.empty).cells (n * 1)).toList = List.replicate n (.string ByteArray.empty) := by
  rw [Nat.mul_one]
  apply List.ext_getElem?
  intro i
  rw [List.getElem?_replicate]
  by_cases h : i < n
  · rw [if_pos h]
    simp [madeCells, Value.cells, h, Nat.mod_one]
  · rw [if_neg h]
    simp [madeCells, Value.cells, h]
end Go.Proofs.YtnpcbcfjnhjmmaaGreatDoor
namespace Go.Proofs.YtnpcbcfjnhjmmaaGreatDoor
open Go.Shelf Go.RowKit Go.Deep Go.Sort
set_option maxHeartbeats 4000000 in
set_option maxRecDepth 100000 in
theorem runsText (v : Value) (rs : List (Int × Int)) (w : World) (hr : RR (fun _ => True) w v rs) (hn : rs.length ≤ 4096) (hok : ∀ x ∈ rs, RnOk x ∧ x.1 + x.2 ≤ 4096) (hT : IT w) :
    Calls Tryz.prog 76 #[v] w fun e w' => e = .returned (.string ⟨(rsT rs).toArray⟩) ∧ Below w.heap.size w w' := by
  obtain ⟨i0, hi, hz0, hz1, hz2⟩ := info_parts info9z
  have HL : Hid ((rsT rs).length ≤ 44 * rs.length) := rsT_len rs hok
  have HOK : Hid (∀ x ∈ rs, RnOk x ∧ x.1 + x.2 ≤ 4096) := hok
  have HT : Hid (IT w) := hT
  obtain ⟨a, c, rfl, hx⟩ := hr
  have HX := Lib.hid hx
  clear hx hok hT
  generalize hnn : rs.length = n at *
  have HNN : Hid (rs.length = n) := hnn
  clear hnn
  go_enter Tryz.func76, Tryz.ntmps76
  go_wp2_with (at_make; refine wpList_make_full _ rfl (.tmp 7) (.tmp 7) 24 rfl w.heap.size 9 i0 _ 1 Tryz.underlying24 hi hz0 hz1 .i64 .i64 (n : Int) (n : Int) n rfl rfl rfl rfl (by rw [hz2]; omega) (by unfold maxLen; omega) (Nat.le_refl _) ?_; intro w1 hown hgrow; rw [mk9] at hown; have HO : Hid (Below w.heap.size w w1 ∧ w1.ownsRow w.heap.size 9 1 (.slice (some ⟨w.heap.size, 0, none⟩) n n) n (List.replicate n (.string ByteArray.empty))) := ⟨(Below.refl _ _).grown hgrow (Nat.le_refl _) (fun k e => by cases e), hown⟩; clear hown hgrow)
  go_loopw [11] (fun t wr => ∃ k : Nat, k ≤ n ∧ t = .int .i64 k ∧ Hid (Below w.heap.size w wr ∧ wr.ownsRow w.heap.size 9 1 (.slice (some ⟨w.heap.size, 0, none⟩) n n) n (rtC rs k))) (fun t _ => n - (intOf t).toNat)
  case atStart => exact ⟨0, Nat.zero_le _, rfl, HO.out.1, by rw [rtC_zero, HNN.out]; exact HO.out.2⟩
  case round =>
    clear HO
    obtain ⟨k, hk, rfl, HI⟩ := hrel
    by_cases hlt : k < n
    · obtain ⟨x, hx⟩ : ∃ x, rs[k]? = some x := ⟨_, List.getElem?_eq_getElem (by rw [HNN.out]; exact hlt)⟩
      obtain ⟨g, o, rfl, _, hg, hc⟩ := HX.out.resolve_left (fun e => by omega)
      have g0 := Below.cellS HI.out.1 (Nat.le_refl _) (hc k x hx).1
      have g1 := Below.cellS HI.out.1 (Nat.le_refl _) (hc k x hx).2
      have hko := HOK.out x (List.mem_of_getElem? hx)
      have HXI := Lib.hid hx
      have hba : Below w.heap.size w (wr.alloc (Obj.cells #[.int .i64 x.1, .int .i64 x.2] 36)) := HI.out.1.alloc HI.out.1.size _
      have HR := Lib.hid (runText x (wr.alloc (Obj.cells #[.int .i64 x.1, .int .i64 x.2] 36)) hko.1 hko.2 (HT.out.below hba))
      have HBA := Lib.hid hba
      clear hc hx hko hba
      obtain ⟨xa, xb⟩ := x
      simp only at g0 g1 HR HBA
      go_wp2_with fail
      refine HR.out.mono ?_
      rintro e w2 ⟨rfl, b2⟩
      have hB2 : Below w.heap.size w w2 := HBA.out.trans (b2.mono HBA.out.size)
      have ho2 : w2.ownsRow w.heap.size 9 1 (.slice (some ⟨w.heap.size, 0, none⟩) n n) n (rtC rs k) := own_keep HI.out.2 (fun q e => by
        have hq := World.ownsRow.lt HI.out.2 q e
        rw [b2.block q (by simp; omega), Below.heap_alloc _ _ _ hq.2])
      have hat := own_atR ho2 k _ (rtC_at rs k (by rw [HNN.out]; exact hlt))
      have HS : Hid (Below w.heap.size w (w2.setCell ⟨w.heap.size, k, none⟩ (.string ⟨(rnT (xa, xb)).toArray⟩)) ∧ (w2.setCell ⟨w.heap.size, k, none⟩ (.string ⟨(rnT (xa, xb)).toArray⟩)).ownsRow w.heap.size 9 1 (.slice (some ⟨w.heap.size, 0, none⟩) n n) n (rtC rs (k + 1))) := ⟨hB2.setCell (p := ⟨w.heap.size, k, none⟩) (Nat.le_refl _) _, by
        have h9 := own_setR (i := k) (u := .string ⟨(rnT (xa, xb)).toArray⟩) ho2
        have h8 : (rtC rs k).set k (.string ⟨(rnT (xa, xb)).toArray⟩) = rtC rs (k + 1) := rtC_set rs k (xa, xb) HXI.out
        rw [h8] at h9
        exact h9⟩
      obtain ⟨s1, s2⟩ := hat
      clear HI HR HBA b2 hB2 ho2 g0 g1
      generalize rnT (xa, xb) = tx at *
      go_wp2
      exact ⟨⟨k + 1, by omega, by go_num, HS⟩, by simp [intOf]; omega⟩
    · obtain rfl : k = n := by omega
      have hq := World.ownsRow.lt HI.out.2 w.heap.size rfl
      have e1 : (rs.map fun x => bs (rnT x)).map (fun x => x.data.toList) = rs.map rnT := by
        rw [List.map_map]
        exact List.map_congr_left fun x _ => bs_tl _
      have hJ := Any.strings_Join laysJoin bxJoin w.heap.size 0 k (rs.map fun x => bs (rnT x)) ⟨#[44]⟩ wr (fun j x hj => by
        have h9 := HI.out.2
        have h8 : rtC rs k = (rs.map fun x => bs (rnT x)).map Value.string := by have := rtC_all rs; rw [HNN.out] at this; exact this
        rw [h8] at h9
        have := (own_atR h9 j (.string x) (by rw [List.getElem?_map, hj]; rfl)).1
        rw [Nat.zero_add]
        exact this) hq.2 (by rw [List.length_map, HNN.out]; omega) (by rw [List.length_map, HNN.out]; exact Nat.le_refl _) (by
          rw [e1]
          have := HL.out
          show (rsT rs).length ≤ _
          omega)
      rw [List.length_map, HNN.out, e1] at hJ
      have HJ : Hid (Calls Tryz.prog 88 #[.slice (some ⟨w.heap.size, 0, none⟩) k k, .string ⟨#[44]⟩] wr fun e w' => e = .returned (.string ⟨(rsT rs).toArray⟩) ∧ Below wr.heap.size wr w') := hJ
      have HB : Hid (Below w.heap.size w wr) := HI.out.1
      clear hJ HI hq e1
      go_wp2_with fail
      refine HJ.out.mono ?_
      rintro e w2 ⟨rfl, b2⟩
      have HB2 : Hid (Below w.heap.size w w2) := HB.out.trans (b2.mono HB.out.size)
      clear b2
      go_wp2
      go_ret
      exact ⟨rfl, HB2.out⟩
end Go.Proofs.YtnpcbcfjnhjmmaaGreatDoor
namespace Go.Proofs.YtnpcbcfjnhjmmaaGreatDoor
open Go.Shelf Go.RowKit Go.Deep
attribute [local go_sem] Oper.semAt_some
/-- what lies below w0's end stays, and the box of the link -/
def KG (w0 : World) (g : Nat) (W W' : World) : Prop := Below w0.heap.size W W' ∧ W'.heap[g]? = W.heap[g]?
theorem KG.refl (w0 : World) (g : Nat) (W : World) : KG w0 g W W := ⟨Below.refl _ _, rfl⟩
theorem KG.trans {w0 : World} {g : Nat} {A C D : World} (h : KG w0 g A C) (k : KG w0 g C D) : KG w0 g A D := ⟨h.1.trans k.1, k.2.trans h.2⟩
theorem KG.put {w0 : World} {g : Nat} {w : World} (hg : w0.heap.size ≤ w.heap.size) (hgl : g < w.heap.size) (W : World) (l : Nat) (o o' : Obj) (hl : w.heap.size ≤ l) (hh : W.heap[l]? = some o) (_ : o.isCells = false) (_ : o.isWalk = false) : KG w0 g W (W.putObj l o') :=
  ⟨(Below.refl _ _).grown (grownBy_putObj' W l o') (by have := (Array.getElem?_eq_some_iff.1 hh).1; omega) (fun k e => by cases e; omega), World.putObj_heap_other (by omega)⟩
/-- what the iterator stands on -/
def KW (w0 : World) (g : Nat) (k : Lk) (tr pe on mo : Value) (W : World) : Prop := Below w0.heap.size w0 W ∧ LB W g k.l k.nm tr pe on mo
theorem KW.kg {w0 : World} {g : Nat} {k : Lk} {tr pe on mo : Value} {W W' : World} (h : KW w0 g k tr pe on mo W) (hk : KG w0 g W W') : KW w0 g k tr pe on mo W' := ⟨h.1.trans hk.1, h.2.keep hk.2⟩
theorem KW.below {w0 : World} {g : Nat} {k : Lk} {tr pe on mo : Value} {W W' : World} (h : KW w0 g k tr pe on mo W) (hb : Below W.heap.size W W') : KW w0 g k tr pe on mo W' :=
  ⟨h.1.trans (hb.mono h.1.size), h.2.keep (hb.block g h.2.lt)⟩
abbrev kvV (x : KV) : Array Value := #[.string x.1, .string x.2]
def p1 (k : Lk) : List KV := [(bs [120, 116], infoV k)]
def p2 (k : Lk) : List KV := if k.nm.toList == [] then [] else [(bs [100, 110], k.nm)]
def p3 (k : Lk) : List KV := if k.rs.length = 0 then [] else [(bs [115, 111], bs (rsT k.rs))]
def p4 (ts : List ByteArray) : List KV := ts.map fun t => (bs [116, 114], t)
def p5 (ts : List ByteArray) : List KV := ts.map fun t => (bs [120, 46, 112, 101], t)
def pP6 (k : Lk) (n : Nat) : List KV := (List.range n).map fun i => (k.ky i, (k.dv i).s)
theorem prm_eq (k : Lk) : prm k = p1 k ++ (p2 k ++ (p3 k ++ (p4 k.ts ++ (p5 k.ps ++ pP6 k k.dn)))) := rfl
theorem p4_snoc (ts : List ByteArray) (i : Nat) (x : ByteArray) (h : ts[i]? = some x) : p4 (ts.take (i + 1)) = p4 (ts.take i) ++ [(bs [116, 114], x)] := by
  rw [List.take_add_one, h]; simp [p4]
theorem p5_snoc (ts : List ByteArray) (i : Nat) (x : ByteArray) (h : ts[i]? = some x) : p5 (ts.take (i + 1)) = p5 (ts.take i) ++ [(bs [120, 46, 112, 101], x)] := by
  rw [List.take_add_one, h]; simp [p5]
theorem p6_snoc (k : Lk) (i : Nat) : pP6 k (i + 1) = pP6 k i ++ [(k.ky i, (k.dv i).s)] := by simp [pP6, List.range_succ]
theorem p6_pre (k : Lk) {i n : Nat} (h : i ≤ n) : pP6 k i <+: pP6 k n := by
  obtain ⟨m, rfl⟩ : ∃ m, n = i + m := ⟨n - i, by omega⟩
  unfold pP6
  rw [List.range_add, List.map_append]
  exact List.prefix_append _ _
theorem pre1 (k : Lk) : p1 k <+: prm k := List.prefix_append _ _
theorem pre2 (k : Lk) : p1 k ++ p2 k <+: prm k := by rw [prm_eq, ← List.append_assoc]; exact List.prefix_append _ _
theorem pre3 (k : Lk) : p1 k ++ p2 k ++ p3 k <+: prm k := by rw [prm_eq, ← List.append_assoc, ← List.append_assoc]; exact List.prefix_append _ _
theorem pre4 (k : Lk) (i : Nat) : p1 k ++ p2 k ++ p3 k ++ p4 (k.ts.take i) <+: prm k := by
  rw [prm_eq, ← List.append_assoc, ← List.append_assoc]
  refine List.prefix_append_right_inj _ |>.2 ?_
  refine List.IsPrefix.trans ?_ (List.prefix_append _ _)
  exact List.IsPrefix.map _ (List.take_prefix _ _)
theorem pre5 (k : Lk) (i : Nat) : p1 k ++ p2 k ++ p3 k ++ p4 k.ts ++ p5 (k.ps.take i) <+: prm k := by
  rw [prm_eq, ← List.append_assoc, ← List.append_assoc, ← List.append_assoc]
  refine List.prefix_append_right_inj _ |>.2 ?_
  refine List.IsPrefix.trans ?_ (List.prefix_append _ _)
  exact List.IsPrefix.map _ (List.take_prefix _ _)
theorem pre6 (k : Lk) (i : Nat) (h : i ≤ k.dn) : p1 k ++ p2 k ++ p3 k ++ p4 k.ts ++ p5 k.ps ++ pP6 k i <+: prm k := by
  rw [prm_eq, ← List.append_assoc, ← List.append_assoc, ← List.append_assoc, ← List.append_assoc]
  exact List.prefix_append_right_inj _ |>.2 (p6_pre k h)
theorem prm_len (k : Lk) : (prm k).length ≤ 3 + k.ts.length + k.ps.length + k.dn := by
  rw [prm_eq]
  unfold p1 p2 p3 p4 p5 pP6
  split <;> split <;> simp <;> omega
theorem pre_lt {k : Lk} {pre : List KV} {x : KV} (h : pre ++ [x] <+: prm k) : pre.length < 3 + k.ts.length + k.ps.length + k.dn + 1 := by
  have h1 := h.length_le
  have h2 := prm_len k
  simp at h1
  omega
theorem reads_link {W : World} {g : Nat} {l : List UInt8} {nm : ByteArray} {tr pe on mo : Value} (h : LB W g l nm tr pe on mo) (hl : l.length = 32) : Hx2.Reads W (.slice (some ⟨g, 0, none⟩) 32 32) (l.map fun x => (x.toNat : Int)) := by
  refine ⟨some ⟨g, 0, none⟩, 32, by rw [List.length_map, hl], .inr ⟨g, 0, rfl, h.lt, fun i hi => ?_⟩⟩
  rw [List.length_map] at hi
  have h1 := h.range i (.int .u8 (l[i].toNat : Int)) (by simp [Lib.byteCells, List.getElem?_eq_getElem hi])
  have hadd : (⟨g, 0, none⟩ : Addr).add i = ⟨g, 0 + i, none⟩ := by unfold Addr.add; split <;> simp_all
  rw [Nat.zero_add] at h1 ⊢
  rw [h1]
  simp [List.getElem?_eq_getElem hi, List.getD]
theorem hex_link {W : World} {g : Nat} {l : List UInt8} {nm : ByteArray} {tr pe on mo : Value} (h : LB W g l nm tr pe on mo) (hl : l.length = 32) :
    Calls Tryz.prog 75 #[.slice (some ⟨g, 0, none⟩) 32 32] W fun e w' => e = .returned (.string (Hx2.strI (hxL l))) ∧ Below W.heap.size W w' :=
  Hx2.hex18 (reads_link h hl) (by simp; omega) (fun x hx => by
    obtain ⟨y, _, rfl⟩ := List.mem_map.1 hx
    have := y.toNat_lt
    omega)
theorem strI_app (a : List Int) (s : ByteArray) : a.foldl (fun r n => r.push (UInt8.ofNat n.toNat)) s = s ++ Hx2.strI a := by
  induction a generalizing s with
  | nil => simp [Hx2.strI]
  | cons x a ih =>
    unfold Hx2.strI
    rw [List.foldl_cons, List.foldl_cons, ih, ih]
    apply ByteArray.ext
    simp [ByteArray.push]
theorem strI_size (a : List Int) : (Hx2.strI a).size = a.length := by
  induction a with
  | nil => rfl
  | cons x a ih =>
    unfold Hx2.strI
    rw [List.foldl_cons, strI_app, ByteArray.size_append, ih]
    simp [ByteArray.push, ByteArray.size]
    omega
theorem hx_size (l : List UInt8) (hl : l.length = 32) : (Hx2.strI (hxL l)).size = 64 := by
  rw [strI_size]
  unfold hxL
  rw [Hx2.hexI_len, List.length_map, hl]
end Go.Proofs.YtnpcbcfjnhjmmaaGreatDoor
