import Derived.Test.YtdchckelnccepaaDoorJa
import Derived.Test.YtdchckelnccepaaDoorHh
import Derived.Test.YtdchckelnccepaaDoorEncp
import Derived.Test.YtdchckelnccepaaDoorEb
namespace Go.Proofs.YtdchckelnccepaaDoor
open Go.RowKit Go.Deep
set_option maxHeartbeats 1000000 in
theorem wishD (na ma : Option Addr) (nc mc : Nat) (ns : List (ByteArray × Int)) (sz qu : Int) (ag : ByteArray) (es : List PE) (w : World) (hn : RNs w (.slice na ns.length nc) ns) (hm : RG w.heap.size w (.slice ma es.length mc) es) (hl : ns.length + es.length ≤ 2147483000)
    (hkn : ∀ x ∈ ns, x.1.size ≤ 140737488351232) (hka : ag.size ≤ 140737488351232) (hke : ∀ e ∈ es, e.key.size ≤ 140737488351232 ∧ e.t.ok) :
    Calls Tryd.prog 12 #[.agg #[.slice na ns.length nc, .int .i64 sz, .int .i64 qu, .string ag, .slice ma es.length mc]] w fun e w' => ∃ (k : Int) (va : Option Addr) (vn vc : Nat) (r : Bool), e = .returned (.tuple #[.agg #[.int .i64 k, .int .i64 0, .string ⟨#[]⟩, .slice none 0 0, .slice va vn vc], .bool r]) ∧ (r = true ↔ GW ns sz qu es) ∧ (r = true → k = 4 ∧ RV (fun _ => True) w' (TW ns sz qu ag es) (.slice none 0 0) (.slice va vn vc)) ∧ Below w.heap.size w w' := by
  cases hb : wsB ns sz qu es with
  | false =>
    refine (wishDict_no na ma nc mc ns sz qu ag es w hn hm hl hb).mono ?_
    rintro e w' ⟨rfl, b⟩
    exact ⟨0, _, _, _, false, rfl, ⟨fun h => (by cases h), fun h => absurd (h.1.symm.trans hb) (by decide)⟩, fun h => (by cases h), b⟩
  | true =>
    refine (wishDict_yes na ma nc mc ns sz qu ag es w hn hm hl hb hkn hka hke).mono ?_
    rintro e w' ⟨yv, v', es', rfl, hld, hrv, b⟩
    have hi : (wk (tG es') 0 == 0) = true ↔ GW ns sz qu es := GoodP.iff (.inr ⟨hb, yv, es', hld, rfl⟩)
    obtain ⟨a, c, rfl, -⟩ := id hrv.2
    exact ⟨4, _, _, _, _, rfl, hi, fun hr => ⟨rfl, by rw [← hld.tw (hi.1 hr).2.1 hb]; exact hrv⟩, b⟩
def wsN (r : Bool) (t : T) : Int := if r = true then (if 32766 < (txt t).length then 213 else 0) else 212
def wsL (r : Bool) (t : T) : List UInt8 := if r = true ∧ (txt t).length ≤ 32766 then txt t else []
theorem ow_rb {B : Nat} {w : World} {v : Value} {l : List UInt8} (h : OW B w v l) : Bs.RB w v l := Bs.OW.rb h
theorem tb_any {w w' : World} (h : TB w.heap.size w) (hb : Below w.heap.size w w') : TB w'.heap.size w' := tb_up (h.on hb) hb.size
/-- what Encode leaves, of a tree without fault -/
theorem EP.tell {t : T} {w w' : World} {v : Value} {er : Int} (h : EP t w w' v er) (hk : wk t 0 = 0) : ∃ l, Bs.RB w' v l ∧ Below w.heap.size w w' ∧ ((1048576 < (txt t).length ∧ er = 20 ∧ l = []) ∨ ((txt t).length ≤ 1048576 ∧ er = 0 ∧ l = txt t)) := by
  obtain ⟨B, l, h1, h2, h3, h4, h5⟩ := h
  rw [if_pos hk] at h3
  by_cases h6 : 1048576 < (txt t).length
  · rw [if_pos h6] at h3
    rw [if_neg (fun h => by omega)] at h4
    exact ⟨l, ow_rb h2, h5, .inl ⟨h6, h3, h4⟩⟩
  · rw [if_neg h6] at h3
    rw [if_pos ⟨hk, by omega⟩] at h4
    exact ⟨l, ow_rb h2, h5, .inr ⟨by omega, h3, h4⟩⟩
set_option maxHeartbeats 4000000 in
set_option maxRecDepth 100000 in
theorem encode6 (na ma : Option Addr) (nc mc : Nat) (ns : List (ByteArray × Int)) (sz qu : Int) (ag : ByteArray) (es : List PE) (w : World) (hn : RNs w (.slice na ns.length nc) ns) (hm : RG w.heap.size w (.slice ma es.length mc) es) (hk : Wok ns sz qu ag es) (hT : TB w.heap.size w) :
    Calls Tryd.prog 6 #[.agg #[.slice na ns.length nc, .int .i64 sz, .int .i64 qu, .string ag, .slice ma es.length mc]] w fun e w' => ∃ r : Bool, (r = true ↔ GW ns sz qu es) ∧ Bs.QE w (wsL r (TW ns sz qu ag es)) (wsN r (TW ns sz qu ag es)) e w' := by
  have b0 : Below w.heap.size w (w.alloc (.cells #[.slice na ns.length nc, .int .i64 sz, .int .i64 qu, .string ag, .slice ma es.length mc] 25)) := (Below.refl _ _).alloc (Nat.le_refl _) _
  have HD := Lib.hid (wishD na ma nc mc ns sz qu ag es (w.alloc (.cells #[.slice na ns.length nc, .int .i64 sz, .int .i64 qu, .string ag, .slice ma es.length mc] 25)) (hn.keep b0) ((hm.keep b0).mono b0.size) (by have := hk.nl; have := hk.fl; omega) (fun x hx => by have := (hk.nn x hx).1; omega) (by have := hk.fa; omega) hk.fo)
  have H0 : Hid (Below w.heap.size w (w.alloc (.cells #[.slice na ns.length nc, .int .i64 sz, .int .i64 qu, .string ag, .slice ma es.length mc] 25))) := b0
  have HT := Lib.hid hT
  have HK : Hid (Wok ns sz qu ag es) := hk
  have HOW : Hid (ow (w.alloc (.cells #[.slice na ns.length nc, .int .i64 sz, .int .i64 qu, .string ag, .slice ma es.length mc] 25)) w.heap.size (.slice na ns.length nc) (.int .i64 sz) (.int .i64 qu) (.string ag) (.slice ma es.length mc)) := heap_new _ _
  clear hn hm hk hT b0
  generalize ns.length = nl at *
  generalize es.length = ml at *
  go_enter Tryd.func6, Tryd.ntmps6
  go_upto_region 1 with fail
  generalize w.alloc (.cells #[.slice na nl nc, .int .i64 sz, .int .i64 qu, .string ag, .slice ma ml mc] 25) = w0 at *
  obtain ⟨c0, c1, c2, c3, c4⟩ := ow.cells HOW.out
  go_wp2_with fail
  refine HD.out.mono ?_
  rintro e w1 ⟨k, va, vn, vc, r, rfl, hi, ht, b1⟩
  have HI : Hid (r = true ↔ GW ns sz qu es) := hi
  have ba : Below w1.heap.size w1 (w1.alloc (.cells #[.int .i64 k, .int .i64 0, .string ⟨#[]⟩, .slice none 0 0, .slice va vn vc] 41)) := (Below.refl _ _).alloc (Nat.le_refl _) _
  have hbb : Below w.heap.size w (w1.alloc (.cells #[.int .i64 k, .int .i64 0, .string ⟨#[]⟩, .slice none 0 0, .slice va vn vc] 41)) := (H0.out.trans (b1.mono H0.out.size)).trans (ba.mono (Nat.le_trans H0.out.size b1.size))
  have HB1 : Hid (Below w.heap.size w (w1.alloc (.cells #[.int .i64 k, .int .i64 0, .string ⟨#[]⟩, .slice none 0 0, .slice va vn vc] 41))) := hbb
  clear c0 c1 c2 c3 c4 HD hi b1 hbb
  cases r with
  | false =>
    clear ht ba
    go_wp2
    go_ret2
    exact ⟨false, HI.out, _, _, rfl, Bs.rb_nil _, HB1.out⟩
  | true =>
    obtain ⟨rfl, hrv⟩ := ht rfl
    have hg := HI.out.1 rfl
    have HENC := Lib.hid (show Calls Tryd.prog 13 #[.agg #[.int .i64 4, .int .i64 0, .string ⟨#[]⟩, .slice none 0 0, .slice va vn vc]] (w1.alloc (.cells #[.int .i64 4, .int .i64 0, .string ⟨#[]⟩, .slice none 0 0, .slice va vn vc] 41)) _ from
      encode7 (TW ns sz qu ag es) (.slice none 0 0) (.slice va vn vc) (w1.alloc (.cells #[.int .i64 4, .int .i64 0, .string ⟨#[]⟩, .slice none 0 0, .slice va vn vc] 41)) (TW_ok HK.out hg.2.1 (ws_own hg.1)) (TW_small HK.out hg.2.1 (ws_own hg.1)) (TW_rng HK.out hg.2.1 (ws_own hg.1)) (TW_txt HK.out hg.2.1 (ws_own hg.1)) (tb_any HT.out HB1.out) (Below.rv ba (Nat.le_refl _) hrv))
    have HW : Hid (wk (TW ns sz qu ag es) 0 = 0) := TW_wk hg
    have hb2 := heap_new w1 (.cells #[.int .i64 4, .int .i64 0, .string ⟨#[]⟩, .slice none 0 0, .slice va vn vc] 41)
    have HG : Hid (GW ns sz qu es) := hg
    clear ht hrv ba hg HI
    generalize hTW : TW ns sz qu ag es = t at *
    have HTW := Lib.hid hTW
    clear hTW
    go_upto_region 2 with fail
    generalize w1.alloc (.cells #[.int .i64 4, .int .i64 0, .string ⟨#[]⟩, .slice none 0 0, .slice va vn vc] 41) = w2 at *
    generalize w1.heap.size = bv at *
    have d0 : w2.cell? ⟨bv, 0, none⟩ = some (.int .i64 4) := by simp [World.cell?, hb2]
    have d1 : w2.cell? ⟨bv, 1, none⟩ = some (.int .i64 0) := by simp [World.cell?, hb2]
    have d2 : w2.cell? ⟨bv, 2, none⟩ = some (.string ⟨#[]⟩) := by simp [World.cell?, hb2]
    have d3 : w2.cell? ⟨bv, 3, none⟩ = some (.slice none 0 0) := by simp [World.cell?, hb2]
    have d4 : w2.cell? ⟨bv, 4, none⟩ = some (.slice va vn vc) := by simp [World.cell?, hb2]
    clear hb2
    go_wp2_with fail
    refine HENC.out.mono ?_
    rintro e w3 ⟨v3, er, rfl, hep⟩
    obtain ⟨l, hr, b3, hl⟩ := hep.tell HW.out
    obtain ⟨a3, c3, rfl, -⟩ := id hr
    have H3 : Hid (Bs.RB w3 (.slice a3 l.length c3) l ∧ Below w.heap.size w w3) := ⟨hr, HB1.out.trans (b3.mono HB1.out.size)⟩
    clear hr b3 hep HENC d0 d1 d2 d3 d4
    rcases hl with ⟨hl, rfl, rfl⟩ | ⟨hl, rfl, rfl⟩
    · have HE : Hid (wsL true t = [] ∧ wsN true t = 213) := ⟨by unfold wsL; rw [if_neg (fun h => by omega)], by unfold wsN; rw [if_pos rfl, if_pos (by omega)]⟩
      clear hl
      go_wp2
      go_ret2
      refine ⟨true, ⟨fun _ => HG.out, fun _ => rfl⟩, ?_⟩
      rw [HTW.out, HE.out.1, HE.out.2]
      exact ⟨_, _, rfl, Bs.rb_nil _, H3.out.2⟩
    · by_cases hlen : 32766 < (txt t).length
      · have HE : Hid (wsL true t = [] ∧ wsN true t = 213) := ⟨by unfold wsL; rw [if_neg (fun h => by omega)], by unfold wsN; rw [if_pos rfl, if_pos (by omega)]⟩
        generalize (txt t).length = tn at *
        have q : (32766 : Int) < (tn : Int) := by omega
        clear hl hlen
        go_wp2
        go_ret2
        refine ⟨true, ⟨fun _ => HG.out, fun _ => rfl⟩, ?_⟩
        rw [HTW.out, HE.out.1, HE.out.2]
        exact ⟨_, _, rfl, Bs.rb_nil _, H3.out.2⟩
      · have HE : Hid (wsL true t = txt t ∧ wsN true t = 0) := ⟨by unfold wsL; rw [if_pos ⟨rfl, by omega⟩], by unfold wsN; rw [if_pos rfl, if_neg (by omega)]⟩
        have hnn : (txt t).length = (txt t).length := rfl
        generalize htn : (txt t).length = tn at *
        have HTN := Lib.hid htn
        have q : ¬ (32766 : Int) < (tn : Int) := by omega
        clear hl hlen htn hnn
        go_wp2
        go_ret2
        refine ⟨true, ⟨fun _ => HG.out, fun _ => rfl⟩, ?_⟩
        rw [HTW.out, HE.out.1, HE.out.2]
        unfold Bs.QE
        rw [HTN.out]
        exact ⟨_, _, rfl, H3.out.1, H3.out.2⟩
end Go.Proofs.YtdchckelnccepaaDoor
namespace Go.Proofs.YtdchckelnccepaaDoor
open Go.RowKit Go.Deep
set_option maxHeartbeats 4000000 in
set_option maxRecDepth 100000 in
theorem encode7r (na ma : Option Addr) (nc mc : Nat) (ns : List (ByteArray × Int)) (sz qu : Int) (ag : ByteArray) (es : List PE) (w : World) (hn : RNs w (.slice na ns.length nc) ns) (hm : RG w.heap.size w (.slice ma es.length mc) es) (hk : Wok ns sz qu ag es) (hT : TB w.heap.size w) :
    Calls Tryd.prog 7 #[.agg #[.slice na ns.length nc, .int .i64 sz, .int .i64 qu, .string ag, .slice ma es.length mc]] w fun e w' => ∃ r : Bool, (r = true ↔ GW ns sz qu es) ∧ Bs.QE w (wsL r (TW ns sz qu ag es)) (wsN r (TW ns sz qu ag es)) e w' := by
  have b0 : Below w.heap.size w (w.alloc (.cells #[.slice na ns.length nc, .int .i64 sz, .int .i64 qu, .string ag, .slice ma es.length mc] 25)) := (Below.refl _ _).alloc (Nat.le_refl _) _
  have HG0 := Lib.hid (Good41 na ma nc mc ns sz qu ag es (w.alloc (.cells #[.slice na ns.length nc, .int .i64 sz, .int .i64 qu, .string ag, .slice ma es.length mc] 25)) (hn.keep b0) ((hm.keep b0).mono b0.size) (by have := hk.nl; have := hk.fl; omega) (fun x hx => by have := (hk.nn x hx).1; omega) (by have := hk.fa; omega) hk.fo)
  have HN : Hid (RNs (w.alloc (.cells #[.slice na ns.length nc, .int .i64 sz, .int .i64 qu, .string ag, .slice ma es.length mc] 25)) (.slice na ns.length nc) ns ∧ RG (w.alloc (.cells #[.slice na ns.length nc, .int .i64 sz, .int .i64 qu, .string ag, .slice ma es.length mc] 25)).heap.size (w.alloc (.cells #[.slice na ns.length nc, .int .i64 sz, .int .i64 qu, .string ag, .slice ma es.length mc] 25)) (.slice ma es.length mc) es) := ⟨hn.keep b0, (hm.keep b0).mono b0.size⟩
  have HL : Hid (ns.length + es.length ≤ 2147480000) := by have := hk.nl; have := hk.fl; show _ ≤ _; omega
  have H0 : Hid (Below w.heap.size w (w.alloc (.cells #[.slice na ns.length nc, .int .i64 sz, .int .i64 qu, .string ag, .slice ma es.length mc] 25))) := b0
  have HT := Lib.hid hT
  have HK : Hid (Wok ns sz qu ag es) := hk
  have HOW : Hid (ow (w.alloc (.cells #[.slice na ns.length nc, .int .i64 sz, .int .i64 qu, .string ag, .slice ma es.length mc] 25)) w.heap.size (.slice na ns.length nc) (.int .i64 sz) (.int .i64 qu) (.string ag) (.slice ma es.length mc)) := heap_new _ _
  clear hn hm hk hT b0
  have HD := Lib.hid (fun w' (h1 : RNs w' (.slice na ns.length nc) ns) (h2 : RG w'.heap.size w' (.slice ma es.length mc) es) => dict50 na ma nc mc ns sz qu ag es w' h1 h2 HL.out)
  generalize ns.length = nl at *
  generalize es.length = ml at *
  go_enter Tryd.func7, Tryd.ntmps7
  go_upto_region 1 with fail
  generalize w.alloc (.cells #[.slice na nl nc, .int .i64 sz, .int .i64 qu, .string ag, .slice ma ml mc] 25) = w0 at *
  obtain ⟨c0, c1, c2, c3, c4⟩ := ow.cells HOW.out
  go_wp2_with fail
  refine HG0.out.mono ?_
  rintro e w1 ⟨r, rfl, hi, b1⟩
  have HI : Hid (r = true ↔ GW ns sz qu es) := hi
  have HB0 : Hid (Below w.heap.size w w1) := H0.out.trans (b1.mono H0.out.size)
  have HN1 : Hid (RNs w1 (.slice na nl nc) ns ∧ RG w1.heap.size w1 (.slice ma ml mc) es) := ⟨HN.out.1.keep b1, (HN.out.2.keep b1).mono b1.size⟩
  have HOW1 : Hid (ow w1 w.heap.size (.slice na nl nc) (.int .i64 sz) (.int .i64 qu) (.string ag) (.slice ma ml mc)) := ow.keep HOW.out (b1.block _ (ow.lt HOW.out))
  clear c0 c1 c2 c3 c4 HG0 hi b1 HOW HN
  cases r with
  | false =>
    go_wp2
    go_ret2
    exact ⟨false, HI.out, _, _, rfl, Bs.rb_nil _, HB0.out⟩
  | true =>
    have hg := HI.out.1 rfl
    obtain ⟨c0, c1, c2, c3, c4⟩ := ow.cells HOW1.out
    go_wp2_with fail
    refine (HD.out w1 HN1.out.1 HN1.out.2).mono ?_
    rintro e w2 ⟨yv, v', rfl, hrd, b2⟩
    obtain ⟨va, vc, rfl, -⟩ := id hrd
    have hrv : RV (fun _ => True) w2 (TW ns sz qu ag es) (.slice none 0 0) (.slice va (wtAll es (ownP ns sz qu ag yv)).length vc) := by
      rw [← TW_of yv]
      exact ⟨⟨none, 0, rfl, .inl rfl⟩, hrd⟩
    clear hrd
    generalize (wtAll es (ownP ns sz qu ag yv)).length = vn at *
    have ba : Below w2.heap.size w2 (w2.alloc (.cells #[.int .i64 4, .int .i64 0, .string ⟨#[]⟩, .slice none 0 0, .slice va vn vc] 41)) := (Below.refl _ _).alloc (Nat.le_refl _) _
    have HB1 : Hid (Below w.heap.size w (w2.alloc (.cells #[.int .i64 4, .int .i64 0, .string ⟨#[]⟩, .slice none 0 0, .slice va vn vc] 41))) := (HB0.out.trans (b2.mono HB0.out.size)).trans (ba.mono (Nat.le_trans HB0.out.size b2.size))
    clear c0 c1 c2 c3 c4 HD b2 HOW1 HN1
    have HENC := Lib.hid (show Calls Tryd.prog 16 #[.agg #[.int .i64 4, .int .i64 0, .string ⟨#[]⟩, .slice none 0 0, .slice va vn vc]] (w2.alloc (.cells #[.int .i64 4, .int .i64 0, .string ⟨#[]⟩, .slice none 0 0, .slice va vn vc] 41)) _ from
      encode8 (TW ns sz qu ag es) (.slice none 0 0) (.slice va vn vc) (w2.alloc (.cells #[.int .i64 4, .int .i64 0, .string ⟨#[]⟩, .slice none 0 0, .slice va vn vc] 41)) (TW_ok HK.out hg.2.1 (ws_own hg.1)) (TW_rng HK.out hg.2.1 (ws_own hg.1)) (TW_txt HK.out hg.2.1 (ws_own hg.1)) (tb_any HT.out HB1.out) (Below.rv ba (Nat.le_refl _) hrv))
    have HW : Hid (wk (TW ns sz qu ag es) 0 = 0) := TW_wk hg
    have hb2 := heap_new w2 (.cells #[.int .i64 4, .int .i64 0, .string ⟨#[]⟩, .slice none 0 0, .slice va vn vc] 41)
    have HG : Hid (GW ns sz qu es) := hg
    clear hrv ba hg HI
    generalize hTW : TW ns sz qu ag es = t at *
    have HTW := Lib.hid hTW
    clear hTW
    go_upto_region 4 with fail
    generalize w2.alloc (.cells #[.int .i64 4, .int .i64 0, .string ⟨#[]⟩, .slice none 0 0, .slice va vn vc] 41) = w4 at *
    generalize w2.heap.size = bv at *
    have d0 : w4.cell? ⟨bv, 0, none⟩ = some (.int .i64 4) := by simp [World.cell?, hb2]
    have d1 : w4.cell? ⟨bv, 1, none⟩ = some (.int .i64 0) := by simp [World.cell?, hb2]
    have d2 : w4.cell? ⟨bv, 2, none⟩ = some (.string ⟨#[]⟩) := by simp [World.cell?, hb2]
    have d3 : w4.cell? ⟨bv, 3, none⟩ = some (.slice none 0 0) := by simp [World.cell?, hb2]
    have d4 : w4.cell? ⟨bv, 4, none⟩ = some (.slice va vn vc) := by simp [World.cell?, hb2]
    clear hb2
    go_wp2_with fail
    refine HENC.out.mono ?_
    rintro e w3 ⟨v3, er, rfl, hep⟩
    obtain ⟨l, hr, b3, hl⟩ := hep.tell HW.out
    obtain ⟨a3, c3, rfl, -⟩ := id hr
    have H3 : Hid (Bs.RB w3 (.slice a3 l.length c3) l ∧ Below w.heap.size w w3) := ⟨hr, HB1.out.trans (b3.mono HB1.out.size)⟩
    clear hr b3 hep HENC d0 d1 d2 d3 d4
    rcases hl with ⟨hl, rfl, rfl⟩ | ⟨hl, rfl, rfl⟩
    · have HE : Hid (wsL true t = [] ∧ wsN true t = 213) := ⟨by unfold wsL; rw [if_neg (fun h => by omega)], by unfold wsN; rw [if_pos rfl, if_pos (by omega)]⟩
      clear hl
      go_wp2
      go_ret2
      refine ⟨true, ⟨fun _ => HG.out, fun _ => rfl⟩, ?_⟩
      rw [HTW.out, HE.out.1, HE.out.2]
      exact ⟨_, _, rfl, Bs.rb_nil _, H3.out.2⟩
    · by_cases hlen : 32766 < (txt t).length
      · have HE : Hid (wsL true t = [] ∧ wsN true t = 213) := ⟨by unfold wsL; rw [if_neg (fun h => by omega)], by unfold wsN; rw [if_pos rfl, if_pos (by omega)]⟩
        generalize (txt t).length = tn at *
        have q : (32766 : Int) < (tn : Int) := by omega
        clear hl hlen
        go_wp2
        go_ret2
        refine ⟨true, ⟨fun _ => HG.out, fun _ => rfl⟩, ?_⟩
        rw [HTW.out, HE.out.1, HE.out.2]
        exact ⟨_, _, rfl, Bs.rb_nil _, H3.out.2⟩
      · have HE : Hid (wsL true t = txt t ∧ wsN true t = 0) := ⟨by unfold wsL; rw [if_pos ⟨rfl, by omega⟩], by unfold wsN; rw [if_pos rfl, if_neg (by omega)]⟩
        have hnn : (txt t).length = (txt t).length := rfl
        generalize htn : (txt t).length = tn at *
        have HTN := Lib.hid htn
        have q : ¬ (32766 : Int) < (tn : Int) := by omega
        clear hl hlen htn hnn
        go_wp2
        go_ret2
        refine ⟨true, ⟨fun _ => HG.out, fun _ => rfl⟩, ?_⟩
        rw [HTW.out, HE.out.1, HE.out.2]
        unfold Bs.QE
        rw [HTN.out]
        exact ⟨_, _, rfl, H3.out.1, H3.out.2⟩
end Go.Proofs.YtdchckelnccepaaDoor
