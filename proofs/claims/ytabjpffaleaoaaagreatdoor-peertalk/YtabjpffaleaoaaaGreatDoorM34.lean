import Derived.Test.YtabjpffaleaoaaaGreatDoorM33
import Derived.Test.YtabjpffaleaoaaaGreatDoorM25
import Derived.Test.YtabjpffaleaoaaaGreatDoorM26
namespace Go.Proofs.YtabjpffaleaoaaaGreatDoor
open Go.ChangeShapes Go.WideShapes Go.ChangeAt Go.RowKit Go.Joins Go.Deep
/-- rounds of messages that are read -/
def RRm (w : World) (v : Value) (rs : List (Value × List Mg)) : Prop :=
  ∃ a c, v = .slice a rs.length c ∧ (rs = [] ∨ ∃ g o, a = some ⟨g, o, none⟩ ∧ g < w.heap.size ∧ ∀ i r, rs[i]? = some r → w.cell? ⟨g, o + i, none⟩ = some r.1) ∧ ∀ r ∈ rs, RMS w r.1 r.2
theorem RRm.keep {w w' : World} {v : Value} {rs : List (Value × List Mg)} (h : RRm w v rs) (hb : Below w.heap.size w w') : RRm w' v rs := by
  obtain ⟨a, c, rfl, h, hm⟩ := h
  refine ⟨a, c, rfl, ?_, fun r hr => (hm r hr).keep hb⟩
  rcases h with h | ⟨g, o, rfl, hg, h⟩
  · exact .inl h
  · exact .inr ⟨g, o, rfl, Nat.lt_of_lt_of_le hg hb.size, fun i r hr => (World.cell?_of_block (w := w) (hb.block g hg)).trans (h i r hr)⟩
section
variable {H : Type} {enc : TypeId × Value → H} {w : World}
set_option maxRecDepth 100000 in
theorem openMsgsB {fuel : Nat} {v : Value} {x : DataW H × List MemPlace} (hf' : DataW.trod enc Tryz.prog w 0 (fun _ => true) true fuel 68 [v] = some x) (hbk : Rows.uptoBulk x.1 ≤ 1048576) : ∃ ms, RMS w v ms ∧ mgW ms + 1 ≤ Rows.uptoBulk x.1 := by
  obtain ⟨d, ps⟩ := x
  replace hbk : Rows.uptoBulk d ≤ 1048576 := hbk
  show ∃ ms, RMS w v ms ∧ mgW ms + 1 ≤ Rows.uptoBulk d
  have c40 : Tryz.prog.cellsOf 47 = 40 := by kernel_rfl
  obtain ⟨a, len, cap, he, hlc, hrow⟩ := openRowB Tryz.underlying68 hf' (by rw [c40]; omega)
  rw [he]
  rcases hrow with rfl | ⟨m, elems, hlen, hbulk, b, o, rfl, hlt, hel⟩
  · exact ⟨[], ⟨a, cap, rfl, hlc, .inl rfl, by simp⟩, by have := bulk_pos d; simpa [mgW] using this⟩
  have key : ∀ i, i < len → ∃ y : Mg, w.rangeAt b (o + i * 40) y.m.ls ∧ MM w y.m y.D y.hb ∧ ∀ hi : i < elems.length, 10 + y.D.length + y.hb.length ≤ Rows.uptoBulk elems[i].1 := by
    intro i hi
    obtain ⟨cs, h1, h2, h3⟩ := hel i (by omega)
    rw [c40] at h1 h2
    have hbi : Rows.uptoBulk elems[i].1 ≤ Rows.uptoBulkAll (elems.map (·.1)) := bulk_mem (List.mem_map.2 ⟨elems[i], List.getElem_mem _, rfl⟩)
    obtain ⟨y, e1, e2, e3⟩ := openMsgC h3 (by simp only at hbulk; omega)
    refine ⟨y, fun j u hu => ?_, e2, fun _ => e3⟩
    have hj : j < 40 := by
      have := (List.getElem?_eq_some_iff.1 hu).1
      rw [ok_ls e2.ok] at this; exact this
    rw [h2 j hj, e1]; exact hu
  have hinh : Inhabited Mg := ⟨⟨zm, [], []⟩⟩
  obtain ⟨f, hf2⟩ := choose_lt key
  obtain ⟨ms, hml, hms⟩ := lists_of f len
  refine ⟨ms, ⟨_, cap, by rw [hml], by omega, .inr ⟨b, o, rfl, hlt, fun i x hx => ?_⟩, fun x hx => ?_⟩, ?_⟩
  · have hi : i < len := by rw [← hml]; exact (List.getElem?_eq_some_iff.1 hx).1
    rw [hms i hi] at hx
    cases hx
    exact (hf2 i hi).1
  · obtain ⟨i, hi, rfl⟩ := List.getElem_of_mem hx
    have hi' : i < len := by omega
    have := hms i hi'
    rw [List.getElem?_eq_getElem hi] at this
    have e9 := Option.some.inj this
    rw [e9]
    exact (hf2 i hi').2.1
  · have h9 := mgW_bulk ms (elems.map (·.1)) (by rw [List.length_map]; omega) (fun i hi y hy => by
      rw [List.length_map] at hi
      rw [hms i (by omega)] at hy
      cases hy
      rw [List.getElem_map]
      exact (hf2 i (by omega)).2.2 hi)
    simp only at hbulk
    omega
set_option maxRecDepth 100000 in
theorem openRoundsU {base : Nat} {v : Value} {d : DataW H} {ps : List MemPlace} (hv : Value.okWide Tryz.prog w .any base 66 v)
    (h : DataW.Trod enc Tryz.prog w 0 (fun _ => true) true 66 v d ps) (hbk : Rows.uptoBulk d ≤ 1048576) : ∃ rs, RRm w v rs ∧ rs.length ≤ 1048576 ∧ ∀ r ∈ rs, mgW r.2 ≤ 1048576 := by
  obtain ⟨a0, len0, cap0, rfl⟩ := okWide_slice Tryz.underlying66 hv
  obtain ⟨fuel, hf⟩ := h
  have hf' : DataW.trod enc Tryz.prog w 0 (fun _ => true) true fuel 66 [.slice a0 len0 cap0] = some (d, ps) := hf
  have cM : Tryz.prog.cellsOf 68 = 1 := by kernel_rfl
  obtain ⟨a, len, cap, e, hlc, hrow⟩ := openRowB Tryz.underlying66 hf' (by rw [cM]; omega)
  obtain ⟨rfl, rfl, rfl⟩ : a0 = a ∧ len0 = len ∧ cap0 = cap := by simpa using e
  rcases hrow with rfl | ⟨m, elems, hlen, hbulk, b, o, rfl, hlt, hel⟩
  · exact ⟨[], ⟨_, _, rfl, .inl rfl, fun r hr => by cases hr⟩, by simp, fun r hr => by cases hr⟩
  have hsum : Rows.uptoBulkAll (elems.map (·.1)) + 1 ≤ Rows.uptoBulk d := hbulk
  have : ∀ i, i < len0 → ∃ c : Value × List Mg, w.cell? ⟨b, o + i, none⟩ = some c.1 ∧ RMS w c.1 c.2 ∧ mgW c.2 ≤ 1048576 := fun i hi => by
    obtain ⟨cs, hcl, hc, ht⟩ := hel i (by omega)
    have h0 := hc 0 (by rw [cM]; omega)
    rw [cM] at h0 hcl
    obtain ⟨y, rfl⟩ := List.length_eq_one_iff.1 hcl
    have hb1 : Rows.uptoBulk elems[i].1 ≤ 1048576 := by
      have := bulk_mem (d := elems[i].1) (l := elems.map (·.1)) (List.mem_map.2 ⟨elems[i], List.getElem_mem _, rfl⟩)
      omega
    obtain ⟨ms, r1, r2⟩ := openMsgsB ht hb1
    exact ⟨⟨y, ms⟩, by simpa using h0, r1, (show mgW ms ≤ 1048576 by omega)⟩
  have hinh : Inhabited (Value × List Mg) := ⟨(.nilFunc, [])⟩
  obtain ⟨f, hf⟩ := choose_lt this
  obtain ⟨l, rfl, hl⟩ := lists_of f len0
  refine ⟨l, ⟨_, _, rfl, .inr ⟨b, o, rfl, hlt, fun i r hr => ?_⟩, fun r hr => ?_⟩, ?_, fun r hr => ?_⟩
  · have hi := (List.getElem?_eq_some_iff.1 hr).1
    rw [hl i hi] at hr
    obtain rfl := Option.some.inj hr
    exact (hf i hi).1
  · obtain ⟨i, hi, rfl⟩ := List.getElem_of_mem hr
    have h1 := hl i hi
    rw [List.getElem?_eq_getElem hi] at h1
    rw [Option.some.inj h1]
    exact (hf i hi).2.1
  · have := bulk_len (elems.map (·.1))
    rw [List.length_map] at this
    omega
  · obtain ⟨i, hi, rfl⟩ := List.getElem_of_mem hr
    have h1 := hl i hi
    rw [List.getElem?_eq_getElem hi] at h1
    rw [Option.some.inj h1]
    exact (hf i hi).2.2
end
end Go.Proofs.YtabjpffaleaoaaaGreatDoor
namespace Go.Proofs.YtabjpffaleaoaaaGreatDoor
open Go.RowKit
/-- what a new connection is told by a greeting of its own torrent -/
theorem telG_hello {info me : List UInt8} (hi : info.length = 20) (hm : me.length = 20) {L : List Int} {pb : Int} {q0 q' : Qs} {met : List (List UInt8)} {xs : List Mg} {fin : Int} (h : TelG true info L pb q0 (Fm.sgn ++ (fl8 ++ info ++ me)) met xs q' fin) : fin = 0 ∧ met = [fl8 ++ info ++ me] ∧ xs = [] ∧ q' = q0 := by
  obtain ⟨m0, bs, h', r, er, d, hx⟩ := h
  obtain ⟨rfl, rfl, rfl, rfl, rfl⟩ := rd_hello hi hm d
  rcases hx with ⟨h, e1, e2, _⟩ | ⟨_, rfl, f1, hr1, rfl⟩
  · simp at e1
    subst e1
    exact absurd (hinf_greet hi).1 e2
  · obtain ⟨rfl, rfl, rfl⟩ := hr_nil hr1
    exact ⟨rfl, rfl, rfl, rfl⟩
theorem tx_nil {p s : Nat} {held : List UInt8} (h : Fm.tx p s held = []) : held = [] ∧ Fm.tx p s [] = [] := by
  unfold Fm.tx at h ⊢
  by_cases hp1 : p = 1
  · rw [if_pos hp1] at h
    have := congrArg List.length h
    simp [be4] at this
  · rw [if_neg hp1] at h ⊢
    exact ⟨h, rfl⟩
/-- a new connection is greeted, in pieces -/
theorem fedHello (W : World) (g R : Nat) (P : Pv) (L : List Int) (H : List UInt8) (hf : FP W g R P L H 2 0 [] (.slice none 0 0)) (B0 : Nat) (hB0 : B0 ≤ g) (me : List UInt8) (hme : me.length = 20) (av : Value) (hb : OW (R + 1) W av (Fm.sgn ++ (fl8 ++ P.info ++ me))) (cv : Value) (zs : List Int) (hz : RZo B0 W cv zs) (hzl : zs.length ≤ 1048576) (hzb : ∀ z ∈ zs, -9223372036854775808 ≤ z ∧ z ≤ 9223372036854775807) :
    Calls Tryz.prog 24 #[.pointer (some ⟨g, 0, none⟩), av, cv] W fun e w' => ∃ ea ec, e = .returned (.tuple #[.slice (some ⟨ea, 0, none⟩) 1 ec, .int .i64 0]) ∧ W.heap.size ≤ ea ∧ ea < w'.heap.size ∧ w'.rangeAt ea 0 (Ev.ls (hev (fl8 ++ P.info ++ me))) ∧ Fm.Fr (fun k => k ≠ g ∧ k ≠ R) W w' ∧ ∃ P' p s, FP w' g R P' L H p s [] (.slice none 0 0) ∧ (p == 2) = false ∧ Fm.tx p s [] = [] ∧ P'.info = P.info ∧ P'.b = P.b ∧ (P'.wc, P'.wi, P'.wb) = (P.wc, P.wi, P.wb) ∧ (P'.ic, P'.ii, P'.ib) = (P.ic, P.ii, P.ib) := by
  have hi20 := hf.pk.1
  have hgR := hf.gR
  have h68 : (Fm.sgn ++ (fl8 ++ P.info ++ me)).length = 68 := by
    rw [List.length_append, List.length_append, List.length_append, hi20, hme]; rfl
  have hRN : Fm.RN (fun k => k < W.heap.size ∧ k ≠ g ∧ k ≠ R) W av (Fm.sgn ++ (fl8 ++ P.info ++ me)) := by
    obtain ⟨a, c, e, hle, h⟩ := hb.rb
    refine ⟨a, c, e, hle, ?_⟩
    rcases hb.2 with ⟨h1, h2⟩ | ⟨q, cap, cur, h1, h2, h3, _⟩
    · rw [h68] at h2; cases h2
    · rcases h with h | ⟨g', o, hh, hlt, hc⟩
      · exact .inl h
      · refine .inr ⟨g', o, hh, ⟨hlt, ?_⟩, hlt, hc⟩
        rw [e, hh] at h1
        simp at h1
        obtain ⟨⟨rfl, _⟩, _⟩ := h1
        exact ⟨by omega, by omega⟩
  refine (fedG W g R P L H 2 0 hf rfl B0 hB0 av _ hRN (by rw [h68]; decide) cv zs hz hzl hzb).mono ?_
  rintro e w' ⟨ev, fin, es, met, xs, q', rfl, hes, heh, htel, fr, hfin⟩
  obtain ⟨rfl, rfl, rfl, rfl⟩ := telG_hello hi20 hme htel
  obtain ⟨es', hee, hem⟩ := heh
  have he0 := hem.none
  subst he0
  have hee2 : [hev (fl8 ++ P.info ++ me)] = es := by simpa using hee.symm
  subst hee2
  obtain ⟨P', p, s, held, hv, hfp, i1, i2, i3, i4, i5, i6, i7, i8, i9, bs, hrd⟩ := hfin rfl
  obtain ⟨_, _, hp2, htx, _⟩ := rd_hello hi20 hme hrd
  obtain ⟨rfl, htx2⟩ := tx_nil htx
  have hhv := hfp.nil rfl
  subst hhv
  rcases hes.1.2 with ⟨_, h0⟩ | ⟨k, cap, cur, rfl, hk, h3, _⟩
  · simp at h0
  · have hat := EVS.at hes rfl (k := 0) (x := hev (fl8 ++ P.info ++ me)) rfl
    rw [Nat.zero_mul] at hat
    exact ⟨k, cap, rfl, hk, (Array.getElem?_eq_some_iff.1 h3).1, hat, fr, P', p, s, hfp, hp2, htx2, i1, i2, by rw [i3, i4, i5], by rw [i6, i7, i8]⟩
end Go.Proofs.YtabjpffaleaoaaaGreatDoor
