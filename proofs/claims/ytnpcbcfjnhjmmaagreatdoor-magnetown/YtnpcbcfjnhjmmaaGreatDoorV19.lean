import Derived.Test.YtnpcbcfjnhjmmaaGreatDoorV18
import Derived.Laws.Cover3
import Derived.Deep.MidRow
import Derived.Maps.AppendAt
import Derived.OrdersHeld
import Derived.Deep.RegionHeld3
namespace Go.Proofs.YtnpcbcfjnhjmmaaGreatDoor
open Go.Shelf Go.RowKit Go.Deep
theorem hp_len {l p : List UInt8} (h : Lib.hasPrefix l p = true) : p.length ≤ l.length := by
  have := hp_size (s := ⟨l.toArray⟩) (p := ⟨p.toArray⟩) (by simpa using h)
  exact this
/-- the infohash is laid -/
def liR (p : Ps) (value : ByteArray) : Ps × Int := match fstR value.data.toList with | some h => ({ p with h := h }, 0) | none => (p, 223)
theorem liR_no {p : Ps} {value : ByteArray} (h : fstR value.data.toList = none) : liR p value = (p, 223) := by rw [liR, h]
theorem liR_yes {p : Ps} {value : ByteArray} {x : List UInt8} (h : fstR value.data.toList = some x) : liR p value = ({ p with h := x }, 0) := by rw [liR, h]
theorem LR.there {w : World} {b : Nat} {l : List UInt8} {nm : ByteArray} {tr pe on mo : Value} {ah : Nat} (h : LR w b l nm tr pe on mo ah) (hl : l.length = 32) : w.there b 0 32 := fun j hj => ⟨by
  have h0 : w.heap[b]? = some (.cells (rdC l nm tr pe on mo ah) 62 (0, 0)) := h
  have hj2 : j < (rdC l nm tr pe on mo ah).size := by simp [rdC, Lib.byteCells, hl]; omega
  simp only [World.cell?, h0, Nat.zero_add]
  rw [Array.getElem?_eq_getElem hj2]; rfl, h.frozen _⟩
theorem fst_of (value : ByteArray) : (⟨(value.data.toList.drop 13).toArray⟩ : ByteArray) = value.extract 13 value.size := by
  apply ByteArray.ext
  apply Array.ext'
  rw [extD]
set_option maxHeartbeats 2000000 in
theorem layInfo37 (K : Nat → Prop) (B b : Nat) (p : Ps) (tr pe on mo : Value) (ah : Nat) (value : ByteArray) (w0 w : World) (h : RDg K B b w0 w p tr pe on mo ah) (hv : value.size ≤ 4096) :
    Calls Tryz.prog 66 #[.pointer (some ⟨b, 0, none⟩), .string value] w fun e w' => LE K B b w0 (liR p value) ah e w' := by
  have J0 : Hid (RDg K B b w0 w p tr pe on mo ah) := h
  clear h
  have HC := Lib.hid (cutPrefix7 value { data := #[117, 114, 110, 58, 98, 116, 109, 104, 58, 49, 50, 50, 48] } w)
  have hz : value.data.toList.length = value.size := by simp
  cases hp : Lib.hasPrefix value.data.toList [117, 114, 110, 58, 98, 116, 109, 104, 58, 49, 50, 50, 48] with
  | false =>
    have e1 : cpB value { data := #[117, 114, 110, 58, 98, 116, 109, 104, 58, 49, 50, 50, 48] } = value := by unfold cpB; exact if_neg (by show ¬ Lib.hasPrefix value.data.toList [117, 114, 110, 58, 98, 116, 109, 104, 58, 49, 50, 50, 48] = true; rw [hp]; decide)
    have HE := Lib.hid (liR_no (p := p) (value := value) (by unfold fstR; exact if_neg (fun h => by rw [hp] at h; cases h.2.1)))
    have HC2 : Hid (Calls Tryz.prog 21 #[.string value, .string { data := #[117, 114, 110, 58, 98, 116, 109, 104, 58, 49, 50, 50, 48] }] w fun e w' => e = .returned (.tuple #[.string value, .bool false]) ∧ w' = w) := by
      have h9 := HC.out
      rw [e1] at h9
      have e2 : Lib.hasPrefix value.data.toList (ByteArray.data { data := #[117, 114, 110, 58, 98, 116, 109, 104, 58, 49, 50, 50, 48] }).toList = false := hp
      rw [e2] at h9
      exact h9
    clear HC e1 hp hz
    go_enter Tryz.func66, Tryz.ntmps66
    go_wp2_with fail
    refine HC2.out.mono ?_
    rintro e w1 ⟨rfl, rfl⟩
    go_wp2_with fail
    refine (Hx.unhex20 value w1 (by omega)).mono ?_
    rintro e w2 ⟨v, rfl, rd, nv, b2⟩
    have J1 := Lib.hid (J0.out.below b2)
    obtain ⟨va, vc, rfl, -⟩ := rd
    clear J0 nv b2
    generalize Hx.resN value = rn at *
    generalize (Hx.resL value).length = rl at *
    go_wp2
    go_ret
    exact le_of HE.out J1.out
  | true =>
    have e1 : cpB value { data := #[117, 114, 110, 58, 98, 116, 109, 104, 58, 49, 50, 50, 48] } = value.extract 13 value.size := by unfold cpB; exact if_pos hp
    have HC2 : Hid (Calls Tryz.prog 21 #[.string value, .string { data := #[117, 114, 110, 58, 98, 116, 109, 104, 58, 49, 50, 50, 48] }] w fun e w' => e = .returned (.tuple #[.string (value.extract 13 value.size), .bool true]) ∧ w' = w) := by
      have h9 := HC.out
      rw [e1] at h9
      have e2 : Lib.hasPrefix value.data.toList (ByteArray.data { data := #[117, 114, 110, 58, 98, 116, 109, 104, 58, 49, 50, 50, 48] }).toList = true := hp
      rw [e2] at h9
      exact h9
    have hl13 := hp_len hp
    have hts : (value.extract 13 value.size).size = value.size - 13 := by rw [ByteArray.size_extract]; omega
    have HF := Lib.hid (show fstR value.data.toList = if value.size = 77 ∧ Hx.goodB (value.extract 13 value.size) = true then some (byL (Hx.resL (value.extract 13 value.size))) else none by
      unfold fstR
      rw [hz, fst_of value]
      by_cases hq : value.size = 77 ∧ Hx.goodB (value.extract 13 value.size) = true
      · rw [if_pos hq, if_pos ⟨hq.1, hp, hq.2⟩]
      · rw [if_neg hq, if_neg (fun h => hq ⟨h.1, h.2.2⟩)])
    rw [hz] at hl13
    have hl13' : 13 ≤ value.size := hl13
    clear HC e1 hp hz hl13
    have HU := Lib.hid (Hx.unhex20 (value.extract 13 value.size) w (by omega))
    have HG : Hid (Hx.goodB (value.extract 13 value.size) = true → (Hx.resL (value.extract 13 value.size)).length = (value.size - 13) / 2) := fun h => by rw [good_len h, hts]
    have HEV : Hid (Hx.goodB (value.extract 13 value.size) = true → (value.size - 13) % 2 = 0) := fun h => by have := (Hx.goodB_iff.1 h).1; rw [hts] at this; exact this
    have HRB := Lib.hid (fun h => res_by (s := value.extract 13 value.size) h)
    have HRN : Hid (Hx.resN (value.extract 13 value.size) = if Hx.goodB (value.extract 13 value.size) = true then 0 else 13) := rfl
    generalize value.extract 13 value.size = tx at *
    clear hts
    go_enter Tryz.func66, Tryz.ntmps66
    go_wp2_with fail
    refine HC2.out.mono ?_
    rintro e w1 ⟨rfl, rfl⟩
    go_wp2_with fail
    refine HU.out.mono ?_
    rintro e w2 ⟨v, rfl, rd, nv, b2⟩
    have J1 := Lib.hid (J0.out.below b2)
    clear J0 nv b2 HU HC2
    cases hgd : Hx.goodB tx with
    | false =>
      have e3 : Hx.resN tx = 13 := by rw [HRN.out, hgd]; rfl
      rw [e3]
      have HE := Lib.hid (liR_no (p := p) (value := value) (by rw [HF.out, hgd]; exact if_neg (fun h => by cases h.2)))
      obtain ⟨va, vc, rfl, -⟩ := rd
      generalize (Hx.resL tx).length = rl at *
      clear HF HG HEV HRB HRN e3 hgd
      go_wp2
      go_ret
      exact le_of HE.out J1.out
    | true =>
      have e3 : Hx.resN tx = 0 := by rw [HRN.out, hgd]; rfl
      rw [e3]
      have hrl := HG.out hgd
      have hev := HEV.out hgd
      by_cases h77 : value.size = 77
      · have HE := Lib.hid (liR_yes (p := p) (value := value) (x := byL (Hx.resL tx)) (by rw [HF.out]; exact if_pos ⟨h77, hgd⟩))
        have h32 : (Hx.resL tx).length = 32 := by omega
        have hbl : (byL (Hx.resL tx)).length = 32 := by unfold byL; rw [List.length_map, h32]
        obtain ⟨va, vc, rfl, hrd⟩ := rd
        rcases hrd with hn | ⟨b0, off, rfl, hb0, hcs⟩
        · rw [hn] at h32; cases h32
        rw [h32]
        have HRA : Hid (w2.rangeAt b0 off (bc (byL (Hx.resL tx))).toList) := fun j u hj => by
          have hj2 : j < 32 := by
            have := (List.getElem?_eq_some_iff.1 hj).1
            simpa [bc, Lib.byteCells, hbl] using this
          rw [hcs j (by omega), HRB.out hgd j (by omega), ← hj]
          have hjb : j < (byL (Hx.resL tx)).length := by omega
          simp [bc, Lib.byteCells, List.getD, List.getElem?_eq_getElem hjb]
        have har : ∀ u : World, (Instr.arrayAt 23 (.slice (some ⟨b0, off, none⟩) 32 vc)).run Tryz.prog u = .ok (.pointer (some ⟨b0, off, none⟩)) u := fun u => run_arrayAt u 23 5 32 _ 32 vc Tryz.underlying23 (Nat.le_refl _)
        generalize byL (Hx.resL tx) = hh at *
        have T6 : w2.there b 0 (bc hh).size := by rw [bc_size, hbl]; exact J1.out.2.1.there J1.out.2.2.2.2.2.1
        have J2 := Lib.hid (J1.out.putH hbl)
        have hiH := infoHb hbl
        clear HF HG HEV HRB HRN e3 hgd hrl hev hcs J1 h32
        go_wp2_with (first | (refine wpList_store_mid rfl 23 _ _ rfl b 0 (bc hh) rfl rfl T6 hiH (bc_one _) ?_) | (refine wpList_load_mid rfl 23 _ rfl b0 off rfl (bc hh).toList _ HRA.out Tryz.underlying23 rfl (by simpa using hiH) ?_))
        go_ret
        exact le_of HE.out J2.out
      · have HE := Lib.hid (liR_no (p := p) (value := value) (by rw [HF.out]; exact if_neg (fun h => h77 h.1)))
        obtain ⟨va, vc, rfl, -⟩ := rd
        have hne : ¬ ((Hx.resL tx).length : Int) = 32 := by omega
        generalize (Hx.resL tx).length = rl at *
        clear HF HG HEV HRB HRN e3 hgd hrl hev
        go_wp2
        go_ret
        exact le_of HE.out J1.out
end Go.Proofs.YtnpcbcfjnhjmmaaGreatDoor
namespace Go.Proofs.YtnpcbcfjnhjmmaaGreatDoor
open Go.Shelf Go.RowKit Go.Deep
theorem rrO_ok {s : ByteArray} {r : Int × Int} (h : rrO s = some r) : RnOk r := by
  unfold rrO at h
  split at h
  · cases h
  · rename_i a ha
    have h1 := plO_lt ha
    split at h
    · cases h; exact ⟨⟨by show (0 : Int) ≤ (a : Int); omega, by show (a : Int) ≤ 4095; omega⟩, by show (1 : Int) ≤ 1; omega, by show (1 : Int) ≤ 4096; omega⟩
    · split at h
      · cases h
      · rename_i b hb
        have h2 := plO_lt hb
        split at h
        · cases h
          exact ⟨⟨by show (0 : Int) ≤ (a : Int); omega, by show (a : Int) ≤ 4095; omega⟩, by show (1 : Int) ≤ (b : Int) - (a : Int) + 1; omega, by show (b : Int) - (a : Int) + 1 ≤ 4096; omega⟩
        · cases h
theorem rdG_ok : ∀ (n : Nat) (l : List Pc), l.length = n → ∀ rs, rdG l = some rs → ∀ x ∈ rs, RnOk x
  | 0, l, hl, rs, h, x, hx => by
    obtain rfl := List.length_eq_zero_iff.1 hl
    cases h; cases hx
  | n + 1, l, hl, rs, h, x, hx => by
    have hne : l ≠ [] := fun e => by rw [e] at hl; cases hl
    obtain ⟨l', y, rfl⟩ : ∃ l' y, l = l' ++ [y] := ⟨l.dropLast, l.getLast hne, (List.dropLast_concat_getLast hne).symm⟩
    rw [rdG_snoc] at h
    cases h1 : rdG l' with
    | none => rw [h1] at h; cases h
    | some rs1 =>
      cases h2 : rrO y.1.2 with
      | none => rw [h1, h2] at h; cases h
      | some r =>
        rw [h1, h2] at h
        cases h
        rcases List.mem_append.1 hx with hx | hx
        · exact rdG_ok n l' (by simpa using hl) rs1 h1 x hx
        · rw [List.mem_singleton] at hx
          rw [hx]
          exact rrO_ok h2
/-- the runs are laid -/
def loR (p : Ps) (value : ByteArray) : Ps × Int := match rdG (pieces value 44) with | none => (p, 226) | some rs => if apB rs = true then ({ p with rs := rs }, 0) else (p, 227)
set_option maxHeartbeats 2000000 in
theorem layOnly38 (K : Nat → Prop) (B b : Nat) (p : Ps) (tr pe on mo : Value) (ah : Nat) (value : ByteArray) (w0 w : World) (h : RDg K B b w0 w p tr pe on mo ah) (hv : value.size ≤ 4096) (hT : TG w) (hB : B ≤ w0.heap.size) :
    Calls Tryz.prog 67 #[.pointer (some ⟨b, 0, none⟩), .string value] w fun e w' => LE K B b w0 (loR p value) ah e w' := by
  have J0 : Hid (RDg K B b w0 w p tr pe on mo ah) := h
  have HB : Hid (B ≤ w0.heap.size) := hB
  clear h hB
  have HC := Lib.hid (readRuns51 value w hv hT)
  have HQ : Hid (loR p value = match rdG (pieces value 44) with | none => (p, 226) | some rs => if apB rs = true then ({ p with rs := rs }, 0) else (p, 227)) := rfl
  have HK := Lib.hid (fun rs h => rdG_ok _ (pieces value 44) rfl rs h)
  generalize rdG (pieces value 44) = q at *
  generalize loR p value = R at *
  clear hv hT
  go_enter Tryz.func67, Tryz.ntmps67
  go_wp2_with fail
  refine HC.out.mono ?_
  rintro e w1 ⟨hr, b1⟩
  rcases hr with ⟨rfl, rfl⟩ | ⟨rs, v, rfl, rfl, ho, hl⟩
  · have HE : Hid (R = (p, 226)) := HQ.out
    have J1 := Lib.hid (J0.out.below b1)
    clear J0 b1 HC HQ HK
    go_wp2
    go_ret
    exact le_of HE.out J1.out
  · have HE : Hid (R = if apB rs = true then ({ p with rs := rs }, 0) else (p, 227)) := HQ.out
    have HA := Lib.hid (areApart v rs w1 (by
      obtain ⟨a, c, e, hx⟩ := ho.rr
      refine ⟨a, c, e, ?_⟩
      rcases hx with hx | ⟨g, o, e1, e2, e3⟩
      · exact .inl hx
      · exact .inr ⟨g, o, e1, trivial, e3⟩) (by omega) (HK.out rs rfl))
    have J1 := Lib.hid (J0.out.below b1)
    have HO : Hid (OR w.heap.size w1 v rs ∧ b < w.heap.size ∧ w0.heap.size ≤ w.heap.size ∧ LO B w1 { p with rs := rs } tr pe v mo) := ⟨ho, J0.out.2.1.lt, J0.out.1.size, J0.out.2.2.1.putRs b1 ho (Nat.le_trans HB.out J0.out.1.size)⟩
    obtain ⟨av, cv, rfl⟩ := ho.form
    clear HQ HK HC J0 b1 ho
    go_wp2_with fail
    refine HA.out.mono ?_
    rintro e w2 ⟨rfl, n, rfl⟩
    cases hap : apB rs with
    | false =>
      have HE2 : Hid (R = (p, 227)) := by rw [HE.out, hap]; rfl
      have J2 := Lib.hid (J1.out.below (w' := w1.drewN n) ⟨rfl, rfl, rfl, Nat.le_refl _, fun _ _ => rfl⟩)
      clear J1 HE HA HO hap
      go_wp2
      go_ret
      exact le_of HE2.out J2.out
    | true =>
      have HE2 : Hid (R = ({ p with rs := rs }, 0)) := by rw [HE.out, hap]; rfl
      have bd : Below w1.heap.size w1 (w1.drewN n) := ⟨rfl, rfl, rfl, Nat.le_refl _, fun _ _ => rfl⟩
      have J2 := Lib.hid (J1.out.below bd)
      have J3 := Lib.hid (J2.out.putRs (v := .slice av rs.length cv) (rs := rs) (HO.out.2.2.2.below bd) (fun g hg e => by
        have h1 := (World.ownsRow.lt HO.out.1 g e).1
        rcases hg with rfl | hg
        · have := HO.out.2.1; omega
        · have h2 := (J2.out.2.2.2.2.2.2 g hg).2.1; have h3 := HO.out.2.2.1; omega))
      have s35 := J2.out.2.1.cell J2.out.2.2.2.2.2.1 3
      have f35 := J2.out.2.1.frozen 35
      simp only [Nat.reduceAdd, List.getElem?_cons_succ, List.getElem?_cons_zero] at s35
      clear J1 J2 HE HA HO hap bd
      generalize w1.drewN n = w2 at *
      go_wp2
      go_ret
      exact le_of HE2.out J3.out
theorem setCell_comm (w : World) (a b : Addr) (v u : Value) (h : a.block ≠ b.block) : (w.setCell a v).setCell b u = (w.setCell b u).setCell a v := by
  unfold World.setCell
  simp only
  congr 1
  apply Array.ext_getElem?
  intro i
  simp only [Array.getElem?_modify]
  by_cases h1 : a.block = i
  · by_cases h2 : b.block = i
    · exact absurd (h1.trans h2.symm) h
    · simp [h1, h2]
  · by_cases h2 : b.block = i
    · simp [h1, h2]
    · simp [h1, h2]
theorem setCells_comm (a : Addr) (v : Value) (g : Nat) (h : a.block ≠ g) : ∀ (cs : List Value) (o : Nat) (w : World), (w.setCell a v).setCells g o cs = (w.setCells g o cs).setCell a v
  | [], _, _ => rfl
  | c :: cs, o, w => by
    rw [World.setCells, World.setCells, setCell_comm w a ⟨g, o, none⟩ v c h]
    exact setCells_comm a v g h cs (o + 1) _
def z6 : List Value := [.string { data := #[] }, .int .i64 0, .int .i64 0, .string { data := #[] }, .slice none 0 0, .slice none 0 0]
def p6 (key value : ByteArray) : List Value := [.string key, .int .i64 2, .int .i64 0, .string value, .slice none 0 0, .slice none 0 0]
theorem append_zero {w : World} {B : Nat} {sv : Value} {l : List (ByteArray × ByteArray)} {b : Nat} (hown : OM B w sv l) (hb : w.heap[b]? = some (.cells #[.string { data := #[] }, .int .i64 0, .int .i64 0, .string { data := #[] }, .slice none 0 0, .slice none 0 0] 41 (0, 0))) (hB : B ≤ w.heap.size) (hn : l.length < 16777216) :
    ∃ g cap w', (∀ ty, (Builtin.append_ #[26, 26] ty #[sv, .slice (some ⟨b, 0, none⟩) 1 1]).run Tryz.prog w = .ok (.slice (some ⟨g, 0, none⟩) (l.length + 1) cap) w') ∧ w'.ownsRow B 41 6 (.slice (some ⟨g, 0, none⟩) (l.length + 1) cap) (l.length + 1) (moC l ++ z6) ∧ w.grownBy w' sv.ownBlock ∧ (sv.ownBlock = some g ∨ g = w.heap.size) := by
  obtain ⟨i0, hi, hz0, hz1, hz2⟩ := info_parts info68
  obtain ⟨v', w', h1, h2, h3, _, h5⟩ := run_append_own_at (P := Tryz.prog) w B 26 0 41 i0 _ 6 96 Tryz.underlying26 hi hz0 hz1 hz2 rfl (by omega) sv l.length (moC l) hown ⟨b, 0, none⟩ 1 1 z6 rfl (World.news_of_block (B := b) hb) (fun u hu => by
    simp [z6] at hu
    rcases hu with rfl | rfl | rfl | rfl | rfl | rfl <;> rfl) (by unfold maxLen; omega) (by omega) hB
  obtain ⟨g, cap, rfl⟩ := ownsRow_succ h2
  refine ⟨g, cap, w', fun ty => h1, h2, h3, ?_⟩
  rcases h5 with h5 | h5
  · exact .inl h5.symm
  · exact .inr (by simpa [Value.ownBlock] using h5)
/-- the last element of a row is written -/
theorem own_last {w : World} {B e g n cap : Nat} {A Z C : List Value} (h : w.ownsRow B e 6 (.slice (some ⟨g, 0, none⟩) n cap) n (A ++ Z)) (hZ : Z.length = C.length) : (w.setCells g A.length C).ownsRow B e 6 (.slice (some ⟨g, 0, none⟩) n cap) n (A ++ C) ∧ w.there g A.length C.length := by
  have hlen := h.1
  rcases h.2 with ⟨h', _⟩ | ⟨g', cap', cur, h', h2, h3, h4, h5, h6, h7⟩
  · simp at h'
  · simp only [Value.slice.injEq, Option.some.injEq, Addr.mk.injEq, and_true, true_and] at h'
    obtain ⟨rfl, rfl⟩ := h'
    have hcur : cur = (A ++ (Z ++ cur.toList.drop (n * 6))).toArray := by
      apply Array.ext'
      rw [← List.append_assoc, ← h7]
      simp
    have hat := setCells_at C A.length w cur h3
    have hpt : putAt cur A.length C = (A ++ (C ++ cur.toList.drop (n * 6))).toArray := by
      have h9 := putAt_app C Z A (cur.toList.drop (n * 6)) hZ.symm
      rw [← hcur] at h9
      exact h9
    rw [hpt] at hat
    have hl : (A ++ Z).length = n * 6 := hlen
    have hAC : (A ++ C).length = n * 6 := by rw [List.length_append, ← hZ, ← List.length_append]; exact hl
    refine ⟨⟨hAC, .inr ⟨_, cap, _, rfl, h2, hat, h4, h5, ?_, ?_⟩⟩, fun j hj => ⟨?_, ?_⟩⟩
    · rw [← h6]
      have e1 : cur.size = (A ++ (Z ++ cur.toList.drop (n * 6))).length := (congrArg Array.size hcur).trans (by simp)
      rw [e1]
      simp [hZ]
    · rw [← List.append_assoc]
      simp only
      rw [List.take_left' hAC]
    · have hjc : A.length + j < cur.size := by
        have h8 : (cur.toList.take (n * 6)).length = n * 6 := by rw [h7]; exact hl
        rw [List.length_take] at h8
        have h9 : (A ++ Z).length = A.length + Z.length := List.length_append
        simp at h8
        omega
      simp only [World.cell?, h3]
      rw [Array.getElem?_eq_getElem hjc]; rfl
    · simp [World.frozen?, h3]
theorem grown_put {A w : World} {row : Option Nat} {g : Nat} (h : A.grownBy w row) (hat : row = some g ∨ g = A.heap.size) (o : Nat) (cs : List Value) : A.grownBy (w.setCells g o cs) row := by
  have hb : Below 0 w (w.setCells g o cs) := below_setCells (Nat.zero_le _) _ _ _ (Below.refl _ _)
  refine ⟨hb.os.trans h.os, hb.tape.trans h.tape, hb.output.trans h.output, Nat.le_trans h.size hb.size, fun k hk hne => ?_⟩
  rw [World.heap_setCells_other _ _ _ _ (Nat.lt_of_lt_of_le hk h.size) (fun e => by
    subst e
    rcases hat with e | e
    · exact hne e.symm
    · omega)]
  exact h.block k hk hne
theorem yieldsIf_build {ops : Array Oper} {S : World → Prop} {o : Oper} {a : Act} (hw : Region.wanted o (yielded ops a.tmps) = true) (t : TypeId) (parts : Array (Nat × Operand)) (ho : o.op = .build t parts) (cells : Array Value)
    (hf : Tryz.prog.built t (parts.map fun (i, x) => (i, a.eval x)).toList = some cells) : YieldsIf Tryz.prog ops S o (.agg cells) a :=
  .inl ⟨hw, fun w _ => by unfold execOp; simp only [ho, Sem.run_bind, run_build w t _ cells hf, Result.andThen_ok, Sem.run_pure]⟩
theorem wp_append_z {o : Oper} {a : Act} {K : Act → World → Prop} {Q : Exit → Act → World → Prop} {w : World} {sv : Value} {b : Nat} (s x : Operand) (ho : o.op = .call { callee := .builtin .append, args := #[s, x], argTypes := #[26, 26] }) {v' : Value} {w' : World} (hs : a.eval s = sv) (hx : a.eval x = .slice (some ⟨b, 0, none⟩) 1 1)
    (hrun : ∀ ty, (Builtin.append_ #[26, 26] ty #[sv, .slice (some ⟨b, 0, none⟩) 1 1]).run Tryz.prog w = .ok v' w') (h : K (a.put o.dst v') w') : o.wp Tryz.prog a w K Q := by
  unfold Oper.wp execOp
  simp only [ho, resolve, invoke, builtin, Sem.run_bind, Sem.run_pure, Result.andThen_ok, List.map_toArray, List.map_cons, List.map_nil, hs, hx, hrun]
  exact h
end Go.Proofs.YtnpcbcfjnhjmmaaGreatDoor
