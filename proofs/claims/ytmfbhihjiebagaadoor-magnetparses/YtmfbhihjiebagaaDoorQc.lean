import Derived.Test.YtmfbhihjiebagaaDoorQb
import Derived.Laws.Cover3
import Derived.Deep.MidRow
namespace Go.Proofs.YtmfbhihjiebagaaDoor
open Go.Shelf Go.RowKit Go.Deep
theorem hp_len {l p : List UInt8} (h : Lib.hasPrefix l p = true) : p.length ≤ l.length := by
  have := hp_size (s := ⟨l.toArray⟩) (p := ⟨p.toArray⟩) (by simpa using h)
  exact this
/-- the infohash is laid -/
def liR (p : Ps) (value : ByteArray) : Ps × Int := match fstR value.data.toList with | some h => ({ p with h := h }, 0) | none => (p, 223)
theorem liR_no {p : Ps} {value : ByteArray} (h : fstR value.data.toList = none) : liR p value = (p, 223) := by rw [liR, h]
theorem liR_yes {p : Ps} {value : ByteArray} {x : List UInt8} (h : fstR value.data.toList = some x) : liR p value = ({ p with h := x }, 0) := by rw [liR, h]
theorem LR.there {w : World} {b : Nat} {l : List UInt8} {nm : ByteArray} {tr pe on mo : Value} {ah : Nat} (h : LR w b l nm tr pe on mo ah) (hl : l.length = 32) : w.there b 0 32 := fun j hj => ⟨by
  have h0 : w.heap[b]? = some (.cells (rdC l nm tr pe on mo ah) 37 (0, 0)) := h
  have hj2 : j < (rdC l nm tr pe on mo ah).size := by simp [rdC, Lib.byteCells, hl]; omega
  simp only [World.cell?, h0, Nat.zero_add]
  rw [Array.getElem?_eq_getElem hj2]; rfl, h.frozen _⟩
theorem fst_of (value : ByteArray) : (⟨(value.data.toList.drop 13).toArray⟩ : ByteArray) = value.extract 13 value.size := by
  apply ByteArray.ext
  apply Array.ext'
  rw [extD]
set_option maxHeartbeats 2000000 in
theorem layInfo37 (K : Nat → Prop) (B b : Nat) (p : Ps) (tr pe on mo : Value) (ah : Nat) (value : ByteArray) (w0 w : World) (h : RDg K B b w0 w p tr pe on mo ah) (hv : value.size ≤ 4096) :
    Calls Tryd.prog 37 #[.pointer (some ⟨b, 0, none⟩), .string value] w fun e w' => LE K B b w0 (liR p value) ah e w' := by
  have J0 : Hid (RDg K B b w0 w p tr pe on mo ah) := h
  clear h
  have HC := Lib.hid (cutPrefix7 value { data := #[117, 114, 110, 58, 98, 116, 109, 104, 58, 49, 50, 50, 48] } w)
  have hz : value.data.toList.length = value.size := by simp
  cases hp : Lib.hasPrefix value.data.toList [117, 114, 110, 58, 98, 116, 109, 104, 58, 49, 50, 50, 48] with
  | false =>
    have e1 : cpB value { data := #[117, 114, 110, 58, 98, 116, 109, 104, 58, 49, 50, 50, 48] } = value := by unfold cpB; exact if_neg (by show ¬ Lib.hasPrefix value.data.toList [117, 114, 110, 58, 98, 116, 109, 104, 58, 49, 50, 50, 48] = true; rw [hp]; decide)
    have HE := Lib.hid (liR_no (p := p) (value := value) (by unfold fstR; exact if_neg (fun h => by rw [hp] at h; cases h.2.1)))
    have HC2 : Hid (Calls Tryd.prog 7 #[.string value, .string { data := #[117, 114, 110, 58, 98, 116, 109, 104, 58, 49, 50, 50, 48] }] w fun e w' => e = .returned (.tuple #[.string value, .bool false]) ∧ w' = w) := by
      have h9 := HC.out
      rw [e1] at h9
      have e2 : Lib.hasPrefix value.data.toList (ByteArray.data { data := #[117, 114, 110, 58, 98, 116, 109, 104, 58, 49, 50, 50, 48] }).toList = false := hp
      rw [e2] at h9
      exact h9
    clear HC e1 hp hz
    go_enter Tryd.func37, Tryd.ntmps37
    go_wp2_with fail
    refine HC2.out.mono ?_
    rintro e w1 ⟨rfl, rfl⟩
    go_wp2_with fail
    refine (Hx.unhex20 value w1 (by omega)).mono ?_
    rintro e w2 ⟨v, rfl, rd, nv, b2⟩
    have J1 := Lib.hid (J0.out.below b2)
    obtain ⟨va, vc, rfl, -⟩ := rd
    clear J0 nv b2
    generalize Hx.resN value = rn at *
    generalize (Hx.resL value).length = rl at *
    go_wp2
    go_ret
    exact le_of HE.out J1.out
  | true =>
    have e1 : cpB value { data := #[117, 114, 110, 58, 98, 116, 109, 104, 58, 49, 50, 50, 48] } = value.extract 13 value.size := by unfold cpB; exact if_pos hp
    have HC2 : Hid (Calls Tryd.prog 7 #[.string value, .string { data := #[117, 114, 110, 58, 98, 116, 109, 104, 58, 49, 50, 50, 48] }] w fun e w' => e = .returned (.tuple #[.string (value.extract 13 value.size), .bool true]) ∧ w' = w) := by
      have h9 := HC.out
      rw [e1] at h9
      have e2 : Lib.hasPrefix value.data.toList (ByteArray.data { data := #[117, 114, 110, 58, 98, 116, 109, 104, 58, 49, 50, 50, 48] }).toList = true := hp
      rw [e2] at h9
      exact h9
    have hl13 := hp_len hp
    have hts : (value.extract 13 value.size).size = value.size - 13 := by rw [ByteArray.size_extract]; omega
    have HF := Lib.hid (show fstR value.data.toList = if value.size = 77 ∧ Hx.goodB (value.extract 13 value.size) = true then some (byL (Hx.resL (value.extract 13 value.size))) else none by
      unfold fstR
      rw [hz, fst_of value]
      by_cases hq : value.size = 77 ∧ Hx.goodB (value.extract 13 value.size) = true
      · rw [if_pos hq, if_pos ⟨hq.1, hp, hq.2⟩]
      · rw [if_neg hq, if_neg (fun h => hq ⟨h.1, h.2.2⟩)])
    rw [hz] at hl13
    have hl13' : 13 ≤ value.size := hl13
    clear HC e1 hp hz hl13
    have HU := Lib.hid (Hx.unhex20 (value.extract 13 value.size) w (by omega))
    have HG : Hid (Hx.goodB (value.extract 13 value.size) = true → (Hx.resL (value.extract 13 value.size)).length = (value.size - 13) / 2) := fun h => by rw [good_len h, hts]
    have HEV : Hid (Hx.goodB (value.extract 13 value.size) = true → (value.size - 13) % 2 = 0) := fun h => by have := (Hx.goodB_iff.1 h).1; rw [hts] at this; exact this
    have HRB := Lib.hid (fun h => res_by (s := value.extract 13 value.size) h)
    have HRN : Hid (Hx.resN (value.extract 13 value.size) = if Hx.goodB (value.extract 13 value.size) = true then 0 else 13) := rfl
    generalize value.extract 13 value.size = tx at *
    clear hts
    go_enter Tryd.func37, Tryd.ntmps37
    go_wp2_with fail
    refine HC2.out.mono ?_
    rintro e w1 ⟨rfl, rfl⟩
    go_wp2_with fail
    refine HU.out.mono ?_
    rintro e w2 ⟨v, rfl, rd, nv, b2⟩
    have J1 := Lib.hid (J0.out.below b2)
    clear J0 nv b2 HU HC2
    cases hgd : Hx.goodB tx with
    | false =>
      have e3 : Hx.resN tx = 13 := by rw [HRN.out, hgd]; rfl
      rw [e3]
      have HE := Lib.hid (liR_no (p := p) (value := value) (by rw [HF.out, hgd]; exact if_neg (fun h => by cases h.2)))
      obtain ⟨va, vc, rfl, -⟩ := rd
      generalize (Hx.resL tx).length = rl at *
      clear HF HG HEV HRB HRN e3 hgd
      go_wp2
      go_ret
      exact le_of HE.out J1.out
    | true =>
      have e3 : Hx.resN tx = 0 := by rw [HRN.out, hgd]; rfl
      rw [e3]
      have hrl := HG.out hgd
      have hev := HEV.out hgd
      by_cases h77 : value.size = 77
      · have HE := Lib.hid (liR_yes (p := p) (value := value) (x := byL (Hx.resL tx)) (by rw [HF.out]; exact if_pos ⟨h77, hgd⟩))
        have h32 : (Hx.resL tx).length = 32 := by omega
        have hbl : (byL (Hx.resL tx)).length = 32 := by unfold byL; rw [List.length_map, h32]
        obtain ⟨va, vc, rfl, hrd⟩ := rd
        rcases hrd with hn | ⟨b0, off, rfl, hb0, hcs⟩
        · rw [hn] at h32; cases h32
        rw [h32]
        have HRA : Hid (w2.rangeAt b0 off (bc (byL (Hx.resL tx))).toList) := fun j u hj => by
          have hj2 : j < 32 := by
            have := (List.getElem?_eq_some_iff.1 hj).1
            simpa [bc, Lib.byteCells, hbl] using this
          rw [hcs j (by omega), HRB.out hgd j (by omega), ← hj]
          have hjb : j < (byL (Hx.resL tx)).length := by omega
          simp [bc, Lib.byteCells, List.getD, List.getElem?_eq_getElem hjb]
        have har : ∀ u : World, (Instr.arrayAt 23 (.slice (some ⟨b0, off, none⟩) 32 vc)).run Tryd.prog u = .ok (.pointer (some ⟨b0, off, none⟩)) u := fun u => run_arrayAt u 23 5 32 _ 32 vc Tryd.underlying23 (Nat.le_refl _)
        generalize byL (Hx.resL tx) = hh at *
        have T6 : w2.there b 0 (bc hh).size := by rw [bc_size, hbl]; exact J1.out.2.1.there J1.out.2.2.2.2.2.1
        have J2 := Lib.hid (J1.out.putH hbl)
        have hiH := infoHb hbl
        clear HF HG HEV HRB HRN e3 hgd hrl hev hcs J1 h32
        go_wp2_with (first | (refine wpList_store_mid rfl 23 _ _ rfl b 0 (bc hh) rfl rfl T6 hiH (bc_one _) ?_) | (refine wpList_load_mid rfl 23 _ rfl b0 off rfl (bc hh).toList _ HRA.out Tryd.underlying23 rfl (by simpa using hiH) ?_))
        go_ret
        exact le_of HE.out J2.out
      · have HE := Lib.hid (liR_no (p := p) (value := value) (by rw [HF.out]; exact if_neg (fun h => h77 h.1)))
        obtain ⟨va, vc, rfl, -⟩ := rd
        have hne : ¬ ((Hx.resL tx).length : Int) = 32 := by omega
        generalize (Hx.resL tx).length = rl at *
        clear HF HG HEV HRB HRN e3 hgd hrl hev
        go_wp2
        go_ret
        exact le_of HE.out J1.out
end Go.Proofs.YtmfbhihjiebagaaDoor
