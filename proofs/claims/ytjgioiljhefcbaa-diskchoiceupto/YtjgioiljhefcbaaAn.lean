import Derived.Test.YtjgioiljhefcbaaAm
namespace Go.Proofs.Ytjgioiljhefcbaa
open Go.RowKit
/-- what of the i-th write may be read at the sector -/
def my1 (us : List Wv) (s : Nat) (t : Int) (i : Nat) : List (List UInt8) := match us[i]? with | some u => if u.at_ = s ∧ ¬ (i : Int) = t then [fl u.dl] else [] | none => []
/-- what a sector may read -/
def mys (old : List UInt8) (us : List Wv) (s : Nat) (t : Int) (k : Nat) : List (List UInt8) := old :: (List.range k).flatMap (my1 us s t)
theorem mys_zero (old : List UInt8) (us : List Wv) (s : Nat) (t : Int) : mys old us s t 0 = [] ++ [old] := rfl
theorem mys_succ (old : List UInt8) (us : List Wv) (s : Nat) (t : Int) (k : Nat) : mys old us s t (k + 1) = mys old us s t k ++ my1 us s t k := by
  simp [mys, List.range_succ]
theorem my1_len (us : List Wv) (s : Nat) (t : Int) (i : Nat) : (my1 us s t i).length ≤ 1 := by
  unfold my1
  split
  · split <;> simp
  · simp
theorem mys_len (old : List UInt8) (us : List Wv) (s : Nat) (t : Int) : ∀ k, (mys old us s t k).length ≤ k + 1
  | 0 => by simp [mys]
  | k + 1 => by rw [mys_succ, List.length_append]; have := mys_len old us s t k; have := my1_len us s t k; omega
theorem mys_64 {old : List UInt8} (ho : old.length = 64) (us : List Wv) (s : Nat) (t : Int) : ∀ k, ∀ m ∈ mys old us s t k, m.length = 64
  | 0, m, h => by simp [mys] at h; rw [h, ho]
  | k + 1, m, h => by
    rw [mys_succ, List.mem_append] at h
    rcases h with h | h
    · exact mys_64 ho us s t k m h
    · unfold my1 at h
      split at h
      · split at h
        · simp at h; rw [h, fl_len]
        · cases h
      · cases h
/-- the torn write's first bytes upon what may be read -/
def upon (t m : List UInt8) (cut : Nat) (q : Nat) : UInt8 := if q < cut then byt t q else byt m q
/-- the sector reads as one that may be -/
def Good (b old : List UInt8) (us : List Wv) (s : Nat) (t cut : Int) : Prop := ∃ m ∈ mys old us s t us.length, b = m ∨ ∃ (tn : Nat) (u : Wv), t = tn ∧ us[tn]? = some u ∧ ∀ q, q < 64 → byt b q = upon (fl u.dl) m cut.toNat q
/-- what is held while the list grows -/
def AM (w wr : World) (mv : Value) (ms : List (List UInt8)) : Prop := MR w.heap.size wr mv ms ∧ Below w.heap.size w wr
theorem AM.on {w wr w2 : World} {mv : Value} {ms : List (List UInt8)} (h : AM w wr mv ms) (hb : Below wr.heap.size wr w2) : AM w w2 mv ms := ⟨h.1.on hb, h.2.trans (hb.mono h.2.size)⟩
/-- what the joining asks, with the box -/
structure BX (w V : World) (g : Nat) (mv u : Value) (ms : List (List UInt8)) (m : List UInt8) : Prop where
  r : MR w.heap.size V mv ms
  c : V.cell? ⟨g, 0, none⟩ = some u
  b : RB V u m
  o : ∀ g, u.ownBlock = some g → g < w.heap.size ∨ ∃ cs, V.heap[g]? = some (.cells cs 73 (0, 0))
  z : w.heap.size ≤ V.heap.size
  f : Below w.heap.size w V
theorem AM.box {w wr : World} {mv u : Value} {ms : List (List UInt8)} {m : List UInt8} (h : AM w wr mv ms) (hu : RB wr u m) (ho : ∀ g, u.ownBlock = some g → g < w.heap.size ∨ ∃ cs, wr.heap[g]? = some (.cells cs 73 (0, 0))) : BX w (wr.alloc (.cells #[u] 22)) wr.heap.size mv u ms m := by
  have hb : Below wr.heap.size wr (wr.alloc (.cells #[u] 22)) := (Below.refl _ _).alloc (Nat.le_refl _) _
  have h2 := h.on hb
  exact ⟨h2.1, cell_new0 _ _ _, hu.keep hb, fun g hg => (ho g hg).imp id (fun ⟨cs, hc⟩ => ⟨cs, (hb.block g (Array.getElem?_eq_some_iff.1 hc).1).trans hc⟩), h2.2.size, h2.2⟩
theorem RB.own {w : World} {v : Value} {l : List UInt8} (h : RB w v l) (hn : l.length = 64) (g : Nat) (hg : v.ownBlock = some g) : g < w.heap.size := by
  obtain ⟨a, c, rfl, _, h⟩ := h
  rcases h with h0 | ⟨g', o', rfl, hlt, _⟩
  · rw [h0] at hn; simp at hn
  · simp [Value.ownBlock] at hg
    omega
theorem MR.form {B : Nat} {w : World} {v : Value} {ms : List (List UInt8)} (h : MR B w v ms) : ∃ a c, v = .slice a ms.length c := by
  obtain ⟨_, _, h, _⟩ := h
  obtain ⟨a, c, e⟩ := ownsRow_form h
  exact ⟨a, c, e⟩
theorem MR.at {B : Nat} {w : World} {v : Value} {ms : List (List UInt8)} (h : MR B w v ms) (k : Nat) (m : List UInt8) (hm : ms[k]? = some m) : ∃ g c u, v = .slice (some ⟨g, 0, none⟩) ms.length c ∧ w.cell? ⟨g, k, none⟩ = some u ∧ RB w u m := by
  obtain ⟨vals, h1, h2, h3⟩ := h
  obtain ⟨hi, _⟩ := List.getElem?_eq_some_iff.1 hm
  obtain ⟨u, hv⟩ : ∃ u, vals[k]? = some u := ⟨vals[k]'(by omega), List.getElem?_eq_getElem _⟩
  rcases h2.2 with ⟨_, e⟩ | ⟨g, c, cur, e, _, h2, _, _, h5, h6⟩
  · omega
  refine ⟨g, c, _, e, ?_, (h3 k _ m hv hm).1⟩
  rw [Nat.mul_one] at h6
  have h7 := hv
  rw [← h6, List.getElem?_take_of_lt (by omega)] at h7
  simp only [World.cell?, h2]
  simpa using h7
theorem RB.cel {w : World} {a : Option Addr} {n c : Nat} {l : List UInt8} (h : RB w (.slice a n c) l) (hl : l.length = 64) (q : Nat) (hq : q < 64) : ∃ g o, a = some ⟨g, o, none⟩ ∧ w.cell? ⟨g, o + q, none⟩ = some (.int .u8 ((byt l q).toNat : Int)) := by
  obtain ⟨a', c', e, _, h⟩ := h
  simp only [Value.slice.injEq] at e
  rcases h with h0 | ⟨g, o, e2, _, h⟩
  · rw [h0] at hl; simp at hl
  · exact ⟨g, o, by rw [e.1, e2], h q (by omega)⟩
theorem iff_step {bb : Bool} {q : Nat} {P : Nat → Prop} (h : bb = true ↔ ∀ j, j < q → P j) (hp : P q) : bb = true ↔ ∀ j, j < q + 1 → P j := by
  rw [h]
  refine ⟨fun h j hj => ?_, fun h j hj => h j (by omega)⟩
  by_cases e : j = q
  · rw [e]; exact hp
  · exact h j (by omega)
theorem iff_stop {q : Nat} {P : Nat → Prop} (hp : ¬ P q) : false = true ↔ ∀ j, j < q + 1 → P j := ⟨fun h => (by cases h), fun h => absurd (h q (by omega)) hp⟩
/-- the sector reads as this one -/
def Hit (b : List UInt8) (us : List Wv) (t cut : Int) (m : List UInt8) : Prop := b = m ∨ ∃ (tn : Nat) (u : Wv), t = tn ∧ us[tn]? = some u ∧ ∀ q, q < 64 → byt b q = upon (fl u.dl) m cut.toNat q
set_option maxHeartbeats 4000000 in
set_option maxRecDepth 100000 in
theorem among (bv ov v : Value) (b old : List UInt8) (us : List Wv) (s : Nat) (t cut : Int) (w : World) (hb : RB w bv b) (hb64 : b.length = 64) (ho : RB w ov old) (ho64 : old.length = 64) (hr : RWv w v us) (hul : us.length ≤ 1048576) (ht : t = -1 ∨ ∃ tn : Nat, t = tn ∧ tn < us.length ∧ 0 ≤ cut ∧ cut ≤ 64) (hg : Good b old us s t cut) :
    Calls Try.prog 33 #[bv, ov, v, .int .i64 s, .int .i64 t, .int .i64 cut] w fun e w' => e = .returned (.bool true) ∧ Below w.heap.size w w' := by
  have HG : Hid (Good b old us s t cut) := hg
  have HR : Hid (RWv w v us) := hr
  have HBO : Hid (RB w bv b ∧ RB w ov old) := ⟨hb, ho⟩
  have HL : Hid (b.length = 64 ∧ old.length = 64) := ⟨hb64, ho64⟩
  have HT : Hid (t = -1 ∨ ∃ tn : Nat, t = tn ∧ tn < us.length ∧ 0 ≤ cut ∧ cut ≤ 64) := ht
  obtain ⟨ba, bc', rfl, _, _⟩ := hb
  obtain ⟨oa, oc, rfl, _, _⟩ := ho
  obtain ⟨a, c, rfl, _, _⟩ := hr.1
  rw [hb64, ho64] at HBO
  rw [hb64, ho64]
  have HA := Lib.hid (AM.box (w := w) (wr := w) (mv := .slice none 0 0) (ms := []) ⟨⟨[], rfl, World.ownsRow_nil _ _ _ _, fun i u m hu => by simp at hu⟩, Below.refl _ _⟩ HBO.out.2 (fun g hg => .inl (HBO.out.2.own HL.out.2 g hg)))
  clear hr ht hg hb64 ho64
  generalize hln : us.length = ln at *
  have HLN : Hid (us.length = ln) := hln
  clear hln
  go_enter Try.func33, Try.ntmps33
  go_wp2_with (at_builtin; refine append_sl rfl _ _ rfl rfl HA.out.r w.heap.size _ old rfl HA.out.c HA.out.b HA.out.o HA.out.z (by simp) ?_; intro v' w1 ho1 hb1; obtain ⟨a', n', c', rfl⟩ : ∃ a n c, v' = .slice a n c := (by obtain ⟨a, c, e⟩ := ho1.form; exact ⟨a, _, c, e⟩); have H0 : Hid (AM w w1 (.slice a' n' c') (mys old us s t 0)) := ⟨ho1, HA.out.f.trans hb1⟩; clear ho1 hb1 HA)
  go_loopw [13, 14] (fun v i wr => ∃ (k vn : Nat) (va : Option Addr) (vc : Nat), k ≤ ln ∧ i = .int .i64 k ∧ v = .slice va vn vc ∧ Hid (AM w wr (.slice va vn vc) (mys old us s t k))) (fun _ i _ => ln - (intOf i).toNat)
  case atStart => exact ⟨0, n', a', c', Nat.zero_le _, rfl, rfl, H0⟩
  case round =>
    clear H0
    obtain ⟨k, vn, va, vc, hk, rfl, rfl, H⟩ := hrel
    by_cases hlt : k < ln
    · obtain ⟨u, hu⟩ : ∃ u, us[k]? = some u := ⟨us[k]'(by rw [HLN.out]; exact hlt), List.getElem?_eq_getElem _⟩
      have HW := Lib.hid (HR.out.keep H.out.2)
      obtain ⟨g, o, rfl, hc1, hc2⟩ : ∃ g o, a = some ⟨g, o, none⟩ ∧ wr.cell? ⟨g, o + k * 2, none⟩ = some (.int .i64 u.at_) ∧ wr.cell? ⟨g, o + k * 2 + 1, none⟩ = some u.dv := by
        obtain ⟨⟨a', c', e, _, h⟩, _⟩ := HW.out
        simp only [Value.slice.injEq] at e
        rcases h with h0 | ⟨g, o, e2, _, h⟩
        · rw [h0] at hu; simp at hu
        · exact ⟨g, o, by rw [e.1, e2], h k u hu⟩
      have HP : Hid (mys old us s t (k + 1) = mys old us s t k ++ if u.at_ = s ∧ ¬ (k : Int) = t then [fl u.dl] else []) := by
        show mys old us s t (k + 1) = _
        rw [mys_succ, my1, hu]
      by_cases h0 : u.at_ = s ∧ ¬ (k : Int) = t
      · obtain ⟨h1, h2⟩ := h0
        rw [if_pos ⟨h1, h2⟩] at HP
        have hum := List.mem_of_getElem? hu
        have hrb0 := (HW.out.2 u hum).1
        have HUL0 := (HW.out.2 u hum).2
        clear hu hum HW
        obtain ⟨ua, ud, ul⟩ := u
        dsimp only at *
        subst h1
        have hq : ((k : Int) != t) = true := by simp [h2]
        have HRB : Hid (RB wr ud ul ∧ ul.length ≤ 140737488351232) := ⟨hrb0, HUL0⟩
        obtain ⟨da, dc, e, _⟩ := id hrb0
        obtain ⟨dn, hdn⟩ : ∃ dn, ul.length = dn := ⟨_, rfl⟩
        rw [hdn] at e
        subst e
        clear h2 hrb0 HUL0 hdn
        go_wp2_with fail
        refine (fullT _ ul wr HRB.out.1 HRB.out.2).mono ?_
        rintro e w2 ⟨gf, rfl, hgf, hrf, hcs, hbf⟩
        have HA := Lib.hid ((H.out.on hbf).box hrf (fun g hg => .inr (by simp [Value.ownBlock] at hg; subst hg; exact hcs)))
        have HLM : Hid ((mys old us s t k).length < 1073741824) := by have := mys_len old us s t k; show _ < _; omega
        clear hgf hrf hcs hbf H HRB hc1 hc2 hq
        go_wp2_with (at_builtin; refine append_sl rfl _ _ rfl rfl HA.out.r w2.heap.size _ (fl ul) rfl HA.out.c HA.out.b HA.out.o HA.out.z HLM.out ?_; intro v' w3 ho1 hb1; obtain ⟨a', n', c', rfl⟩ : ∃ a n c, v' = .slice a n c := (by obtain ⟨a, c, e⟩ := ho1.form; exact ⟨a, _, c, e⟩); have HN : Hid (AM w w3 (.slice a' n' c') (mys old us s t (k + 1))) := ⟨by rw [HP.out]; exact ho1, HA.out.f.trans hb1⟩; clear ho1 hb1 HA HP HLM)
        go_roundw
        case rel => exact ⟨k + 1, n', a', c', by omega, by go_num, rfl, HN⟩
        case measure => (simp [intOf]; omega)
      · have HN : Hid (AM w wr (.slice va vn vc) (mys old us s t (k + 1))) := by
          show AM _ _ _ _
          rw [HP.out, if_neg h0, List.append_nil]
          exact H.out
        clear H HP hu HW
        obtain ⟨ua, ud, ul⟩ := u
        dsimp only at *
        by_cases h1 : ua = s
        · subst h1
          have h2 : (k : Int) = t := by
            rcases Decidable.em ((k : Int) = t) with h | h
            · exact h
            · exact absurd ⟨rfl, h⟩ h0
          have hq : ((k : Int) != t) = false := by simp [h2]
          clear h0 h2
          go_wp2_with fail
          go_roundw
          case rel => exact ⟨k + 1, vn, va, vc, by omega, by go_num, rfl, HN⟩
          case measure => (simp [intOf]; omega)
        · have hq : (ua == (s : Int)) = false := by simp [h1]
          clear h0
          go_wp2_with fail
          go_roundw
          case rel => exact ⟨k + 1, vn, va, vc, by omega, by go_num, rfl, HN⟩
          case measure => (simp [intOf]; omega)
    · have hkn : k = us.length := by rw [HLN.out]; omega
      have HM : Hid ((∀ m ∈ mys old us s t us.length, m.length = 64) ∧ (mys old us s t us.length).length ≤ 1048577) := ⟨mys_64 HL.out.2 us s t _, by have := mys_len old us s t us.length; have := HLN.out; omega⟩
      have H1 : Hid (AM w wr (.slice va vn vc) (mys old us s t us.length)) := by rw [← hkn]; exact H.out
      have HG2 : Hid (∃ m ∈ mys old us s t us.length, Hit b us t cut m) := HG.out
      clear H hkn HG
      generalize mys old us s t us.length = ms at *
      have hvn : vn = ms.length := by
        obtain ⟨_, _, e⟩ := H1.out.1.form
        simp only [Value.slice.injEq] at e
        exact e.2.1
      subst hvn
      go_wp2_with fail
      clear hk hlt
      go_loopw [15] (fun i wr => ∃ k : Nat, k ≤ ms.length ∧ i = .int .i64 k ∧ Hid (AM w wr (.slice va ms.length vc) ms ∧ ∀ j m, j < k → ms[j]? = some m → ¬ Hit b us t cut m)) (fun i _ => ms.length - (intOf i).toNat)
      case atStart => exact ⟨0, Nat.zero_le _, rfl, H1.out, fun j m hj => by omega⟩
      case round =>
        clear H1
        obtain ⟨k, hk, rfl, H⟩ := hrel
        have hmz : ms.length ≤ 1048577 := HM.out.2
        by_cases hlt : k < ms.length
        · obtain ⟨m, hm⟩ : ∃ m, ms[k]? = some m := ⟨ms[k]'hlt, List.getElem?_eq_getElem _⟩
          obtain ⟨gm, um, rfl, hcm, hrm⟩ : ∃ gm um, va = some ⟨gm, 0, none⟩ ∧ wr.cell? ⟨gm, k, none⟩ = some um ∧ RB wr um m := by
            obtain ⟨gm, cm, um, e, hcm, hrm⟩ := H.out.1.1.at k m hm
            simp only [Value.slice.injEq] at e
            exact ⟨gm, um, e.1, hcm, hrm⟩
          have HML : Hid (m.length = 64) := HM.out.1 m (List.mem_of_getElem? hm)
          have HX : Hid (RB wr (.slice ba 64 bc') b ∧ RB wr um m) := ⟨HBO.out.1.keep H.out.1.2, hrm⟩
          obtain ⟨ma, mc, e, hmc, _⟩ := id hrm
          rw [HML.out] at e
          subst e
          clear hrm
          by_cases hbm : b = m
          · go_wp2_with fail
            refine (same _ _ b wr (by have := HL.out.1; omega) HX.out.1 (by have := HX.out.2; rw [← hbm] at this; exact this)).mono ?_
            rintro e w2 ⟨rfl, nq, rfl⟩
            have HE : Hid (Below w.heap.size w (wr.drewN nq)) := belowN H.out.1.2 nq
            clear H HX
            generalize wr.drewN nq = w2 at *
            go_wp2_with fail
            go_ret
            exact ⟨rfl, HE.out⟩
          · have HK : Hid (¬ Hit b us t cut m → ∀ j m, j < k + 1 → ms[j]? = some m → ¬ Hit b us t cut m) := fun hn j m' hj hm' => by
              by_cases h : j = k
              · subst h
                rw [hm] at hm'
                cases hm'
                exact hn
              · exact H.out.2 j m' (by omega) hm'
            go_wp2_with fail
            refine (differ _ _ b m wr (by have := HL.out.1; omega) (HL.out.1.trans HML.out.symm) hbm HX.out.1 HX.out.2).mono ?_
            rintro e w2 ⟨rfl, nq, rfl⟩
            have H2 : Hid (AM w (wr.drewN nq) (.slice (some ⟨gm, 0, none⟩) ms.length vc) ms ∧ RB (wr.drewN nq) (.slice ma 64 mc) m) := ⟨H.out.1.on (belowDrew wr nq), HX.out.2.keep (belowDrew wr nq)⟩
            have hcm2 : (wr.drewN nq).cell? ⟨gm, k, none⟩ = some (.slice ma 64 mc) := hcm
            clear H HX hcm
            generalize wr.drewN nq = w2 at *
            rcases HT.out with ht | ⟨tn, ht, htl, hc0, hc64⟩
            · subst ht
              have HN : Hid (AM w w2 (.slice (some ⟨gm, 0, none⟩) ms.length vc) ms ∧ ∀ j m, j < k + 1 → ms[j]? = some m → ¬ Hit b us (-1) cut m) := ⟨H2.out.1, HK.out (fun h => by
                rcases h with h | ⟨tn, _, h, _⟩
                · exact hbm h
                · omega)⟩
              clear H2 HK
              go_wp2_with fail
              go_roundw
              case rel => exact ⟨k + 1, by omega, by go_num, HN⟩
              case measure => (simp [intOf]; omega)
            · subst ht
              obtain ⟨cn, rfl⟩ : ∃ cn : Nat, cut = cn := ⟨cut.toNat, by omega⟩
              obtain ⟨u, hu⟩ : ∃ u, us[tn]? = some u := ⟨us[tn]'(by rw [HLN.out]; exact htl), List.getElem?_eq_getElem _⟩
              have HW := Lib.hid (HR.out.keep H2.out.1.2)
              obtain ⟨g, o, rfl, hc1, hc2⟩ : ∃ g o, a = some ⟨g, o, none⟩ ∧ w2.cell? ⟨g, o + tn * 2, none⟩ = some (.int .i64 u.at_) ∧ w2.cell? ⟨g, o + tn * 2 + 1, none⟩ = some u.dv := by
                obtain ⟨⟨a', c', e, _, h⟩, _⟩ := HW.out
                simp only [Value.slice.injEq] at e
                rcases h with h0 | ⟨g, o, e2, _, h⟩
                · rw [h0] at hu; simp at hu
                · exact ⟨g, o, by rw [e.1, e2], h tn u hu⟩
              have HNH : Hid ((¬ ∀ q, q < 64 → byt b q = upon (fl u.dl) m cn q) → ¬ Hit b us (tn : Int) (cn : Int) m) := fun hn h => by
                rcases h with h | ⟨tn', u', h1, h2, h3⟩
                · exact hbm h
                · have : tn' = tn := by omega
                  subst this
                  rw [hu] at h2
                  cases h2
                  exact hn h3
              have hum := List.mem_of_getElem? hu
              have hrb0 := (HW.out.2 u hum).1
              have HUL0 := (HW.out.2 u hum).2
              clear hu hum HW
              obtain ⟨ua, ud, ul⟩ := u
              dsimp only at *
              have HRB : Hid (RB w2 ud ul ∧ ul.length ≤ 140737488351232) := ⟨hrb0, HUL0⟩
              obtain ⟨da, dc, e, _⟩ := id hrb0
              obtain ⟨dn, hdn⟩ : ∃ dn, ul.length = dn := ⟨_, rfl⟩
              rw [hdn] at e
              subst e
              clear hrb0 HUL0 hdn
              go_wp2_with fail
              refine (full _ ul w2 HRB.out.1 HRB.out.2).mono ?_
              rintro e w3 ⟨gf, rfl, hgf, hrf, hbf⟩
              have H3 : Hid (AM w w3 (.slice (some ⟨gm, 0, none⟩) ms.length vc) ms ∧ RB w3 (.slice ma 64 mc) m ∧ RB w3 (.slice (some ⟨gf, 0, none⟩) 64 64) (fl ul) ∧ RB w3 (.slice ba 64 bc') b) := ⟨H2.out.1.on hbf, H2.out.2.keep hbf, hrf, HBO.out.1.keep (H2.out.1.on hbf).2⟩
              have hcm3 : w3.cell? ⟨gm, k, none⟩ = some (.slice ma 64 mc) := (hbf.cell (World.block_lt_of_cell? _ _ hcm2)).trans hcm2
              clear hgf hrf hbf H2 HRB hc1 hc2 hcm2 hm
              go_wp2_with fail
              go_loopw [17, 18] (fun sv i wr => ∃ (q nq : Nat) (bb : Bool), q ≤ 64 ∧ sv = .bool bb ∧ i = .int .i64 q ∧ wr = w3.drewN nq ∧ Hid (bb = true ↔ ∀ j, j < q → byt b j = upon (fl ul) m cn j)) (fun _ i _ => 64 - (intOf i).toNat)
              case atStart => exact ⟨0, 0, true, by omega, rfl, rfl, rfl, ⟨fun _ j hj => by omega, fun _ => rfl⟩⟩
              case round =>
                obtain ⟨q, nq, bb, hq64, rfl, rfl, rfl, HE⟩ := hrel
                by_cases hqlt : q < 64
                · obtain ⟨gb, ob, rfl, hb1⟩ := H3.out.2.2.2.cel HL.out.1 q hqlt
                  by_cases hqc : q < cn
                  · have hq1 : decide (q < cn) = true := decide_eq_true hqc
                    have hq2 : (cn ≤ q) = False := eq_false (by omega)
                    obtain ⟨gt, ot, e, ht1⟩ := H3.out.2.2.1.cel (fl_len ul) q hqlt
                    simp only [Option.some.injEq, Addr.mk.injEq] at e
                    obtain ⟨rfl, rfl, _⟩ := e
                    rw [Nat.zero_add] at ht1
                    have hup : upon (fl ul) m cn q = byt (fl ul) q := if_pos hqc
                    by_cases hx : byt b q = byt (fl ul) q
                    · have HE2 : Hid (bb = true ↔ ∀ j, j < q + 1 → byt b j = upon (fl ul) m cn j) := iff_step HE.out (hx.trans hup.symm)
                      rw [← hx] at ht1
                      generalize ((byt b q).toNat : Int) = x at *
                      clear HE hx hup
                      go_wp2
                      go_quiet (fail)
                      go_wp2
                      exact ⟨⟨q + 1, _, bb, by omega, rfl, by go_num, rfl, HE2⟩, by simp [intOf]; omega⟩
                    · have HE2 : Hid (false = true ↔ ∀ j, j < q + 1 → byt b j = upon (fl ul) m cn j) := iff_stop (P := fun j => byt b j = upon (fl ul) m cn j) (fun h => hx (h.trans hup))
                      have hxy := toNat_ne hx
                      generalize ((byt b q).toNat : Int) = x at *
                      generalize ((byt (fl ul) q).toNat : Int) = y at *
                      clear HE hx hup
                      go_wp2
                      go_quiet (fail)
                      go_wp2
                      exact ⟨⟨q + 1, _, false, by omega, rfl, by go_num, rfl, HE2⟩, by simp [intOf]; omega⟩
                  · have hq1 : decide (q < cn) = false := decide_eq_false hqc
                    have hq2 : (cn ≤ q) = True := eq_true (by omega)
                    obtain ⟨gt, ot, rfl, ht1⟩ := H3.out.2.1.cel HML.out q hqlt
                    have hup : upon (fl ul) m cn q = byt m q := if_neg hqc
                    by_cases hx : byt b q = byt m q
                    · have HE2 : Hid (bb = true ↔ ∀ j, j < q + 1 → byt b j = upon (fl ul) m cn j) := iff_step HE.out (hx.trans hup.symm)
                      rw [← hx] at ht1
                      generalize ((byt b q).toNat : Int) = x at *
                      clear HE hx hup
                      go_wp2
                      go_quiet (fail)
                      go_wp2
                      exact ⟨⟨q + 1, _, bb, by omega, rfl, by go_num, rfl, HE2⟩, by simp [intOf]; omega⟩
                    · have HE2 : Hid (false = true ↔ ∀ j, j < q + 1 → byt b j = upon (fl ul) m cn j) := iff_stop (P := fun j => byt b j = upon (fl ul) m cn j) (fun h => hx (h.trans hup))
                      have hxy := toNat_ne hx
                      generalize ((byt b q).toNat : Int) = x at *
                      generalize ((byt m q).toNat : Int) = y at *
                      clear HE hx hup
                      go_wp2
                      go_quiet (fail)
                      go_wp2
                      exact ⟨⟨q + 1, _, false, by omega, rfl, by go_num, rfl, HE2⟩, by simp [intOf]; omega⟩
                · have hq6 : q = 64 := by omega
                  subst hq6
                  have H4 := Lib.hid (H3.out.1.on (belowDrew w3 nq))
                  clear H3 hcm3
                  generalize w3.drewN nq = w4 at *
                  cases bb with
                  | true =>
                    clear HE HK HNH
                    go_wp2
                    go_ret
                    exact ⟨rfl, H4.out.2⟩
                  | false =>
                    have HN : Hid (AM w w4 (.slice (some ⟨gm, 0, none⟩) ms.length vc) ms ∧ ∀ j m, j < k + 1 → ms[j]? = some m → ¬ Hit b us (tn : Int) (cn : Int) m) := ⟨H4.out, HK.out (HNH.out (fun h => by have := HE.out.2 h; cases this))⟩
                    clear HE HK HNH H4
                    go_wp2
                    go_roundw
                    case rel => exact ⟨k + 1, by omega, by go_num, HN⟩
                    case measure => (simp [intOf]; omega)
        · obtain ⟨m, hm, hh⟩ := HG2.out
          obtain ⟨j, hj, hjm⟩ := List.getElem_of_mem hm
          exact absurd hh (H.out.2 j m (by omega) (by rw [List.getElem?_eq_getElem hj, hjm]))
end Go.Proofs.Ytjgioiljhefcbaa
