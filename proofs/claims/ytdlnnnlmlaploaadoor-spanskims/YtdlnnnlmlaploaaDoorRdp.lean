import Derived.Test.YtdlnnnlmlaploaaDoorRdl
import Derived.Test.YtdlnnnlmlaploaaDoorPlain
import Derived.Lib.Hide
import Derived.Laws.BytesString
import Derived.Laws.IdiomStrings
namespace Go.Proofs.YtdlnnnlmlaploaaDoor
open Go.RowKit Go.Deep
theorem giveUp44 (rb : Nat) (p er : Int) (w : World) : Calls Tryd.prog 78 #[.pointer (some ⟨rb, 0, none⟩), .int .i64 p, .int .i64 er] w fun e w' => e = pnc p er ∧ w' = w := by
  go_enter Tryd.func78, Tryd.ntmps78
  go_wp2
  exact ⟨rfl, rfl, rfl⟩
set_option maxHeartbeats 1000000 in
theorem next43 (rb : Nat) (a : Option Addr) (c : Nat) (b : List UInt8) (i : Nat) (w : World) (h : RR rb w a c b i) :
    Calls Tryd.prog 77 #[.pointer (some ⟨rb, 0, none⟩)] w fun e w' => Below w.heap.size w w' ∧ ((i < b.length ∧ e = .returned (.int .u8 ((byt b i).toNat : Int))) ∨ (i = b.length ∧ e = pnc i 21)) := by
  obtain ⟨c0, c1, _⟩ := h.cells
  have hn := h.2.1
  have hl := h.2.2.2.1
  by_cases hlt : i < b.length
  · obtain ⟨g, o, rfl, hg, k0⟩ := h.byte hlt
    have i0 : (0 : Int) ≤ (i : Int) := by omega
    have i1 : (i : Int) < (b.length : Int) := by omega
    have i2 : ((i : Int) == (b.length : Int)) = false := by simp; omega
    generalize ((byt b i).toNat : Int) = z at *
    clear h
    go_enter Tryd.func77, Tryd.ntmps77
    go_wp2
    go_quiet (fail)
    go_wp2
    go_quiet (fail)
    go_wp2
    go_ret
    exact ⟨⟨rfl, rfl, rfl, Nat.le_refl _, fun _ _ => rfl⟩, .inl ⟨hlt, rfl⟩⟩
  · obtain rfl : i = b.length := by omega
    clear h
    go_enter Tryd.func77, Tryd.ntmps77
    go_wp2
    go_quiet (fail)
    go_wp2_with fail
    refine (giveUp44 rb _ _ _).mono ?_
    rintro e w' ⟨rfl, rfl⟩
    exact ⟨rfl, ⟨rfl, rfl, rfl, Nat.le_refl _, fun _ _ => rfl⟩, .inr ⟨trivial, rfl⟩⟩
theorem isDigit46 (c : UInt8) (w : World) : Calls Tryd.prog 80 #[.int .u8 (c.toNat : Int)] w fun e w' => e = .returned (.bool (dig c)) ∧ w' = w := by
  have e : dig c = (decide ((48 : Int) ≤ (c.toNat : Int)) && decide ((c.toNat : Int) ≤ 57)) := by
    unfold dig
    rw [show decide (48 ≤ c) = decide ((48 : Int) ≤ (c.toNat : Int)) from by simp [UInt8.le_iff_toNat_le]; omega, show decide (c ≤ 57) = decide ((c.toNat : Int) ≤ 57) from by simp [UInt8.le_iff_toNat_le]; omega]
  rw [e]
  generalize (c.toNat : Int) = z
  by_cases h1 : 48 ≤ z
  · go_enter Tryd.func80, Tryd.ntmps80
    go_wp2
    go_ret
    exact ⟨by simp [h1], rfl⟩
  · have h2 : ¬ (z ≥ 48) := h1
    go_enter Tryd.func80, Tryd.ntmps80
    go_wp2
    go_ret
    exact ⟨by simp; omega, rfl⟩
theorem conv_cut {g o i j cap : Nat} {b : List UInt8} {w : World} (hj : j ≤ b.length) (hc : ∀ k, k < b.length → w.cell? ⟨g, o + k, none⟩ = some (.int .u8 ((byt b k).toNat : Int))) (ty : TypeId) (hty : Tryd.prog.underlying ty = some .string) :
    (convert 22 ty (.slice (some ⟨g, o + i, none⟩) (j - i) cap)).run Tryd.prog w = .ok (.string ⟨(cut b i j).toArray⟩) w := by
  have hl := cut_length (b := b) (i := i) (j := j) hj
  have h := run_convert_bytes_back (P := Tryd.prog) w 22 ty 5 ⟨g, o + i, none⟩ cap (cut b i j) Tryd.underlying22 Tryd.underlying5 hty (fun k hk => by
    have hadd : (⟨g, o + i, none⟩ : Addr).add k = ⟨g, o + (i + k), none⟩ := by unfold Addr.add; split <;> simp_all <;> omega
    rw [hadd, hc (i + k) (by omega), ← byt_cut (b := b) (j := j) (i := i) (k := k) (by omega)]
    simp [byt, List.getD, List.getElem?_eq_getElem hk])
  rw [hl] at h
  exact h
theorem u8_ne {x y : UInt8} (h : x ≠ y) : (x.toNat : Int) ≠ (y.toNat : Int) := fun e => h (UInt8.toNat_inj.1 (by omega))
/-- where the reader in block rb stands -/
def atOf (w : World) (rb : Nat) : Nat := (intOf ((w.cell? ⟨rb, 1, none⟩).getD .nilIface)).toNat
theorem RR.atOf {rb : Nat} {w : World} {a : Option Addr} {c : Nat} {b : List UInt8} {i : Nat} (h : RR rb w a c b i) : atOf w rb = i := by
  unfold Go.Proofs.YtdlnnnlmlaploaaDoor.atOf
  rw [h.cells.2.1]; simp [intOf]
set_option maxHeartbeats 1000000 in
theorem digits52 (rb : Nat) (a : Option Addr) (c : Nat) (b : List UInt8) (en : UInt8) (i : Nat) (w : World) (h : RR rb w a c b i) :
    Calls Tryd.prog 89 #[.pointer (some ⟨rb, 0, none⟩), .int .u8 (en.toNat : Int)] w fun e w' => pcEnd (digs b en i) rb w w' a c b (fun d => .string ⟨d.toArray⟩) e := by
  obtain ⟨c0, c1, f1⟩ := h.cells
  have HR := Lib.hid h
  have hn := h.2.1
  have hl := h.2.2.2.1
  have hrl := run_le h.2.1
  clear h
  go_enter Tryd.func89, Tryd.ntmps89
  go_wp2
  go_loopw [] (fun wr => ∃ k, k ≤ run b i ∧ Hid (RR rb wr a c b (i + k) ∧ Besides rb w wr)) (fun wr => b.length - atOf wr rb)
  case atStart => exact ⟨0, Nat.zero_le _, HR.out, Besides.refl _ _⟩
  case round =>
    clear c0 c1 f1
    obtain ⟨k, hk, HO⟩ := hrel
    have hk2 : i + k ≤ b.length := by omega
    have hmer := HO.out.1.atOf
    go_wp2_with fail
    refine (next43 rb a c b (i + k) wr HO.out.1).mono ?_
    rintro e w1 ⟨hb1, ⟨hlt, rfl⟩ | ⟨heq, rfl⟩⟩
    case inr =>
      rw [heq]
      exact ⟨rfl, pcEnd.bad (by rw [digs, if_pos (by omega)]) (HO.out.2.trans (Besides.of_below hb1))⟩
    have HO1 : Hid (RR rb w1 a c b (i + k) ∧ Besides rb w w1) := ⟨HO.out.1.heap hb1, HO.out.2.trans (Besides.of_below hb1)⟩
    clear HO hb1
    go_wp2_with fail
    refine (isDigit46 _ _).mono ?_
    rintro e w2 ⟨rfl, rfl⟩
    by_cases hd : dig (byt b (i + k)) = true
    · have hkr : k < run b i := by
        rcases Nat.lt_or_ge k (run b i) with h | h
        · exact h
        · have : run b i = k := by omega
          rw [← this] at hd hlt
          rw [run_end hlt] at hd; cases hd
      obtain ⟨c0, c1, f1⟩ := HO1.out.1.cells
      rw [hd]
      have HN : Hid (RR rb (w2.setCell ⟨rb, 1, none⟩ (.int .i64 ((i : Int) + (k : Int) + 1))) a c b (i + (k + 1)) ∧ Besides rb w (w2.setCell ⟨rb, 1, none⟩ (.int .i64 ((i : Int) + (k : Int) + 1)))) := by
        have h := HO1.out.1.set (i + (k + 1)) (by omega)
        have e : ((i + (k + 1) : Nat) : Int) = (i : Int) + (k : Int) + 1 := by omega
        rw [e] at h
        exact ⟨h, HO1.out.2.set1⟩
      have hme2 := HN.out.1.atOf
      have hm3 : b.length - (i + (k + 1)) < b.length - (i + k) := by omega
      clear HO1
      go_wp2
      go_roundw
      case rel => exact ⟨k + 1, by omega, HN⟩
      case measure => rw [hmer, hme2]; omega
    · have hkr : i + k = i + run b i := by
        rcases Nat.lt_or_ge k (run b i) with h | h
        · exact absurd (run_lt h).2 hd
        · omega
      have hd' : dig (byt b (i + k)) = false := by simpa using hd
      rw [hd']
      have hij : i ≤ i + k := by omega
      clear hd hd' hk2 hmer
      generalize i + k = j at *
      have HD : Hid (digs b en i = if j = i ∨ byt b j ≠ en then .bad j 22 else .ok (cut b i j) (j + 1)) := by
        refine Lib.hid ?_
        rw [digs, if_neg (by omega), ← hkr]
        by_cases h0 : run b i = 0
        · rw [if_pos (.inl h0), if_pos (.inl (by omega))]
        · by_cases h1 : byt b j ≠ en
          · rw [if_pos (.inr h1), if_pos (.inr h1)]
          · rw [if_neg (by simp [h0, h1]), if_neg (by intro h; rcases h with h | h; exact h0 (by omega); exact h1 h)]
      clear hkr hrl HR hk
      obtain ⟨c0, c1, f1⟩ := HO1.out.1.cells
      by_cases hr0 : j = i
      · have HE : Hid (digs b en i = .bad j 22) := Lib.hid (by rw [HD.out, if_pos (.inl hr0)])
        have hz : ((j : Int) == (i : Int)) = true := by simp; omega
        clear hr0
        go_wp2_with fail
        refine (giveUp44 rb _ _ _).mono ?_
        rintro e w' ⟨rfl, rfl⟩
        exact ⟨rfl, pcEnd.bad HE.out HO1.out.2⟩
      · have hz : ((j : Int) == (i : Int)) = false := by simp; omega
        go_wp2_with fail
        refine (next43 rb a c b j w2 HO1.out.1).mono ?_
        rintro e w3 ⟨hb3, ⟨_, rfl⟩ | ⟨heq, rfl⟩⟩
        case inr => omega
        have HO3 : Hid (RR rb w3 a c b j ∧ Besides rb w w3) := ⟨HO1.out.1.heap hb3, HO1.out.2.trans (Besides.of_below hb3)⟩
        clear HO1 hb3 c0 c1 f1
        obtain ⟨c0, c1, f1⟩ := HO3.out.1.cells
        by_cases he : byt b j = en
        · have HE : Hid (digs b en i = .ok (cut b i j) (j + 1)) := Lib.hid (by rw [HD.out, if_neg (by simp [hr0, he])])
          subst he
          obtain ⟨g, o, rfl, hg, _⟩ := HO3.out.1.byte hlt
          have HT : Hid (∀ k, k < b.length → w3.cell? ⟨g, o + k, none⟩ = some (.int .u8 ((byt b k).toNat : Int))) := by
            rcases HO3.out.1.2.2.2.2 with rfl | ⟨g', o', h1, _, _, h4⟩
            · simp at hlt
            · cases h1; exact h4
          have HN : Hid (RR rb (w3.setCell ⟨rb, 1, none⟩ (.int .i64 ((j : Int) + 1))) (some ⟨g, o, none⟩) c b (j + 1) ∧ Besides rb w (w3.setCell ⟨rb, 1, none⟩ (.int .i64 ((j : Int) + 1)))) := by
            have h := HO3.out.1.set (j + 1) (by omega)
            exact ⟨h, HO3.out.2.set1⟩
          have hcap : b.length ≤ c := HO3.out.1.2.2.1
          have HV : Hid (∀ k, k < b.length → (w3.setCell ⟨rb, 1, none⟩ (.int .i64 ((j : Int) + 1))).cell? ⟨g, o + k, none⟩ = some (.int .u8 ((byt b k).toNat : Int))) := Lib.hid fun k hk => (World.cell?_setCell_far _ _ _ _ (Ne.symm hg)).trans (HT.out k hk)
          clear HD HO3
          go_wp2
          obtain ⟨k0, k1, _⟩ := HN.out.1.cells
          rw [show ((j + 1 : Nat) : Int) = (j : Int) + 1 from rfl] at k1
          generalize w3.setCell ⟨rb, 1, none⟩ (.int .i64 ((j : Int) + 1)) = w4 at *
          have hconv : ∀ n, (convert 22 9 (.slice (some ⟨g, o + i, none⟩) (j - i) (c - i))).run Tryd.prog (w4.drewN n) = .ok (.string ⟨(cut b i j).toArray⟩) (w4.drewN n) := fun n => conv_cut (w := w4.drewN n) (by omega) (fun k hk => HV.out k hk) 9 Tryd.underlying9
          have b0 : (0 : Int) ≤ (i : Int) := by omega
          have b1 : (i : Int) ≤ (j : Int) := by omega
          have b2 : (j : Int) ≤ (c : Int) := by omega
          have b3 : (j : Int) + 1 - 1 = (j : Int) := by omega
          have b4 : i ≤ j := hij
          have b5 : j ≤ c := by omega
          clear HT c0 c1 f1 hz hlt hr0
          go_quiet (fail)
          have hB : Below w4.heap.size w4 (w4.drewN nq) := ⟨rfl, rfl, rfl, Nat.le_refl _, fun _ _ => rfl⟩
          have HZ : Hid (Besides rb w (w4.drewN nq) ∧ RR rb (w4.drewN nq) (some ⟨g, o, none⟩) c b (j + 1)) := ⟨HN.out.2.trans (Besides.of_below hB), HN.out.1.heap hB⟩
          clear HN HV k0 k1 hconv hB
          go_wp2
          go_ret
          exact pcEnd.ok HE.out HZ.out.1 HZ.out.2
        · have HE : Hid (digs b en i = .bad j 22) := Lib.hid (by rw [HD.out, if_pos (.inr he)])
          have hz2 := u8_ne he
          clear HD he
          go_wp2_with fail
          refine (giveUp44 rb _ _ _).mono ?_
          rintro e w' ⟨rfl, rfl⟩
          exact ⟨rfl, pcEnd.bad HE.out HO3.out.2⟩
end Go.Proofs.YtdlnnnlmlaploaaDoor
