import Derived.Test.YtkeemkjokdbhlaaGreatDoorMake
namespace Go.Proofs.YtkeemkjokdbhlaaGreatDoor
open Go.RowKit
def lb (L : List Bool) (i : Nat) : Bool := L.getD i false
/-- the slice v of bools reads as the list L -/
def RO (w : World) (v : Value) (L : List Bool) : Prop :=
  ∃ a c, v = .slice a L.length c ∧ (L = [] ∨ ∃ g o, a = some ⟨g, o, none⟩ ∧ g < w.heap.size ∧ ∀ i, i < L.length → w.cell? ⟨g, o + i, none⟩ = some (.bool (lb L i)))
theorem RO.keep {w w' : World} {v : Value} {l : List Bool} (h : RO w v l) (hb : Below w.heap.size w w') : RO w' v l := by
  obtain ⟨a, c, rfl, h⟩ := h
  refine ⟨a, c, rfl, ?_⟩
  rcases h with h | ⟨g, o, h1, h2, h3⟩
  · exact .inl h
  · exact .inr ⟨g, o, h1, Nat.lt_of_lt_of_le h2 hb.size, fun i hi => (World.cell?_of_block (w := w) (hb.block g h2)).trans (h3 i hi)⟩
theorem add_on (c : UInt8) (j : Nat) (hj : j < 8) (h : c.toNat.testBit (7 - j) = false) : IntKind.u8.wrap ((c.toNat : Int) + (mk j : Int)) = ((on c j).toNat : Int) := by
  have := add_mk c j hj h
  rw [on_toNat, ← this.1]
  unfold IntKind.wrap
  simp [IntKind.signed, IntKind.bits]
  omega
theorem conv_mk (j : Nat) : IntKind.u8.wrap (mk j : Int) = (mk j : Int) := by
  have := mk_lt j
  unfold IntKind.wrap
  simp [IntKind.signed, IntKind.bits]
  omega
theorem wrap_nat (p : Nat) (h : p ≤ 9223372036854775807) : IntKind.i64.wrap (p : Int) = (p : Int) := by
  unfold IntKind.wrap
  simp [IntKind.signed, IntKind.bits]
  omega
theorem byt_snoc (l : List UInt8) (i : Nat) : byt (l ++ [0]) i = byt l i := by
  unfold byt
  simp only [List.getD_eq_getElem?_getD, List.getElem?_append]
  by_cases h : i < l.length
  · rw [if_pos h]
  · rw [if_neg h, List.getElem?_eq_none (l := l) (by omega)]
    by_cases h2 : i - l.length = 0
    · rw [h2]; simp
    · rw [List.getElem?_eq_none (by simp; omega)]
theorem bit_snoc (l : List UInt8) (i : Nat) : bit (l ++ [0]) i = bit l i := by unfold bit; rw [byt_snoc]
set_option maxHeartbeats 4000000 in
theorem pack31 (v : Value) (L : List Bool) (w : World) (hr : RO w v L) (hl : L.length ≤ 1000000) :
    Calls Tryz.prog 35 #[v] w fun e w' => ∃ v' l, e = .returned v' ∧ OW w.heap.size w' v' l ∧ BF L.length (fun i => lb L i) l ∧ Below w.heap.size w w' := by
  obtain ⟨va, vc, rfl, hr⟩ := hr
  generalize hN : L.length = N at *
  have HN : Hid (L.length = N) := hN
  clear hN
  have HR : Hid (L = [] ∨ ∃ g o, va = some (⟨g, o, none⟩ : Addr) ∧ g < w.heap.size ∧ ∀ i, i < N → w.cell? ⟨g, o + i, none⟩ = some (.bool (lb L i))) := hr
  clear hr
  go_enter Tryz.func35, Tryz.ntmps35
  go_wp2
  go_loopw [3, 4] (fun b t wr => ∃ (k : Nat) (l : List UInt8) (a : Option Addr) (c : Nat), k ≤ N ∧ t = .int .i64 k ∧ b = .slice a ((k + 7) / 8) c ∧ OW w.heap.size wr b l ∧ l.length = (k + 7) / 8 ∧ (∀ i, bit l i = (decide (i < k) && lb L i)) ∧ Below w.heap.size w wr) (fun _ t _ => N - (intOf t).toNat)
  case atStart => exact ⟨0, [], none, 0, Nat.zero_le _, rfl, rfl, World.ownsRow_nil _ _ _ _, rfl, fun i => by simp [bit, byt], Below.refl _ _⟩
  case round =>
    obtain ⟨k, l, a, c, hk, rfl, rfl, ho, hlen, hbit, hb⟩ := hrel
    by_cases hlt : k < N
    · rcases HR.out with hnil | ⟨g, o, rfl, hg, hc⟩
      · have := HN.out; rw [hnil] at this; simp at this; omega
      by_cases hL : lb L k = true
      · have HL : Hid (lb L k = true) := hL
        clear hL
        by_cases h8 : k % 8 = 0
        · have h8' : ((k : Int) % 8 == 0) = true := by simp; omega
          have hB := hb.size
          have HP : Hid (OW w.heap.size wr (.slice a ((k + 7) / 8) c) l ∧ l.length = (k + 7) / 8 ∧ (∀ i, bit l i = (decide (i < k) && lb L i)) ∧ Below w.heap.size w wr ∧ ∀ i, i < N → w.cell? ⟨g, o + i, none⟩ = some (.bool (lb L i))) := ⟨ho, hlen, hbit, hb, hc⟩
          clear hc HR HN hb hbit hlen ho
          go_wp2_with (at_builtin; refine append_byte rfl _ _ rfl rfl (HP.out.1.alloc _) wr.heap.size 0 rfl (by go_simp) (by simp; omega) (by rw [HP.out.2.1]; omega) ?_; (
            intro v' w1 hown' hb1
            obtain ⟨a2, c2, rfl⟩ := hown'.form
            have hb2 : Below w.heap.size w w1 := (HP.out.2.2.2.1.alloc hB _).trans hb1
            have hlen2 : (l ++ [0]).length = k / 8 + 1 := by rw [List.length_append, HP.out.2.1]; simp; omega
            have hbit2 : ∀ i, bit (l ++ [0]) i = (decide (i < k) && lb L i) := fun i => (bit_snoc l i).trans (HP.out.2.2.1 i)
            have hck : w1.cell? ⟨g, o + k, none⟩ = some (.bool (lb L k)) := (hb2.cell (p := ⟨g, o + k, none⟩) hg).trans (HP.out.2.2.2.2 k hlt)
            rw [HL.out] at hck
            rw [hlen2] at hown' ⊢
            have ho2 := hown'
            clear hown' hb1 HP
            generalize l ++ [0] = l2 at *
            obtain ⟨g2, rfl, hg2, h1, h2⟩ := ho2.at (k / 8) (by omega)
            have hbf : bit l2 k = false := by rw [hbit2]; simp
            have h4 := add_on (byt l2 (k / 8)) (k % 8) (Nat.mod_lt _ (by omega)) hbf
            have HS : Hid (∀ j, bit (l2.set (k / 8) (on (byt l2 (k / 8)) (k % 8))) j = (decide (j = k) || bit l2 j)) := fun j => bit_set_on l2 k j (by omega)
            have HO : Hid (OW w.heap.size w1 (.slice (some ⟨g2, 0, none⟩) (k / 8 + 1) c2) l2 ∧ l2.length = k / 8 + 1 ∧ (∀ i, bit l2 i = (decide (i < k) && lb L i)) ∧ Below w.heap.size w w1) := ⟨ho2, hlen2, hbit2, hb2⟩
            have HW : Hid (∀ w, Calls Tryz.prog 59 #[.int .i64 k] w fun e w' => e = .returned (.int .i64 (mk (k % 8) : Int)) ∧ w = w') := fun w => weight30 k (by omega) w
            have hm1 := mk_lt (k % 8)
            have hc8 := conv_mk (k % 8)
            clear ho2 hlen2 hbit2 hb2 hbf
            generalize on (byt l2 (k / 8)) (k % 8) = y at *
            generalize (byt l2 (k / 8)) = x at *
            generalize mk (k % 8) = m at *
            generalize hp : k / 8 = p at *
            have hk8 : (k : Int) / 8 = (p : Int) := by omega
            have HP8 : Hid (k / 8 = p) := hp
            generalize hM : p + 1 = M at *
            have HM8 : Hid (p + 1 = M) := hM
            have hk9 : Int.tdiv (k : Int) 8 = (p : Int) := by rw [Int.tdiv_eq_ediv_of_nonneg (by omega)]; exact hk8
            have hk10 : IntKind.i64.wrap (p : Int) = (p : Int) := wrap_nat p (by omega)
            have b1 : (0 : Int) ≤ (p : Int) := by omega
            have b2 : (p : Int) < (M : Int) := by omega
            clear hp hM h8
          ))
          go_region_with (go_at_call 59; refine (HW.out _).mono ?_; rintro e w' ⟨rfl, rfl⟩)
          all_goals go_wp2
          all_goals
            refine ⟨⟨k + 1, l2.set p y, _, _, by omega, by go_num, by rw [show (k + 1 + 7) / 8 = M by have := HP8.out; have := HM8.out; omega], ?_, ?_, ?_, ?_⟩, by simp [intOf]; omega⟩
            · exact (HO.out.1.stored _ _).drew 1
            · rw [List.length_set, HO.out.2.1]; have := HP8.out; have := HM8.out; omega
            · intro i
              rw [HS.out, HO.out.2.2.1]
              by_cases hik : i = k
              · subst hik; simp [HL.out]
              · rw [decide_eq_false hik, Bool.false_or]
                congr 1
                exact decide_eq_decide.2 (by omega)
            · exact belowN (HO.out.2.2.2.setCell (p := ⟨g2, p, none⟩) hg2 _) 1
        · have h8' : ((k : Int) % 8 == 0) = false := by simp; omega
          have hck : wr.cell? ⟨g, o + k, none⟩ = some (.bool (lb L k)) := (hb.cell (p := ⟨g, o + k, none⟩) hg).trans (hc k hlt)
          rw [HL.out] at hck
          have hd : (k + 7) / 8 = k / 8 + 1 := by omega
          rw [hd] at ho hlen
          have ho2 := ho
          have hlen2 := hlen
          have hbit2 := hbit
          have hb2 := hb
          clear hc HR HN hb hbit hlen ho
          rw [hd]
          generalize l = l2 at *
          generalize a = a2 at *
          generalize c = c2 at *
          clear hd
          obtain ⟨g2, rfl, hg2, h1, h2⟩ := ho2.at (k / 8) (by omega)
          have hbf : bit l2 k = false := by rw [hbit2]; simp
          have h4 := add_on (byt l2 (k / 8)) (k % 8) (Nat.mod_lt _ (by omega)) hbf
          have HS : Hid (∀ j, bit (l2.set (k / 8) (on (byt l2 (k / 8)) (k % 8))) j = (decide (j = k) || bit l2 j)) := fun j => bit_set_on l2 k j (by omega)
          have HO : Hid (OW w.heap.size wr (.slice (some ⟨g2, 0, none⟩) (k / 8 + 1) c2) l2 ∧ l2.length = k / 8 + 1 ∧ (∀ i, bit l2 i = (decide (i < k) && lb L i)) ∧ Below w.heap.size w wr) := ⟨ho2, hlen2, hbit2, hb2⟩
          have HW : Hid (∀ w, Calls Tryz.prog 59 #[.int .i64 k] w fun e w' => e = .returned (.int .i64 (mk (k % 8) : Int)) ∧ w = w') := fun w => weight30 k (by omega) w
          have hm1 := mk_lt (k % 8)
          have hc8 := conv_mk (k % 8)
          clear ho2 hlen2 hbit2 hb2 hbf
          generalize on (byt l2 (k / 8)) (k % 8) = y at *
          generalize (byt l2 (k / 8)) = x at *
          generalize mk (k % 8) = m at *
          generalize hp : k / 8 = p at *
          have hk8 : (k : Int) / 8 = (p : Int) := by omega
          have HP8 : Hid (k / 8 = p) := hp
          generalize hM : p + 1 = M at *
          have HM8 : Hid (p + 1 = M) := hM
          have hk9 : Int.tdiv (k : Int) 8 = (p : Int) := by rw [Int.tdiv_eq_ediv_of_nonneg (by omega)]; exact hk8
          have hk10 : IntKind.i64.wrap (p : Int) = (p : Int) := wrap_nat p (by omega)
          have b1 : (0 : Int) ≤ (p : Int) := by omega
          have b2 : (p : Int) < (M : Int) := by omega
          clear hp hM h8
          go_wp2
          go_region_with (go_at_call 59; refine (HW.out _).mono ?_; rintro e w' ⟨rfl, rfl⟩)
          all_goals go_wp2
          all_goals
            refine ⟨⟨k + 1, l2.set p y, _, _, by omega, by go_num, by rw [show (k + 1 + 7) / 8 = M by have := HP8.out; have := HM8.out; omega], ?_, ?_, ?_, ?_⟩, by simp [intOf]; omega⟩
            · exact (HO.out.1.stored _ _).drew 1
            · rw [List.length_set, HO.out.2.1]; have := HP8.out; have := HM8.out; omega
            · intro i
              rw [HS.out, HO.out.2.2.1]
              by_cases hik : i = k
              · subst hik; simp [HL.out]
              · rw [decide_eq_false hik, Bool.false_or]
                congr 1
                exact decide_eq_decide.2 (by omega)
            · exact belowN (HO.out.2.2.2.setCell (p := ⟨g2, p, none⟩) hg2 _) 1
      · have HL : Hid (lb L k = false) := (show lb L k = false by simpa using hL)
        clear hL
        by_cases h8 : k % 8 = 0
        · have h8' : ((k : Int) % 8 == 0) = true := by simp; omega
          have hB := hb.size
          have HP : Hid (OW w.heap.size wr (.slice a ((k + 7) / 8) c) l ∧ l.length = (k + 7) / 8 ∧ (∀ i, bit l i = (decide (i < k) && lb L i)) ∧ Below w.heap.size w wr ∧ ∀ i, i < N → w.cell? ⟨g, o + i, none⟩ = some (.bool (lb L i))) := ⟨ho, hlen, hbit, hb, hc⟩
          clear hc HR HN hb hbit hlen ho
          go_wp2_with (at_builtin; refine append_byte rfl _ _ rfl rfl (HP.out.1.alloc _) wr.heap.size 0 rfl (by go_simp) (by simp; omega) (by rw [HP.out.2.1]; omega) ?_; (
            intro v' w1 hown' hb1
            obtain ⟨a2, c2, rfl⟩ := hown'.form
            have hb2 : Below w.heap.size w w1 := (HP.out.2.2.2.1.alloc hB _).trans hb1
            have hlen2 : (l ++ [0]).length = k / 8 + 1 := by rw [List.length_append, HP.out.2.1]; simp; omega
            have hbit2 : ∀ i, bit (l ++ [0]) i = (decide (i < k) && lb L i) := fun i => (bit_snoc l i).trans (HP.out.2.2.1 i)
            have hck : w1.cell? ⟨g, o + k, none⟩ = some (.bool (lb L k)) := (hb2.cell (p := ⟨g, o + k, none⟩) hg).trans (HP.out.2.2.2.2 k hlt)
            rw [HL.out] at hck
            rw [hlen2] at hown' ⊢
            have ho2 := hown'
            clear hown' hb1 HP
            generalize l ++ [0] = l2 at *
            have HO : Hid (OW w.heap.size w1 (.slice a2 (k / 8 + 1) c2) l2 ∧ l2.length = k / 8 + 1 ∧ (∀ i, bit l2 i = (decide (i < k) && lb L i)) ∧ Below w.heap.size w w1) := ⟨ho2, hlen2, hbit2, hb2⟩
            clear ho2 hlen2 hbit2 hb2
          ))
          go_roundw
          case rel =>
            refine ⟨k + 1, l2, _, _, by omega, by go_num, by rw [show (k + 1 + 7) / 8 = k / 8 + 1 by omega], HO.out.1, by rw [HO.out.2.1]; omega, ?_, HO.out.2.2.2⟩
            intro i
            rw [HO.out.2.2.1]
            by_cases hik : i = k
            · subst hik; simp [HL.out]
            · congr 1
              exact decide_eq_decide.2 (by omega)
          case measure => simp [intOf]; omega
        · have h8' : ((k : Int) % 8 == 0) = false := by simp; omega
          have hck : wr.cell? ⟨g, o + k, none⟩ = some (.bool (lb L k)) := (hb.cell (p := ⟨g, o + k, none⟩) hg).trans (hc k hlt)
          rw [HL.out] at hck
          have hd : (k + 7) / 8 = k / 8 + 1 := by omega
          rw [hd] at ho hlen
          have ho2 := ho
          have hlen2 := hlen
          have hbit2 := hbit
          have hb2 := hb
          clear hc HR HN hb hbit hlen ho
          rw [hd]
          generalize l = l2 at *
          generalize a = a2 at *
          generalize c = c2 at *
          clear hd
          have HO : Hid (OW w.heap.size wr (.slice a2 (k / 8 + 1) c2) l2 ∧ l2.length = k / 8 + 1 ∧ (∀ i, bit l2 i = (decide (i < k) && lb L i)) ∧ Below w.heap.size w wr) := ⟨ho2, hlen2, hbit2, hb2⟩
          clear ho2 hlen2 hbit2 hb2
          go_wp2
          go_roundw
          case rel =>
            refine ⟨k + 1, l2, _, _, by omega, by go_num, by rw [show (k + 1 + 7) / 8 = k / 8 + 1 by omega], HO.out.1, by rw [HO.out.2.1]; omega, ?_, HO.out.2.2.2⟩
            intro i
            rw [HO.out.2.2.1]
            by_cases hik : i = k
            · subst hik; simp [HL.out]
            · congr 1
              exact decide_eq_decide.2 (by omega)
          case measure => simp [intOf]; omega
    · obtain rfl : k = N := by omega
      go_wp2
      go_ret
      exact ⟨_, l, rfl, ho, ⟨hlen, hbit⟩, hb⟩
end Go.Proofs.YtkeemkjokdbhlaaGreatDoor
