import Derived.Test.YtoiehkpmemmldaaDoorMp
import Derived.Test.YtoiehkpmemmldaaDoorLs
import Derived.Maps.AppendAt
import Derived.Laws.Rows
namespace Go.Proofs.YtoiehkpmemmldaaDoor
open Go.Maps Go.RowKit
def eb : ByteArray := ByteArray.empty
/-- the box of a key -/
def BX (w : World) (B f : Nat) (x : ByteArray) : Prop := w.heap[B]? = some (.cells #[.int .i64 f, .string x] 57 (0, 0))
theorem BX.facts {w : World} {B f : Nat} {x : ByteArray} (h : BX w B f x) : w.cell? ⟨B, 0, none⟩ = some (.int .i64 f) ∧ w.cell? ⟨B, 1, none⟩ = some (.string x) ∧ w.frozen? ⟨B, 0, none⟩ = false ∧ w.frozen? ⟨B, 1, none⟩ = false := by
  unfold BX at h
  exact ⟨by simp [World.cell?, h], by simp [World.cell?, h], by simp [World.frozen?, h], by simp [World.frozen?, h]⟩
theorem BX.made (w : World) : BX (w.alloc (.cells #[.int .i64 0, .string ⟨#[]⟩] 57)) w.heap.size 0 eb := (MapKept.heap_alloc w _).1
theorem BX.set {w : World} {B f : Nat} {x : ByteArray} (h : BX w B f x) (g : Nat) (y : ByteArray) : BX ((w.setCell ⟨B, 0, none⟩ (.int .i64 g)).setCell ⟨B, 1, none⟩ (.string y)) B g y := by
  unfold BX at h ⊢
  exact heap_setCell_same _ _ _ _ _ _ (heap_setCell_same w B 0 _ _ _ h)
theorem BX.grown {w w' : World} {B f bm c : Nat} {x : ByteArray} {S} (h : BX w B f x) (hm : MM w bm c S) (hg : w.grownBy w' (some bm)) : BX w' B f x := by
  obtain ⟨D, ⟨es, clock, h1, _⟩, _, _⟩ := hm
  unfold BX at h ⊢
  have hne : B ≠ bm := fun e => by rw [e, h1] at h; cases h
  exact (hg.block B (Array.getElem?_eq_some_iff.1 h).1 (by simpa using hne)).trans h
theorem MM.ne {w : World} {B f bm c : Nat} {x : ByteArray} {S} (h : BX w B f x) (hm : MM w bm c S) : bm ≠ B := by
  obtain ⟨D, ⟨es, clock, h1, _⟩, _, _⟩ := hm
  unfold BX at h
  intro e
  rw [← e, h1] at h; cases h
theorem MM.set {w : World} {B f bm c : Nat} {x : ByteArray} {S} (h : BX w B f x) (hm : MM w bm c S) (u u' : Value) : MM ((w.setCell ⟨B, 0, none⟩ u).setCell ⟨B, 1, none⟩ u') bm c S :=
  (hm.setCell (a := ⟨B, 0, none⟩) (hm.ne h) u).setCell (a := ⟨B, 1, none⟩) (hm.ne h) u'
theorem grown_set {w0 w : World} {bm B : Nat} (h : w0.grownBy w (some bm)) (hB : w0.heap.size ≤ B) (u u' : Value) : w0.grownBy ((w.setCell ⟨B, 0, none⟩ u).setCell ⟨B, 1, none⟩ u') (some bm) :=
  ⟨h.os, h.tape, h.output, by have := h.size; simp [World.setCell]; exact this, fun i hi hne => by
    rw [Below.heap_setCell _ _ _ _ (by simp; omega), Below.heap_setCell _ _ _ _ (by simp; omega)]; exact h.block i hi hne⟩
theorem SR.grown {w w' : World} {l : List ByteArray} {v : Value} {bm c : Nat} {S} (h : SR w l v) (hm : MM w bm c S) (hg : w.grownBy w' (some bm)) : SR w' l v := by
  obtain ⟨D, ⟨es, clock, h1, _⟩, _, _⟩ := hm
  obtain ⟨a, cp, rfl, hc, h⟩ := h
  refine ⟨a, cp, rfl, hc, ?_⟩
  by_cases hl : l = []
  · exact .inl hl
  rcases h with h | ⟨g, o, e1, h2, h3⟩
  · exact .inl h
  · have hne : g ≠ bm := fun e => by
      have := h3 0 (List.length_pos_iff.2 hl)
      rw [e] at this
      simp [World.cell?, h1] at this
    exact .inr ⟨g, o, e1, Nat.lt_of_lt_of_le h2 hg.size, fun i hi => hg.cell (h3 i hi) (by simpa using hne)⟩
theorem JI.room {p N0 j c N S at' e} (J : @JI ByteArray p N0 j c N S at' e) : at'.1 ≤ c := J.ko.low J.ti
theorem JI.name {p : List ByteArray} {N0 j c N S at'} (J : JI p N0 j c N S at' eb) (hf : FL p) : at'.2.size ≤ maxLen := by
  rcases J.ko with ⟨_, rfl⟩ | ⟨v, x, m, h, _, _, rfl⟩
  · exact Nat.zero_le _
  · have : x ∈ p := List.mem_of_mem_take (i := j) (by rw [h]; simp)
    exact Nat.le_trans (hf.2 _ this) (by unfold maxLen; omega)
/-- what lay answers -/
def LR (w : World) (bm c k : Nat) (L : List (List ByteArray)) (p : List ByteArray) (b : Bool) (w' : World) : Prop :=
  w.grownBy w' (some bm) ∧ (b = true → (∀ q, q ∈ L → ¬ Begin q p) ∧ ∃ c' S' N', c' ≤ c + k + 1 ∧ MM w' bm c' S' ∧ TI eb c' N' S' ∧ LI (L ++ [p]) N') ∧ (b = false → ∃ q, q ∈ L ∧ Begin q p)
set_option maxHeartbeats 1000000 in
theorem lay13 (bm c : Nat) (v : Value) (p : List ByteArray) (L : List (List ByteArray)) (N : List ByteArray → Option Nat) (S : Nat × ByteArray → Option Nat) (w : World) (hf : FL p) (hr : SR w p v) (hm : MM w bm c S) (ht : TI eb c N S) (hL : LI L N) (hc : c + p.length + 1 ≤ 2000000000000000) :
    Calls Tryd.prog 18 #[.map (some bm), v] w fun e w' => ∃ b, e = .returned (.bool b) ∧ LR w bm c p.length L p b w' := by
  have HR : Hid (SR w p v) := hr
  have HF : Hid (FL p) := hf
  have HL : Hid (LI L N) := hL
  have HM : Hid (MM w bm c S) := hm
  have HJ : Hid (JI p N 0 c N S (0, eb) eb) := JI.start ht p
  obtain ⟨va, vc, rfl, _, _⟩ := hr
  have hlt := hm.lt
  clear hf hL hm ht
  generalize hN : p.length = n at *
  have HN : Hid (p.length = n) := hN
  clear hN
  go_enter Tryd.func18, Tryd.ntmps18
  go_wp2
  have hbx0 : Hid (BX (w.alloc (.cells #[.int .i64 0, .string ⟨#[]⟩] 57)) w.heap.size 0 eb) := BX.made w
  go_loopw [15] (fun i wr => ∃ (k c1 f : Nat) (x : ByteArray) (N1 : List ByteArray → Option Nat) (S1 : Nat × ByteArray → Option Nat), k ≤ n ∧ i = .int .i64 k ∧ Hid (JI p N k c1 N1 S1 (f, x) eb) ∧ Hid (MM wr bm c1 S1 ∧ BX wr w.heap.size f x ∧ w.grownBy wr (some bm)) ∧ c1 ≤ c + k) (fun i _ => n - (intOf i).toNat)
  case atStart => exact ⟨0, c, 0, eb, N, S, Nat.zero_le _, rfl, HJ, ⟨HM.out.alloc _, hbx0.out, World.grownBy_alloc _ _ _⟩, Nat.le_refl _⟩
  case round =>
    obtain ⟨k, c1, f, x, N1, S1, hk, rfl, HJ1, HM1, hc1⟩ := hrel
    have hfc : f ≤ c1 := HJ1.out.room
    have hfx : x.size ≤ maxLen := HJ1.out.name HF.out
    obtain ⟨b0, b1, z0, z1⟩ := HM1.out.2.1.facts
    by_cases hlt : k < n
    · have hkl : k < p.length := by have := HN.out; omega
      obtain ⟨b, off, rfl, hb, hc'⟩ := (HR.out.grown HM.out HM1.out.2.2).cellAt hkl
      have hsa : sa p k = p[k] := sa_get hkl
      cases hS : S1 (f, x) with
      | none =>
        have HJ2 : Hid (JI p N (k + 1) (c1 + 1) (setN N1 (p.take k) (c1 + 1)) (setS S1 (f, x) (c1 + 1)) (c1 + 1, sa p k) eb) := by
          have := HJ1.out.new hkl hS; rw [← hsa] at this; exact this
        clear hsa hkl
        generalize sa p k = y at *
        go_wp2_with (first | (at_lookup; refine look_mm rfl _ _ rfl rfl HM1.out.1 f x rfl (by omega) hfx ?_; rw [hS]) | (at_len; refine len_mm rfl _ rfl rfl HM1.out.1 ?_) | (at_mapUpdate; refine put_mm rfl _ _ _ rfl rfl HM1.out.1 f x rfl (by omega) hfx (by omega) hS (c1 + 1) (by omega) rfl ?_; intro w2 hm2 hg2; obtain ⟨b02, b12, z02, z12⟩ := (BX.grown HM1.out.2.1 HM1.out.1 hg2).facts))
        have hbx := BX.grown HM1.out.2.1 HM1.out.1 hg2
        exact ⟨⟨k + 1, c1 + 1, c1 + 1, y, _, _, by omega, by go_num, HJ2, ⟨hm2.set hbx _ _, hbx.set (c1 + 1) y, grown_set (HM1.out.2.2.trans hg2) (Nat.le_refl _) _ _⟩, by omega⟩, by simp [intOf]; omega⟩
      | some m =>
        by_cases hm0 : m = 0
        · subst hm0
          have HQ : Hid (∃ q, q ∈ L ∧ Begin q p) := HJ1.out.hit HL.out (by omega) hS
          clear hsa hkl
          generalize sa p k = y at *
          go_wp2_with (first | (at_lookup; refine look_mm rfl _ _ rfl rfl HM1.out.1 f x rfl (by omega) hfx ?_; rw [hS]))
          go_ret
          exact ⟨false, rfl, HM1.out.2.2, nofun, fun _ => HQ.out⟩
        · have HJ2 : Hid (JI p N (k + 1) c1 N1 S1 (m, sa p k) eb) := by
            have := HJ1.out.step hkl hS hm0; rw [← hsa] at this; exact this
          have hmb : ((m : Int) == 0) = false := by simp; omega
          clear hsa hkl hm0
          generalize sa p k = y at *
          go_wp2_with (first | (at_lookup; refine look_mm rfl _ _ rfl rfl HM1.out.1 f x rfl (by omega) hfx ?_; rw [hS]))
          exact ⟨⟨k + 1, c1, m, y, _, _, by omega, by go_num, HJ2, ⟨HM1.out.1.set HM1.out.2.1 _ _, HM1.out.2.1.set m y, grown_set HM1.out.2.2 (Nat.le_refl _) _ _⟩, by omega⟩, by simp [intOf]; omega⟩
    · obtain rfl : k = n := by omega
      have hpn := HN.out
      have HJ3 : Hid (JI p N p.length c1 N1 S1 (f, x) eb) := by rw [hpn]; exact HJ1.out
      cases hS : S1 (f, x) with
      | none =>
        obtain ⟨q1, q2, q3⟩ := HJ3.out.laid HL.out hS
        have Q : Hid ((∀ q, q ∈ L → ¬ Begin q p) ∧ TI eb (c1 + 1) (setN N1 p 0) (setS S1 (f, x) 0) ∧ LI (L ++ [p]) (setN N1 p 0)) := ⟨q1, q2, q3⟩
        clear q1 q2 q3 hpn
        go_wp2_with (first | (at_lookup; refine look_mm rfl _ _ rfl rfl HM1.out.1 f x rfl (by omega) hfx ?_; rw [hS]) | (at_mapUpdate; refine put_mm rfl _ _ _ rfl rfl HM1.out.1 f x rfl (by omega) hfx (by omega) hS 0 (by omega) rfl ?_; intro w2 hm2 hg2))
        go_ret
        exact ⟨true, rfl, HM1.out.2.2.trans hg2, fun _ => ⟨Q.out.1, c1 + 1, _, _, by omega, hm2, Q.out.2.1, Q.out.2.2⟩, nofun⟩
      | some m =>
        have HQ : Hid (∃ q, q ∈ L ∧ Begin q p) := HJ3.out.full HL.out hS
        clear hpn
        go_wp2_with (first | (at_lookup; refine look_mm rfl _ _ rfl rfl HM1.out.1 f x rfl (by omega) hfx ?_; rw [hS]))
        go_ret
        exact ⟨false, rfl, HM1.out.2.2, nofun, fun _ => HQ.out⟩
end Go.Proofs.YtoiehkpmemmldaaDoor
