import Derived.Test.YtjhnkdhbjpddcaaDoorPlace
import Derived.Deep.RegionWith
namespace Go.Proofs.YtjhnkdhbjpddcaaDoor
open Go.RowKit
/-- the error of two bitfields -/
def bE (n : Int) (l r : List UInt8) : Int := if ck n l ≠ 0 then ck n l else ck n r
theorem bE_zero {n : Int} {l r : List UInt8} (h : bE n l r = 0) : ck n l = 0 ∧ ck n r = 0 := by
  unfold bE at h
  split at h
  · rename_i h1; exact absurd h h1
  · rename_i h1; exact ⟨by simpa using h1, h⟩
/-- what And, Or, Minus answer -/
def JR (n : Int) (l r : List UInt8) (f : Bool → Bool → Bool) (o : List UInt8) : Prop := (bE n l r ≠ 0 ∧ o = []) ∨ (bE n l r = 0 ∧ BF n.toNat (fun i => f (bit l i) (bit r i)) o)
theorem JR.unique {n : Int} {l r : List UInt8} {f : Bool → Bool → Bool} {o o' : List UInt8} (h : JR n l r f o) (h' : JR n l r f o') : o = o' := by
  rcases h with ⟨h1, rfl⟩ | ⟨h1, h2⟩
  · rcases h' with ⟨_, rfl⟩ | ⟨g1, _⟩
    · rfl
    · exact absurd g1 h1
  · rcases h' with ⟨g1, _⟩ | ⟨_, g2⟩
    · exact absurd h1 g1
    · exact BF.unique h2 g2 (fun _ _ => rfl)
theorem JR.len {n : Int} {l r : List UInt8} {f : Bool → Bool → Bool} {o : List UInt8} (h : JR n l r f o) : o.length ≤ 140737488351232 := by
  rcases h with ⟨_, rfl⟩ | ⟨h1, h2⟩
  · simp
  · have := h2.1; have := ck_ok (bE_zero h1).1; omega
def fA (x y : Bool) : Bool := x && y
def fO (x y : Bool) : Bool := x || y
def fM (x y : Bool) : Bool := x && !y
def gA (x y : UInt8) : UInt8 := UInt8.ofNat (x.toNat &&& y.toNat)
def gO (x y : UInt8) : UInt8 := UInt8.ofNat (x.toNat ||| y.toNat)
def gM (x y : UInt8) : UInt8 := UInt8.ofNat (x.toNat &&& (255 - y.toNat))
theorem gA_n (x y : UInt8) : (gA x y).toNat = (x.toNat &&& y.toNat) := by unfold gA; rw [UInt8.toNat_ofNat']; exact Nat.mod_eq_of_lt (Nat.lt_of_le_of_lt Nat.and_le_left x.toNat_lt)
theorem gO_n (x y : UInt8) : (gO x y).toNat = (x.toNat ||| y.toNat) := by unfold gO; rw [UInt8.toNat_ofNat']; exact Nat.mod_eq_of_lt (Nat.or_lt_two_pow (n := 8) x.toNat_lt y.toNat_lt)
theorem gM_n (x y : UInt8) : (gM x y).toNat = (x.toNat &&& (255 - y.toNat)) := by unfold gM; rw [UInt8.toNat_ofNat']; exact Nat.mod_eq_of_lt (Nat.lt_of_le_of_lt Nat.and_le_left x.toNat_lt)
theorem gA_b (x y : UInt8) (k : Nat) (_ : k < 8) : (gA x y).toNat.testBit k = fA (x.toNat.testBit k) (y.toNat.testBit k) := by rw [gA_n, Nat.testBit_and]; rfl
theorem gO_b (x y : UInt8) (k : Nat) (_ : k < 8) : (gO x y).toNat.testBit k = fO (x.toNat.testBit k) (y.toNat.testBit k) := by rw [gO_n, Nat.testBit_or]; rfl
theorem neg_fin : ∀ (y : Fin 256) (k : Fin 8), (255 - y.val).testBit k.val = !(y.val.testBit k.val) := by decide +kernel
theorem gM_b (x y : UInt8) (k : Nat) (h : k < 8) : (gM x y).toNat.testBit k = fM (x.toNat.testBit k) (y.toNat.testBit k) := by
  rw [gM_n, Nat.testBit_and, neg_fin ⟨y.toNat, y.toNat_lt⟩ ⟨k, h⟩]; rfl
/-- byte by byte is bit by bit -/
theorem join_bf {m : Nat} {l r o : List UInt8} {f : Bool → Bool → Bool} {g : UInt8 → UInt8 → UInt8} (hf : f false false = false) (hg : ∀ x y k, k < 8 → (g x y).toNat.testBit k = f (x.toNat.testBit k) (y.toNat.testBit k))
    (hl : BF m (bit l) l) (hr : BF m (bit r) r) (ho : o.length = l.length) (h : ∀ j, j < l.length → byt o j = g (byt l j) (byt r j)) : BF m (fun i => f (bit l i) (bit r i)) o := by
  refine ⟨ho.trans hl.1, fun i => ?_⟩
  by_cases hi : i < 8 * l.length
  · have e : bit o i = f (bit l i) (bit r i) := by
      show (byt o (i / 8)).toNat.testBit (7 - i % 8) = f ((byt l (i / 8)).toNat.testBit (7 - i % 8)) ((byt r (i / 8)).toNat.testBit (7 - i % 8))
      rw [h (i / 8) (by omega), hg _ _ _ (by omega)]
    rw [e]
    by_cases him : i < m
    · simp [him]
    · rw [hl.2 i, hr.2 i]; simp [him, hf]
  · rw [bit_beyond o i (by omega)]
    have := hl.1
    have : ¬ i < m := by omega
    simp [this]
set_option maxHeartbeats 400000 in
theorem fn46 (x y : UInt8) (w : World) : Calls Tryd.prog 20 #[.int .u8 (x.toNat : Int), .int .u8 (y.toNat : Int)] w fun e w' => e = .returned (.int .u8 ((gA x y).toNat : Int)) ∧ w = w' := by
  have h := u8_and_nat x.toNat y.toNat (UInt8.toNat_lt _) (UInt8.toNat_lt _)
  rw [← gA_n] at h
  go_enter Tryd.func20, Tryd.ntmps20
  go_wp2
  go_ret
  exact ⟨by first | rfl | (rw [h]; rfl) | (rw [gA_n]; rfl), rfl⟩
set_option maxHeartbeats 2000000 in
theorem join46 (n : Int) (h0 : -9223372036854775808 ≤ n) (h1 : n ≤ 9223372036854775807) (v u : Value) (l r : List UInt8) (w : World) (hr : RB w v l) (hs : RB w u r) (hm : MT w) (hl : l.length ≤ 140737488351232) (hl2 : r.length ≤ 140737488351232) :
    Calls Tryd.prog 19 #[.int .i64 n, v, u, .func (.func 20) #[] #[]] w fun e w' => ∃ v' o, e = .returned (.tuple #[v', .int .i64 (bE n l r)]) ∧ OW w.heap.size w' v' o ∧ JR n l r fA o ∧ Below w.heap.size w w' := by
  have HC : Hid (Calls Tryd.prog 8 #[.int .i64 n, v] w fun e w' => e = .returned (.int .i64 (ck n l)) ∧ ∃ nq, w' = w.drewN nq) := check10 n h0 h1 v l w hr hm hl
  have HD : Hid (∀ nq, Calls Tryd.prog 8 #[.int .i64 n, u] (w.drewN nq) fun e w' => e = .returned (.int .i64 (ck n r)) ∧ ∃ nr, w' = (w.drewN nq).drewN nr) := fun nq => check10 n h0 h1 u r _ (hs.keep (belowDrew _ _)) (hm.keep (belowDrew _ _)) hl2
  have HR : Hid (RB w v l ∧ RB w u r) := ⟨hr, hs⟩
  obtain ⟨a, c, rfl, kr⟩ := hr
  obtain ⟨a2, c2, rfl, ks⟩ := hs
  clear hm
  by_cases hck : ck n l = 0
  · rw [hck] at HC
    have hbE : bE n l r = ck n r := by unfold bE; rw [if_neg (by simp [hck])]
    by_cases hck2 : ck n r = 0
    · have HK : Hid (ck n l = 0 ∧ ck n r = 0 ∧ bE n l r = 0 ∧ r.length = l.length) := ⟨hck, hck2, hbE.trans hck2, by have := ck_ok hck; have := ck_ok hck2; omega⟩
      have hl8 : l.length ≤ 8192 := by have := ck_ok hck; omega
      rw [hck2] at HD
      rw [hbE, hck2]
      have hrl := HK.out.2.2.2
      rw [hrl] at ks HD
      have KS : Hid ((l = [] ∨ ∃ g o, a = some ⟨g, o, none⟩ ∧ g < w.heap.size ∧ ∀ i, i < l.length → w.cell? ⟨g, o + i, none⟩ = some (.int .u8 ((byt l i).toNat : Int))) ∧ (r = [] ∨ ∃ g o, a2 = some ⟨g, o, none⟩ ∧ g < w.heap.size ∧ ∀ i, i < l.length → w.cell? ⟨g, o + i, none⟩ = some (.int .u8 ((byt r i).toNat : Int)))) := ⟨kr, ks⟩
      rw [hrl]
      clear kr ks hrl hbE hck hck2
      obtain ⟨i0, hi, hz0, hz1, hz2⟩ := info_parts info5
      have hmk : ∀ u : World, (Instr.makeSlice 22 (.int .i64 (l.length : Int)) (.int .i64 (l.length : Int))).run Tryd.prog u =
          .ok (.slice (some ⟨u.heap.size, 0, none⟩) l.length l.length) (u.alloc (.cells (madeCells #[.int .u8 0] l.length) 5)) := fun u => by
        have h := run_make (P := Tryd.prog) u 22 5 i0 (.int .u8 0) Tryd.underlying22 hi hz0 .i64 .i64 (l.length : Int) (l.length : Int) (by omega) (by omega) (by rw [hz2]; omega) (by omega)
        rw [hz1] at h
        simpa only [Value.cells, Int.toNat_natCast, Nat.mul_one] using h
      clear hi hz0 hz1 hz2
      go_enter Tryd.func19, Tryd.ntmps19
      go_wp2_with (go_at_call 8; first | (refine HC.out.mono ?_; clear HC; rintro e w1 ⟨rfl, nq, rfl⟩) | (refine (HD.out _).mono ?_; rintro e w1 ⟨rfl, nr, rfl⟩))
      have HZ := OW.zeros (w.drewN (nq + nr)) l.length (by omega)
      have hbz : Below w.heap.size w ((w.drewN (nq + nr)).alloc (.cells (madeCells #[.int .u8 0] l.length) 5)) := (belowDrew w (nq + nr)).alloc (Nat.le_refl _) _
      clear hmk
      go_loopw [31] (fun t wr => ∃ (k : Nat) (o : List UInt8), k ≤ l.length ∧ t = .int .i64 k ∧ OW w.heap.size wr (.slice (some ⟨w.heap.size, 0, none⟩) l.length l.length) o ∧ o.length = l.length ∧ (∀ j, j < k → byt o j = gA (byt l j) (byt r j)) ∧ Below w.heap.size w wr) (fun t _ => l.length - (intOf t).toNat)
      case atStart => exact ⟨0, _, Nat.zero_le _, rfl, HZ, by simp, fun j hj => absurd hj (Nat.not_lt_zero _), hbz⟩
      case round =>
        clear HZ hbz
        obtain ⟨k, o, hk, rfl, ho, hlen, hbit, hb⟩ := hrel
        by_cases hlt : k < l.length
        · rcases KS.out.1 with h | ⟨g1, o1, rfl, hg1, hc1⟩
          · rw [h] at hlt; simp at hlt
          rcases KS.out.2 with h | ⟨g2, o2, rfl, hg2, hc2⟩
          · have := HK.out.2.2.2; rw [h] at this; simp at this; omega
          have q1 := (hb.cell (p := ⟨g1, o1 + k, none⟩) hg1).trans (hc1 k hlt)
          have q2 := (hb.cell (p := ⟨g2, o2 + k, none⟩) hg2).trans (hc2 k hlt)
          obtain ⟨g3, e3, _, q3, q4⟩ := ho.at k hlt
          simp only [Option.some.injEq, Addr.mk.injEq, and_true] at e3
          subst e3
          have HF : Hid (∀ w, Calls Tryd.prog 20 #[.int .u8 ((byt l k).toNat : Int), .int .u8 ((byt r k).toNat : Int)] w fun e w' => e = .returned (.int .u8 ((gA (byt l k) (byt r k)).toNat : Int)) ∧ w = w') := fun w => fn46 _ _ w
          have HO : Hid (OW w.heap.size wr (.slice (some ⟨w.heap.size, 0, none⟩) l.length l.length) o ∧ o.length = l.length ∧ (∀ j, j < k → byt o j = gA (byt l j) (byt r j)) ∧ Below w.heap.size w wr) := ⟨ho, hlen, hbit, hb⟩
          have HY : Hid (∀ j, byt (o.set k (gA (byt l k) (byt r k))) j = if j = k then gA (byt l k) (byt r k) else byt o j) := fun j => byt_set o k j _ (by omega)
          have b0 : (0 : Int) ≤ (k : Int) := by omega
          have b1 : (k : Int) < (l.length : Int) := by omega
          clear ho hlen hbit hb hc1 hc2 KS
          have HE : Hid (gA (byt l k) (byt r k) = gA (byt l k) (byt r k)) := rfl
          generalize hy : gA (byt l k) (byt r k) = y at HF HY
          have HYE : Hid (gA (byt l k) (byt r k) = y) := hy
          clear hy HE
          generalize (byt o k) = ob at *
          go_wp2
          go_region_with (go_at_call 20; refine (HF.out _).mono ?_; rintro e w' ⟨rfl, rfl⟩)
          all_goals go_wp2
          all_goals
            refine ⟨⟨k + 1, o.set k y, by omega, by go_num, (HO.out.1.stored _ _).drew 1, by rw [List.length_set]; exact HO.out.2.1, ?_, belowN (HO.out.2.2.2.setCell (p := ⟨w.heap.size, k, none⟩) (Nat.le_refl _) _) 1⟩, by simp [intOf]; omega⟩
            intro j hj
            rw [HY.out]
            by_cases hjk : j = k
            · rw [if_pos hjk, hjk]; exact HYE.out.symm
            · rw [if_neg hjk]; exact HO.out.2.2.1 j (by omega)
        · obtain rfl : k = l.length := by omega
          have HO : Hid (OW w.heap.size wr (.slice (some ⟨w.heap.size, 0, none⟩) l.length l.length) o ∧ Below w.heap.size w wr ∧ BF n.toNat (fun i => fA (bit l i) (bit r i)) o) := ⟨ho, hb, join_bf (g := gA) rfl gA_b (ck_bf HK.out.1) (ck_bf HK.out.2.1) hlen hbit⟩
          clear ho hlen hbit hb
          go_wp2
          go_ret2
          exact ⟨_, o, rfl, HO.out.1, .inr ⟨HK.out.2.2.1, HO.out.2.2⟩, HO.out.2.1⟩
    · have HJ : Hid (JR n l r fA []) := .inl ⟨by rw [hbE]; exact hck2, rfl⟩
      have hz : (ck n r != 0) = true := by simpa using hck2
      rw [hbE]
      clear hbE hck2 hck kr ks
      generalize ck n r = z at *
      go_enter Tryd.func19, Tryd.ntmps19
      go_wp2_with (go_at_call 8; first | (refine HC.out.mono ?_; clear HC; rintro e w1 ⟨rfl, nq, rfl⟩) | (refine (HD.out _).mono ?_; rintro e w1 ⟨rfl, nr, rfl⟩))
      go_ret2
      exact ⟨_, [], rfl, World.ownsRow_nil _ _ _ _, HJ.out, belowDrew _ _⟩
  · have hbE : bE n l r = ck n l := by unfold bE; rw [if_pos hck]
    have HJ : Hid (JR n l r fA []) := .inl ⟨by rw [hbE]; exact hck, rfl⟩
    have hz : (ck n l != 0) = true := by simpa using hck
    rw [hbE]
    clear hbE hck kr ks HD
    generalize ck n l = z at *
    go_enter Tryd.func19, Tryd.ntmps19
    go_wp2_with (go_at_call 8; refine HC.out.mono ?_; rintro e w1 ⟨rfl, nq, rfl⟩)
    go_ret2
    exact ⟨_, [], rfl, World.ownsRow_nil _ _ _ _, HJ.out, belowDrew _ _⟩
end Go.Proofs.YtjhnkdhbjpddcaaDoor
