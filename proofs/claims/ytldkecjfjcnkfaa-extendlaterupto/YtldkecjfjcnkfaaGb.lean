import Derived.Test.YtldkecjfjcnkfaaGa
import Derived.Laws.ResultCell
namespace Go.Proofs.Ytldkecjfjcnkfaa
open Go.RowKit Go.Deep
set_option maxHeartbeats 400000 in
theorem lit78 (s key : ByteArray) (t : T) (x y : Value) (w : World) :
    Calls Try.prog 78 #[pp s t x y, .string key] w fun e w' => e = .returned (.int .i64 (cmpB s key)) ∧ Below w.heap.size w w' := by
  unfold pp
  go_enter Try.func78, Try.ntmps78
  go_wp2_with fail
  refine (comp36 s key _).mono ?_
  rintro e w' ⟨rfl, rfl⟩
  go_wp2
  go_ret
  exact ⟨rfl, (Below.refl _ _).alloc (Nat.le_refl _) _⟩
set_option maxHeartbeats 2000000 in
theorem bs73 (dn : Nat) (ky : Nat → ByteArray) (dv : Nat → T) (y : Value) (key : ByteArray) (w : World) (hr : RD (fun _ => True) w dn ky dv y) (hdn : dn ≤ 140737488351232) :
    Calls Try.prog 73 #[y, .string key, .func (Fn.func 78) #[] #[]] w fun e w' => ∃ (at' : Nat) (f : Bool), e = .returned (.tuple #[.int .i64 at', .bool f]) ∧ at' ≤ dn ∧ (Rise ky dn → At ky dn key at') ∧ Below w.heap.size w w' := by
  obtain ⟨a, ca, rfl, hD⟩ := hr
  have HD : Hid (dn = 0 ∨ ∃ b o, a = some ⟨b, o, none⟩ ∧ True ∧ b < w.heap.size ∧ ∀ i, i < dn → ∃ x' y', RV (fun _ => True) w (dv i) x' y' ∧ w.cell? ⟨b, o + i * 6, none⟩ = some (.string (ky i)) ∧ five w b (o + i * 6 + 1) (dv i) x' y') := hD
  clear hD
  go_enter Try.func73, Try.ntmps73
  go_wp2
  go_loopw [9, 10] (fun i j wr => ∃ lo hi : Nat, lo ≤ hi ∧ hi ≤ dn ∧ i = .int .i64 lo ∧ j = .int .i64 hi ∧ Hid ((Rise ky dn → ∀ p, p < lo → Op.bytesLess (ky p).toList key.toList = true) ∧ (Rise ky dn → ∀ p, hi ≤ p → p < dn → Op.bytesLess (ky p).toList key.toList = false) ∧ Below w.heap.size w wr)) (fun i j _ => (intOf j - intOf i).toNat)
  case atStart => exact ⟨0, dn, Nat.zero_le _, Nat.le_refl _, rfl, rfl, fun _ p hp => absurd hp (Nat.not_lt_zero _), fun _ p h1 h2 => absurd h2 (by omega), Below.refl _ _⟩
  case round =>
    obtain ⟨lo, hi, h1, h2, rfl, rfl, hinv⟩ := hrel
    by_cases hlt : lo < hi
    · rcases HD.out with h | ⟨b, o, rfl, _, hbl, hD⟩
      · omega
      obtain ⟨m, hm⟩ : ∃ m, m = (lo + hi) / 2 := ⟨_, rfl⟩
      have hm1 : m < dn := by omega
      obtain ⟨x1, y1, hv, g0, g1, g2, g3, g4, g5⟩ := hD m hm1
      have hle : w.heap.size ≤ w.heap.size := Nat.le_refl _
      have hw := hinv.out.2.2
      replace g0 := Below.cellS hw hle g0
      replace g1 := Below.cellS hw hle g1
      replace g2 := Below.cellS hw hle g2
      replace g3 := Below.cellS hw hle g3
      replace g4 := Below.cellS hw hle g4
      replace g5 := Below.cellS hw hle g5
      have hmI : ((lo : Int) + (hi : Int)) / 2 = (m : Int) := by omega
      have hm2 : lo ≤ m := by omega
      have hm3 : m < hi := by omega
      have HB : Hid (Below w.heap.size w wr) := hw
      clear hD hv hbl hle hw hm
      go_wp2_with fail
      refine (lit78 (ky m) key (dv m) x1 y1 wr).mono ?_
      rintro e w1 ⟨rfl, hb1⟩
      have HB1 : Hid (Below w.heap.size w w1) := HB.out.trans (hb1.mono HB.out.size)
      clear g0 g1 g2 g3 g4 g5 hb1 HB
      by_cases hl : cmpB (ky m) key < 0
      · have HT : Hid (Op.bytesLess (ky m).toList key.toList = true) := (cmpB_lt _ _).1 hl
        generalize cmpB (ky m) key = q at *
        go_wp2
        go_roundw
        case rel => exact ⟨m + 1, hi, by omega, h2, by go_num, rfl, fun hr => at_low hr hm1 HT.out, hinv.out.2.1, HB1.out⟩
        case measure => simp [intOf]; omega
      · have HT : Hid (Op.bytesLess (ky m).toList key.toList = false) := by
          show _ = false
          cases hc : Op.bytesLess (ky m).toList key.toList with
          | false => rfl
          | true => exact absurd ((cmpB_lt _ _).2 hc) hl
        generalize cmpB (ky m) key = q at *
        go_wp2
        go_roundw
        case rel => exact ⟨lo, m, hm2, by omega, rfl, rfl, hinv.out.1, fun hr => at_high hr HT.out, HB1.out⟩
        case measure => simp [intOf]; omega
    · obtain rfl : lo = hi := by omega
      by_cases hlo : lo < dn
      · rcases HD.out with h | ⟨b, o, rfl, _, hbl, hD⟩
        · omega
        obtain ⟨x1, y1, hv, g0, g1, g2, g3, g4, g5⟩ := hD lo hlo
        have hle : w.heap.size ≤ w.heap.size := Nat.le_refl _
        have hw := hinv.out.2.2
        replace g0 := Below.cellS hw hle g0
        replace g1 := Below.cellS hw hle g1
        replace g2 := Below.cellS hw hle g2
        replace g3 := Below.cellS hw hle g3
        replace g4 := Below.cellS hw hle g4
        replace g5 := Below.cellS hw hle g5
        have HB : Hid (Below w.heap.size w wr) := hw
        clear hD hv hbl hle hw
        go_wp2_with fail
        refine (lit78 (ky lo) key (dv lo) x1 y1 wr).mono ?_
        rintro e w1 ⟨rfl, hb1⟩
        have HB1 : Hid (Below w.heap.size w w1) := HB.out.trans (hb1.mono HB.out.size)
        clear g0 g1 g2 g3 g4 g5 hb1 HB
        generalize cmpB (ky lo) key = q at *
        go_wp2
        go_ret2
        exact ⟨lo, _, rfl, by omega, fun hr => ⟨by omega, hinv.out.1 hr, hinv.out.2.1 hr⟩, HB1.out⟩
      · go_wp2
        go_ret2
        exact ⟨lo, false, rfl, by omega, fun hr => ⟨by omega, hinv.out.1 hr, hinv.out.2.1 hr⟩, hinv.out.2.2⟩
set_option maxHeartbeats 400000 in
theorem place65 (dn : Nat) (ky : Nat → ByteArray) (dv : Nat → T) (y : Value) (key : ByteArray) (w : World) (hr : RD (fun _ => True) w dn ky dv y) (hdn : dn ≤ 140737488351232) :
    Calls Try.prog 65 #[y, .string key] w fun e w' => ∃ (at' : Nat) (f : Bool), e = .returned (.tuple #[.int .i64 at', .bool f]) ∧ at' ≤ dn ∧ (Rise ky dn → At ky dn key at') ∧ Below w.heap.size w w' := by
  have H1 : Hid (RD (fun _ => True) w dn ky dv y) := hr
  clear hr
  go_enter Try.func65, Try.ntmps65
  go_wp2_with fail
  refine (bs73 dn ky dv y key w H1.out hdn).mono ?_
  rintro e w1 ⟨at', f, rfl, h1, h2, h3⟩
  have HH : Hid (at' ≤ dn ∧ (Rise ky dn → At ky dn key at') ∧ Below w.heap.size w w1) := ⟨h1, h2, h3⟩
  clear h1 h2 h3 H1
  go_wp2
  go_ret2
  exact ⟨at', f, rfl, HH.out⟩
theorem info42s : (Try.prog.info? 59).map (·.size) = some 6 := by kernel_rfl
/-- the tree of a number or of a string -/
def tn (n : Int) : T := .mk 1 n ⟨#[]⟩ 0 (fun _ => .no) 0 (fun _ => ⟨#[]⟩) (fun _ => .no)
def ts (s : ByteArray) : T := .mk 2 0 s 0 (fun _ => .no) 0 (fun _ => ⟨#[]⟩) (fun _ => .no)
def tz : T := .mk 0 0 ⟨#[]⟩ 0 (fun _ => .no) 0 (fun _ => ⟨#[]⟩) (fun _ => .no)
theorem rv_leaf (S : Nat → Prop) (w : World) (k n : Int) (s : ByteArray) : RV S w (.mk k n s 0 (fun _ => .no) 0 (fun _ => ⟨#[]⟩) (fun _ => .no)) (.slice none 0 0) (.slice none 0 0) := ⟨⟨none, 0, rfl, .inl rfl⟩, ⟨none, 0, rfl, .inl rfl⟩⟩
/-- a pair without lists -/
def leaf (key : ByteArray) (t : T) : PE := ⟨key, t, .slice none 0 0, .slice none 0 0⟩
set_option maxHeartbeats 1000000 in
theorem numberIf58 (b : Bool) (key : ByteArray) (n : Int) (w : World) : Calls Try.prog 58 #[.bool b, .string key, .int .i64 n] w fun e w' => e = .returned (.agg (gC (leaf key (if b then tn n else tz))).toArray) ∧ Below w.heap.size w w' := by
  have HW : Hid (∀ o, Below w.heap.size w (w.alloc o)) := fun _ => (Below.refl _ _).alloc (Nat.le_refl _) _
  cases b with
  | false =>
    go_enter Try.func58, Try.ntmps58
    go_wp2
    exact bodyPost_ret (v := .agg #[.string key, .int .i64 0, .int .i64 0, .string ⟨#[]⟩, .slice none 0 0, .slice none 0 0]) (results_cell_row Try.results58 _ _ w.heap.size 59 _ (0, 0) _ rfl (heap_new _ _) Try.underlying59 rfl info42s) rfl ⟨rfl, HW.out _⟩
  | true =>
    go_enter Try.func58, Try.ntmps58
    go_wp2
    exact bodyPost_ret (v := .agg #[.string key, .int .i64 1, .int .i64 n, .string ⟨#[]⟩, .slice none 0 0, .slice none 0 0]) (results_cell_row Try.results58 _ _ w.heap.size 59 _ (0, 0) _ rfl (heap_new _ _) Try.underlying59 rfl info42s) rfl ⟨rfl, HW.out _⟩
set_option maxHeartbeats 1000000 in
theorem textIf59 (b : Bool) (key s : ByteArray) (w : World) : Calls Try.prog 59 #[.bool b, .string key, .string s] w fun e w' => e = .returned (.agg (gC (leaf key (if b then ts s else tz))).toArray) ∧ Below w.heap.size w w' := by
  have HW : Hid (∀ o, Below w.heap.size w (w.alloc o)) := fun _ => (Below.refl _ _).alloc (Nat.le_refl _) _
  cases b with
  | false =>
    go_enter Try.func59, Try.ntmps59
    go_wp2
    exact bodyPost_ret (v := .agg #[.string key, .int .i64 0, .int .i64 0, .string ⟨#[]⟩, .slice none 0 0, .slice none 0 0]) (results_cell_row Try.results59 _ _ w.heap.size 59 _ (0, 0) _ rfl (heap_new _ _) Try.underlying59 rfl info42s) rfl ⟨rfl, HW.out _⟩
  | true =>
    go_enter Try.func59, Try.ntmps59
    go_wp2
    exact bodyPost_ret (v := .agg #[.string key, .int .i64 2, .int .i64 0, .string s, .slice none 0 0, .slice none 0 0]) (results_cell_row Try.results59 _ _ w.heap.size 59 _ (0, 0) _ rfl (heap_new _ _) Try.underlying59 rfl info42s) rfl ⟨rfl, HW.out _⟩
set_option maxHeartbeats 1000000 in
theorem isTold64 (e : PE) (w : World) : Calls Try.prog 64 #[.agg (gC e).toArray] w fun en w' => en = .returned (.bool (e.t.k != 0)) ∧ Below w.heap.size w w' := by
  obtain ⟨key, t, x, y⟩ := e
  show Calls Try.prog 64 #[.agg #[.string key, .int .i64 t.k, .int .i64 t.n, .string t.s, x, y]] w _
  go_enter Try.func64, Try.ntmps64
  go_wp2
  go_ret
  exact ⟨rfl, (Below.refl _ _).alloc (Nat.le_refl _) _⟩
end Go.Proofs.Ytldkecjfjcnkfaa
