import Derived.Test.YtpembmfpgolniaaDoorVa
import Derived.Laws.BitsAllLaws
namespace Go.Proofs.YtpembmfpgolniaaDoor
open Go.RowKit
theorem or4 (x0 x1 x2 x3 : Nat) (h0 : x0 < 256) (h1 : x1 < 256) (h2 : x2 < 256) (h3 : x3 < 256) :
    bits .or .u32 (bits .or .u32 (bits .or .u32 ((x0 : Int) * 16777216) ((x1 : Int) * 65536)) ((x2 : Int) * 256)) (x3 : Int) = (((((x0 * 256 + x1) * 256 + x2) * 256 + x3 : Nat)) : Int) := by
  have a1 := u32_or_nat (x0 * 16777216) (x1 * 65536) (by omega) (by omega)
  rw [nat_join 24 _ _ (by omega) (by omega)] at a1
  have a2 := u32_or_nat (x0 * 16777216 + x1 * 65536) (x2 * 256) (by omega) (by omega)
  rw [nat_join 16 _ _ (by omega) (by omega)] at a2
  have a3 := u32_or_nat (x0 * 16777216 + x1 * 65536 + x2 * 256) x3 (by omega) (by omega)
  rw [nat_join 8 _ _ (by omega) (by omega)] at a3
  simp only [Int.natCast_mul, Int.natCast_add, Int.cast_ofNat_Int] at a1 a2 a3 ⊢
  rw [a1, a2, a3]
  omega
theorem ret_int {k : IntKind} {a b : Int} (h : a = b) : Ending.returned (.int k a) = .returned (.int k b) := by rw [h]
/-- the number that a list begins with -/
def nm4 (l : List UInt8) : Nat := (((byt l 0).toNat * 256 + (byt l 1).toNat) * 256 + (byt l 2).toNat) * 256 + (byt l 3).toNat
theorem OW.form3 {B : Nat} {w : World} {v : Value} {l : List UInt8} (h : OW B w v l) : ∃ a n c, v = .slice a n c := by
  obtain ⟨a, c, e⟩ := h.form
  exact ⟨a, _, c, e⟩
theorem RB.cells {w : World} {v : Value} {l : List UInt8} (h : RB w v l) (hl : 0 < l.length) : ∃ b o c, v = .slice (some ⟨b, o, none⟩) l.length c ∧ l.length ≤ c ∧ ∀ i, i < l.length → w.cell? ⟨b, o + i, none⟩ = some (.int .u8 ((byt l i).toNat : Int)) := by
  obtain ⟨a, c, rfl, hc, h⟩ := h
  rcases h with rfl | ⟨b, o, rfl, _, h⟩
  · simp at hl
  · exact ⟨b, o, c, rfl, hc, h⟩
theorem RB.from {w : World} {v : Value} {l : List UInt8} (h : RB w v l) (k : Nat) (hk : k ≤ l.length) (hl : 0 < l.length) : ∃ b o c, v = .slice (some ⟨b, o, none⟩) l.length c ∧ l.length ≤ c ∧ RB w (.slice (some ⟨b, o + k, none⟩) (l.length - k) (c - k)) (l.drop k) := by
  obtain ⟨a, c, rfl, hc, h⟩ := h
  rcases h with rfl | ⟨b, o, rfl, hb, h⟩
  · simp at hl
  · refine ⟨b, o, c, rfl, hc, _, c - k, by rw [List.length_drop], by rw [List.length_drop]; omega, .inr ⟨b, o + k, rfl, hb, fun i hi => ?_⟩⟩
    rw [List.length_drop] at hi
    rw [byt_drop, Nat.add_assoc]
    exact h (k + i) (by omega)
theorem RB.empty {w : World} {a : Option Addr} {n c : Nat} {l : List UInt8} (hl : l = []) (hn : n = 0) : RB w (.slice a n c) l := by
  subst hl hn; exact ⟨a, c, rfl, Nat.zero_le _, .inl rfl⟩
set_option maxHeartbeats 1000000 in
theorem numberT (w : World) (v : Value) (l : List UInt8) (hl : 4 ≤ l.length) (hl2 : l.length ≤ 140737488351232) (hr : RB w v l) :
    Calls Tryd.prog 63 #[v] w fun e w' => e = .returned (.int .i64 (nm4 l : Int)) ∧ ∃ n, w' = w.drewN n := by
  obtain ⟨b, o, c, rfl, _, hc⟩ := hr.cells (by omega)
  have h0 := UInt8.toNat_lt (byt l 0)
  have h1 := UInt8.toNat_lt (byt l 1)
  have h2 := UInt8.toNat_lt (byt l 2)
  have h3 := UInt8.toNat_lt (byt l 3)
  have c0 : w.cell? ⟨b, o, none⟩ = some (.int .u8 ((byt l 0).toNat : Int)) := hc 0 (by omega)
  have c1 := hc 1 (by omega)
  have c2 := hc 2 (by omega)
  have c3 := hc 3 (by omega)
  unfold nm4
  clear hc hr
  generalize (byt l 0).toNat = x0 at *
  generalize (byt l 1).toNat = x1 at *
  generalize (byt l 2).toNat = x2 at *
  generalize (byt l 3).toNat = x3 at *
  generalize l.length = n at *
  go_enter Tryd.func63, Tryd.ntmps63
  go_wp2
  go_quiet (fail)
  go_wp2
  go_ret
  exact ⟨ret_int (by rw [or4 x0 x1 x2 x3 h0 h1 h2 h3]; unfold wrap64; omega), _, rfl⟩
set_option maxHeartbeats 1000000 in
theorem k3T (W w : World) (g : Nat) (v : Value) (l : List UInt8) (hl : 1 ≤ l.length) (hl2 : l.length ≤ 140737488351232) (hr : RB W v l) :
    Calls Tryd.prog 51 #[ptr g, v] w fun e w' => ∃ v', e = .returned v' ∧ RB W v' (l.drop 1) ∧ w' = w := by
  obtain ⟨b, o, c, rfl, hc, h⟩ := hr.from 1 hl (by omega)
  have HR : Hid (RB W (.slice (some ⟨b, o + 1, none⟩) (l.length - 1) (c - 1)) (l.drop 1)) := h
  clear hr h
  generalize hln : l.length = n at *
  have HLE : Hid (l.length = n) := hln
  clear hln
  by_cases hck : c = 1
  · subst hck
    have HZ : Hid (l.drop 1 = [] ∧ n - 1 = 0) := ⟨List.drop_eq_nil_of_le (by have := HLE.out; omega), by omega⟩
    generalize hdr : l.drop 1 = LD at *
    go_enter Tryd.func51, Tryd.ntmps51
    go_wp2
    go_ret
    exact ⟨_, rfl, RB.empty HZ.out.1 (by first | rfl | exact HZ.out.2), rfl⟩
  · generalize hdr : l.drop 1 = LD at *
    go_enter Tryd.func51, Tryd.ntmps51
    go_wp2
    go_ret
    exact ⟨_, rfl, HR.out, rfl⟩
set_option maxHeartbeats 1000000 in
theorem o3T (W w : World) (g : Nat) (m : Mv) (hm : MB w g m) (v : Value) (l : List UInt8) (hl : 1 ≤ l.length) (hl2 : l.length ≤ 140737488351232) (hr : RB W v l) (hW : Below W.heap.size W w) :
    Calls Tryd.prog 56 #[ptr g, v] w fun e w' => ∃ v', e = .returned v' ∧ RB W v' (l.drop 1) ∧ w' = w.setCell ⟨g, 1, none⟩ (.int .i64 ((byt l 0).toNat : Int)) := by
  have c1 := hm.c1
  have f1 := hm.free 1
  obtain ⟨b, o, c, rfl, hc, h⟩ := hr.from 1 hl (by omega)
  obtain ⟨b', o', c', e, _, hcell⟩ := (hr.keep hW).cells (by omega)
  simp only [Value.slice.injEq, Option.some.injEq, Addr.mk.injEq, true_and, and_true] at e
  obtain ⟨⟨rfl, rfl⟩, rfl⟩ := e
  have hc0 : w.cell? ⟨b, o, none⟩ = some (.int .u8 ((byt l 0).toNat : Int)) := hcell 0 (by omega)
  have HR : Hid (RB W (.slice (some ⟨b, o + 1, none⟩) (l.length - 1) (c - 1)) (l.drop 1)) := h
  have hb := UInt8.toNat_lt (byt l 0)
  clear hr h hW hcell hm
  generalize (byt l 0).toNat = y at *
  generalize hln : l.length = n at *
  have HLE : Hid (l.length = n) := hln
  clear hln
  by_cases hck : c = 1
  · subst hck
    have HZ : Hid (l.drop 1 = [] ∧ n - 1 = 0) := ⟨List.drop_eq_nil_of_le (by have := HLE.out; omega), by omega⟩
    generalize hdr : l.drop 1 = LD at *
    go_enter Tryd.func56, Tryd.ntmps56
    go_wp2
    go_ret
    exact ⟨_, rfl, RB.empty HZ.out.1 (by first | rfl | exact HZ.out.2), rfl⟩
  · generalize hdr : l.drop 1 = LD at *
    go_enter Tryd.func56, Tryd.ntmps56
    go_wp2
    go_ret
    exact ⟨_, rfl, HR.out, rfl⟩
def N3R (W w w' : World) (e : Ending) (r : List UInt8) (g j N : Nat) : Prop := ∃ v' n, e = .returned v' ∧ RB W v' r ∧ w' = (w.drewN n).setCell ⟨g, j, none⟩ (.int .i64 (N : Int))
set_option maxHeartbeats 1000000 in
theorem n3T (W w : World) (g p f j : Nat) (x : Int) (hp : w.cell? ⟨p, 0, none⟩ = some (fnv f)) (he : EN f) (hf : OFC f j) (h1 : w.cell? ⟨g, j, none⟩ = some (.int .i64 x)) (h2 : w.frozen? ⟨g, j, none⟩ = false) (v : Value) (l : List UInt8) (hl : 4 ≤ l.length) (hl2 : l.length ≤ 140737488351232) (hr : RB W v l) (hW : Below W.heap.size W w) :
    Calls Tryd.prog 62 #[ptr g, v, ptr p] w fun e w' => N3R W w w' e (l.drop 4) g j (nm4 l) := by
  have HF : Hid (OFC f j) := hf
  have HN0 := numberT w v l hl hl2 (hr.keep hW)
  obtain ⟨b, o, c, rfl, hc, h⟩ := hr.from 4 hl (by omega)
  have HN : Hid (Calls Tryd.prog 63 #[.slice (some ⟨b, o, none⟩) l.length c] w fun e w' => e = .returned (.int .i64 (nm4 l : Int)) ∧ ∃ n, w' = w.drewN n) := HN0
  have HR : Hid (RB W (.slice (some ⟨b, o + 4, none⟩) (l.length - 4) (c - 4)) (l.drop 4)) := h
  clear hr h hW hf HN0
  generalize nm4 l = N at *
  generalize hln : l.length = n at *
  have HLE : Hid (l.length = n) := hln
  clear hln
  by_cases hck : c = 4
  · subst hck
    have HZ : Hid (l.drop 4 = [] ∧ n - 4 = 0) := ⟨List.drop_eq_nil_of_le (by have := HLE.out; omega), by omega⟩
    generalize hdr : l.drop 4 = LD at *
    go_enter Tryd.func62, Tryd.ntmps62
    go_wp2_with fail
    refine (HF.out w g).mono ?_
    rintro e w1 ⟨rfl, rfl⟩
    go_wp2_with fail
    refine HN.out.mono ?_
    rintro e w2 ⟨rfl, nq, rfl⟩
    go_wp2
    go_ret
    exact ⟨_, nq, rfl, RB.empty HZ.out.1 (by first | rfl | exact HZ.out.2), rfl⟩
  · generalize hdr : l.drop 4 = LD at *
    go_enter Tryd.func62, Tryd.ntmps62
    go_wp2_with fail
    refine (HF.out w g).mono ?_
    rintro e w1 ⟨rfl, rfl⟩
    go_wp2_with fail
    refine HN.out.mono ?_
    rintro e w2 ⟨rfl, nq, rfl⟩
    go_wp2
    go_ret
    exact ⟨_, nq, rfl, HR.out, rfl⟩
set_option maxHeartbeats 1000000 in
theorem d3T (w : World) (g : Nat) (m : Mv) (hm : MB w g m) (v : Value) (l : List UInt8) (hl2 : l.length ≤ 140737488351232) (hr : RB w v l) :
    Calls Tryd.prog 72 #[ptr g, v] w fun e w' => ∃ d', e = .returned (.slice none 0 0) ∧ OW w.heap.size w' d' l ∧ MB w' g { m with d := d' } ∧ Besides g w w' := by
  have a4 := hm.c4
  have f4 := hm.free 4
  have HO : Hid (OW w.heap.size w (.slice none 0 0) [] ∧ RB w v l ∧ ([] : List UInt8).length + l.length ≤ 140737488351232 ∧ MB w g m) := ⟨World.ownsRow_nil _ _ _ _, hr, by simpa using hl2, hm⟩
  have hlt := hm.lt
  obtain ⟨a, c, rfl, _⟩ := id hr
  clear hr hm
  go_enter Tryd.func72, Tryd.ntmps72
  go_wp2_with (first | (at_builtin; refine append_bytes rfl _ _ rfl rfl HO.out.1 rfl HO.out.2.1 (Nat.le_refl _) HO.out.2.2.1 ?_; intro d' X o3 b3; simp only [List.nil_append] at o3; obtain ⟨da, dn, dc, rfl⟩ := o3.form3; have t4 := (b3.cell (p := ⟨g, 4, none⟩) hlt).trans a4; have t5 := (b3.frozen (p := ⟨g, 4, none⟩) hlt).trans f4))
  go_ret
  exact ⟨.slice da dn dc, rfl, ownsRow_setCell_below o3 hlt _, (HO.out.2.2.2.below b3).set 4 _ rfl, (Besides.of_below b3).trans (Besides.setCell _ _ _ _)⟩
end Go.Proofs.YtpembmfpgolniaaDoor
