import Derived.Test.YtglknmelcianjaaSc
namespace Go.Proofs.Ytglknmelcianjaa
open Go.RowKit
section
variable {S : Nat → Prop} {w : World} {p lb cap mb : Nat} {ov : Value} {M : DataW Value} {L : Nat → Value} {D : Dk}
theorem DI.cps (h : DI S w p lb cap mb ov M L D) : D.last.length ≤ cap ∧ cap ≤ 9223372036854775807 := by
  rcases h.las.2 with ⟨e, _⟩ | ⟨g, c, cur, e, _, _, h1, h2, _⟩
  · cases e
  · simp only [Value.slice.injEq] at e
    obtain ⟨_, _, rfl⟩ := e
    exact ⟨h1, by unfold maxLen at h2; omega⟩
set_option maxHeartbeats 1000000 in
theorem lasting (h : DI S w p lb cap mb ov M L D) (s : Nat) (hs : 64 * s + 64 ≤ D.last.length) :
    Calls Try.prog 39 #[.pointer (some ⟨p, 0, none⟩), .int .i64 s] w fun e w' => e = .returned (.slice (some ⟨lb, s * 64, none⟩) 64 (cap - s * 64)) ∧ w' = w := by
  have c0 := h.c0
  obtain ⟨k1, k2⟩ := h.cps
  have hx := h.gd.max
  clear h
  generalize D.last.length = n at *
  obtain ⟨m, rfl⟩ : ∃ m, n = 64 * s + 64 + m := ⟨n - (64 * s + 64), by omega⟩
  obtain ⟨q, rfl⟩ : ∃ q, cap = 64 * s + 64 + q := ⟨cap - (64 * s + 64), by omega⟩
  go_enter Try.func39, Try.ntmps39
  go_wp2
  go_ret
  exact ⟨rfl, rfl⟩
theorem rb_at {w : World} {g o c : Nat} {l : List UInt8} (hc : l.length ≤ c) (hg : g < w.heap.size) (h : ∀ i, i < l.length → w.cell? ⟨g, o + i, none⟩ = some (.int .u8 ((byt l i).toNat : Int))) : RB w (.slice (some ⟨g, o, none⟩) l.length c) l := ⟨_, c, rfl, hc, .inr ⟨g, o, rfl, hg, h⟩⟩
theorem RB.cells {w : World} {g o n c : Nat} {l : List UInt8} (h : RB w (.slice (some ⟨g, o, none⟩) n c) l) : ∀ i, i < l.length → w.cell? ⟨g, o + i, none⟩ = some (.int .u8 ((byt l i).toNat : Int)) := by
  obtain ⟨a, c', e, _, h⟩ := h
  simp only [Value.slice.injEq] at e
  obtain ⟨rfl, _, rfl⟩ := e
  rcases h with rfl | ⟨g', o', e, _, h⟩
  · intro i hi; simp at hi
  · simp only [Option.some.injEq, Addr.mk.injEq] at e
    obtain ⟨rfl, rfl, _⟩ := e
    exact h
theorem DI.sec (h : DI S w p lb cap mb ov M L D) (s : Nat) (hs : 64 * s + 64 ≤ D.last.length) : RB w (.slice (some ⟨lb, s * 64, none⟩) 64 (cap - s * 64)) (sec D.last s) := by
  have hc := h.cps
  have := rb_at (w := w) (g := lb) (o := s * 64) (c := cap - s * 64) (l := _root_.Go.Proofs.Ytglknmelcianjaa.sec D.last s) (by rw [sec_len _ _ hs]; omega) (ownsRow_lt h.las lb rfl).1 (fun i hi => by
    rw [sec_len _ _ hs] at hi
    rw [sec_byt _ _ _ hi]
    have := h.rb.cells (64 * s + i) (by omega)
    rw [Nat.zero_add] at this
    rw [Nat.mul_comm s 64]
    exact this)
  rwa [sec_len _ _ hs] at this
/-- the box of a sector -/
theorem box_rb {w : World} {g : Nat} {d : List UInt8} {v : Value} (hd : d.length = 64) (hg : w.heap[g]? = some (.cells (bc d ++ #[v]) 59 (0, 0))) : RB w (.slice (some ⟨g, 0, none⟩) 64 64) d := by
  have := rb_at (w := w) (g := g) (o := 0) (c := 64) (l := d) (by omega) (Array.getElem?_eq_some_iff.1 hg).1 (fun i hi => by
    rw [Nat.zero_add, getD_byt d i hi]
    simp [World.cell?, hg]
    rw [Array.getElem?_push, if_neg (by rw [bc_size]; omega)]
    simp [bc, Lib.byteCells, hi])
  rwa [hd] at this
/-- bytes were answered -/
def BytE (w : World) (l : List UInt8) (e : Ending) (w' : World) : Prop := ∃ v, e = .returned (.tuple #[v, .int .i64 0]) ∧ OW w.heap.size w' v l ∧ Below w.heap.size w w'
set_option maxHeartbeats 2000000 in
theorem read_old (h : DI S w p lb cap mb ov M L D) (s : Nat) (hs : 64 * s + 64 ≤ D.last.length) (hn : nw s D.ws = none) :
    Calls Try.prog 20 #[.pointer (some ⟨p, 0, none⟩), .int .i64 s] w (BytE w (sec D.last s)) := by
  have hx := h.gd.max
  have HH := Lib.hid (has_yes ⟨_, _, _, _, _, _, h⟩ s hs)
  have hlk := h.look s (by omega)
  rw [hn] at hlk
  simp only [Option.getD_none, Option.isSome_none] at hlk
  have hz := zeroS
  have c1 := h.c1
  have hone := sc_one (zr 64) (L s) (h.one s)
  have hL : L s = .slice none 0 0 := h.nol s (lv_nil hn 0)
  rw [hL] at hone
  have hlk' : (Instr.lookup 51 (.map (some mb)) (.int .i64 s) true).run Try.prog w = .ok (.tuple #[.agg zs, .bool false]) w := by rw [hlk, hL]; rfl
  have hz65 : zs.size = 65 := rfl
  have hone' : zs.all (·.oneCell') = true := hone
  have HB : Hid (Below w.heap.size w ((w.alloc (.cells zs 59)).setRow w.heap.size zs)) := belowSetRow ((Below.refl _ _).alloc (Nat.le_refl _) _) (Nat.le_refl _) _
  have HI := Lib.hid (h.fr (Fr.of_below HB.out))
  clear h hlk hone hL
  generalize zs = z at *
  go_enter Try.func20, Try.ntmps20
  go_wp2_with fail
  refine HH.out.mono ?_
  rintro e w1 ⟨rfl, rfl⟩
  go_wp2_with (first | (refine wpList_store_row rfl 59 _ _ rfl w1.heap.size z rfl rfl 59 z (heapNew w1 _) (by rw [hz65]; exact sizeS) rfl hone' ?_))
  generalize (w1.alloc (.cells z 59)).setRow w1.heap.size z = w2 at *
  refine (lasting HI.out s hs).mono ?_
  rintro e w3 ⟨rfl, rfl⟩
  have hq := clone _ _ _ (HI.out.sec s hs) (by rw [sec_len _ _ hs]; omega)
  have HQ := Lib.hid hq
  clear hq
  go_wp2_with fail
  refine HQ.out.mono ?_
  rintro e w4 ⟨v, rfl, ho, hb⟩
  have HF : Hid (BytE w1 (sec D.last s) (.returned (.tuple #[v, .int .i64 0])) w4) := ⟨v, rfl, ho.mono HB.out.size, HB.out.trans (hb.mono HB.out.size)⟩
  obtain ⟨a', c', rfl⟩ := ho.form
  clear ho hb HQ HI HB
  go_wp2
  go_ret2
  exact HF.out
set_option maxHeartbeats 2000000 in
theorem read_new (h : DI S w p lb cap mb ov M L D) (s : Nat) (hs : 64 * s + 64 ≤ D.last.length) (d : List UInt8) (hn : nw s D.ws = some d) :
    Calls Try.prog 20 #[.pointer (some ⟨p, 0, none⟩), .int .i64 s] w (BytE w d) := by
  have hx := h.gd.max
  have HH := Lib.hid (has_yes ⟨_, _, _, _, _, _, h⟩ s hs)
  have hlk := h.look s (by omega)
  rw [hn] at hlk
  simp only [Option.getD_some, Option.isSome_some] at hlk
  have hz := zeroS
  have c1 := h.c1
  have hd := (h.gd.nw hn).2
  have hone := sc_one d (L s) (h.one s)
  have hsz := sc_size d (L s) hd
  have hz65 : zs.size = 65 := rfl
  have hlk' : (Instr.lookup 51 (.map (some mb)) (.int .i64 s) true).run Try.prog w = .ok (.tuple #[.agg (bc d ++ #[L s]), .bool true]) w := hlk
  have HB : Hid (Below w.heap.size w ((w.alloc (.cells zs 59)).setRow w.heap.size (bc d ++ #[L s]))) := belowSetRow ((Below.refl _ _).alloc (Nat.le_refl _) _) (Nat.le_refl _) _
  have HR : Hid (RB ((w.alloc (.cells zs 59)).setRow w.heap.size (bc d ++ #[L s])) (.slice (some ⟨w.heap.size, 0, none⟩) 64 64) d) := box_rb hd (heapSetRow _ _ _ _ _ (heapNew w _))
  have HZ : Hid (d.length = 64) := hd
  clear h hlk hn hd
  generalize zs = z at *
  generalize bc d ++ #[L s] = cs at *
  go_enter Try.func20, Try.ntmps20
  go_wp2_with fail
  refine HH.out.mono ?_
  rintro e w1 ⟨rfl, rfl⟩
  go_wp2_with (first | (refine wpList_store_row rfl 59 _ _ rfl w1.heap.size cs rfl rfl 59 z (heapNew w1 _) (by rw [hsz]; exact sizeS) (by rw [hz65, hsz]) hone ?_))
  generalize (w1.alloc (.cells z 59)).setRow w1.heap.size cs = w2 at *
  refine (clone _ _ _ HR.out (by rw [HZ.out]; omega)).mono ?_
  rintro e w4 ⟨v, rfl, ho, hb⟩
  have HF : Hid (BytE w1 d (.returned (.tuple #[v, .int .i64 0])) w4) := ⟨v, rfl, ho.mono HB.out.size, HB.out.trans (hb.mono HB.out.size)⟩
  obtain ⟨a', c', rfl⟩ := ho.form
  clear ho hb HB
  go_wp2
  go_ret2
  exact HF.out
theorem read (h : DK S w p D) (s : Nat) (hs : 64 * s + 64 ≤ D.last.length) : Calls Try.prog 20 #[.pointer (some ⟨p, 0, none⟩), .int .i64 s] w (BytE w (seen D s)) := by
  obtain ⟨lb, cap, mb, ov, M, L, h⟩ := h
  unfold seen
  cases hn : nw s D.ws with
  | none => exact read_old h s hs hn
  | some d => exact read_new h s hs d hn
set_option maxHeartbeats 1000000 in
theorem read_no (h : DK S w p D) (s : Int) (hs : s < 0 ∨ D.last.length < 64 * s + 64) : Calls Try.prog 20 #[.pointer (some ⟨p, 0, none⟩), .int .i64 s] w fun e w' => e = .returned (.tuple #[.slice none 0 0, .int .i64 120]) ∧ w' = w := by
  have HH := Lib.hid (has_no h s hs)
  clear h hs
  go_enter Try.func20, Try.ntmps20
  go_wp2_with fail
  refine HH.out.mono ?_
  rintro e w1 ⟨rfl, rfl⟩
  go_wp2_with fail
  go_ret2
  exact ⟨rfl, rfl⟩
set_option maxHeartbeats 1000000 in
theorem read_nil (s : Int) (w : World) : Calls Try.prog 20 #[.pointer none, .int .i64 s] w fun e w' => e = .returned (.tuple #[.slice none 0 0, .int .i64 1]) ∧ w' = w := by
  go_enter Try.func20, Try.ntmps20
  go_wp2_with fail
  go_ret2
  exact ⟨rfl, rfl⟩
theorem info3 : (Try.prog.info? 3).map (fun i => (i.zero, i.size, i.bytes)) = some (some (.int .i64 0), 1, 8) := by kernel_rfl
set_option maxHeartbeats 1000000 in
/-- slices.Clone of numbers -/
theorem cloneI (v : Value) (n : Nat) (xs : List Value) (w : World) (hr : w.ownsRow 0 3 1 v n xs) (h1 : ∀ u ∈ xs, u.oneCell' = true) (hn : n ≤ 1073741824) :
    Calls Try.prog 37 #[v] w fun e w' => ∃ v', e = .returned v' ∧ w'.ownsRow w.heap.size 3 1 v' n xs ∧ Below w.heap.size w w' := by
  have hl := hr.1
  rw [Nat.mul_one] at hl
  rcases hr.2 with ⟨rfl, rfl⟩ | ⟨g, c, cur, rfl, _, hg, hle, hcm, hsz, hxs⟩
  · have hq := fun u : World => Lib.run_eql_slice_nil (P := Try.prog) u 49 3 none 0 0 0 0 Try.underlying49
    have : xs = [] := List.length_eq_zero_iff.1 hl
    subst this
    go_enter Try.func37, Try.ntmps37
    go_wp2
    go_ret
    exact ⟨_, rfl, World.ownsRow_nil _ _ _ _, Below.refl _ _⟩
  · have hq := fun u : World => Lib.run_eql_slice_nil (P := Try.prog) u 49 3 (some ⟨g, 0, none⟩) n c 0 0 Try.underlying49
    obtain ⟨i0, hi, hz0, hz1, hz2⟩ := info_parts info3
    have hb0 : Below w.heap.size w (w.alloc (.cells #[] 3)) := (Below.refl _ _).alloc (Nat.le_refl _) _
    have hc : ∀ j u, xs[j]? = some u → (w.alloc (.cells #[] 3)).cell? ((⟨g, 0, none⟩ : Addr).add j) = some u := fun j u hu => by
      have hj := (List.getElem?_eq_some_iff.1 hu).1
      have hadd : (⟨g, 0, none⟩ : Addr).add j = ⟨g, j, none⟩ := by unfold Addr.add; split <;> simp_all
      have hlt := (Array.getElem?_eq_some_iff.1 hg).1
      rw [hadd, World.cell?_of_block (w := w) (heapOld _ _ _ hlt)]
      simp only [World.cell?, hg]
      rw [← hxs, List.getElem?_take_of_lt (by omega)] at hu
      simpa using hu
    have HO : Hid ((w.alloc (.cells #[] 3)).ownsRow w.heap.size 3 1 (.slice (some ⟨w.heap.size, 0, none⟩) 0 0) 0 [] ∧ Below w.heap.size w (w.alloc (.cells #[] 3)) ∧ ∀ j u, xs[j]? = some u → (w.alloc (.cells #[] 3)).cell? ((⟨g, 0, none⟩ : Addr).add j) = some u) :=
      ⟨World.ownsRow_lit w #[] 0 (Nat.le_refl _) (Nat.zero_le _) rfl, hb0, hc⟩
    clear hc hb0 hr hg hxs hsz
    go_enter Try.func37, Try.ntmps37
    go_wp2_with (at_builtin; refine wpList_append_own _ rfl _ _ 49 rfl w.heap.size 3 i0 _ 1 8 Try.underlying49 hi hz0 hz1 hz2 rfl (by omega) _ 0 [] rfl HO.out.1 ⟨g, 0, none⟩ n c xs rfl (by omega) HO.out.2.2 h1 (by unfold maxLen; omega) (by omega) (by simp) ?_; intro v' w1 ho1 hg1 _)
    rw [List.nil_append, Nat.zero_add] at ho1
    obtain ⟨a', c', rfl⟩ := ownsRow_form ho1
    have hb1 : Below w.heap.size w w1 := HO.out.2.1.grown hg1 (by simp) (fun k hk => Nat.le_of_eq (Option.some.inj hk))
    go_ret
    exact ⟨_, rfl, ho1, hb1⟩
/-- a list of numbers was answered -/
def IntE (w : World) (ws : List Wt) (e : Ending) (w' : World) : Prop := ∃ v, e = .returned v ∧ w'.ownsRow w.heap.size 3 1 v ws.length (ws.map fun x => Value.int .i64 x.at_) ∧ Below w.heap.size w w'
set_option maxHeartbeats 1000000 in
theorem pending (h : DK S w p D) (hn : D.ws.length ≤ 1073741824) : Calls Try.prog 18 #[.pointer (some ⟨p, 0, none⟩)] w (IntE w D.ws) := by
  obtain ⟨lb, cap, mb, ov, M, L, h⟩ := h
  have HC := Lib.hid (cloneI ov _ _ w h.ord (fun u hu => by obtain ⟨x, _, rfl⟩ := List.mem_map.1 hu; rfl) hn)
  have c2 := h.c2
  obtain ⟨a, c, rfl⟩ := h.ovf
  clear h hn
  go_enter Try.func18, Try.ntmps18
  go_wp2_with fail
  refine HC.out.mono ?_
  rintro e w1 ⟨v, rfl, ho, hb⟩
  have HF : Hid (IntE w D.ws (.returned v) w1) := ⟨v, rfl, ho, hb⟩
  obtain ⟨a', c', rfl⟩ := ownsRow_form ho
  clear ho hb HC
  go_wp2
  go_ret
  exact HF.out
set_option maxHeartbeats 1000000 in
theorem pending_nil (w : World) : Calls Try.prog 18 #[.pointer none] w fun e w' => e = .returned (.slice none 0 0) ∧ w' = w := by
  go_enter Try.func18, Try.ntmps18
  go_wp2_with fail
  go_ret
  exact ⟨rfl, rfl⟩
end
end Go.Proofs.Ytglknmelcianjaa
