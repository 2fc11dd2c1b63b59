import Derived.Test.YtldkecjfjcnkfaaNode
namespace Go.Proofs.Ytldkecjfjcnkfaa
open Go.RowKit Go.Deep
/-- a row of entries so far -/
def EInv (g : Nat) (w : World) (ky : Nat → ByteArray) (l : Nat → T) (ln j : Nat) (cs : Array Value) : Prop := blk w g 110 cs ∧ cs.size = ln * 2 ∧ ∀ i, i < j → ∃ u, cs[i * 2]? = some (.string (ky i)) ∧ cs[i * 2 + 1]? = some u ∧ RN (fun b => g < b) w (l i) u
theorem cell_set_ne {w : World} {p q : Addr} {u v : Value} (h : w.cell? p = some v) (hne : p.block ≠ q.block) : (w.setCell q u).cell? p = some v :=
  (World.cell?_of_block (w := w) (Below.heap_setCell w q u p.block hne)).trans h
theorem EInv.step {g : Nat} {w wr w2 : World} {ky : Nat → ByteArray} {l : Nat → T} {ln j : Nat} {cs : Array Value} {ty : TypeId} {uu : Value} {B : Nat} (hj : j < ln) (hbw : Below g w wr) (he : EInv g wr ky l ln j cs) (hb3 : Below wr.heap.size wr w2) (hrn : RN (fun b => B ≤ b) w2 (l j) (.iface ty uu)) (hB : g < B) :
    Below g w ((w2.setCell ⟨g, j * 2, none⟩ (.string (ky j))).setCell ⟨g, j * 2 + 1, none⟩ (.iface ty uu)) ∧
    EInv g ((w2.setCell ⟨g, j * 2, none⟩ (.string (ky j))).setCell ⟨g, j * 2 + 1, none⟩ (.iface ty uu)) ky l ln (j + 1) ((cs.setIfInBounds (j * 2) (.string (ky j))).setIfInBounds (j * 2 + 1) (.iface ty uu)) := by
  obtain ⟨hblk, hsz, hel⟩ := he
  have hglt := hblk.lt
  have hblk2 := hblk.keep (hb3.block _ hglt)
  have hsize : ((w2.setCell ⟨g, j * 2, none⟩ (.string (ky j))).setCell ⟨g, j * 2 + 1, none⟩ (.iface ty uu)).heap.size = w2.heap.size := by simp [World.setCell]
  have hne : ∀ b, b ≠ g → ((w2.setCell ⟨g, j * 2, none⟩ (.string (ky j))).setCell ⟨g, j * 2 + 1, none⟩ (.iface ty uu)).heap[b]? = w2.heap[b]? := fun b hb => by
    rw [Below.heap_setCell _ _ _ _ hb, Below.heap_setCell _ _ _ _ hb]
  refine ⟨((hbw.trans (hb3.mono (by omega))).setCell (Nat.le_refl _) _).setCell (Nat.le_refl _) _, (hblk2.set (j * 2) _).set (j * 2 + 1) _, by simp [hsz], fun i hi => ?_⟩
  rcases Nat.lt_succ_iff_lt_or_eq.1 hi with h | rfl
  · obtain ⟨u, q0, q1, q2⟩ := hel i h
    refine ⟨u, ?_, ?_, RN.move (fun b hb _ => hb) (by rw [hsize]; exact hb3.size) (fun b hb hl => ?_) _ _ q2⟩
    · rw [Array.getElem?_setIfInBounds_ne (by omega), Array.getElem?_setIfInBounds_ne (by omega)]; exact q0
    · rw [Array.getElem?_setIfInBounds_ne (by omega), Array.getElem?_setIfInBounds_ne (by omega)]; exact q1
    · rw [hne b (by omega), hb3.block b hl]
  · refine ⟨_, ?_, Array.getElem?_setIfInBounds_self_of_lt (by simp; omega), RN.move (fun b hb _ => by omega) (by rw [hsize]; exact Nat.le_refl _) (fun b hb hl => hne b (by omega)) _ _ hrn⟩
    rw [Array.getElem?_setIfInBounds_ne (by omega)]
    exact Array.getElem?_setIfInBounds_self_of_lt (by omega)
set_option maxHeartbeats 4000000 in
theorem dictOf24 (ln : Nat) (ky : Nat → ByteArray) (l : Nat → T) (x : Value) (w : World) (ih : ∀ i, NC (l i)) (hs : ln ≤ 2147483647) (ok4 : ∀ i, i < ln → (l i).ok ∧ (l i).small ∧ VT (l i)) (hL : RD (fun _ => True) w ln ky l x) :
    Calls Try.prog 77 #[x] w fun e w' => ∃ c, e = .returned (.slice (some ⟨w.heap.size, 0, none⟩) ln c) ∧ (∀ i, i < ln → ∃ u, w'.cell? ⟨w.heap.size, i * 2, none⟩ = some (.string (ky i)) ∧ w'.cell? ⟨w.heap.size, i * 2 + 1, none⟩ = some u ∧ RN (fun b => w.heap.size ≤ b) w' (l i) u) ∧ w.heap.size < w'.heap.size ∧ Below w.heap.size w w' ∧ c = ln ∧ ∃ cs, blk w' w.heap.size 110 cs ∧ cs.size = ln * 2 := by
  obtain ⟨a, ca, rfl, hL⟩ := hL
  obtain ⟨i0, hi, hz0, hz1, hz2⟩ := info_parts info57
  have hmk : ∀ u : World, (Instr.makeSlice 108 (.int .i64 (ln : Int)) (.int .i64 (ln : Int))).run Try.prog u =
      .ok (.slice (some ⟨u.heap.size, 0, none⟩) ln ln) (u.alloc (.cells (madeCells #[.string ByteArray.empty, .nilIface] (ln * 2)) 110)) := fun u => by
    have h := run_make (P := Try.prog) u 108 110 i0 (.agg #[.string ByteArray.empty, .nilIface]) Try.underlying108 hi hz0 .i64 .i64 ln ln (by omega) (by omega) (by rw [hz2]; omega) (by omega)
    simpa [hz1, Value.cells] using h
  have HI : Hid ((∀ i, NC (l i)) ∧ (∀ i, i < ln → (l i).ok ∧ (l i).small ∧ VT (l i)) ∧ (ln = 0 ∨ ∃ b o, a = some ⟨b, o, none⟩ ∧ True ∧ b < w.heap.size ∧ ∀ i, i < ln → ∃ x' y', RV (fun _ => True) w (l i) x' y' ∧ w.cell? ⟨b, o + i * 6, none⟩ = some (.string (ky i)) ∧ five w b (o + i * 6 + 1) (l i) x' y')) := ⟨ih, ok4, hL⟩
  clear ih ok4 hL hi hz0 hz1 hz2
  go_enter Try.func77, Try.ntmps77
  go_wp2
  clear hmk
  have HB0 : Hid (Below w.heap.size w (w.alloc (.cells (madeCells #[.string ByteArray.empty, .nilIface] (ln * 2)) 110)) ∧ EInv w.heap.size (w.alloc (.cells (madeCells #[.string ByteArray.empty, .nilIface] (ln * 2)) 110)) ky l ln 0 (madeCells #[.string ByteArray.empty, .nilIface] (ln * 2))) :=
    ⟨(Below.refl _ _).alloc (Nat.le_refl _) _, heap_new _ _, by rw [size_madeCells], fun i hi => absurd hi (Nat.not_lt_zero _)⟩
  generalize w.alloc (.cells (madeCells #[.string ByteArray.empty, .nilIface] (ln * 2)) 110) = w0 at *
  generalize hg : w.heap.size = g at *
  have HG : Hid (w.heap.size = g) := hg
  clear hg
  go_loopw [11] (fun i wr => ∃ (j : Nat) (cs : Array Value), j ≤ ln ∧ i = .int .i64 j ∧ Hid (Below g w wr ∧ EInv g wr ky l ln j cs)) (fun i _ => ln - (intOf i).toNat)
  case atStart => exact ⟨0, _, Nat.zero_le _, rfl, HB0⟩
  case round =>
    obtain ⟨j, cs, hj, rfl, hinv⟩ := hrel
    by_cases hlt : j < ln
    · obtain ⟨il, ok4, hL⟩ := HI.out
      rcases hL with h | ⟨b, o, rfl, _, hbl, hL⟩
      · omega
      obtain ⟨x1, y1, hv, g0, g1, g2, g3, g4, g5⟩ := hL j hlt
      have hw := hinv.out.1
      have hle : w.heap.size ≤ g := Nat.le_of_eq HG.out
      replace g0 := Below.cellS hw hle g0
      replace g1 := Below.cellS hw hle g1
      replace g2 := Below.cellS hw hle g2
      replace g3 := Below.cellS hw hle g3
      replace g4 := Below.cellS hw hle g4
      replace g5 := Below.cellS hw hle g5
      obtain ⟨⟨xa, xn, xc, rfl⟩, ⟨ya, yn, yc, rfl⟩⟩ := hv.slices
      have HA : Hid (Below wr.heap.size wr (wr.alloc (Obj.cells #[.string (ky j), .int .i64 (l j).k, .int .i64 (l j).n, .string (l j).s, .slice xa xn xc, .slice ya yn yc] 59))) := (Below.refl _ _).alloc (Nat.le_refl _) _
      have hX : blk (wr.alloc (Obj.cells #[.string (ky j), .int .i64 (l j).k, .int .i64 (l j).n, .string (l j).s, .slice xa xn xc, .slice ya yn yc] 59)) wr.heap.size 59 #[.string (ky j), .int .i64 (l j).k, .int .i64 (l j).n, .string (l j).s, .slice xa xn xc, .slice ya yn yc] := heap_new _ _
      have HV : Hid (NC (l j) ∧ (l j).ok ∧ (l j).small ∧ VT (l j) ∧ RV (fun _ => True) wr (l j) (.slice xa xn xc) (.slice ya yn yc)) := ⟨il j, (ok4 j hlt).1, (ok4 j hlt).2.1, (ok4 j hlt).2.2, Below.rv hw hle hv⟩
      clear il ok4 hL hv hbl hw hle
      go_wp2
      have hxg : wr.heap.size ≠ g := by have := hinv.out.2.1.lt; omega
      generalize hxb : wr.heap.size = xb at *
      have HX : Hid (wr.heap.size = xb) := hxb
      clear hxb
      generalize (wr.alloc (Obj.cells #[.string (ky j), .int .i64 (l j).k, .int .i64 (l j).n, .string (l j).s, .slice xa xn xc, .slice ya yn yc] 59)) = w3 at *
      have k0 : w3.cell? ⟨xb, 0, none⟩ = some (.string (ky j)) := hX.cell 0
      have k1 : w3.cell? ⟨xb, 1, none⟩ = some (.int .i64 (l j).k) := hX.cell 1
      have k2 : w3.cell? ⟨xb, 2, none⟩ = some (.int .i64 (l j).n) := hX.cell 2
      have k3 : w3.cell? ⟨xb, 3, none⟩ = some (.string (l j).s) := hX.cell 3
      have k4 : w3.cell? ⟨xb, 4, none⟩ = some (.slice xa xn xc) := hX.cell 4
      have k5 : w3.cell? ⟨xb, 5, none⟩ = some (.slice ya yn yc) := hX.cell 5
      have j0 : (0 : Int) ≤ (j : Int) := by omega
      have j1 : (j : Int) < (ln : Int) := by omega
      have HC : Hid (∀ w', w'.heap = w3.heap → w'.os = w3.os → w'.tape = w3.tape → w'.output = w3.output → Calls Try.prog 62 #[vv (l j) (.slice xa xn xc) (.slice ya yn yc)] w' fun e w'' => ∃ ty uu, e = .returned (.iface ty uu) ∧ (∃ z, w''.cell? ⟨g, j * 2, none⟩ = some z) ∧ (∃ z, w''.cell? ⟨g, j * 2 + 1, none⟩ = some z) ∧ w''.frozen? ⟨g, j * 2, none⟩ = false ∧ w''.frozen? ⟨g, j * 2 + 1, none⟩ = false ∧ Hid (Below w3.heap.size w3 w'') ∧
          Hid (∃ cs', Below g w ((w''.setCell ⟨g, j * 2, none⟩ (.string (ky j))).setCell ⟨g, j * 2 + 1, none⟩ (.iface ty uu)) ∧ EInv g ((w''.setCell ⟨g, j * 2, none⟩ (.string (ky j))).setCell ⟨g, j * 2 + 1, none⟩ (.iface ty uu)) ky l ln (j + 1) cs')) := by
        intro w' hh h1 h2 h3
        have hbw : Below w3.heap.size w3 w' := ⟨h1, h2, h3, by rw [hh]; exact Nat.le_refl _, fun q _ => by rw [hh]⟩
        have hA3 : Below xb wr w' := HA.out.trans (hbw.mono (HX.out ▸ HA.out.size))
        refine (HV.out.1 _ _ w' HV.out.2.1 HV.out.2.2.1 HV.out.2.2.2.1 (Below.rv hA3 (Nat.le_of_eq HX.out) HV.out.2.2.2.2)).mono ?_
        rintro e w2 ⟨u, rfl, hrn, hb2⟩
        obtain ⟨ty, uu, rfl⟩ := hrn.iface
        obtain ⟨hbg, hE⟩ := hinv.out
        have hsz := hE.2.1
        have hglt := hE.1.lt
        have hb3 : Below wr.heap.size wr w2 := (HX.out ▸ hA3).trans (hb2.mono (HX.out ▸ hA3.size))
        have hblk2 := hE.1.keep (hb3.block _ hglt)
        refine ⟨ty, uu, rfl, ⟨cs[j * 2], by rw [hblk2.cell]; exact Array.getElem?_eq_getElem (by omega)⟩, ⟨cs[j * 2 + 1], by rw [hblk2.cell]; exact Array.getElem?_eq_getElem (by omega)⟩, hblk2.frozen _, hblk2.frozen _, hbw.trans (hb2.mono hbw.size), _, EInv.step hlt hbg hE hb3 hrn (by have := hA3.size; have := HX.out; omega)⟩
      clear HV HA hinv hX g0 g1 g2 g3 g4 g5
      go_region_held3 (fun w' => w'.cell? ⟨xb, 0, none⟩ = some (.string (ky j)) ∧ w'.cell? ⟨xb, 1, none⟩ = some (.int .i64 (l j).k) ∧ w'.cell? ⟨xb, 2, none⟩ = some (.int .i64 (l j).n) ∧ w'.cell? ⟨xb, 3, none⟩ = some (.string (l j).s) ∧ w'.cell? ⟨xb, 4, none⟩ = some (.slice xa xn xc) ∧ w'.cell? ⟨xb, 5, none⟩ = some (.slice ya yn yc))
        (first | (exact ⟨k0, k1, k2, k3, k4, k5⟩) | (exact ⟨Below.cellS hq.out (Nat.le_refl _) k0, Below.cellS hq.out (Nat.le_refl _) k1, Below.cellS hq.out (Nat.le_refl _) k2, Below.cellS hq.out (Nat.le_refl _) k3, Below.cellS hq.out (Nat.le_refl _) k4, Below.cellS hq.out (Nat.le_refl _) k5⟩) | (exact ⟨cell_set_ne (cell_set_ne (Below.cellS hq.out (Nat.le_refl _) k0) hxg) hxg, cell_set_ne (cell_set_ne (Below.cellS hq.out (Nat.le_refl _) k1) hxg) hxg, cell_set_ne (cell_set_ne (Below.cellS hq.out (Nat.le_refl _) k2) hxg) hxg, cell_set_ne (cell_set_ne (Below.cellS hq.out (Nat.le_refl _) k3) hxg) hxg, cell_set_ne (cell_set_ne (Below.cellS hq.out (Nat.le_refl _) k4) hxg) hxg, cell_set_ne (cell_set_ne (Below.cellS hq.out (Nat.le_refl _) k5) hxg) hxg⟩))
        (first | (go_at_call 62; refine (HC.out w3.drew rfl rfl rfl rfl).mono ?_; rintro e wq ⟨ty, uu, rfl, ⟨z0, cj0⟩, ⟨z1, cj1⟩, fj0, fj1, hq, HN⟩))
      clear k0 k1 k2 k3 k4 k5 HC cj0 cj1 fj0 fj1 hq
      go_wp2
      go_roundw
      case rel => exact ⟨j + 1, _, by omega, by go_num, HN.out.choose_spec⟩
      case measure => simp [intOf]; omega
    · obtain rfl : j = ln := by omega
      go_wp2
      go_ret
      obtain ⟨hbw, hblk, hsz, hel⟩ := hinv.out
      refine ⟨j, by rw [HG.out]; rfl, fun i hi => ?_, HG.out ▸ hblk.lt, HG.out ▸ hbw, rfl, cs, HG.out ▸ hblk, hsz⟩
      obtain ⟨u, q0, q1, q2⟩ := hel i hi
      exact ⟨u, by rw [HG.out, hblk.cell]; exact q0, by rw [HG.out, hblk.cell]; exact q1, RN.move (fun b hb _ => by have := HG.out; omega) (Nat.le_refl _) (fun _ _ _ => rfl) _ _ q2⟩
set_option maxHeartbeats 1000000 in
theorem nodeOf27 (t : T) : NC t := by
  induction t with
  | no => intro x y w _ _ _ h; exact h.elim
  | mk k n s ln l dn ky dv il id =>
    intro x y w hok hsm hvt hr
    obtain ⟨ok1, ok2, ok3, ok4, ok5⟩ := hok
    obtain ⟨sm1, sm2, sm3, sm4⟩ := hsm
    obtain ⟨hown, v1, v2⟩ := hvt
    obtain ⟨hL, hD⟩ := hr
    obtain ⟨k1, k4, _⟩ := (ownB_iff _ _ _ _ _).1 hown
    show Calls Try.prog 62 #[.agg #[.int .i64 k, .int .i64 n, .string s, x, y]] w _
    have HB : Hid (Below w.heap.size w (w.alloc (Obj.cells #[.int .i64 k, .int .i64 n, .string s, x, y] 56))) := (Below.refl _ _).alloc (Nat.le_refl _) _
    have HL : Hid (RL (fun _ => True) (w.alloc (Obj.cells #[.int .i64 k, .int .i64 n, .string s, x, y] 56)) ln l x) := RL.keep (fun _ h => h) HB.out.size (fun b _ hl => HB.out.block b hl) hL
    have HD : Hid (RD (fun _ => True) (w.alloc (Obj.cells #[.int .i64 k, .int .i64 n, .string s, x, y] 56)) dn ky dv y) := RD.keep (fun _ h => h) HB.out.size (fun b _ hl => HB.out.block b hl) hD
    have HO : Hid ((∀ i, NC (l i)) ∧ (∀ i, NC (dv i)) ∧ (∀ i, i < ln → (l i).ok ∧ (l i).small ∧ VT (l i)) ∧ (∀ i, i < dn → (dv i).ok ∧ (dv i).small ∧ VT (dv i))) := ⟨il, id, fun i hi => ⟨ok4 i hi, sm3 i hi, v1 i hi⟩, fun i hi => ⟨(ok5 i hi).2, sm4 i hi, (v2 i hi).2⟩⟩
    clear il id ok4 ok5 sm3 sm4 v1 v2 hL hD hown
    have hk : k = 1 ∨ k = 2 ∨ k = 3 ∨ k = 4 := by omega
    clear k1 k4
    rcases hk with rfl | rfl | rfl | rfl
    · go_enter Try.func62, Try.ntmps62
      go_wp2
      go_ret
      exact ⟨_, rfl, .inl ⟨rfl, rfl⟩, HB.out⟩
    · go_enter Try.func62, Try.ntmps62
      go_wp2
      go_ret
      exact ⟨_, rfl, .inr (.inl ⟨rfl, rfl⟩), HB.out⟩
    · go_enter Try.func62, Try.ntmps62
      go_wp2_with fail
      refine (listOf39 ln l x _ HO.out.1 sm1 HO.out.2.2.1 HL.out).mono ?_
      rintro e w1 ⟨c, rfl, h1, h2, h3⟩
      have HH : Hid (RN (fun b => w.heap.size ≤ b) w1 (.mk 3 n s ln l dn ky dv) (.iface 106 (.slice (some ⟨w.heap.size + 1, 0, none⟩) ln c)) ∧ Below w.heap.size w w1) := by
        have hsz : (w.alloc (Obj.cells #[.int .i64 3, .int .i64 n, .string s, x, y] 56)).heap.size = w.heap.size + 1 := by simp
        rw [hsz] at h1 h2 h3
        refine ⟨.inr (.inr (.inl ⟨rfl, _, _, rfl, by omega, h2, fun i hi => ?_⟩)), HB.out.trans (h3.mono (by omega))⟩
        obtain ⟨u, q1, q2⟩ := h1 i hi
        exact ⟨u, q1, RN.move (fun b hb _ => by omega) (Nat.le_refl _) (fun _ _ _ => rfl) _ _ q2⟩
      clear h1 h2 h3 HL HD HO HB
      go_wp2
      go_ret
      exact ⟨_, by simp, HH.out⟩
    · go_enter Try.func62, Try.ntmps62
      go_wp2_with fail
      refine (dictOf24 dn ky dv y _ HO.out.2.1 sm2 HO.out.2.2.2 HD.out).mono ?_
      rintro e w1 ⟨c, rfl, h1, h2, h3, hcc, hcs⟩
      clear hcc hcs
      have HH : Hid (RN (fun b => w.heap.size ≤ b) w1 (.mk 4 n s ln l dn ky dv) (.iface 108 (.slice (some ⟨w.heap.size + 1, 0, none⟩) dn c)) ∧ Below w.heap.size w w1) := by
        have hsz : (w.alloc (Obj.cells #[.int .i64 4, .int .i64 n, .string s, x, y] 56)).heap.size = w.heap.size + 1 := by simp
        rw [hsz] at h1 h2 h3
        refine ⟨.inr (.inr (.inr ⟨rfl, _, _, rfl, by omega, h2, fun i hi => ?_⟩)), HB.out.trans (h3.mono (by omega))⟩
        obtain ⟨u, q0, q1, q2⟩ := h1 i hi
        exact ⟨u, q0, q1, RN.move (fun b hb _ => by omega) (Nat.le_refl _) (fun _ _ _ => rfl) _ _ q2⟩
      clear h1 h2 h3 HL HD HO HB
      go_wp2
      go_ret
      exact ⟨_, by simp, HH.out⟩
end Go.Proofs.Ytldkecjfjcnkfaa
