import Derived.Test.YtldkecjfjcnkfaaGe
namespace Go.Proofs.Ytldkecjfjcnkfaa
open Go.RowKit Go.Deep
/-- a wish whose numbers are in range and which names no key of its own -/
def wsB (ns : List (ByteArray × Int)) (sz qu : Int) (es : List PE) : Bool := decide (0 ≤ sz) && (decide (sz ≤ 1048576) && (decide (0 ≤ qu) && (!(ns.any fun x => !idB x.2) && !(es.any fun e => owB e.key))))
theorem RG.keep {A : Nat} {w w' : World} {v : Value} {es : List PE} (h : RG A w v es) (hb : Below w.heap.size w w') : RG A w' v es := by
  obtain ⟨a, c, rfl, hle, h⟩ := h
  refine ⟨a, c, rfl, hle, ?_⟩
  rcases h with h | ⟨g, o, h1, h2, h3⟩
  · exact .inl h
  · exact .inr ⟨g, o, h1, Nat.lt_of_lt_of_le h2 hb.size, fun i e he => ⟨RV.keep (fun _ h => h) hb.size (fun b _ hl => hb.block b hl) _ _ _ (h3 i e he).1, fun r hr => (World.cell?_of_block (w := w) (hb.block g h2)).trans ((h3 i e he).2 r hr)⟩⟩
theorem below5 {B : Nat} {w w' : World} {g : Nat} (h : Below B w w') (hg : B ≤ g) (c0 c1 c2 c3 c4 : Value) : Below B w (((((w'.setCell ⟨g, 0, none⟩ c0).setCell ⟨g, 1, none⟩ c1).setCell ⟨g, 2, none⟩ c2).setCell ⟨g, 3, none⟩ c3).setCell ⟨g, 4, none⟩ c4) :=
  ((((h.setCell hg _).setCell hg _).setCell hg _).setCell hg _).setCell hg _
/-- a wish as it lies behind the box and the cell of the answer -/
def WB (H : Nat) (w0 : World) (na ma : Option Addr) (nc mc : Nat) (ns : List (ByteArray × Int)) (sz qu : Int) (ag : ByteArray) (es : List PE) : Prop :=
  w0.heap[H]? = some (.cells #[.slice na ns.length nc, .int .i64 sz, .int .i64 qu, .string ag, .slice ma es.length mc] 35 (0, 0)) ∧ w0.heap[H + 1]? = some (.cells #[.int .i64 0, .int .i64 0, .string ⟨#[]⟩, .slice none 0 0, .slice none 0 0] 56 (0, 0)) ∧ H + 2 ≤ w0.heap.size ∧ RNs w0 (.slice na ns.length nc) ns ∧ RG H w0 (.slice ma es.length mc) es
theorem WB.keep {H : Nat} {w0 w' : World} {na ma : Option Addr} {nc mc : Nat} {ns : List (ByteArray × Int)} {sz qu : Int} {ag : ByteArray} {es : List PE} (h : WB H w0 na ma nc mc ns sz qu ag es) (hb : Below w0.heap.size w0 w') : WB H w' na ma nc mc ns sz qu ag es :=
  ⟨(hb.block _ (by have := h.2.2.1; omega)).trans h.1, (hb.block _ (by have := h.2.2.1; omega)).trans h.2.1, Nat.le_trans h.2.2.1 hb.size, h.2.2.2.1.keep hb, h.2.2.2.2.keep hb⟩
def BoxC (H : Nat) (w' : World) (na ma : Option Addr) (nc mc nl ml : Nat) (sz qu : Int) (ag : ByteArray) : Prop :=
  w'.cell? ⟨H, 0, none⟩ = some (.slice na nl nc) ∧ w'.cell? ⟨H, 1, none⟩ = some (.int .i64 sz) ∧ w'.cell? ⟨H, 2, none⟩ = some (.int .i64 qu) ∧ w'.cell? ⟨H, 3, none⟩ = some (.string ag) ∧ w'.cell? ⟨H, 4, none⟩ = some (.slice ma ml mc)
theorem WB.box {H : Nat} {w0 : World} {na ma : Option Addr} {nc mc : Nat} {ns : List (ByteArray × Int)} {sz qu : Int} {ag : ByteArray} {es : List PE} (h : WB H w0 na ma nc mc ns sz qu ag es) : BoxC H w0 na ma nc mc ns.length es.length sz qu ag := by
  have e := h.1
  refine ⟨?_, ?_, ?_, ?_, ?_⟩ <;> simp [World.cell?, e]
theorem WB.start (na ma : Option Addr) (nc mc : Nat) (ns : List (ByteArray × Int)) (sz qu : Int) (ag : ByteArray) (es : List PE) (w : World) (hn : RNs w (.slice na ns.length nc) ns) (hm : RG w.heap.size w (.slice ma es.length mc) es) : WB w.heap.size ((w.alloc (.cells #[.slice na ns.length nc, .int .i64 sz, .int .i64 qu, .string ag, .slice ma es.length mc] 35)).alloc (.cells #[.int .i64 0, .int .i64 0, .string ⟨#[]⟩, .slice none 0 0, .slice none 0 0] 56)) na ma nc mc ns sz qu ag es ∧ Below w.heap.size w ((w.alloc (.cells #[.slice na ns.length nc, .int .i64 sz, .int .i64 qu, .string ag, .slice ma es.length mc] 35)).alloc (.cells #[.int .i64 0, .int .i64 0, .string ⟨#[]⟩, .slice none 0 0, .slice none 0 0] 56)) := by
  have b : Below w.heap.size w ((w.alloc (.cells #[.slice na ns.length nc, .int .i64 sz, .int .i64 qu, .string ag, .slice ma es.length mc] 35)).alloc (.cells #[.int .i64 0, .int .i64 0, .string ⟨#[]⟩, .slice none 0 0, .slice none 0 0] 56)) := ((Below.refl _ _).alloc (Nat.le_refl _) _).alloc (by simp) _
  exact ⟨⟨(Below.heap_alloc _ _ _ (by simp)).trans (heap_new _ _), by have := heap_new (w.alloc (.cells #[.slice na ns.length nc, .int .i64 sz, .int .i64 qu, .string ag, .slice ma es.length mc] 35)) (.cells #[.int .i64 0, .int .i64 0, .string ⟨#[]⟩, .slice none 0 0, .slice none 0 0] 56); simpa using this, by simp, hn.keep b, hm.keep b⟩, b⟩
set_option maxHeartbeats 4000000 in
set_option maxRecDepth 100000 in
theorem wishDict_no (na ma : Option Addr) (nc mc : Nat) (ns : List (ByteArray × Int)) (sz qu : Int) (ag : ByteArray) (es : List PE) (w : World) (hn : RNs w (.slice na ns.length nc) ns) (hm : RG w.heap.size w (.slice ma es.length mc) es) (hl : ns.length + es.length ≤ 2147483000) (hb : wsB ns sz qu es = false) :
    Calls Try.prog 46 #[.agg #[.slice na ns.length nc, .int .i64 sz, .int .i64 qu, .string ag, .slice ma es.length mc]] w fun e w' => e = .returned (.tuple #[.agg #[.int .i64 0, .int .i64 0, .string ⟨#[]⟩, .slice none 0 0, .slice none 0 0], .bool false]) ∧ Below w.heap.size w w' := by
  obtain ⟨wb0, b0⟩ := WB.start na ma nc mc ns sz qu ag es w hn hm
  have HK : Hid (∀ w', Below ((w.alloc (.cells #[.slice na ns.length nc, .int .i64 sz, .int .i64 qu, .string ag, .slice ma es.length mc] 35)).alloc (.cells #[.int .i64 0, .int .i64 0, .string ⟨#[]⟩, .slice none 0 0, .slice none 0 0] 56)).heap.size ((w.alloc (.cells #[.slice na ns.length nc, .int .i64 sz, .int .i64 qu, .string ag, .slice ma es.length mc] 35)).alloc (.cells #[.int .i64 0, .int .i64 0, .string ⟨#[]⟩, .slice none 0 0, .slice none 0 0] 56)) w' → WB w.heap.size w' na ma nc mc ns sz qu ag es) := fun w' hw => wb0.keep hw
  have HB0 : Hid (Below w.heap.size w ((w.alloc (.cells #[.slice na ns.length nc, .int .i64 sz, .int .i64 qu, .string ag, .slice ma es.length mc] 35)).alloc (.cells #[.int .i64 0, .int .i64 0, .string ⟨#[]⟩, .slice none 0 0, .slice none 0 0] 56))) := b0
  have HWZ : Hid (WB w.heap.size ((w.alloc (.cells #[.slice na ns.length nc, .int .i64 sz, .int .i64 qu, .string ag, .slice ma es.length mc] 35)).alloc (.cells #[.int .i64 0, .int .i64 0, .string ⟨#[]⟩, .slice none 0 0, .slice none 0 0] 56)) na ma nc mc ns sz qu ag es) := wb0
  clear wb0 b0 hn hm
  have HC1 : Hid (∀ w', Below ((w.alloc (.cells #[.slice na ns.length nc, .int .i64 sz, .int .i64 qu, .string ag, .slice ma es.length mc] 35)).alloc (.cells #[.int .i64 0, .int .i64 0, .string ⟨#[]⟩, .slice none 0 0, .slice none 0 0] 56)).heap.size ((w.alloc (.cells #[.slice na ns.length nc, .int .i64 sz, .int .i64 qu, .string ag, .slice ma es.length mc] 35)).alloc (.cells #[.int .i64 0, .int .i64 0, .string ⟨#[]⟩, .slice none 0 0, .slice none 0 0] 56)) w' → Calls Try.prog 53 #[.slice na ns.length nc, .func (Fn.func 54) #[] #[]] w' fun en w'' => en = .returned (.bool (ns.any (fun x => !idB x.2))) ∧ Below w'.heap.size w' w'') := fun w' hw => contains53 _ ns w' (HK.out w' hw).2.2.2.1 (by omega)
  have HC2 : Hid (∀ w', Below ((w.alloc (.cells #[.slice na ns.length nc, .int .i64 sz, .int .i64 qu, .string ag, .slice ma es.length mc] 35)).alloc (.cells #[.int .i64 0, .int .i64 0, .string ⟨#[]⟩, .slice none 0 0, .slice none 0 0] 56)).heap.size ((w.alloc (.cells #[.slice na ns.length nc, .int .i64 sz, .int .i64 qu, .string ag, .slice ma es.length mc] 35)).alloc (.cells #[.int .i64 0, .int .i64 0, .string ⟨#[]⟩, .slice none 0 0, .slice none 0 0] 56)) w' → Calls Try.prog 55 #[.slice ma es.length mc, .func (Fn.func 56) #[] #[]] w' fun en w'' => en = .returned (.bool (es.any (fun e => owB e.key))) ∧ Below w'.heap.size w' w'') := fun w' hw => contains55 _ _ es w' (HK.out w' hw).2.2.2.2 (by omega)
  obtain ⟨x0, x1, x2, x3, x4⟩ := HWZ.out.box
  go_enter Try.func46, Try.ntmps46
  go_upto_region 1 with fail
  generalize ((w.alloc (.cells #[.slice na ns.length nc, .int .i64 sz, .int .i64 qu, .string ag, .slice ma es.length mc] 35)).alloc (.cells #[.int .i64 0, .int .i64 0, .string ⟨#[]⟩, .slice none 0 0, .slice none 0 0] 56)) = w0 at *
  generalize hvb : w.heap.size = H at *
  have HS := Lib.hid hvb
  clear hvb
  by_cases h1 : sz < 0
  · have BW : Hid (Below w0.heap.size w0 w0) := Below.refl _ _
    clear HC1 HC2 HWZ hb
    have hR := (HK.out w0 BW.out).2.1
    have r0 : w0.cell? ⟨H + 1, 0, none⟩ = some (.int .i64 0) := by simp [World.cell?, hR]
    have r1 : w0.cell? ⟨H + 1, 1, none⟩ = some (.int .i64 0) := by simp [World.cell?, hR]
    have r2 : w0.cell? ⟨H + 1, 2, none⟩ = some (.string ⟨#[]⟩) := by simp [World.cell?, hR]
    have r3 : w0.cell? ⟨H + 1, 3, none⟩ = some (.slice none 0 0) := by simp [World.cell?, hR]
    have r4 : w0.cell? ⟨H + 1, 4, none⟩ = some (.slice none 0 0) := by simp [World.cell?, hR]
    have f0 : ∀ j, w0.frozen? ⟨H + 1, j, none⟩ = false := fun j => by simp [World.frozen?, hR]
    have z0 := f0 0
    have z1 := f0 1
    have z2 := f0 2
    have z3 := f0 3
    have z4 := f0 4
    clear hR f0
    have HRR : Hid (w0.heap[H + 1]? = some (.cells #[.int .i64 0, .int .i64 0, .string ⟨#[]⟩, .slice none 0 0, .slice none 0 0] 56 (0, 0))) := (HK.out w0 BW.out).2.1
    have HBB : Hid (Below w.heap.size w w0) := by rw [HS.out]; exact (HB0.out.trans (BW.out.mono (by have := HB0.out.size; have := HS.out; omega)))
    clear HK BW
    go_wp2
    exact bodyPost_ret (v := .tuple #[.agg #[.int .i64 0, .int .i64 0, .string ⟨#[]⟩, .slice none 0 0, .slice none 0 0], .bool false]) (results_cell2 Try.results46 _ _ (H + 1) _ rfl (ow.set (ow.set (ow.set (ow.set (ow.set HRR.out 0 _) 1 _) 2 _) 3 _) 4 _) rfl) rfl ⟨rfl, below5 HBB.out (by rw [HS.out]; omega) _ _ _ _ _⟩
  by_cases h2 : 1048576 < sz
  · have BW : Hid (Below w0.heap.size w0 w0) := Below.refl _ _
    clear HC1 HC2 HWZ hb
    have hR := (HK.out w0 BW.out).2.1
    have r0 : w0.cell? ⟨H + 1, 0, none⟩ = some (.int .i64 0) := by simp [World.cell?, hR]
    have r1 : w0.cell? ⟨H + 1, 1, none⟩ = some (.int .i64 0) := by simp [World.cell?, hR]
    have r2 : w0.cell? ⟨H + 1, 2, none⟩ = some (.string ⟨#[]⟩) := by simp [World.cell?, hR]
    have r3 : w0.cell? ⟨H + 1, 3, none⟩ = some (.slice none 0 0) := by simp [World.cell?, hR]
    have r4 : w0.cell? ⟨H + 1, 4, none⟩ = some (.slice none 0 0) := by simp [World.cell?, hR]
    have f0 : ∀ j, w0.frozen? ⟨H + 1, j, none⟩ = false := fun j => by simp [World.frozen?, hR]
    have z0 := f0 0
    have z1 := f0 1
    have z2 := f0 2
    have z3 := f0 3
    have z4 := f0 4
    clear hR f0
    have HRR : Hid (w0.heap[H + 1]? = some (.cells #[.int .i64 0, .int .i64 0, .string ⟨#[]⟩, .slice none 0 0, .slice none 0 0] 56 (0, 0))) := (HK.out w0 BW.out).2.1
    have HBB : Hid (Below w.heap.size w w0) := by rw [HS.out]; exact (HB0.out.trans (BW.out.mono (by have := HB0.out.size; have := HS.out; omega)))
    clear HK BW
    go_wp2
    exact bodyPost_ret (v := .tuple #[.agg #[.int .i64 0, .int .i64 0, .string ⟨#[]⟩, .slice none 0 0, .slice none 0 0], .bool false]) (results_cell2 Try.results46 _ _ (H + 1) _ rfl (ow.set (ow.set (ow.set (ow.set (ow.set HRR.out 0 _) 1 _) 2 _) 3 _) 4 _) rfl) rfl ⟨rfl, below5 HBB.out (by rw [HS.out]; omega) _ _ _ _ _⟩
  by_cases h3 : qu < 0
  · have BW : Hid (Below w0.heap.size w0 w0) := Below.refl _ _
    clear HC1 HC2 HWZ hb
    have hR := (HK.out w0 BW.out).2.1
    have r0 : w0.cell? ⟨H + 1, 0, none⟩ = some (.int .i64 0) := by simp [World.cell?, hR]
    have r1 : w0.cell? ⟨H + 1, 1, none⟩ = some (.int .i64 0) := by simp [World.cell?, hR]
    have r2 : w0.cell? ⟨H + 1, 2, none⟩ = some (.string ⟨#[]⟩) := by simp [World.cell?, hR]
    have r3 : w0.cell? ⟨H + 1, 3, none⟩ = some (.slice none 0 0) := by simp [World.cell?, hR]
    have r4 : w0.cell? ⟨H + 1, 4, none⟩ = some (.slice none 0 0) := by simp [World.cell?, hR]
    have f0 : ∀ j, w0.frozen? ⟨H + 1, j, none⟩ = false := fun j => by simp [World.frozen?, hR]
    have z0 := f0 0
    have z1 := f0 1
    have z2 := f0 2
    have z3 := f0 3
    have z4 := f0 4
    clear hR f0
    have HRR : Hid (w0.heap[H + 1]? = some (.cells #[.int .i64 0, .int .i64 0, .string ⟨#[]⟩, .slice none 0 0, .slice none 0 0] 56 (0, 0))) := (HK.out w0 BW.out).2.1
    have HBB : Hid (Below w.heap.size w w0) := by rw [HS.out]; exact (HB0.out.trans (BW.out.mono (by have := HB0.out.size; have := HS.out; omega)))
    clear HK BW
    go_wp2
    exact bodyPost_ret (v := .tuple #[.agg #[.int .i64 0, .int .i64 0, .string ⟨#[]⟩, .slice none 0 0, .slice none 0 0], .bool false]) (results_cell2 Try.results46 _ _ (H + 1) _ rfl (ow.set (ow.set (ow.set (ow.set (ow.set HRR.out 0 _) 1 _) 2 _) 3 _) 4 _) rfl) rfl ⟨rfl, below5 HBB.out (by rw [HS.out]; omega) _ _ _ _ _⟩
  go_wp2_with fail
  refine (HC1.out w0 (Below.refl _ _)).mono ?_
  rintro e w1 ⟨rfl, b1⟩
  have BW1 : Hid (Below w0.heap.size w0 w1) := b1
  clear b1 x0 x1 x2 x3 x4 HC1
  cases h4 : ns.any (fun x => !idB x.2) with
  | true =>
    have BW : Hid (Below w0.heap.size w0 w1) := BW1.out
    clear HC2 HWZ hb h4 BW1
    have hR := (HK.out w1 BW.out).2.1
    have r0 : w1.cell? ⟨H + 1, 0, none⟩ = some (.int .i64 0) := by simp [World.cell?, hR]
    have r1 : w1.cell? ⟨H + 1, 1, none⟩ = some (.int .i64 0) := by simp [World.cell?, hR]
    have r2 : w1.cell? ⟨H + 1, 2, none⟩ = some (.string ⟨#[]⟩) := by simp [World.cell?, hR]
    have r3 : w1.cell? ⟨H + 1, 3, none⟩ = some (.slice none 0 0) := by simp [World.cell?, hR]
    have r4 : w1.cell? ⟨H + 1, 4, none⟩ = some (.slice none 0 0) := by simp [World.cell?, hR]
    have f0 : ∀ j, w1.frozen? ⟨H + 1, j, none⟩ = false := fun j => by simp [World.frozen?, hR]
    have z0 := f0 0
    have z1 := f0 1
    have z2 := f0 2
    have z3 := f0 3
    have z4 := f0 4
    clear hR f0
    have HRR : Hid (w1.heap[H + 1]? = some (.cells #[.int .i64 0, .int .i64 0, .string ⟨#[]⟩, .slice none 0 0, .slice none 0 0] 56 (0, 0))) := (HK.out w1 BW.out).2.1
    have HBB : Hid (Below w.heap.size w w1) := by rw [HS.out]; exact (HB0.out.trans (BW.out.mono (by have := HB0.out.size; have := HS.out; omega)))
    clear HK BW
    go_wp2
    exact bodyPost_ret (v := .tuple #[.agg #[.int .i64 0, .int .i64 0, .string ⟨#[]⟩, .slice none 0 0, .slice none 0 0], .bool false]) (results_cell2 Try.results46 _ _ (H + 1) _ rfl (ow.set (ow.set (ow.set (ow.set (ow.set HRR.out 0 _) 1 _) 2 _) 3 _) 4 _) rfl) rfl ⟨rfl, below5 HBB.out (by rw [HS.out]; omega) _ _ _ _ _⟩
  | false =>
    obtain ⟨x0, x1, x2, x3, x4⟩ := (HK.out w1 BW1.out).box
    go_wp2_with fail
    refine (HC2.out w1 BW1.out).mono ?_
    rintro e w2 ⟨rfl, b2⟩
    have BW : Hid (Below w0.heap.size w0 w2) := BW1.out.trans (b2.mono BW1.out.size)
    have h5 : es.any (fun e => owB e.key) = true := by
      cases hq : es.any (fun e => owB e.key) with
      | true => rfl
      | false =>
        exfalso
        unfold wsB at hb
        rw [h4, hq, decide_eq_true (by omega : 0 ≤ sz), decide_eq_true (by omega : sz ≤ 1048576), decide_eq_true (by omega : 0 ≤ qu)] at hb
        exact absurd hb (by decide)
    rw [h5]
    clear b2 x0 x1 x2 x3 x4 HC2 HWZ hb h4 h5 BW1
    have hR := (HK.out w2 BW.out).2.1
    have r0 : w2.cell? ⟨H + 1, 0, none⟩ = some (.int .i64 0) := by simp [World.cell?, hR]
    have r1 : w2.cell? ⟨H + 1, 1, none⟩ = some (.int .i64 0) := by simp [World.cell?, hR]
    have r2 : w2.cell? ⟨H + 1, 2, none⟩ = some (.string ⟨#[]⟩) := by simp [World.cell?, hR]
    have r3 : w2.cell? ⟨H + 1, 3, none⟩ = some (.slice none 0 0) := by simp [World.cell?, hR]
    have r4 : w2.cell? ⟨H + 1, 4, none⟩ = some (.slice none 0 0) := by simp [World.cell?, hR]
    have f0 : ∀ j, w2.frozen? ⟨H + 1, j, none⟩ = false := fun j => by simp [World.frozen?, hR]
    have z0 := f0 0
    have z1 := f0 1
    have z2 := f0 2
    have z3 := f0 3
    have z4 := f0 4
    clear hR f0
    have HRR : Hid (w2.heap[H + 1]? = some (.cells #[.int .i64 0, .int .i64 0, .string ⟨#[]⟩, .slice none 0 0, .slice none 0 0] 56 (0, 0))) := (HK.out w2 BW.out).2.1
    have HBB : Hid (Below w.heap.size w w2) := by rw [HS.out]; exact (HB0.out.trans (BW.out.mono (by have := HB0.out.size; have := HS.out; omega)))
    clear HK BW
    go_wp2
    exact bodyPost_ret (v := .tuple #[.agg #[.int .i64 0, .int .i64 0, .string ⟨#[]⟩, .slice none 0 0, .slice none 0 0], .bool false]) (results_cell2 Try.results46 _ _ (H + 1) _ rfl (ow.set (ow.set (ow.set (ow.set (ow.set HRR.out 0 _) 1 _) 2 _) 3 _) 4 _) rfl) rfl ⟨rfl, below5 HBB.out (by rw [HS.out]; omega) _ _ _ _ _⟩
end Go.Proofs.Ytldkecjfjcnkfaa
