import Derived.Test.YtkbfphdedgeofaaBs
namespace Go.Proofs.Ytkbfphdedgeofaa
open Go.RowKit
theorem results_tmp4 {fn : Func} {t u v x : Tmp} (h : fn.results = #[.tmp t, .tmp u, .tmp v, .tmp x]) (tmps : Array Value) (P : Program) (w : World) :
    (results fn tmps).run P w = .ok (.tuple #[tmps.getD t undef, tmps.getD u undef, tmps.getD v undef, tmps.getD x undef]) w := by
  simp [results, h]
/-- the reference's reader -/
def RF (w : World) (S : Nat) (h : Bool) (av : Value) (f : Int) : Prop := w.heap[S]? = some (.cells #[.bool h, av, .int .i64 f] 63 (0, 0))
theorem RF.lt {w : World} {S : Nat} {h : Bool} {av : Value} {f : Int} (k : RF w S h av f) : S < w.heap.size := (Array.getElem?_eq_some_iff.1 k).1
theorem RF.c0 {w : World} {S : Nat} {h : Bool} {av : Value} {f : Int} (k : RF w S h av f) : w.cell? ⟨S, 0, none⟩ = some (.bool h) := by simp [World.cell?, (show w.heap[S]? = _ from k)]
theorem RF.c1 {w : World} {S : Nat} {h : Bool} {av : Value} {f : Int} (k : RF w S h av f) : w.cell? ⟨S, 1, none⟩ = some av := by simp [World.cell?, (show w.heap[S]? = _ from k)]
theorem RF.c2 {w : World} {S : Nat} {h : Bool} {av : Value} {f : Int} (k : RF w S h av f) : w.cell? ⟨S, 2, none⟩ = some (.int .i64 f) := by simp [World.cell?, (show w.heap[S]? = _ from k)]
set_option maxHeartbeats 1000000 in
theorem refFault (w : World) (S : Nat) (h : Bool) (av : Value) (f : Int) (k : RF w S h av f) :
    Calls Try.prog 23 #[.pointer (some ⟨S, 0, none⟩)] w fun e w' => e = .returned (.int .i64 f) ∧ w' = w := by
  have c2 := k.c2
  clear k
  go_enter Try.func23, Try.ntmps23
  go_wp2
  go_ret
  exact ⟨rfl, rfl⟩
set_option maxHeartbeats 1000000 in
theorem refFault_nil (w : World) :
    Calls Try.prog 23 #[.pointer none] w fun e w' => e = .returned (.int .i64 1) ∧ w' = w := by
  go_enter Try.func23, Try.ntmps23
  go_wp2
  go_ret
  exact ⟨rfl, rfl⟩
set_option maxHeartbeats 1000000 in
/-- a stream that begins with no handshake -/
theorem read_frames (w : World) (S : Nat) (av : Value) (f : Int) (k : RF w S false av f) (v : Value) (l : List UInt8) (hl : l.length ≤ 33554432) (hr : RB w v l) :
    Calls Try.prog 30 #[.pointer (some ⟨S, 0, none⟩), v] w fun e w' => ∃ bv bs kk er, e = .returned (.tuple #[.slice none 0 0, bv, .int .i64 (kk : Nat), .int .i64 er]) ∧ Rd false l [] bs false (l.drop kk) er ∧ kk = sz bs ∧ OR w.heap.size w' bv bs ∧ Below w.heap.size w w' := by
  have c0 := k.c0
  have SP := split v l 0 (Nat.zero_le _) hl w hr
  obtain ⟨a, c, rfl, _, _⟩ := hr
  clear k
  go_enter Try.func30, Try.ntmps30
  go_wp2_with fail
  refine SP.mono ?_
  rintro e w1 ⟨bv, bs, kk, er, rfl, h1, h2, h3, h4, h5⟩
  rw [List.drop_zero] at h1
  have HE : Hid (Rd false l [] bs false (l.drop kk) er ∧ kk = sz bs ∧ OR w.heap.size w1 bv bs ∧ Below w.heap.size w w1) := ⟨h1, by omega, h4, h5⟩
  clear h1 h2 h3 h4 h5 SP
  go_wp2
  (try simp only [Exit.inBlock, Exit.then])
  refine bodyPost_ret (results_tmp4 rfl _ _ _) rfl ?_
  exact ⟨_, bs, kk, er, rfl, HE.out⟩
set_option maxHeartbeats 1000000 in
/-- a stream that has a wrong beginning, or too few bytes yet -/
theorem read_hello_no (w : World) (S : Nat) (av : Value) (f : Int) (k : RF w S true av f) (v : Value) (l : List UInt8) (hl : l.length ≤ 33554432) (hr : RB w v l) (hno : sok l 0 = false ∨ l.length < 68) :
    Calls Try.prog 30 #[.pointer (some ⟨S, 0, none⟩), v] w fun e w' => ∃ er, e = .returned (.tuple #[.slice none 0 0, .slice none 0 0, .int .i64 0, .int .i64 er]) ∧ Rd true l [] [] true l er ∧ Below w.heap.size w w' := by
  have c0 := k.c0
  have MM := meetR v l (by omega) w hr
  obtain ⟨a, c, rfl, _, _⟩ := hr
  have HML : Hid ((mtH l).length = 48) := mt_len l
  by_cases hs : sok l 0 = true
  · have h68 : l.length < 68 := by rcases hno with h | h; rw [hs] at h; cases h; exact h
    rw [(mt_few hs h68).1] at MM
    have HRD : Hid (Rd true l [] [] true l 0) := Rd.few l hs h68
    clear k hno hs h68
    generalize mtH l = mH at *
    have hi := info_hello HML.out
    have hone := bc_one mH
    go_enter Try.func30, Try.ntmps30
    go_wp2_with fail
    refine MM.mono ?_
    rintro e w1 ⟨rfl, b1⟩
    have HE : Hid (Below w.heap.size w ((w1.alloc (.cells #[Value.int .u8 0, Value.int .u8 0, Value.int .u8 0, Value.int .u8 0, Value.int .u8 0, Value.int .u8 0, Value.int .u8 0, Value.int .u8 0, Value.int .u8 0, Value.int .u8 0, Value.int .u8 0, Value.int .u8 0, Value.int .u8 0, Value.int .u8 0, Value.int .u8 0, Value.int .u8 0, Value.int .u8 0, Value.int .u8 0, Value.int .u8 0, Value.int .u8 0, Value.int .u8 0, Value.int .u8 0, Value.int .u8 0, Value.int .u8 0, Value.int .u8 0, Value.int .u8 0, Value.int .u8 0, Value.int .u8 0, Value.int .u8 0, Value.int .u8 0, Value.int .u8 0, Value.int .u8 0, Value.int .u8 0, Value.int .u8 0, Value.int .u8 0, Value.int .u8 0, Value.int .u8 0, Value.int .u8 0, Value.int .u8 0, Value.int .u8 0, Value.int .u8 0, Value.int .u8 0, Value.int .u8 0, Value.int .u8 0, Value.int .u8 0, Value.int .u8 0, Value.int .u8 0, Value.int .u8 0] 25)).setRow w1.heap.size (bc mH))) := b1.trans ((belowSetRow ((Below.refl _ _).alloc (Nat.le_refl _) _) (Nat.le_refl _) _).mono b1.size)
    have hszH : (bc (zr 48)).size = (bc mH).size := by rw [bc_size, bc_size, zr_len]; exact HML.out.symm
    clear b1 MM
    go_wp2_with (first | (refine wpList_store_row rfl 25 _ _ rfl w1.heap.size (bc mH) rfl rfl 25 (bc (zr 48)) (heapNew w1 _) hi hszH hone ?_))
    (try simp only [Exit.inBlock, Exit.then])
    refine bodyPost_ret (results_tmp4 rfl _ _ _) rfl ?_
    exact ⟨0, rfl, HRD.out, HE.out⟩
  · have hs' : sok l 0 = false := by simpa using hs
    rw [(mt_no hs').1] at MM
    have HRD : Hid (Rd true l [] [] true l 100) := Rd.bad l hs'
    clear k hno hs hs'
    generalize mtH l = mH at *
    have hi := info_hello HML.out
    have hone := bc_one mH
    go_enter Try.func30, Try.ntmps30
    go_wp2_with fail
    refine MM.mono ?_
    rintro e w1 ⟨rfl, b1⟩
    have HE : Hid (Below w.heap.size w ((w1.alloc (.cells #[Value.int .u8 0, Value.int .u8 0, Value.int .u8 0, Value.int .u8 0, Value.int .u8 0, Value.int .u8 0, Value.int .u8 0, Value.int .u8 0, Value.int .u8 0, Value.int .u8 0, Value.int .u8 0, Value.int .u8 0, Value.int .u8 0, Value.int .u8 0, Value.int .u8 0, Value.int .u8 0, Value.int .u8 0, Value.int .u8 0, Value.int .u8 0, Value.int .u8 0, Value.int .u8 0, Value.int .u8 0, Value.int .u8 0, Value.int .u8 0, Value.int .u8 0, Value.int .u8 0, Value.int .u8 0, Value.int .u8 0, Value.int .u8 0, Value.int .u8 0, Value.int .u8 0, Value.int .u8 0, Value.int .u8 0, Value.int .u8 0, Value.int .u8 0, Value.int .u8 0, Value.int .u8 0, Value.int .u8 0, Value.int .u8 0, Value.int .u8 0, Value.int .u8 0, Value.int .u8 0, Value.int .u8 0, Value.int .u8 0, Value.int .u8 0, Value.int .u8 0, Value.int .u8 0, Value.int .u8 0] 25)).setRow w1.heap.size (bc mH))) := b1.trans ((belowSetRow ((Below.refl _ _).alloc (Nat.le_refl _) _) (Nat.le_refl _) _).mono b1.size)
    have hszH : (bc (zr 48)).size = (bc mH).size := by rw [bc_size, bc_size, zr_len]; exact HML.out.symm
    clear b1 MM
    go_wp2_with (first | (refine wpList_store_row rfl 25 _ _ rfl w1.heap.size (bc mH) rfl rfl 25 (bc (zr 48)) (heapNew w1 _) hi hszH hone ?_))
    (try simp only [Exit.inBlock, Exit.then])
    refine bodyPost_ret (results_tmp4 rfl _ _ _) rfl ?_
    exact ⟨100, rfl, HRD.out, HE.out⟩
theorem OR.weak {B B' : Nat} {w : World} {v : Value} {bs : List (List UInt8)} (h : OR B w v bs) (hb : B' ≤ B) : OR B' w v bs := by
  obtain ⟨us, h1, h2, h3⟩ := h
  exact ⟨us, h1, ownsRow_mono h2 hb, fun i hi => ownsRow_mono (h3 i hi) hb⟩
theorem OM.of_block {B : Nat} {w : World} {g : Nat} {h : List UInt8} (hB : B ≤ g) (hg : w.heap[g]? = some (.cells (bc h) 25 (0, 0))) (hl : h.length = 48) : OM B w (.slice (some ⟨g, 0, none⟩) 1 1) [h] := by
  refine ⟨⟨by simp [bcl_len, hl], .inr ⟨g, 1, _, rfl, hB, hg, by simp, by unfold maxLen; omega, by rw [bc_size, hl], ?_⟩⟩, by simpa using hl⟩
  rw [bc_list, bcl_take]
  simp
  rw [List.take_of_length_le (by omega)]
set_option maxHeartbeats 2000000 in
set_option maxRecDepth 100000 in
/-- a stream with its handshake whole -/
theorem read_hello_yes (w : World) (S : Nat) (av : Value) (f : Int) (k : RF w S true av f) (v : Value) (l : List UInt8) (hl : l.length ≤ 33554432) (hr : RB w v l) (hs : sok l 0 = true) (h68 : 68 ≤ l.length) :
    Calls Try.prog 30 #[.pointer (some ⟨S, 0, none⟩), v] w fun e w' => ∃ mv bv bs kk er, e = .returned (.tuple #[mv, bv, .int .i64 (kk : Nat), .int .i64 er]) ∧ Rd true l [hel l] bs false (l.drop kk) er ∧ kk = 68 + sz bs ∧ OM w.heap.size w' mv [hel l] ∧ OR w.heap.size w' bv bs ∧ Below w.heap.size w w' := by
  have c0 := k.c0
  have MM := meetR v l (by omega) w hr
  have HR : Hid (RB w v l) := hr
  obtain ⟨a, c, rfl, _, _⟩ := hr
  rw [(mt_yes hs h68).1, (mt_yes hs h68).2] at MM
  have HML : Hid ((hel l).length = 48) := hel_len l h68
  have HS : Hid (sok l 0 = true ∧ 68 ≤ l.length) := ⟨hs, h68⟩
  clear k hs h68
  have hi := info_hello HML.out
  have hone := bc_one (hel l)
  go_enter Try.func30, Try.ntmps30
  go_wp2_with fail
  refine MM.mono ?_
  rintro e w1 ⟨rfl, b1⟩
  have HE : Hid (Below w.heap.size w ((w1.alloc (.cells #[Value.int .u8 0, Value.int .u8 0, Value.int .u8 0, Value.int .u8 0, Value.int .u8 0, Value.int .u8 0, Value.int .u8 0, Value.int .u8 0, Value.int .u8 0, Value.int .u8 0, Value.int .u8 0, Value.int .u8 0, Value.int .u8 0, Value.int .u8 0, Value.int .u8 0, Value.int .u8 0, Value.int .u8 0, Value.int .u8 0, Value.int .u8 0, Value.int .u8 0, Value.int .u8 0, Value.int .u8 0, Value.int .u8 0, Value.int .u8 0, Value.int .u8 0, Value.int .u8 0, Value.int .u8 0, Value.int .u8 0, Value.int .u8 0, Value.int .u8 0, Value.int .u8 0, Value.int .u8 0, Value.int .u8 0, Value.int .u8 0, Value.int .u8 0, Value.int .u8 0, Value.int .u8 0, Value.int .u8 0, Value.int .u8 0, Value.int .u8 0, Value.int .u8 0, Value.int .u8 0, Value.int .u8 0, Value.int .u8 0, Value.int .u8 0, Value.int .u8 0, Value.int .u8 0, Value.int .u8 0] 25)).setRow w1.heap.size (bc (hel l)))) := b1.trans ((belowSetRow ((Below.refl _ _).alloc (Nat.le_refl _) _) (Nat.le_refl _) _).mono b1.size)
  have HG : ((w1.alloc (.cells #[Value.int .u8 0, Value.int .u8 0, Value.int .u8 0, Value.int .u8 0, Value.int .u8 0, Value.int .u8 0, Value.int .u8 0, Value.int .u8 0, Value.int .u8 0, Value.int .u8 0, Value.int .u8 0, Value.int .u8 0, Value.int .u8 0, Value.int .u8 0, Value.int .u8 0, Value.int .u8 0, Value.int .u8 0, Value.int .u8 0, Value.int .u8 0, Value.int .u8 0, Value.int .u8 0, Value.int .u8 0, Value.int .u8 0, Value.int .u8 0, Value.int .u8 0, Value.int .u8 0, Value.int .u8 0, Value.int .u8 0, Value.int .u8 0, Value.int .u8 0, Value.int .u8 0, Value.int .u8 0, Value.int .u8 0, Value.int .u8 0, Value.int .u8 0, Value.int .u8 0, Value.int .u8 0, Value.int .u8 0, Value.int .u8 0, Value.int .u8 0, Value.int .u8 0, Value.int .u8 0, Value.int .u8 0, Value.int .u8 0, Value.int .u8 0, Value.int .u8 0, Value.int .u8 0, Value.int .u8 0] 25)).setRow w1.heap.size (bc (hel l))).heap[w1.heap.size]? = some (.cells (bc (hel l)) 25 (0, 0)) := heapSetRow _ _ _ _ _ (heapNew w1 _)
  have hszH : (bc (zr 48)).size = (bc (hel l)).size := by rw [bc_size, bc_size, zr_len]; exact HML.out.symm
  have HSP : Hid (Calls Try.prog 31 #[.slice a l.length c, .int .i64 68] (((w1.alloc (.cells #[Value.int .u8 0, Value.int .u8 0, Value.int .u8 0, Value.int .u8 0, Value.int .u8 0, Value.int .u8 0, Value.int .u8 0, Value.int .u8 0, Value.int .u8 0, Value.int .u8 0, Value.int .u8 0, Value.int .u8 0, Value.int .u8 0, Value.int .u8 0, Value.int .u8 0, Value.int .u8 0, Value.int .u8 0, Value.int .u8 0, Value.int .u8 0, Value.int .u8 0, Value.int .u8 0, Value.int .u8 0, Value.int .u8 0, Value.int .u8 0, Value.int .u8 0, Value.int .u8 0, Value.int .u8 0, Value.int .u8 0, Value.int .u8 0, Value.int .u8 0, Value.int .u8 0, Value.int .u8 0, Value.int .u8 0, Value.int .u8 0, Value.int .u8 0, Value.int .u8 0, Value.int .u8 0, Value.int .u8 0, Value.int .u8 0, Value.int .u8 0, Value.int .u8 0, Value.int .u8 0, Value.int .u8 0, Value.int .u8 0, Value.int .u8 0, Value.int .u8 0, Value.int .u8 0, Value.int .u8 0] 25)).setRow w1.heap.size (bc (hel l))).alloc (.cells (bc (hel l)) 25)) fun e w' => ∃ bv bs k er, e = .returned (.tuple #[bv, .int .i64 (k : Nat), .int .i64 er]) ∧ Rd false (l.drop 68) [] bs false (l.drop k) er ∧ k = 68 + sz bs ∧ k ≤ l.length ∧ OR (((w1.alloc (.cells #[Value.int .u8 0, Value.int .u8 0, Value.int .u8 0, Value.int .u8 0, Value.int .u8 0, Value.int .u8 0, Value.int .u8 0, Value.int .u8 0, Value.int .u8 0, Value.int .u8 0, Value.int .u8 0, Value.int .u8 0, Value.int .u8 0, Value.int .u8 0, Value.int .u8 0, Value.int .u8 0, Value.int .u8 0, Value.int .u8 0, Value.int .u8 0, Value.int .u8 0, Value.int .u8 0, Value.int .u8 0, Value.int .u8 0, Value.int .u8 0, Value.int .u8 0, Value.int .u8 0, Value.int .u8 0, Value.int .u8 0, Value.int .u8 0, Value.int .u8 0, Value.int .u8 0, Value.int .u8 0, Value.int .u8 0, Value.int .u8 0, Value.int .u8 0, Value.int .u8 0, Value.int .u8 0, Value.int .u8 0, Value.int .u8 0, Value.int .u8 0, Value.int .u8 0, Value.int .u8 0, Value.int .u8 0, Value.int .u8 0, Value.int .u8 0, Value.int .u8 0, Value.int .u8 0, Value.int .u8 0] 25)).setRow w1.heap.size (bc (hel l))).alloc (.cells (bc (hel l)) 25)).heap.size w' bv bs ∧ Below (((w1.alloc (.cells #[Value.int .u8 0, Value.int .u8 0, Value.int .u8 0, Value.int .u8 0, Value.int .u8 0, Value.int .u8 0, Value.int .u8 0, Value.int .u8 0, Value.int .u8 0, Value.int .u8 0, Value.int .u8 0, Value.int .u8 0, Value.int .u8 0, Value.int .u8 0, Value.int .u8 0, Value.int .u8 0, Value.int .u8 0, Value.int .u8 0, Value.int .u8 0, Value.int .u8 0, Value.int .u8 0, Value.int .u8 0, Value.int .u8 0, Value.int .u8 0, Value.int .u8 0, Value.int .u8 0, Value.int .u8 0, Value.int .u8 0, Value.int .u8 0, Value.int .u8 0, Value.int .u8 0, Value.int .u8 0, Value.int .u8 0, Value.int .u8 0, Value.int .u8 0, Value.int .u8 0, Value.int .u8 0, Value.int .u8 0, Value.int .u8 0, Value.int .u8 0, Value.int .u8 0, Value.int .u8 0, Value.int .u8 0, Value.int .u8 0, Value.int .u8 0, Value.int .u8 0, Value.int .u8 0, Value.int .u8 0] 25)).setRow w1.heap.size (bc (hel l))).alloc (.cells (bc (hel l)) 25)).heap.size (((w1.alloc (.cells #[Value.int .u8 0, Value.int .u8 0, Value.int .u8 0, Value.int .u8 0, Value.int .u8 0, Value.int .u8 0, Value.int .u8 0, Value.int .u8 0, Value.int .u8 0, Value.int .u8 0, Value.int .u8 0, Value.int .u8 0, Value.int .u8 0, Value.int .u8 0, Value.int .u8 0, Value.int .u8 0, Value.int .u8 0, Value.int .u8 0, Value.int .u8 0, Value.int .u8 0, Value.int .u8 0, Value.int .u8 0, Value.int .u8 0, Value.int .u8 0, Value.int .u8 0, Value.int .u8 0, Value.int .u8 0, Value.int .u8 0, Value.int .u8 0, Value.int .u8 0, Value.int .u8 0, Value.int .u8 0, Value.int .u8 0, Value.int .u8 0, Value.int .u8 0, Value.int .u8 0, Value.int .u8 0, Value.int .u8 0, Value.int .u8 0, Value.int .u8 0, Value.int .u8 0, Value.int .u8 0, Value.int .u8 0, Value.int .u8 0, Value.int .u8 0, Value.int .u8 0, Value.int .u8 0, Value.int .u8 0] 25)).setRow w1.heap.size (bc (hel l))).alloc (.cells (bc (hel l)) 25)) w') := split _ l 68 HS.out.2 hl _ ((HR.out.keep HE.out).keep ((Below.refl _ _).alloc (Nat.le_refl _) _))
  have HM2 : Hid (OM w.heap.size (((w1.alloc (.cells #[Value.int .u8 0, Value.int .u8 0, Value.int .u8 0, Value.int .u8 0, Value.int .u8 0, Value.int .u8 0, Value.int .u8 0, Value.int .u8 0, Value.int .u8 0, Value.int .u8 0, Value.int .u8 0, Value.int .u8 0, Value.int .u8 0, Value.int .u8 0, Value.int .u8 0, Value.int .u8 0, Value.int .u8 0, Value.int .u8 0, Value.int .u8 0, Value.int .u8 0, Value.int .u8 0, Value.int .u8 0, Value.int .u8 0, Value.int .u8 0, Value.int .u8 0, Value.int .u8 0, Value.int .u8 0, Value.int .u8 0, Value.int .u8 0, Value.int .u8 0, Value.int .u8 0, Value.int .u8 0, Value.int .u8 0, Value.int .u8 0, Value.int .u8 0, Value.int .u8 0, Value.int .u8 0, Value.int .u8 0, Value.int .u8 0, Value.int .u8 0, Value.int .u8 0, Value.int .u8 0, Value.int .u8 0, Value.int .u8 0, Value.int .u8 0, Value.int .u8 0, Value.int .u8 0, Value.int .u8 0] 25)).setRow w1.heap.size (bc (hel l))).alloc (.cells (bc (hel l)) 25)) (.slice (some ⟨w1.heap.size + 1, 0, none⟩) 1 1) [hel l] ∧ Below w.heap.size w (((w1.alloc (.cells #[Value.int .u8 0, Value.int .u8 0, Value.int .u8 0, Value.int .u8 0, Value.int .u8 0, Value.int .u8 0, Value.int .u8 0, Value.int .u8 0, Value.int .u8 0, Value.int .u8 0, Value.int .u8 0, Value.int .u8 0, Value.int .u8 0, Value.int .u8 0, Value.int .u8 0, Value.int .u8 0, Value.int .u8 0, Value.int .u8 0, Value.int .u8 0, Value.int .u8 0, Value.int .u8 0, Value.int .u8 0, Value.int .u8 0, Value.int .u8 0, Value.int .u8 0, Value.int .u8 0, Value.int .u8 0, Value.int .u8 0, Value.int .u8 0, Value.int .u8 0, Value.int .u8 0, Value.int .u8 0, Value.int .u8 0, Value.int .u8 0, Value.int .u8 0, Value.int .u8 0, Value.int .u8 0, Value.int .u8 0, Value.int .u8 0, Value.int .u8 0, Value.int .u8 0, Value.int .u8 0, Value.int .u8 0, Value.int .u8 0, Value.int .u8 0, Value.int .u8 0, Value.int .u8 0, Value.int .u8 0] 25)).setRow w1.heap.size (bc (hel l))).alloc (.cells (bc (hel l)) 25))) := by
    have e : ((w1.alloc (.cells #[Value.int .u8 0, Value.int .u8 0, Value.int .u8 0, Value.int .u8 0, Value.int .u8 0, Value.int .u8 0, Value.int .u8 0, Value.int .u8 0, Value.int .u8 0, Value.int .u8 0, Value.int .u8 0, Value.int .u8 0, Value.int .u8 0, Value.int .u8 0, Value.int .u8 0, Value.int .u8 0, Value.int .u8 0, Value.int .u8 0, Value.int .u8 0, Value.int .u8 0, Value.int .u8 0, Value.int .u8 0, Value.int .u8 0, Value.int .u8 0, Value.int .u8 0, Value.int .u8 0, Value.int .u8 0, Value.int .u8 0, Value.int .u8 0, Value.int .u8 0, Value.int .u8 0, Value.int .u8 0, Value.int .u8 0, Value.int .u8 0, Value.int .u8 0, Value.int .u8 0, Value.int .u8 0, Value.int .u8 0, Value.int .u8 0, Value.int .u8 0, Value.int .u8 0, Value.int .u8 0, Value.int .u8 0, Value.int .u8 0, Value.int .u8 0, Value.int .u8 0, Value.int .u8 0, Value.int .u8 0] 25)).setRow w1.heap.size (bc (hel l))).heap.size = w1.heap.size + 1 := by rw [setRow_size]; simp
    exact ⟨OM.of_block (by rw [← e]; exact HE.out.size) (by rw [← e]; exact heapNew _ _) HML.out, HE.out.alloc HE.out.size _⟩
  clear b1 MM
  go_wp2_with (first | (refine wpList_store_row rfl 25 _ _ rfl w1.heap.size (bc (hel l)) rfl rfl 25 (bc (zr 48)) (heapNew w1 _) hi hszH hone ?_) | (refine wpList_load_row rfl 25 _ rfl w1.heap.size rfl 25 (bc (hel l)) (0, 0) _ HG Try.underlying25 rfl hi ?_) | (refine build_hello rfl _ rfl (hel l) rfl HML.out ?_))
  refine HSP.out.mono ?_
  rintro e w2 ⟨bv, bs, kk, er, rfl, h1, h2, h3, h4, h5⟩
  have HF : Hid (Rd true l [hel l] bs false (l.drop kk) er ∧ kk = 68 + sz bs ∧ OM w.heap.size w2 (.slice (some ⟨w1.heap.size + 1, 0, none⟩) 1 1) [hel l] ∧ OR w.heap.size w2 bv bs ∧ Below w.heap.size w w2) := ⟨Rd.hello l [] bs false _ er HS.out.1 HS.out.2 h1, h2, HM2.out.1.keepB h5, h4.weak HM2.out.2.size, HM2.out.2.trans (h5.mono HM2.out.2.size)⟩
  clear h1 h2 h3 h4 h5
  go_wp2
  (try simp only [Exit.inBlock, Exit.then])
  refine bodyPost_ret (results_tmp4 rfl _ _ _) rfl ?_
  exact ⟨_, _, bs, kk, er, rfl, HF.out⟩
end Go.Proofs.Ytkbfphdedgeofaa
