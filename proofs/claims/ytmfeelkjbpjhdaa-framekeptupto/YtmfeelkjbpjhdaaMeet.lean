import Derived.Test.YtmfeelkjbpjhdaaSigned
import Derived.Test.YtmfeelkjbpjhdaaSign
namespace Go.Proofs.Ytmfeelkjbpjhdaa
open Go.RowKit
/-- what a handshake's text holds behind its sign -/
def hel (l : List UInt8) : List UInt8 := (l.drop 20).take 48
theorem hel_len (l : List UInt8) (h : 68 ≤ l.length) : (hel l).length = 48 := by unfold hel; rw [List.length_take, List.length_drop]; omega
theorem zero_hello : (Try.prog.info? 25).map (fun i => (i.zero, i.size)) = some (some (.agg (bc (zr 48))), 48) := by kernel_rfl
theorem info_hello {hb : List UInt8} (hl : hb.length = 48) : (Try.prog.info? 25).map (·.size) = some (bc hb).size := by rw [bc_size, hl]; kernel_rfl
set_option maxRecDepth 100000 in
theorem results_hello {fn : Func} {p : Tmp} (h : fn.results = #[.cell p 25]) (tmps : Array Value) (w : World) (g : Nat) (hb : List UInt8)
    (hp : tmps.getD p undef = .pointer (some ⟨g, 0, none⟩)) (hg : w.heap[g]? = some (.cells (bc hb) 25 (0, 0))) (hs : hb.length = 48) : (results fn tmps).run Try.prog w = .ok (.agg (bc hb)) w := by
  have hp' : tmps[p]?.getD undef = .pointer (some ⟨g, 0, none⟩) := by simpa using hp
  simp [results, h, hp', asAddr, run_loadVar_row w g 25 25 (bc hb) (0, 0) _ hg Try.underlying25 rfl (info_hello hs)]
set_option maxRecDepth 100000 in
theorem results_hello2 {fn : Func} {p q : Tmp} (h : fn.results = #[.cell p 25, .tmp q]) (tmps : Array Value) (w : World) (g : Nat) (hb : List UInt8)
    (hp : tmps.getD p undef = .pointer (some ⟨g, 0, none⟩)) (hg : w.heap[g]? = some (.cells (bc hb) 25 (0, 0))) (hs : hb.length = 48) : (results fn tmps).run Try.prog w = .ok (.tuple #[.agg (bc hb), tmps.getD q undef]) w := by
  have hp' : tmps[p]?.getD undef = .pointer (some ⟨g, 0, none⟩) := by simpa using hp
  simp [results, h, hp', asAddr, run_loadVar_row w g 25 25 (bc hb) (0, 0) _ hg Try.underlying25 rfl (info_hello hs)]
theorem z48 : (#[Value.int .u8 0, Value.int .u8 0, Value.int .u8 0, Value.int .u8 0, Value.int .u8 0, Value.int .u8 0, Value.int .u8 0, Value.int .u8 0, Value.int .u8 0, Value.int .u8 0, Value.int .u8 0, Value.int .u8 0, Value.int .u8 0, Value.int .u8 0, Value.int .u8 0, Value.int .u8 0, Value.int .u8 0, Value.int .u8 0, Value.int .u8 0, Value.int .u8 0, Value.int .u8 0, Value.int .u8 0, Value.int .u8 0, Value.int .u8 0, Value.int .u8 0, Value.int .u8 0, Value.int .u8 0, Value.int .u8 0, Value.int .u8 0, Value.int .u8 0, Value.int .u8 0, Value.int .u8 0, Value.int .u8 0, Value.int .u8 0, Value.int .u8 0, Value.int .u8 0, Value.int .u8 0, Value.int .u8 0, Value.int .u8 0, Value.int .u8 0, Value.int .u8 0, Value.int .u8 0, Value.int .u8 0, Value.int .u8 0, Value.int .u8 0, Value.int .u8 0, Value.int .u8 0, Value.int .u8 0] : Array Value) = bc (zr 48) := rfl
theorem bc_one (l : List UInt8) : (bc l).all (·.oneCell') = true := by
  simp [bc, Lib.byteCells, Value.oneCell']
/-- one more part is copied, out of a list that is only read -/
theorem copy_out (w0 w : World) (G o n b so : Nat) (d s : List UInt8) (t : TypeId) (hg : w.heap[G]? = some (.cells (bc d) t (0, 0))) (hG : w0.heap.size ≤ G) (hs : s.length = n)
    (hc : ∀ i, i < s.length → w.cell? ⟨b, so + i, none⟩ = some (.int .u8 ((byt s i).toNat : Int))) (hfit : o + n ≤ d.length) (hB : Below w0.heap.size w0 w) :
    ∃ W, (∀ ty dc sl sc, n ≤ sl → (Builtin.copy_ #[28, 28] ty #[.slice (some ⟨G, o, none⟩) n dc, .slice (some ⟨b, so, none⟩) sl sc]).run Try.prog w = .ok (goInt n) W) ∧ W.heap[G]? = some (.cells (bc (d.take o ++ s ++ d.drop (o + n))) t (0, 0)) ∧ (∀ k, k ≠ G → W.heap[k]? = w.heap[k]?) ∧ Below w0.heap.size w0 W := by
  subst hs
  refine ⟨_, fun ty dc sl sc hd => ?_, heapSetRow _ _ _ _ _ hg, fun k hk => setRow_other _ _ _ _ hk, belowSetRow hB hG _⟩
  exact copy_row w ty G o s.length dc b so sl sc d s t hg (Nat.min_eq_right hd).symm hc hfit
set_option maxHeartbeats 1000000 in
set_option maxRecDepth 100000 in
theorem hello (v : Value) (l : List UInt8) (hl : 68 ≤ l.length) (hl2 : l.length ≤ 140737488351232) (w : World) (hr : RB w v l) :
    Calls Try.prog 20 #[v] w fun e w' => e = .returned (.agg (bc (hel l))) ∧ Below w.heap.size w w' := by
  obtain ⟨a, c, rfl, hlc, hr⟩ := hr
  rcases hr with rfl | ⟨b, o, rfl, hb, hc⟩
  · simp at hl
  have hg : ((w.alloc (.cells (bc (zr 48)) 25)).alloc (.cells (bc (zr 48)) 25)).heap[w.heap.size + 1]? = some (.cells (bc (zr 48)) 25 (0, 0)) := by
    have := heapNew (w.alloc (.cells (bc (zr 48)) 25)) (.cells (bc (zr 48)) 25)
    simpa using this
  have hh : ((w.alloc (.cells (bc (zr 48)) 25)).alloc (.cells (bc (zr 48)) 25)).heap[w.heap.size]? = some (.cells (bc (zr 48)) 25 (0, 0)) := by
    rw [heapOld _ _ _ (by simp), heapNew]
  have B0 : Below w.heap.size w ((w.alloc (.cells (bc (zr 48)) 25)).alloc (.cells (bc (zr 48)) 25)) := ((Below.refl _ _).alloc (Nat.le_refl _) _).alloc (by simp) _
  have src : ∀ (W : World) (q n : Nat), Below w.heap.size w W → q + n ≤ l.length → ∀ i, i < ((l.drop q).take n).length → W.cell? ⟨b, o + q + i, none⟩ = some (.int .u8 ((byt ((l.drop q).take n) i).toNat : Int)) := by
    intro W q n hW hq i hi
    rw [cut_len l q n hq] at hi
    rw [byt_take _ _ _ hi, byt_drop, Nat.add_assoc]
    exact (hW.cell (p := ⟨b, o + (q + i), none⟩) hb).trans (hc (q + i) (by omega))
  obtain ⟨W1, c1, hb1, hk1, B1⟩ := copy_out w (World.drew ((w.alloc (.cells (bc (zr 48)) 25)).alloc (.cells (bc (zr 48)) 25))) (w.heap.size + 1) 0 8 b (o + 20) (zr 48) ((l.drop 20).take 8) 25 hg (by omega) (cut_len l 20 8 (by omega)) (src _ 20 8 B0.drew (by omega)) (by simp [zr_len]) B0.drew
  rw [List.take_zero, List.nil_append, Nat.zero_add] at hb1
  obtain ⟨W2, c2, hb2, hk2, B2⟩ := copy_out w W1.drew (w.heap.size + 1) 8 20 b (o + 28) _ ((l.drop 28).take 20) 25 hb1 (by omega) (cut_len l 28 20 (by omega)) (src _ 28 20 B1.drew (by omega)) (by rw [List.length_append, cut_len l 20 8 (by omega), List.length_drop, zr_len]; omega) B1.drew
  rw [splice_at (o := 8) (cut_len l 20 8 (by omega)) (cut_len l 28 20 (by omega)), cut_join l 20 8 20] at hb2
  obtain ⟨W3, c3, hb3, hk3, B3⟩ := copy_out w W2.drew (w.heap.size + 1) 28 20 b (o + 48) _ ((l.drop 48).take 20) 25 hb2 (by omega) (cut_len l 48 20 (by omega)) (src _ 48 20 B2.drew (by omega)) (by rw [List.length_append, cut_len l 20 28 (by omega), List.length_drop, List.length_drop, zr_len]; omega) B2.drew
  rw [splice_at (o := 28) (cut_len l 20 28 (by omega)) (cut_len l 48 20 (by omega)), cut_join l 20 28 20] at hb3
  have hz : List.drop 20 (List.drop 20 (List.drop 8 (zr 48))) = [] := List.drop_eq_nil_of_le (by simp [zr_len])
  rw [hz, List.append_nil] at hb3
  have hG : W3.heap[w.heap.size + 1]? = some (.cells (bc (hel l)) 25 (0, 0)) := hb3
  have hR : W3.heap[w.heap.size]? = some (.cells (bc (zr 48)) 25 (0, 0)) := by
    rw [hk3 _ (by omega)]
    show W2.heap[_]? = _
    rw [hk2 _ (by omega)]
    show W1.heap[_]? = _
    rw [hk1 _ (by omega)]
    exact hh
  have hlen := hel_len l hl
  have HE : Hid ((hel l).length = 48 ∧ Below w.heap.size w (W3.setRow w.heap.size (bc (hel l))) ∧ (W3.setRow w.heap.size (bc (hel l))).heap[w.heap.size]? = some (.cells (bc (hel l)) 25 (0, 0))) := ⟨hlen, belowSetRow B3 (Nat.le_refl _) _, heapSetRow _ _ _ _ _ hR⟩
  have d1 := c1 3 8 (l.length - 20) (c - 20) (by omega)
  have d2 := c2 3 20 (l.length - 28) (c - 28) (by omega)
  have d3 := c3 3 20 (l.length - 48) (c - 48) (by omega)
  have a1 : (20 : Int) ≤ l.length := by omega
  have a2 : (28 : Int) ≤ l.length := by omega
  have a3 : (48 : Int) ≤ l.length := by omega
  have hs48 : (bc (zr 48)).size = (bc (hel l)).size := by rw [bc_size, bc_size, hlen, zr_len]
  have hi := info_hello hlen
  have h1 := bc_one (hel l)
  clear hb1 hk1 B1 hb2 hk2 B2 hb3 hk3 B3 hz hh hg B0 src hc hb c1 c2 c3 hlen
  generalize hHL : bc (hel l) = HL at *
  have HHL : Hid (bc (hel l) = HL) := hHL
  clear hHL
  generalize l.length = n at *
  go_enter Try.func20, Try.ntmps20
  go_wp2
  rw [z48]
  generalize bc (zr 48) = Z at *
  go_region
  go_wp2
  go_region
  go_wp2
  go_region
  go_wp2_with (first | (refine wpList_load_row rfl 25 _ rfl (w.heap.size + 1) rfl 25 HL (0, 0) _ hG Try.underlying25 rfl hi ?_) | (refine wpList_store_row rfl 25 _ _ rfl w.heap.size HL rfl rfl 25 Z hR hi hs48 h1 ?_))
  obtain rfl := HHL.out
  exact bodyPost_ret (results_hello Try.results20 _ _ w.heap.size (hel l) rfl HE.out.2.2 HE.out.1) rfl ⟨rfl, HE.out.2.1⟩
/-- what Meet answers -/
def mtE (l : List UInt8) : Int := if sok l 0 then (if l.length < 68 then 101 else 0) else 100
def mtH (l : List UInt8) : List UInt8 := if mtE l = 0 then hel l else zr 48
theorem mt_no {l : List UInt8} (h : sok l 0 = false) : mtE l = 100 ∧ mtH l = zr 48 := by simp [mtE, mtH, h]
theorem mt_few {l : List UInt8} (h : sok l 0 = true) (h2 : l.length < 68) : mtE l = 101 ∧ mtH l = zr 48 := by simp [mtE, mtH, h, h2]
theorem mt_yes {l : List UInt8} (h : sok l 0 = true) (h2 : 68 ≤ l.length) : mtE l = 0 ∧ mtH l = hel l := by simp [mtE, mtH, h, Nat.not_lt.2 h2]
theorem mt_len (l : List UInt8) : (mtH l).length = 48 := by
  unfold mtH
  by_cases h : mtE l = 0
  · rw [if_pos h]
    refine hel_len l ?_
    unfold mtE at h
    split at h
    · split at h
      · simp at h
      · omega
    · simp at h
  · rw [if_neg h, zr_len]
end Go.Proofs.Ytmfeelkjbpjhdaa
