import Derived.Test.YtmfeelkjbpjhdaaGreet
import Derived.Laws.BytesString
namespace Go.Proofs.Ytmfeelkjbpjhdaa
open Go.RowKit
/-- the sign's bytes from the place on, as far as both go -/
def sok (l : List UInt8) (p : Nat) : Bool := l.take (20 - p) == (sgn.drop p).take l.length
theorem RB.take {w : World} {a : Option Addr} {c : Nat} {l : List UInt8} (h : RB w (.slice a l.length c) l) (n : Nat) (hn : n ≤ l.length) : RB w (.slice a n c) (l.take n) := by
  obtain ⟨a', c', e, hle, h⟩ := h
  have hl : (l.take n).length = n := by rw [List.length_take]; omega
  simp only [Value.slice.injEq] at e
  obtain ⟨rfl, _, rfl⟩ := e
  refine ⟨a, c, by rw [hl], by rw [hl]; omega, ?_⟩
  rcases h with rfl | ⟨g, o, rfl, h2, h3⟩
  · exact .inl (by simp)
  · refine .inr ⟨g, o, rfl, h2, fun i hi => ?_⟩
    rw [hl] at hi
    rw [byt_take _ _ _ hi]
    exact h3 i (by omega)
theorem foldl_push (ns : List UInt8) (s : ByteArray) : (ns.map fun x => (x.toNat : Int)).foldl (fun r n => r.push (UInt8.ofNat n.toNat)) s = ⟨s.data ++ ns.toArray⟩ := by
  induction ns generalizing s with
  | nil => simp
  | cons x ns ih =>
    rw [List.map_cons, List.foldl_cons, ih]
    simp [ByteArray.push]
theorem conv_rb {w : World} {v : Value} {l : List UInt8} (h : RB w v l) : (convert 28 9 v).run Try.prog w = .ok (.string ⟨l.toArray⟩) w := by
  obtain ⟨a, cap, rfl, _, h⟩ := h
  rw [run_convert_bytes_string w 28 9 5 a _ cap Try.underlying28 Try.underlying5 Try.underlying9]
  cases a with
  | none =>
    rcases h with rfl | ⟨b, o, h, _⟩
    · rfl
    · cases h
  | some a =>
    have hl := run_loadCells_list (P := Try.prog) w a (Lib.byteCells l) (fun j v hj => by
      have hj' : j < l.length := by
        have := (List.getElem?_eq_some_iff.1 hj).1
        rwa [bcl_len] at this
      rcases h with rfl | ⟨b, o, h, _, hc⟩
      · simp at hj'
      · simp only [Option.some.injEq] at h
        subst h
        have hadd : (⟨b, o, none⟩ : Addr).add j = ⟨b, o + j, none⟩ := by unfold Addr.add; split <;> simp_all
        rw [hadd, hc j hj', getD_byt l j hj']
        simpa [Lib.byteCells, List.getElem?_eq_getElem hj'] using hj)
    have e : Lib.byteCells l = (l.map fun x => (x.toNat : Int)).map (Value.int .u8) := by simp [Lib.byteCells]
    rw [bcl_len, e] at hl
    rw [run_bytesToString w a l.length cap _ hl, foldl_push]
    simp
theorem ext_fin : ∀ (p m : Fin 21), ((({ data := #[19, 66, 105, 116, 84, 111, 114, 114, 101, 110, 116, 32, 112, 114, 111, 116, 111, 99, 111, 108] } : ByteArray).extract p.val 20).extract 0 m.val).data.toList = (sgn.drop p.val).take m.val := by decide +kernel
theorem ext_list (p m : Nat) (hp : p ≤ 20) (hm : m ≤ 20) : ((({ data := #[19, 66, 105, 116, 84, 111, 114, 114, 101, 110, 116, 32, 112, 114, 111, 116, 111, 99, 111, 108] } : ByteArray).extract p 20).extract 0 m).toList = (sgn.drop p).take m := by
  rw [ByteArray.toList_eq]
  exact ext_fin ⟨p, by omega⟩ ⟨m, by omega⟩
theorem sok_all (l : List UInt8) (p : Nat) (h : 20 - p ≤ l.length) : sok l p = (l.take (20 - p) == (sgn.drop p).take (20 - p)) := by
  have e : (sgn.drop p).length = 20 - p := by simp [sgn]
  unfold sok
  rw [List.take_of_length_le (i := l.length) (by omega), List.take_of_length_le (i := 20 - p) (l := sgn.drop p) (by omega)]
theorem sok_few (l : List UInt8) (p : Nat) (h : l.length ≤ 20 - p) : sok l p = (l == (sgn.drop p).take l.length) := by
  unfold sok
  rw [List.take_of_length_le h]
theorem sok_none (l : List UInt8) (p : Nat) (h : 20 ≤ p) : sok l p = true := by
  unfold sok
  rw [show 20 - p = 0 by omega, List.drop_eq_nil_of_le (by simp [sgn]; omega)]
  simp
theorem RB.le {w : World} {a : Option Addr} {c n : Nat} {l : List UInt8} (h : RB w (.slice a n c) l) : n ≤ c := by
  obtain ⟨_, _, e, h, _⟩ := h
  cases e; exact h
theorem ret_bool {a b : Bool} (h : a = b) : Ending.returned (.bool a) = .returned (.bool b) := by rw [h]
set_option maxHeartbeats 1000000 in
theorem signed_a (a : Option Addr) (c : Nat) (l : List UInt8) (p : Nat) (hp : p ≤ 20) (hn : 20 - p < l.length) (_hl : l.length ≤ 140737488351232) (w : World) (hr : RB w (.slice a l.length c) l) :
    Calls Try.prog 16 #[.slice a l.length c, .int .i64 p] w fun e w' => e = .returned (.bool (sok l p)) ∧ ∃ n, w' = w.drewN n := by
  have hcv := conv_rb ((hr.take (20 - p) (by omega)).keep (Below.refl w.heap.size w).drew)
  have hle := hr.le
  have h20 : 20 ≤ c + p := by omega
  clear hr
  go_enter Try.func16, Try.ntmps16
  go_wp2
  go_region
  go_wp2
  go_ret
  exact ⟨ret_bool (by rw [ext_list _ _ hp (by omega), sok_all _ _ (by omega)]), 1, rfl⟩
set_option maxHeartbeats 1000000 in
theorem signed_b (a : Option Addr) (c : Nat) (l : List UInt8) (p : Nat) (hp : p ≤ 20) (hn : ¬ 20 - p < l.length) (w : World) (hr : RB w (.slice a l.length c) l) :
    Calls Try.prog 16 #[.slice a l.length c, .int .i64 p] w fun e w' => e = .returned (.bool (sok l p)) ∧ ∃ n, w' = w.drewN n := by
  have hcv := conv_rb (hr.keep (Below.refl w.heap.size w).drew)
  have hle := hr.le
  have hl : l.length ≤ 20 := by omega
  clear hr
  go_enter Try.func16, Try.ntmps16
  go_wp2
  go_region
  go_wp2
  go_ret
  exact ⟨ret_bool (by rw [ext_list _ _ hp hl, sok_few _ _ (by omega)]), 1, rfl⟩
set_option maxHeartbeats 1000000 in
theorem signed_c (a : Option Addr) (c : Nat) (l : List UInt8) (p : Nat) (hp : 20 < p) (hp2 : p ≤ 140737488351232) (w : World) (hr : RB w (.slice a l.length c) l) :
    Calls Try.prog 16 #[.slice a l.length c, .int .i64 p] w fun e w' => e = .returned (.bool (sok l p)) ∧ ∃ n, w' = w.drewN n := by
  have hcv := conv_rb ((hr.take 0 (by omega)).keep (Below.refl w.heap.size w).drew)
  simp only [List.take_zero] at hcv
  have hle := hr.le
  rw [sok_none l p (by omega)]
  clear hr
  by_cases h0 : 0 < l.length
  · go_enter Try.func16, Try.ntmps16
    go_wp2
    go_region
    go_wp2
    go_ret
    exact ⟨rfl, 1, rfl⟩
  · have h00 : l.length = 0 := by omega
    rw [h00] at *
    go_enter Try.func16, Try.ntmps16
    go_wp2
    go_region
    go_wp2
    go_ret
    exact ⟨rfl, 1, rfl⟩
theorem signed (v : Value) (l : List UInt8) (p : Nat) (hp : p ≤ 140737488351232) (hl : l.length ≤ 140737488351232) (w : World) (hr : RB w v l) :
    Calls Try.prog 16 #[v, .int .i64 p] w fun e w' => e = .returned (.bool (sok l p)) ∧ ∃ n, w' = w.drewN n := by
  have hr' := hr
  obtain ⟨a, c, rfl, _, _⟩ := hr
  by_cases h : p ≤ 20
  · by_cases h2 : 20 - p < l.length
    · exact signed_a a c l p h h2 hl w hr'
    · exact signed_b a c l p h h2 w hr'
  · exact signed_c a c l p (by omega) hp w hr'
end Go.Proofs.Ytmfeelkjbpjhdaa
