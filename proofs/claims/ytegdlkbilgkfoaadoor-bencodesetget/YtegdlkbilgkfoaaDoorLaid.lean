import Derived.Test.YtegdlkbilgkfoaaDoorText
namespace Go.Proofs.YtegdlkbilgkfoaaDoor
open Go.RowKit Go.Deep
theorem index_s (s : ByteArray) (p : Nat) (h : p < s.size) (i : Int) (hi : i = (p : Int)) (w : World) : (Instr.index 9 (.string s) (.int .i64 i)).run Tryd.prog w = .ok (.int .u8 (s[p].toNat : Int)) w := by
  subst hi
  have h2 : (p : Int) < (s.size : Int) := by omega
  simp [go_sem, Tryd.underlying9, h2]
theorem OW.keep {B : Nat} {w w' : World} {v : Value} {l : List UInt8} (h : OW B w v l) (hb : Below w.heap.size w w') : OW B w' v l := by
  refine ⟨h.1, ?_⟩
  rcases h.2 with h | ⟨g, cap, cur, h1, h2, h3, h4⟩
  · exact .inl h
  · exact .inr ⟨g, cap, cur, h1, h2, by rw [hb.block g (Array.getElem?_eq_some_iff.1 h3).1]; exact h3, h4⟩
theorem tb_up {B B' : Nat} {w : World} (h : TB B w) (hB : B ≤ B') : TB B' w := fun w' hb => h w' (hb.mono hB)

set_option maxRecDepth 10000 in
set_option maxHeartbeats 1000000 in
theorem wordSize26 (s : ByteArray) (w : World) (hT : TB w.heap.size w) (hlim : s.size ≤ 140737488351232) :
    Calls Tryd.prog 38 #[.string s] w fun e w' => e = .returned (.int .i64 (wtx s).length) ∧ Below w.heap.size w w' := by
  have hlen := Lib.itoa_length_le s.size (by omega) (by omega)
  go_enter Tryd.func38, Tryd.ntmps38
  go_wp2_with fail
  refine (itoa25 s.size (by omega) (by omega) w hT).mono ?_
  rintro e w1 ⟨rfl, hb⟩
  have hz : (({ data := (Lib.itoa (s.size : Int)).toArray } : ByteArray)).size = (Lib.itoa (s.size : Int)).length := List.size_toArray
  have hz2 : (wtx s).length = (Lib.itoa (s.size : Int)).length + (s.size + 1) := by
    show (Lib.itoa (s.size : Int) ++ 58 :: s.data.toList).length = _
    rw [List.length_append, List.length_cons, Array.length_toList]; rfl
  have HZ := Lib.hid hz2
  clear hz2
  go_wp2
  go_ret
  exact ⟨by have := HZ.out; show Ending.returned (Value.int .i64 (((Lib.itoa (s.size : Int)).length : Int) + 1 + (s.size : Int))) = _; congr 2; omega, hb⟩

end Go.Proofs.YtegdlkbilgkfoaaDoor
