import Derived.Test.YtdlnnnlmlaploaaDoorSK
namespace Go.Proofs.YtdlnnnlmlaploaaDoor
open Go.RowKit Go.Deep
theorem tb_up {B B' : Nat} {w : World} (h : TB B w) (hB : B ≤ B') : TB B' w := fun w' hb => h w' (hb.mono hB)
theorem itoa_len {n : Int} (h0 : -9223372036854775808 ≤ n) (h1 : n ≤ 9223372036854775807) : (Lib.itoa n).length ≤ 21 := Lib.itoa_length_le n h0 h1
set_option maxHeartbeats 1000000 in
theorem strSize46 (s : ByteArray) (w : World) (hT : TB w.heap.size w) (hs : s.size ≤ 1048576) :
    Calls Tryd.prog 46 #[.int .i64 s.size] w fun e w' => e = .returned (.int .i64 (wtx s).length) ∧ Below w.heap.size w w' := by
  have hl := itoa_len (n := (s.size : Int)) (by omega) (by omega)
  have hz : (({ data := (Lib.itoa s.size).toArray } : ByteArray)).size = (Lib.itoa s.size).length := List.size_toArray
  have HE : Hid ((wtx s).length = (Lib.itoa s.size).length + 1 + s.size) := by
    show _ = _
    unfold wtx
    rw [List.length_append, List.length_cons]
    have : s.data.toList.length = s.size := Array.length_toList
    omega
  have C := itoa25 (s.size : Int) (by omega) (by omega) w hT
  generalize s.size = m at *
  go_enter Tryd.func46, Tryd.ntmps46
  go_wp2_with fail
  refine C.mono ?_
  rintro e w2 ⟨rfl, hb2⟩
  go_wp2
  go_ret
  exact ⟨by rw [HE.out]; show Ending.returned (Value.int .i64 (((Lib.itoa m).length : Int) + 1 + m)) = _; congr 2, hb2⟩
end Go.Proofs.YtdlnnnlmlaploaaDoor
