import Derived.Test.YtpojcdepifeniaaDoorBm
namespace Go.Proofs.YtpojcdepifeniaaDoor
open Go.RowKit
set_option maxRecDepth 20000 in
set_option maxHeartbeats 1000000 in
theorem runsback6_no (n : Int) (h : n < 0 ∨ 65536 < n) (v : Value) (zs : List Int) (w : World) (hr : RZ w v zs) :
    Calls Tryd.prog 6 #[.int .i64 n, v] w fun e w' => e = .returned (.bool true) ∧ Below w.heap.size w w' := by
  have HH := Lib.hid h
  have HR := Lib.hid hr
  obtain ⟨a, c, rfl, _⟩ := hr.form
  clear hr
  go_enter Tryd.func6, Tryd.ntmps6
  rcases h with h | h
  · go_wp2_with fail
    refine (of17_no n HH.out _ _ _ HR.out).mono ?_
    rintro e w1 ⟨rfl, rfl⟩
    go_wp2
    go_ret
    exact ⟨rfl, Below.refl _ _⟩
  · have h2 : ¬ n < 0 := by omega
    go_wp2_with fail
    refine (of17_no n HH.out _ _ _ HR.out).mono ?_
    rintro e w1 ⟨rfl, rfl⟩
    go_wp2
    go_ret
    exact ⟨rfl, Below.refl _ _⟩
theorem runsbackA (n : Int) (v : Value) (zs : List Int) (w : World) (hr : RZ w v zs) (hm : MT w) (hl : zs.length ≤ 17592186043904) :
    Calls Tryd.prog 6 #[.int .i64 n, v] w fun e w' => e = .returned (.bool true) ∧ Below w.heap.size w w' := by
  by_cases h : 0 ≤ n ∧ n ≤ 65536
  · obtain ⟨m, rfl⟩ : ∃ m : Nat, n = m := ⟨n.toNat, by omega⟩
    exact runsback6 m (by omega) v zs w hr hm hl
  · exact runsback6_no n (by omega) v zs w hr
end Go.Proofs.YtpojcdepifeniaaDoor
