import Derived.Test.YtmfeelkjbpjhdaaGreet
namespace Go.Proofs.Ytmfeelkjbpjhdaa
open Go.RowKit
theorem sgn_ix : ∀ (k : Fin 20), 0 < k.val → ∀ w : World, (Instr.index 9 (.string { data := #[66, 105, 116, 84, 111, 114, 114, 101, 110, 116, 32, 112, 114, 111, 116, 111, 99, 111, 108] }) (.int .i64 ((k.val : Int) - 1))).run Try.prog w = .ok (.int .u8 ((byt sgn k.val).toNat : Int)) w := by
  intro k hk w
  rcases k with ⟨k, h⟩
  match k, h with
  | 0, _ => simp at hk
  | 1, _ | 2, _ | 3, _ | 4, _ | 5, _ | 6, _ | 7, _ | 8, _ | 9, _ | 10, _ | 11, _ | 12, _ | 13, _ | 14, _ | 15, _ | 16, _ | 17, _ | 18, _ | 19, _ => rfl
  | k + 20, h => omega
theorem take_greet (hb : List UInt8) (hl : hb.length = 48) (k : Nat) (hk : k < 68) : (sgn ++ hb).take (k + 1) = (sgn ++ hb).take k ++ [byt (sgn ++ hb) k] := take_snoc _ k (by simp [sgn, hl]; omega)
theorem byt_left (a b : List UInt8) (k : Nat) (h : k < a.length) : byt (a ++ b) k = byt a k := by simp [byt, List.getD, List.getElem?_append_left h]
theorem byt_right (a b : List UInt8) (k : Nat) (h : a.length ≤ k) : byt (a ++ b) k = byt b (k - a.length) := by simp [byt, List.getD, List.getElem?_append_right h]
end Go.Proofs.Ytmfeelkjbpjhdaa
