import Derived.Test.YtpembmfpgolniaaDoorRn
import Derived.Test.YtpembmfpgolniaaDoorDd
namespace Go.Proofs.YtpembmfpgolniaaDoor
open Go.RowKit
theorem drop_snoc (l : List UInt8) (i j : Nat) (h : i + j < l.length) : (l.drop i).take (j + 1) = (l.drop i).take j ++ [byt l (i + j)] := by
  rw [take_snoc _ _ (by rw [List.length_drop]; omega), byt_drop]
theorem results_hash {fn : Func} {p : Tmp} (h : fn.results = #[.cell p 24]) (tmps : Array Value) (w : World) (g : Nat) (r : List UInt8)
    (hp : tmps.getD p undef = .pointer (some ⟨g, 0, none⟩)) (hg : w.heap[g]? = some (.cells (bc r) 24 (0, 0))) (hs : r.length = 32) : (results fn tmps).run Tryd.prog w = .ok (.agg (bc r)) w := by
  have hp' : tmps[p]?.getD undef = .pointer (some ⟨g, 0, none⟩) := by simpa using hp
  have hi : (Tryd.prog.info? 24).map (·.size) = some (bc r).size := by rw [bc_size, hs]; exact info_hash
  simp [results, h, hp', asAddr, run_loadVar_row w g 24 24 (bc r) (0, 0) _ hg Tryd.underlying24 rfl hi]
end Go.Proofs.YtpembmfpgolniaaDoor
