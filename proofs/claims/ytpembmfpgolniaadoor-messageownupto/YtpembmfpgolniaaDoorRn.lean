import Derived.Test.YtpembmfpgolniaaDoorDp
namespace Go.Proofs.YtpembmfpgolniaaDoor
open Go.RowKit
/-- is that a length of a body with that first byte -/
def szdB (k n : Int) : Bool :=
  if 64 ≤ k then decide (n ≤ 32768) else if k ≤ 3 then n == 1 else if k = 4 then n == 5 else if k = 5 then decide (n ≤ 8193) else if k = 7 then (decide (10 ≤ n) && decide (n ≤ 16393)) else if asksB k then n == 13 else if k = 22 then (decide (49 ≤ n) && decide (n ≤ 17969) && (n - 49) % 32 == 0) else n == 49
end Go.Proofs.YtpembmfpgolniaaDoor
