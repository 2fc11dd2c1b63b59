import Derived.Test.YtbnnfpjgjieaeaaDoorM6
namespace Go.Proofs.YtbnnfpjgjieaeaaDoor
open Go.RowKit
def b8 : Array Value := bc [1, 0, 0, 0, 0, 0, 0, 0]
def b20a : Array Value := bc [2, 3, 0, 0, 0, 0, 0, 0, 0, 0, 0, 0, 0, 0, 0, 0, 0, 0, 0, 0]
def b20b : Array Value := bc [4, 0, 0, 0, 0, 0, 0, 0, 0, 0, 0, 0, 0, 0, 0, 0, 0, 0, 0, 0]
theorem bt1 : Tryd.prog.built 31 [(0, .int .u8 1)] = some b8 := by kernel_rfl
theorem bt2 : Tryd.prog.built 32 [(0, .int .u8 2), (1, .int .u8 3)] = some b20a := by kernel_rfl
theorem bt3 : Tryd.prog.built 32 [(0, .int .u8 4)] = some b20b := by kernel_rfl
set_option maxRecDepth 100000 in
theorem bt4 : Tryd.prog.built 34 [(0, .agg b8), (1, .agg b20a), (2, .agg b20b)] = some (bc h48) := by kernel_rfl
abbrev z48 : Array Value := #[Value.int .u8 0, Value.int .u8 0, Value.int .u8 0, Value.int .u8 0, Value.int .u8 0, Value.int .u8 0, Value.int .u8 0, Value.int .u8 0, Value.int .u8 0, Value.int .u8 0, Value.int .u8 0, Value.int .u8 0, Value.int .u8 0, Value.int .u8 0, Value.int .u8 0, Value.int .u8 0, Value.int .u8 0, Value.int .u8 0, Value.int .u8 0, Value.int .u8 0, Value.int .u8 0, Value.int .u8 0, Value.int .u8 0, Value.int .u8 0, Value.int .u8 0, Value.int .u8 0, Value.int .u8 0, Value.int .u8 0, Value.int .u8 0, Value.int .u8 0, Value.int .u8 0, Value.int .u8 0, Value.int .u8 0, Value.int .u8 0, Value.int .u8 0, Value.int .u8 0, Value.int .u8 0, Value.int .u8 0, Value.int .u8 0, Value.int .u8 0, Value.int .u8 0, Value.int .u8 0, Value.int .u8 0, Value.int .u8 0, Value.int .u8 0, Value.int .u8 0, Value.int .u8 0, Value.int .u8 0]
theorem h48_len : h48.length = 48 := rfl
end Go.Proofs.YtbnnfpjgjieaeaaDoor
