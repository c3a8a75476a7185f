/-
  An array of four bools, by value, at an index.
-/
import Derived.Test.YtchdmpipfmedaaaWr
namespace Go.Proofs.Ytchdmpipfmedaaa
open Go.RowKit
set_option linter.unusedVariables false
set_option linter.unusedSimpArgs false

theorem Try.infoBool : (Try.prog.info? 4).map (fun i => (i.zero, i.size, i.bytes)) = some (some (.bool false), 1, 1) := by kernel_rfl

theorem index4_0 (a b c d : Bool) (w : World) : (Instr.index 62 (.agg #[.bool a, .bool b, .bool c, .bool d]) (.int .i64 0)).run Try.prog w = .ok (.bool a) w := by
  kernel_rfl
theorem index4_1 (a b c d : Bool) (w : World) : (Instr.index 62 (.agg #[.bool a, .bool b, .bool c, .bool d]) (.int .i64 1)).run Try.prog w = .ok (.bool b) w := by
  kernel_rfl
theorem index4_2 (a b c d : Bool) (w : World) : (Instr.index 62 (.agg #[.bool a, .bool b, .bool c, .bool d]) (.int .i64 2)).run Try.prog w = .ok (.bool c) w := by
  kernel_rfl

end Go.Proofs.Ytchdmpipfmedaaa
