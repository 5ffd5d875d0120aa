/- A field of a disk that has come. -/
import Derived.Test.YtiphajgmjmjanaaRr
namespace Go.Proofs.Ytiphajgmjmjanaa
open Go.RowKit
set_option linter.unusedVariables false
theorem fld_left (W : World) : (Instr.field 25 (.agg #[.slice none 0 0, .slice none 0 0, .int .i64 (-1), .bool false]) 2).run Try.prog W = .ok (.int .i64 (-1)) W := by
  first
    | kernel_rfl
    | rfl
    | simp [Instr.field, go_sem]
end Go.Proofs.Ytiphajgmjmjanaa
