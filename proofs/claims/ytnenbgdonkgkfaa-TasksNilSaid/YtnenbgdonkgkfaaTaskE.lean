/- Ops that are the same. -/
import Derived.Test.YtnenbgdonkgkfaaTaskC
import Derived.Laws.StructEq
namespace Go.Proofs.Ytnenbgdonkgkfaa
open Go.ChangeShapes Go.WideShapes Go.ChangeAt Go.RowKit
set_option linter.unusedVariables false
set_option linter.unusedSimpArgs false

theorem eqInTOp (a b c : Int) (w : World) : (Op.equalIn 10000 49 (.agg #[.int .i64 a, .int .i64 b, .int .i64 c]) (.agg #[.int .i64 a, .int .i64 b, .int .i64 c])).run Try.prog w = .ok true w := by
  have hp : Try.prog.stoodInHeld 49 = false := by kernel_rfl
  have ht : Try.prog.underlying 49 = some (.struct (Try.prog.fieldsOf 49)) := by simp [Program.fieldsOf, Try.underlying49]
  rw [show (10000 : Nat) = 9999 + 1 from rfl, run_equalIn_agg w 9999 _ _ _ ht hp]
  have rI := fun (a b : Int) => run_equalIn_int (P := Try.prog) w 9998 3 .i64 .i64 a b Try.underlying3
  simp [Op.eqFields, part, Program.fieldsOf, Try.underlying49, rI]
end Go.Proofs.Ytnenbgdonkgkfaa
