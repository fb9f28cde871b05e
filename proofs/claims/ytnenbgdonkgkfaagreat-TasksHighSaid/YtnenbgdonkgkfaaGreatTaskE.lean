/- Ops that are the same. -/
import Derived.Test.YtnenbgdonkgkfaaGreatTaskC
import Derived.Laws.StructEq
namespace Go.Proofs.YtnenbgdonkgkfaaGreat
open Go.ChangeShapes Go.WideShapes Go.ChangeAt Go.RowKit
set_option linter.unusedVariables false
set_option linter.unusedSimpArgs false

theorem eqInTOp (a b c : Int) (w : World) : (Op.equalIn 10000 60 (.agg #[.int .i64 a, .int .i64 b, .int .i64 c]) (.agg #[.int .i64 a, .int .i64 b, .int .i64 c])).run Tryz.prog w = .ok true w := by
  have hp : Tryz.prog.stoodInHeld 60 = false := by kernel_rfl
  have ht : Tryz.prog.underlying 60 = some (.struct (Tryz.prog.fieldsOf 60)) := by simp [Program.fieldsOf, Tryz.underlying60]
  rw [show (10000 : Nat) = 9999 + 1 from rfl, run_equalIn_agg w 9999 _ _ _ ht hp]
  have rI := fun (a b : Int) => run_equalIn_int (P := Tryz.prog) w 9998 3 .i64 .i64 a b Tryz.underlying3
  simp [Op.eqFields, part, Program.fieldsOf, Tryz.underlying60, rI]
theorem eqInROp (a b c : Int) (w : World) : (Op.equalIn 10000 70 (.agg #[.int .i64 a, .int .i64 b, .int .i64 c]) (.agg #[.int .i64 a, .int .i64 b, .int .i64 c])).run Tryz.prog w = .ok true w := by
  have hp : Tryz.prog.stoodInHeld 70 = false := by kernel_rfl
  have ht : Tryz.prog.underlying 70 = some (.struct (Tryz.prog.fieldsOf 70)) := by simp [Program.fieldsOf, Tryz.underlying70]
  rw [show (10000 : Nat) = 9999 + 1 from rfl, run_equalIn_agg w 9999 _ _ _ ht hp]
  have rI := fun (a b : Int) => run_equalIn_int (P := Tryz.prog) w 9998 3 .i64 .i64 a b Tryz.underlying3
  simp [Op.eqFields, part, Program.fieldsOf, Tryz.underlying70, rI]
end Go.Proofs.YtnenbgdonkgkfaaGreat
