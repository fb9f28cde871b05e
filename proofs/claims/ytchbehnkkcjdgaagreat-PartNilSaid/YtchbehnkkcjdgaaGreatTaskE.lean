/- Ops that are the same. -/
import Derived.Test.YtchbehnkkcjdgaaGreatTaskC
import Derived.Laws.StructEq
namespace Go.Proofs.YtchbehnkkcjdgaaGreat
open Go.ChangeShapes Go.WideShapes Go.ChangeAt Go.RowKit
set_option linter.unusedVariables false
set_option linter.unusedSimpArgs false

theorem eqInTOp (a b c : Int) (w : World) : (Op.equalIn 10000 54 (.agg #[.int .i64 a, .int .i64 b, .int .i64 c]) (.agg #[.int .i64 a, .int .i64 b, .int .i64 c])).run Tryz.prog w = .ok true w := by
  have hp : Tryz.prog.stoodInHeld 54 = false := by kernel_rfl
  have ht : Tryz.prog.underlying 54 = some (.struct (Tryz.prog.fieldsOf 54)) := by simp [Program.fieldsOf, Tryz.underlying54]
  rw [show (10000 : Nat) = 9999 + 1 from rfl, run_equalIn_agg w 9999 _ _ _ ht hp]
  have rI := fun (a b : Int) => run_equalIn_int (P := Tryz.prog) w 9998 3 .i64 .i64 a b Tryz.underlying3
  simp [Op.eqFields, part, Program.fieldsOf, Tryz.underlying54, rI]
theorem eqInROp (a b c : Int) (w : World) : (Op.equalIn 10000 58 (.agg #[.int .i64 a, .int .i64 b, .int .i64 c]) (.agg #[.int .i64 a, .int .i64 b, .int .i64 c])).run Tryz.prog w = .ok true w := by
  have hp : Tryz.prog.stoodInHeld 58 = false := by kernel_rfl
  have ht : Tryz.prog.underlying 58 = some (.struct (Tryz.prog.fieldsOf 58)) := by simp [Program.fieldsOf, Tryz.underlying58]
  rw [show (10000 : Nat) = 9999 + 1 from rfl, run_equalIn_agg w 9999 _ _ _ ht hp]
  have rI := fun (a b : Int) => run_equalIn_int (P := Tryz.prog) w 9998 3 .i64 .i64 a b Tryz.underlying3
  simp [Op.eqFields, part, Program.fieldsOf, Tryz.underlying58, rI]
end Go.Proofs.YtchbehnkkcjdgaaGreat
