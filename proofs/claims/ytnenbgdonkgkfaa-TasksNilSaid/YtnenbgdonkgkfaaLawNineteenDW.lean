/- TasksNil, of the program. -/
import Derived.Test.YtnenbgdonkgkfaaTaskY
import Derived.Test.YtnenbgdonkgkfaaLawNineteenD
namespace Go.Proofs.Ytnenbgdonkgkfaa
open Go.ChangeShapes Go.WideShapes Go.ChangeAt Go.RowKit
theorem TasksNil_walk (kd k t arr work done : Int) (oa : Option Addr) (n oc : Nat) (ops : List Wn) (w : World) (hn : ops.length = n) (hl : Lies w 0 w.heap.size (.slice oa n oc) n 3 (ops.flatMap Wn.cells)) :
    Calls Try.prog 4 #[.agg #[.int .i64 kd, .int .i64 k, .int .i64 t, .int .i64 arr, .int .i64 work, .int .i64 done, .slice oa n oc]] w fun e w' => e = .returned (.bool true) ∧ Below w.heap.size w w' := TasksNil_of tasksOk kd k t arr work done oa n oc ops w hn hl
end Go.Proofs.Ytnenbgdonkgkfaa
