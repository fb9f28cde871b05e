/- LedgerNil, of the program. -/
import Derived.Test.YtikjahdnffklhaaLedgZ
import Derived.Test.YtikjahdnffklhaaLawFifteenD
import Derived.Test.YtikjahdnffklhaaRead
namespace Go.Proofs.Ytikjahdnffklhaa
open Go.ChangeShapes Go.WideShapes Go.ChangeAt Go.RowKit
theorem LedgerNil_walk (a b c : Int) (w : World) :
    Calls Try.prog 6 #[.agg #[.int .i64 a, .int .i64 b, .int .i64 c]] w fun e w' => e = .returned (.bool true) ∧ Below w.heap.size w w' := LedgerNil_of ledgerNo ledgerOk a b c w
end Go.Proofs.Ytikjahdnffklhaa
