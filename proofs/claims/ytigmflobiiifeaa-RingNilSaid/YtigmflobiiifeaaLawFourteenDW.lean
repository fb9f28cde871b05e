/- RingNil, of the program. -/
import Derived.Test.YtigmflobiiifeaaRingZ
import Derived.Test.YtigmflobiiifeaaRead
namespace Go.Proofs.Ytigmflobiiifeaa
open Go.ChangeShapes Go.WideShapes Go.ChangeAt Go.RowKit
set_option linter.unusedVariables false
theorem RingNil_walk (a b c : Int) (w : World) : Calls Try.prog 5 #[.agg #[.int .i64 a, .int .i64 b, .int .i64 c]] w fun e w' => e = .returned (.bool true) ∧ Below w.heap.size w w' := RingNil_of ringNo ring_i a b c w
end Go.Proofs.Ytigmflobiiifeaa
