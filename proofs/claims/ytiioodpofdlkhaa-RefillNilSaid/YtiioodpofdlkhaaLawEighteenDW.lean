/- RefillNil, of the program. -/
import Derived.Test.YtiioodpofdlkhaaRefillY
namespace Go.Proofs.Ytiioodpofdlkhaa
open Go.ChangeShapes Go.WideShapes Go.ChangeAt Go.RowKit
set_option linter.unusedVariables false
theorem RefillNil_walk (now : Int) (w : World) (hi : I64 now) :
    Calls Try.prog 5 #[.int .i64 now] w fun e w' => e = .returned (.bool true) ∧ Below w.heap.size w w' := RefillNil_of refillNo refillOk now w
end Go.Proofs.Ytiioodpofdlkhaa
