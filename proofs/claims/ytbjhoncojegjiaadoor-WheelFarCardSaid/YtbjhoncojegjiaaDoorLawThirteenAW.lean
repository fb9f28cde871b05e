/- WheelFar, of the program. -/
import Derived.Test.YtbjhoncojegjiaaDoorLawThirteenA
import Derived.Test.YtbjhoncojegjiaaDoorWheelY
import Derived.Test.YtbjhoncojegjiaaDoorRead
namespace Go.Proofs.YtbjhoncojegjiaaDoor
open Go.ChangeShapes Go.WideShapes Go.ChangeAt Go.RowKit
theorem WheelFar_walk (tick before : Int) (w : World) (hT : TbOk w) (_h0 : I64 tick) (_h1 : I64 before) : Calls Tryd.prog 5 #[.int .i64 tick, .int .i64 before] w fun e w' => e = .returned (.bool true) ∧ Below w.heap.size w w' := WheelFar_of wheelOk tick before w hT
end Go.Proofs.YtbjhoncojegjiaaDoor
