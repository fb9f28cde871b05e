/- WheelComes, of the program. -/
import Derived.Test.YtbjhoncojegjiaaDoorLawThirteenC
import Derived.Test.YtbjhoncojegjiaaDoorWheelY
import Derived.Test.YtbjhoncojegjiaaDoorRead
namespace Go.Proofs.YtbjhoncojegjiaaDoor
open Go.ChangeShapes Go.WideShapes Go.ChangeAt Go.RowKit
theorem WheelComes_walk (start : Int) (a0 : Option Addr) (n c0 : Nat) (w : World) (hT : TbOk w) (l0 : List Int) (_hs : I64 start) (hn0 : l0.length = n) (hl0 : Lies w 0 w.heap.size (.slice a0 n c0) n 1 (l0.flatMap intCells)) (hi0 : ∀ x ∈ l0, I64 x) :
    Calls Tryd.prog 4 #[.int .i64 start, .slice a0 n c0] w fun e w' => e = .returned (.bool true) ∧ Below w.heap.size w w' := WheelComes_of wheelOk start a0 n c0 w hT l0 hn0 hl0 hi0
end Go.Proofs.YtbjhoncojegjiaaDoor
