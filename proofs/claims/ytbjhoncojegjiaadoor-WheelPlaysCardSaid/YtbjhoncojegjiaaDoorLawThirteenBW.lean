/- WheelPlays, of the program. -/
import Derived.Test.YtbjhoncojegjiaaDoorLawThirteenB
import Derived.Test.YtbjhoncojegjiaaDoorWheelY
import Derived.Test.YtbjhoncojegjiaaDoorRead
namespace Go.Proofs.YtbjhoncojegjiaaDoor
open Go.ChangeShapes Go.WideShapes Go.ChangeAt Go.RowKit
theorem WheelPlays_walk (start : Int) (a0 : Option Addr) (n0 c0 : Nat) (w : World) (hT : TbOk w) (l0 : List Wn) (hstart : I64 start) (hn0 : l0.length = n0) (hl0 : Lies w 0 w.heap.size (.slice a0 n0 c0) n0 3 (l0.flatMap Wn.cells)) (hi0 : ∀ x ∈ l0, x.In) :
    Calls Tryd.prog 3 #[.int .i64 start, .slice a0 n0 c0] w fun e w' => e = .returned (.bool true) ∧ Below w.heap.size w w' := WheelPlays_of wheelOk start a0 n0 c0 w hT l0 hstart hn0 hl0 hi0
end Go.Proofs.YtbjhoncojegjiaaDoor
