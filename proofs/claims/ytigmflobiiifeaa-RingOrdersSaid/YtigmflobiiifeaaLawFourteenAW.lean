/- RingOrders, of the program. -/
import Derived.Test.YtigmflobiiifeaaRingV
import Derived.Test.YtigmflobiiifeaaLawFourteenA
import Derived.Test.YtigmflobiiifeaaRead
namespace Go.Proofs.Ytigmflobiiifeaa
open Go.ChangeShapes Go.WideShapes Go.ChangeAt Go.RowKit
set_option linter.unusedVariables false
theorem RingOrders_walk (room : Int) (a0 : Option Addr) (n0 c0 : Nat) (w : World) (l0 : List Bool) (hroom : I64 room) (hn0 : l0.length = n0) (hl0 : Lies w 0 w.heap.size (.slice a0 n0 c0) n0 1 (l0.flatMap boolCells)) (hi0 : ∀ x ∈ l0, True) :
    Calls Try.prog 4 #[.int .i64 room, .slice a0 n0 c0] w fun e w' => e = .returned (.bool true) ∧ Below w.heap.size w w' := RingOrders_of ring_s ring_i room a0 n0 c0 w l0 hroom hn0 hl0 hi0
end Go.Proofs.Ytigmflobiiifeaa
