/- RingPlays, of the program. -/
import Derived.Test.YtigmflobiiifeaaRingV
import Derived.Test.YtigmflobiiifeaaLawFourteenB
import Derived.Test.YtigmflobiiifeaaRead
namespace Go.Proofs.Ytigmflobiiifeaa
open Go.ChangeShapes Go.WideShapes Go.ChangeAt Go.RowKit
set_option linter.unusedVariables false
theorem RingPlays_walk (room : Int) (a0 : Option Addr) (n0 c0 : Nat) (w : World) (l0 : List Wn) (hroom : I64 room) (hn0 : l0.length = n0) (hl0 : Lies w 0 w.heap.size (.slice a0 n0 c0) n0 3 (l0.flatMap Wn.cells)) (hi0 : ∀ x ∈ l0, x.In) :
    Calls Try.prog 3 #[.int .i64 room, .slice a0 n0 c0] w fun e w' => e = .returned (.bool true) ∧ Below w.heap.size w w' := RingPlays_of ringInt room a0 n0 c0 w l0 hroom hn0 hl0 hi0
end Go.Proofs.Ytigmflobiiifeaa
