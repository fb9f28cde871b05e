/- LedgerOnce, of the program. -/
import Derived.Test.YtikjahdnffklhaaLedgZ
import Derived.Test.YtikjahdnffklhaaLawFifteenB
import Derived.Test.YtikjahdnffklhaaRead
namespace Go.Proofs.Ytikjahdnffklhaa
open Go.ChangeShapes Go.WideShapes Go.ChangeAt Go.RowKit
theorem LedgerOnce_walk (parts : Int) (a0 : Option Addr) (n0 c0 : Nat) (w : World) (l0 : List Wn) (hparts : I64 parts) (hn0 : l0.length = n0) (hl0 : Lies w 0 w.heap.size (.slice a0 n0 c0) n0 3 (l0.flatMap Wn.cells)) (hi0 : ∀ x ∈ l0, x.In) :
    Calls Try.prog 4 #[.int .i64 parts, .slice a0 n0 c0] w fun e w' => e = .returned (.bool true) ∧ Below w.heap.size w w' := LedgerOnce_of ledgerOk parts a0 n0 c0 w l0 hparts hn0 hl0 hi0
end Go.Proofs.Ytikjahdnffklhaa
