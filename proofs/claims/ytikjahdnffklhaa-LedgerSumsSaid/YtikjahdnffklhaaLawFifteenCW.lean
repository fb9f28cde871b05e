/- LedgerSums, of the program. -/
import Derived.Test.YtikjahdnffklhaaLedgZ
import Derived.Test.YtikjahdnffklhaaLawFifteenC
import Derived.Test.YtikjahdnffklhaaRead
namespace Go.Proofs.Ytikjahdnffklhaa
open Go.ChangeShapes Go.WideShapes Go.ChangeAt Go.RowKit
theorem LedgerSums_walk (a0 : Option Addr) (n0 c0 : Nat) (w : World) (l0 : List Int) (hn0 : l0.length = n0) (hl0 : Lies w 0 w.heap.size (.slice a0 n0 c0) n0 1 (l0.flatMap intCells)) (hi0 : ∀ x ∈ l0, I64 x) :
    Calls Try.prog 5 #[.slice a0 n0 c0] w fun e w' => e = .returned (.bool true) ∧ Below w.heap.size w w' := LedgerSums_of ledgerOk sumOk a0 n0 c0 w l0 hn0 hl0 hi0
end Go.Proofs.Ytikjahdnffklhaa
