/- PoliceNil, of the program. -/
import Derived.Test.YtackgfjgephhoaaPolZ
import Derived.Test.YtackgfjgephhoaaLawSixteenC
import Derived.Test.YtackgfjgephhoaaRead
namespace Go.Proofs.Ytackgfjgephhoaa
open Go.ChangeShapes Go.WideShapes Go.ChangeAt Go.RowKit
theorem PoliceNil_walk (a b c : Int) (w : World) :
    Calls Try.prog 5 #[.agg #[.int .i64 a, .int .i64 b, .int .i64 c]] w fun e w' => e = .returned (.bool true) ∧ Below w.heap.size w w' := PoliceNil_of policeNo policeOk a b c w
end Go.Proofs.Ytackgfjgephhoaa
