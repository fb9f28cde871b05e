/- PoliceApart, of the program. -/
import Derived.Test.YtackgfjgephhoaaPolZ
import Derived.Test.YtackgfjgephhoaaLawSixteenB
import Derived.Test.YtackgfjgephhoaaRead
namespace Go.Proofs.Ytackgfjgephhoaa
open Go.ChangeShapes Go.WideShapes Go.ChangeAt Go.RowKit
theorem PoliceApart_walk (x0 : Bool) (x1 x2 x3 x4 x5 : Int) (a1 : Option Addr) (n1 c1 : Nat) (high : Bool) (w : World) (l1 : List Int) (hx : Tk.In ⟨x0, x1, x2, x3, x4, x5⟩) (hn1 : l1.length = n1) (hl1 : Lies w 0 w.heap.size (.slice a1 n1 c1) n1 1 (l1.flatMap intCells)) (hi1 : ∀ x ∈ l1, I64 x) :
    Calls Try.prog 4 #[.agg #[.bool x0, .int .i64 x1, .int .i64 x2, .int .i64 x3, .int .i64 x4, .int .i64 x5], .slice a1 n1 c1, .bool high] w fun e w' => e = .returned (.bool true) ∧ Below w.heap.size w w' := PoliceApart_of policeOk x0 x1 x2 x3 x4 x5 a1 n1 c1 high w l1 hx hn1 hl1 hi1
end Go.Proofs.Ytackgfjgephhoaa
