/- RefillBound, of the program. -/
import Derived.Test.YtiioodpofdlkhaaRefillY
import Derived.Test.YtiioodpofdlkhaaLawEighteenA
import Derived.Test.YtiioodpofdlkhaaReadAct17
namespace Go.Proofs.Ytiioodpofdlkhaa
open Go.ChangeShapes Go.WideShapes Go.ChangeAt Go.RowKit
set_option linter.unusedVariables false
theorem RefillBound_walk (re : Bool) (c t st : Int) (a1 : Option Addr) (n1 c1 : Nat) (w : World) (l1 : List Bk) (hi0 : (⟨re, c, t⟩ : Sv).In) (hist : I64 st) (hn1 : l1.length = n1) (hl1 : Lies w 0 w.heap.size (.slice a1 n1 c1) n1 2 (l1.flatMap Bk.cells)) (hi1 : ∀ x ∈ l1, x.In) :
    Calls Try.prog 3 #[.agg #[.bool re, .int .i64 c, .int .i64 t], .int .i64 st, .slice a1 n1 c1] w fun e w' => e = .returned (.bool true) ∧ Below w.heap.size w w' := RefillBound_of refillOk re c t st a1 n1 c1 w l1 hn1 hl1
end Go.Proofs.Ytiioodpofdlkhaa
