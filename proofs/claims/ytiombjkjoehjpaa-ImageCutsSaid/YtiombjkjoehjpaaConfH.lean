/- The walks of the layer of systems: what is wrong with a partition. -/
import Derived.Test.YtiombjkjoehjpaaConfG
namespace Go.Proofs.Ytiombjkjoehjpaa
open Go.ChangeShapes Go.WideShapes Go.ChangeAt Go.RowKit
set_option linter.unusedVariables false

def okActs (x0 x1 x2 : Int) : Bool := decide (x0 ≤ 2 ∧ x1 ≤ 2 ∧ x2 ≤ 2)
def wrongOf (ts : List Tk) (ss : List Sv) (x0 x1 x2 : Int) : Int := if 6 < ts.length then 22 else if ts.all okTk = false then 22 else if 3 < ss.length then 23 else if ss.all okSv = false then 23 else if okActs x0 x1 x2 = false then 26 else 0


end Go.Proofs.Ytiombjkjoehjpaa
