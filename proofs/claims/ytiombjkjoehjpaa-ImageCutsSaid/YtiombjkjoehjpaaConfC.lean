/- The walks of the layer of systems: what the document takes for right. -/
import Derived.Test.YtiombjkjoehjpaaConfB
namespace Go.Proofs.Ytiombjkjoehjpaa
open Go.ChangeShapes Go.WideShapes Go.ChangeAt Go.RowKit
set_option linter.unusedVariables false


end Go.Proofs.Ytiombjkjoehjpaa
