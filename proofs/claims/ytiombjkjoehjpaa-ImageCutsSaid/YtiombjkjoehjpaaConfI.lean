/- The walks of the layer of systems: what the document takes for wrong with a partition; what must come. -/
import Derived.Test.YtiombjkjoehjpaaConfH
namespace Go.Proofs.Ytiombjkjoehjpaa
open Go.ChangeShapes Go.WideShapes Go.ChangeAt Go.RowKit
set_option linter.unusedVariables false



end Go.Proofs.Ytiombjkjoehjpaa
