/- The document's police, made. -/
import Derived.Test.YtchbehnkkcjdgaaGreatPolR
import Derived.Test.YtchbehnkkcjdgaaGreatPlains
import Derived.Test.YtchbehnkkcjdgaaGreatRights
import Derived.Lib.SliceRun
import Derived.BigRegion
import Derived.Deep.RegionLaw
namespace Go.Proofs.YtchbehnkkcjdgaaGreat
open Go.ChangeShapes Go.WideShapes Go.ChangeAt Go.RowKit
set_option linter.unusedVariables false
end Go.Proofs.YtchbehnkkcjdgaaGreat
