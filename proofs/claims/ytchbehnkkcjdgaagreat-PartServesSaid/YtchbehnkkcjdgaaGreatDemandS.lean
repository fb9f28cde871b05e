/- Where demand rises: a mark for each period and place in it; no program in it. -/
import Derived.Test.YtchbehnkkcjdgaaGreatDemandOne
namespace Go.Proofs.YtchbehnkkcjdgaaGreat
set_option linter.unusedVariables false
end Go.Proofs.YtchbehnkkcjdgaaGreat
