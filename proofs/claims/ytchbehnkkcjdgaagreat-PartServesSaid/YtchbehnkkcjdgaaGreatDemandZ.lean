/- The document's demand of a partition, and its steps. -/
import Derived.Test.YtchbehnkkcjdgaaGreatDemandOne
import Derived.Test.YtchbehnkkcjdgaaGreatDemandS
import Derived.Test.YtchbehnkkcjdgaaGreatGrow
namespace Go.Proofs.YtchbehnkkcjdgaaGreat
open Go.ChangeShapes Go.WideShapes Go.ChangeAt Go.RowKit
set_option linter.unusedVariables false
attribute [local go_sem ↓] Go.wp_at_zero Go.wp_at_succ
theorem ofV_bd (k : Tk) (t : Int) (high : Bool) : 0 ≤ ofV k t high ∧ ofV k t high ≤ 1099511627777000 := by
 obtain ⟨c0, c1⟩ := cutT_in t
 unfold ofV
 by_cases h : okTk k = true
 ·rw [if_pos h]
  split
  ·exact highAt_bd h c0 c1
  ·exact lowAt_bd h c0 c1
 ·rw [if_neg h]; omega
theorem servV_bd (s : Sv) (t : Int) : 0 ≤ servV s t ∧ servV s t ≤ 1099511627777000 := by
 obtain ⟨c0, c1⟩ := cutT_in t
 unfold servV
 by_cases h : okSv s = true
 ·rw [if_pos h]; exact servAt_bd h c0 c1
 ·rw [if_neg h]; omega
end Go.Proofs.YtchbehnkkcjdgaaGreat
