/- few, of the statements of chapter 20. -/
import Derived.Test.YtchbehnkkcjdgaaGreatBase
namespace Go.Proofs.YtchbehnkkcjdgaaGreat
open Go.ChangeShapes Go.WideShapes Go.ChangeAt Go.RowKit
set_option linter.unusedVariables false
theorem few20_any (ta sa da : Option Addr) (tn tc sn sc dn dc : Nat) (x0 x1 x2 : Int) (w : World) :
 Calls Tryz.prog 7 #[.agg #[.slice ta tn tc, .slice sa sn sc, .slice da dn dc, .int .u8 x0, .int .u8 x1, .int .u8 x2]] w fun e w' => e = .returned (.bool (decide (tn ≤ 20) && (decide (sn ≤ 20) && decide (dn ≤ 20)))) ∧ Below w.heap.size w w' := by
 go_enter Tryz.func7, Tryz.ntmps7
 go_wp2
 all_goals go_ret
 all_goals exact ⟨ret_b (by rw [Bool.eq_iff_iff]; simp <;> omega), below1 _ _⟩
end Go.Proofs.YtchbehnkkcjdgaaGreat
