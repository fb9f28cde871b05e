/- The walks of the layer of systems: what is right. -/
import Derived.Test.YtiombjkjoehjpaaConfZ
namespace Go.Proofs.Ytiombjkjoehjpaa
open Go.ChangeShapes Go.WideShapes Go.ChangeAt Go.RowKit
set_option linter.unusedVariables false

theorem few_any (ta sa da : Option Addr) (tn tc sn sc dn dc : Nat) (x0 x1 x2 : Int) (w : World) :
    Calls Try.prog 18 #[.agg #[.slice ta tn tc, .slice sa sn sc, .slice da dn dc, .int .u8 x0, .int .u8 x1, .int .u8 x2]] w fun e w' => e = .returned (.bool (decide (tn ≤ 20) && (decide (sn ≤ 20) && decide (dn ≤ 20)))) ∧ Below w.heap.size w w' := by
  go_enter Try.func18, Try.ntmps18
  go_wp2
  all_goals go_ret
  all_goals exact ⟨ret_b (by rw [Bool.eq_iff_iff]; simp <;> omega), below1 _ _⟩

def okTk (k : Tk) : Bool := decide (1 ≤ k.lo ∧ k.lo ≤ k.v ∧ k.v ≤ k.d ∧ k.d ≤ k.t ∧ k.t ≤ 1000 ∧ k.lo ≤ k.top ∧ k.top ≤ k.d ∧ (k.hi = true ∨ (k.v = k.d ∧ k.top = k.lo)))
def okSv (k : Sv) : Bool := decide (1 ≤ k.c ∧ k.c ≤ k.t ∧ k.t ≤ 1000)


end Go.Proofs.Ytiombjkjoehjpaa
