/- Joined of ConfB, ConfC, ConfG, ConfH, ConfI: The walks of the layer of systems: what is right. -/
import Derived.Test.YtkikapodobeaaaaBase
namespace Go.Proofs.Ytkikapodobeaaaa
open Go.ChangeShapes Go.WideShapes Go.ChangeAt Go.RowKit
set_option linter.unusedVariables false

theorem few_any (ta sa da : Option Addr) (tn tc sn sc dn dc : Nat) (x0 x1 x2 : Int) (w : World) :
    Calls Try.prog 22 #[.agg #[.slice ta tn tc, .slice sa sn sc, .slice da dn dc, .int .u8 x0, .int .u8 x1, .int .u8 x2]] w fun e w' => e = .returned (.bool (decide (tn ≤ 20) && (decide (sn ≤ 20) && decide (dn ≤ 20)))) ∧ Below w.heap.size w w' := by
  go_enter Try.func22, Try.ntmps22
  go_wp2
  all_goals go_ret
  all_goals exact ⟨ret_b (by rw [Bool.eq_iff_iff]; simp <;> omega), below1 _ _⟩


end Go.Proofs.Ytkikapodobeaaaa
namespace Go.Proofs.Ytkikapodobeaaaa
open Go.ChangeShapes Go.WideShapes Go.ChangeAt Go.RowKit
set_option linter.unusedVariables false


end Go.Proofs.Ytkikapodobeaaaa
namespace Go.Proofs.Ytkikapodobeaaaa
open Go.ChangeShapes Go.WideShapes Go.ChangeAt Go.RowKit
set_option linter.unusedVariables false

theorem all_next {α : Type} (f : α → Bool) (xs : List α) (k : Nat) (x : α) (h : xs[k]? = some x) (ha : (xs.take k).all f = true) (hx : f x = true) : (xs.take (k + 1)).all f = true := by
  rw [List.take_add_one, h]; simp [ha, hx]
theorem all_not {α : Type} (f : α → Bool) (xs : List α) (k : Nat) (x : α) (h : xs[k]? = some x) (hx : f x = false) : xs.all f = false := by
  have hm : x ∈ xs := List.mem_of_getElem? h
  cases e : xs.all f with
  | false => rfl
  | true => rw [List.all_eq_true.1 e x hm] at hx; cases hx
theorem all_end {α : Type} (f : α → Bool) (xs : List α) (k : Nat) (h : xs.length ≤ k) (ha : (xs.take k).all f = true) : xs.all f = true := by
  rwa [List.take_of_length_le h] at ha

end Go.Proofs.Ytkikapodobeaaaa
namespace Go.Proofs.Ytkikapodobeaaaa
open Go.ChangeShapes Go.WideShapes Go.ChangeAt Go.RowKit
set_option linter.unusedVariables false



end Go.Proofs.Ytkikapodobeaaaa
namespace Go.Proofs.Ytkikapodobeaaaa
open Go.ChangeShapes Go.WideShapes Go.ChangeAt Go.RowKit
set_option linter.unusedVariables false



end Go.Proofs.Ytkikapodobeaaaa
