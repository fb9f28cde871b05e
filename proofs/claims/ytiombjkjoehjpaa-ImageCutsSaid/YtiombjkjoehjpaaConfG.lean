/- The walks of the layer of systems: what is right of a partition. -/
import Derived.Test.YtiombjkjoehjpaaConfC
import Derived.Test.YtiombjkjoehjpaaConfD
namespace Go.Proofs.Ytiombjkjoehjpaa
open Go.ChangeShapes Go.WideShapes Go.ChangeAt Go.RowKit
set_option linter.unusedVariables false

theorem all_next {α : Type} (f : α → Bool) (xs : List α) (k : Nat) (x : α) (h : xs[k]? = some x) (ha : (xs.take k).all f = true) (hx : f x = true) : (xs.take (k + 1)).all f = true := by
  rw [List.take_add_one, h]; simp [ha, hx]
theorem all_not {α : Type} (f : α → Bool) (xs : List α) (k : Nat) (x : α) (h : xs[k]? = some x) (hx : f x = false) : xs.all f = false := by
  have hm : x ∈ xs := List.mem_of_getElem? h
  cases e : xs.all f with
  | false => rfl
  | true => rw [List.all_eq_true.1 e x hm] at hx; cases hx
theorem all_end {α : Type} (f : α → Bool) (xs : List α) (k : Nat) (h : xs.length ≤ k) (ha : (xs.take k).all f = true) : xs.all f = true := by
  rwa [List.take_of_length_le h] at ha

end Go.Proofs.Ytiombjkjoehjpaa
