/- Joined of ConfB, ConfC, ConfG, ConfH, ConfI: The walks of the layer of systems: what is right. -/
import Derived.Test.YtiioodpofdlkhaaBase
namespace Go.Proofs.Ytiioodpofdlkhaa
open Go.ChangeShapes Go.WideShapes Go.ChangeAt Go.RowKit
set_option linter.unusedVariables false



theorem serverRight_any (b : Bool) (c t : Int) (w : World) :
    Calls Try.prog 18 #[.agg #[.bool b, .int .i64 c, .int .i64 t]] w fun e w' => e = .returned (.bool (okSv ⟨b, c, t⟩)) ∧ Below w.heap.size w w' := by
  rcases (show c < 1 ∨ (1 ≤ c ∧ t < c) ∨ (1 ≤ c ∧ c ≤ t ∧ 1000 < t) ∨ (1 ≤ c ∧ c ≤ t ∧ t ≤ 1000) from by omega) with h | ⟨h, h⟩ | ⟨h, h, h⟩ | ⟨h, h, h⟩
  all_goals
    (go_enter Try.func18, Try.ntmps18
     go_wp2
     go_ret
     exact ⟨ret_b (by rw [Bool.eq_iff_iff]; simp [okSv]; omega), below1 _ _⟩)
end Go.Proofs.Ytiioodpofdlkhaa
namespace Go.Proofs.Ytiioodpofdlkhaa
open Go.ChangeShapes Go.WideShapes Go.ChangeAt Go.RowKit
set_option linter.unusedVariables false


end Go.Proofs.Ytiioodpofdlkhaa
namespace Go.Proofs.Ytiioodpofdlkhaa
open Go.ChangeShapes Go.WideShapes Go.ChangeAt Go.RowKit
set_option linter.unusedVariables false

theorem all_next {α : Type} (f : α → Bool) (xs : List α) (k : Nat) (x : α) (h : xs[k]? = some x) (ha : (xs.take k).all f = true) (hx : f x = true) : (xs.take (k + 1)).all f = true := by
  rw [List.take_add_one, h]; simp [ha, hx]
theorem all_not {α : Type} (f : α → Bool) (xs : List α) (k : Nat) (x : α) (h : xs[k]? = some x) (hx : f x = false) : xs.all f = false := by
  have hm : x ∈ xs := List.mem_of_getElem? h
  cases e : xs.all f with
  | false => rfl
  | true => rw [List.all_eq_true.1 e x hm] at hx; cases hx
theorem all_end {α : Type} (f : α → Bool) (xs : List α) (k : Nat) (h : xs.length ≤ k) (ha : (xs.take k).all f = true) : xs.all f = true := by
  rwa [List.take_of_length_le h] at ha

end Go.Proofs.Ytiioodpofdlkhaa
namespace Go.Proofs.Ytiioodpofdlkhaa
open Go.ChangeShapes Go.WideShapes Go.ChangeAt Go.RowKit
set_option linter.unusedVariables false



end Go.Proofs.Ytiioodpofdlkhaa
namespace Go.Proofs.Ytiioodpofdlkhaa
open Go.ChangeShapes Go.WideShapes Go.ChangeAt Go.RowKit
set_option linter.unusedVariables false



end Go.Proofs.Ytiioodpofdlkhaa
