/- The walks of the layer of systems: what the document takes for right. -/
import Derived.Test.YtiojmekoemlmkaaConfB
namespace Go.Proofs.Ytiojmekoemlmkaa
open Go.ChangeShapes Go.WideShapes Go.ChangeAt Go.RowKit
set_option linter.unusedVariables false

set_option maxHeartbeats 2000000 in
theorem refTask_any (b : Bool) (t d v lo top : Int) (w : World) :
    Calls Try.prog 54 #[.agg #[.bool b, .int .i64 t, .int .i64 d, .int .i64 v, .int .i64 lo, .int .i64 top]] w fun e w' => e = .returned (.bool (okTk ⟨b, t, d, v, lo, top⟩)) ∧ Below w.heap.size w w' := by
  rcases (show t < 1 ∨ 1000 < t ∨ (1 ≤ t ∧ t ≤ 1000 ∧ lo < 1) ∨ (1 ≤ t ∧ t ≤ 1000 ∧ 1 ≤ lo ∧ v < lo) ∨ (1 ≤ t ∧ t ≤ 1000 ∧ 1 ≤ lo ∧ lo ≤ v ∧ d < v) ∨ (1 ≤ t ∧ t ≤ 1000 ∧ 1 ≤ lo ∧ lo ≤ v ∧ v ≤ d ∧ t < d) ∨ (1 ≤ t ∧ t ≤ 1000 ∧ 1 ≤ lo ∧ lo ≤ v ∧ v ≤ d ∧ d ≤ t ∧ top < lo)
      ∨ (1 ≤ t ∧ t ≤ 1000 ∧ 1 ≤ lo ∧ lo ≤ v ∧ v ≤ d ∧ d ≤ t ∧ lo ≤ top ∧ d < top) ∨ (1 ≤ t ∧ t ≤ 1000 ∧ 1 ≤ lo ∧ lo ≤ v ∧ v ≤ d ∧ d ≤ t ∧ lo ≤ top ∧ top ≤ d) from by omega) with h | h | ⟨h, h, h⟩ | ⟨h, h, h, h⟩ | ⟨h, h, h, h, h⟩ | ⟨h, h, h, h, h, h⟩ | ⟨h, h, h, h, h, h, h⟩ | ⟨h, h, h, h, h, h, h, h⟩ | ⟨h, h, h, h, h, h, h, h⟩
  all_goals try
    (go_enter Try.func54, Try.ntmps54
     go_wp2
     go_ret
     exact ⟨ret_b (by simp [okTk]; omega), below1 _ _⟩)
  cases b
  · by_cases e1 : v = d
    · have k1 : (v == d) = true := by simpa using e1
      by_cases e2 : top = lo
      · have k2 : (top == lo) = true := by simpa using e2
        go_enter Try.func54, Try.ntmps54
        go_wp2
        go_ret
        exact ⟨ret_b (by simp [okTk]; omega), below1 _ _⟩
      · have k2 : (top == lo) = false := by simpa using e2
        go_enter Try.func54, Try.ntmps54
        go_wp2
        go_ret
        exact ⟨ret_b (by simp [okTk]; omega), below1 _ _⟩
    · have k1 : (v == d) = false := by simpa using e1
      go_enter Try.func54, Try.ntmps54
      go_wp2
      go_ret
      exact ⟨ret_b (by simp [okTk]; omega), below1 _ _⟩
  · go_enter Try.func54, Try.ntmps54
    go_wp2
    go_ret
    exact ⟨ret_b (by simp [okTk]; omega), below1 _ _⟩

theorem refServer_any (b : Bool) (c t : Int) (w : World) :
    Calls Try.prog 55 #[.agg #[.bool b, .int .i64 c, .int .i64 t]] w fun e w' => e = .returned (.bool (okSv ⟨b, c, t⟩)) ∧ Below w.heap.size w w' := by
  rcases (show c < 1 ∨ (1 ≤ c ∧ t < c) ∨ (1 ≤ c ∧ c ≤ t ∧ 1000 < t) ∨ (1 ≤ c ∧ c ≤ t ∧ t ≤ 1000) from by omega) with h | ⟨h, h⟩ | ⟨h, h, h⟩ | ⟨h, h, h⟩
  all_goals
    (go_enter Try.func55, Try.ntmps55
     go_wp2
     go_ret
     exact ⟨ret_b (by rw [Bool.eq_iff_iff]; simp [okSv]; omega), below1 _ _⟩)
end Go.Proofs.Ytiojmekoemlmkaa
