/- Joined of ConfB, ConfC, ConfG, ConfH, ConfI: The walks of the layer of systems: what is right. -/
import Derived.Test.YtdmkinoomnallaaBase
namespace Go.Proofs.Ytdmkinoomnallaa
open Go.ChangeShapes Go.WideShapes Go.ChangeAt Go.RowKit
set_option linter.unusedVariables false

theorem few_any (ta sa da : Option Addr) (tn tc sn sc dn dc : Nat) (x0 x1 x2 : Int) (w : World) :
    Calls Try.prog 30 #[.agg #[.slice ta tn tc, .slice sa sn sc, .slice da dn dc, .int .u8 x0, .int .u8 x1, .int .u8 x2]] w fun e w' => e = .returned (.bool (decide (tn ≤ 20) && (decide (sn ≤ 20) && decide (dn ≤ 20)))) ∧ Below w.heap.size w w' := by
  go_enter Try.func30, Try.ntmps30
  go_wp2
  all_goals go_ret
  all_goals exact ⟨ret_b (by rw [Bool.eq_iff_iff]; simp <;> omega), below1 _ _⟩

set_option maxHeartbeats 2000000 in
theorem taskRight_any (b : Bool) (t d v lo top : Int) (w : World) :
    Calls Try.prog 38 #[.agg #[.bool b, .int .i64 t, .int .i64 d, .int .i64 v, .int .i64 lo, .int .i64 top]] w fun e w' => e = .returned (.bool (okTk ⟨b, t, d, v, lo, top⟩)) ∧ Below w.heap.size w w' := by
  rcases (show 1000 < t ∨ (t ≤ 1000 ∧ t < d) ∨ (t ≤ 1000 ∧ d ≤ t ∧ d < v) ∨ (t ≤ 1000 ∧ d ≤ t ∧ v ≤ d ∧ v < lo) ∨ (t ≤ 1000 ∧ d ≤ t ∧ v ≤ d ∧ lo ≤ v ∧ lo < 1) ∨ (t ≤ 1000 ∧ d ≤ t ∧ v ≤ d ∧ lo ≤ v ∧ 1 ≤ lo ∧ top < lo)
      ∨ (t ≤ 1000 ∧ d ≤ t ∧ v ≤ d ∧ lo ≤ v ∧ 1 ≤ lo ∧ lo ≤ top ∧ d < top) ∨ (t ≤ 1000 ∧ d ≤ t ∧ v ≤ d ∧ lo ≤ v ∧ 1 ≤ lo ∧ lo ≤ top ∧ top ≤ d) from by omega) with h | ⟨h, h⟩ | ⟨h, h, h⟩ | ⟨h, h, h, h⟩ | ⟨h, h, h, h, h⟩ | ⟨h, h, h, h, h, h⟩ | ⟨h, h, h, h, h, h, h⟩ | ⟨h, h, h, h, h, h, h⟩
  all_goals try
    (go_enter Try.func38, Try.ntmps38
     go_wp2
     go_ret
     exact ⟨ret_b (by simp [okTk]; omega), below1 _ _⟩)
  cases b
  · by_cases e1 : v = d
    · have k1 : (v == d) = true := by simpa using e1
      by_cases e2 : top = lo
      · have k2 : (top == lo) = true := by simpa using e2
        go_enter Try.func38, Try.ntmps38
        go_wp2
        go_ret
        exact ⟨ret_b (by simp [okTk]; omega), below1 _ _⟩
      · have k2 : (top == lo) = false := by simpa using e2
        go_enter Try.func38, Try.ntmps38
        go_wp2
        go_ret
        exact ⟨ret_b (by simp [okTk]; omega), below1 _ _⟩
    · have k1 : (v == d) = false := by simpa using e1
      go_enter Try.func38, Try.ntmps38
      go_wp2
      go_ret
      exact ⟨ret_b (by simp [okTk]; omega), below1 _ _⟩
  · go_enter Try.func38, Try.ntmps38
    go_wp2
    go_ret
    exact ⟨ret_b (by simp [okTk]; omega), below1 _ _⟩

theorem serverRight_any (b : Bool) (c t : Int) (w : World) :
    Calls Try.prog 36 #[.agg #[.bool b, .int .i64 c, .int .i64 t]] w fun e w' => e = .returned (.bool (okSv ⟨b, c, t⟩)) ∧ Below w.heap.size w w' := by
  rcases (show c < 1 ∨ (1 ≤ c ∧ t < c) ∨ (1 ≤ c ∧ c ≤ t ∧ 1000 < t) ∨ (1 ≤ c ∧ c ≤ t ∧ t ≤ 1000) from by omega) with h | ⟨h, h⟩ | ⟨h, h, h⟩ | ⟨h, h, h⟩
  all_goals
    (go_enter Try.func36, Try.ntmps36
     go_wp2
     go_ret
     exact ⟨ret_b (by rw [Bool.eq_iff_iff]; simp [okSv]; omega), below1 _ _⟩)
end Go.Proofs.Ytdmkinoomnallaa
namespace Go.Proofs.Ytdmkinoomnallaa
open Go.ChangeShapes Go.WideShapes Go.ChangeAt Go.RowKit
set_option linter.unusedVariables false

set_option maxHeartbeats 2000000 in
theorem refTask_any (b : Bool) (t d v lo top : Int) (w : World) :
    Calls Try.prog 25 #[.agg #[.bool b, .int .i64 t, .int .i64 d, .int .i64 v, .int .i64 lo, .int .i64 top]] w fun e w' => e = .returned (.bool (okTk ⟨b, t, d, v, lo, top⟩)) ∧ Below w.heap.size w w' := by
  rcases (show t < 1 ∨ 1000 < t ∨ (1 ≤ t ∧ t ≤ 1000 ∧ lo < 1) ∨ (1 ≤ t ∧ t ≤ 1000 ∧ 1 ≤ lo ∧ v < lo) ∨ (1 ≤ t ∧ t ≤ 1000 ∧ 1 ≤ lo ∧ lo ≤ v ∧ d < v) ∨ (1 ≤ t ∧ t ≤ 1000 ∧ 1 ≤ lo ∧ lo ≤ v ∧ v ≤ d ∧ t < d) ∨ (1 ≤ t ∧ t ≤ 1000 ∧ 1 ≤ lo ∧ lo ≤ v ∧ v ≤ d ∧ d ≤ t ∧ top < lo)
      ∨ (1 ≤ t ∧ t ≤ 1000 ∧ 1 ≤ lo ∧ lo ≤ v ∧ v ≤ d ∧ d ≤ t ∧ lo ≤ top ∧ d < top) ∨ (1 ≤ t ∧ t ≤ 1000 ∧ 1 ≤ lo ∧ lo ≤ v ∧ v ≤ d ∧ d ≤ t ∧ lo ≤ top ∧ top ≤ d) from by omega) with h | h | ⟨h, h, h⟩ | ⟨h, h, h, h⟩ | ⟨h, h, h, h, h⟩ | ⟨h, h, h, h, h, h⟩ | ⟨h, h, h, h, h, h, h⟩ | ⟨h, h, h, h, h, h, h, h⟩ | ⟨h, h, h, h, h, h, h, h⟩
  all_goals try
    (go_enter Try.func25, Try.ntmps25
     go_wp2
     go_ret
     exact ⟨ret_b (by simp [okTk]; omega), below1 _ _⟩)
  cases b
  · by_cases e1 : v = d
    · have k1 : (v == d) = true := by simpa using e1
      by_cases e2 : top = lo
      · have k2 : (top == lo) = true := by simpa using e2
        go_enter Try.func25, Try.ntmps25
        go_wp2
        go_ret
        exact ⟨ret_b (by simp [okTk]; omega), below1 _ _⟩
      · have k2 : (top == lo) = false := by simpa using e2
        go_enter Try.func25, Try.ntmps25
        go_wp2
        go_ret
        exact ⟨ret_b (by simp [okTk]; omega), below1 _ _⟩
    · have k1 : (v == d) = false := by simpa using e1
      go_enter Try.func25, Try.ntmps25
      go_wp2
      go_ret
      exact ⟨ret_b (by simp [okTk]; omega), below1 _ _⟩
  · go_enter Try.func25, Try.ntmps25
    go_wp2
    go_ret
    exact ⟨ret_b (by simp [okTk]; omega), below1 _ _⟩

theorem refServer_any (b : Bool) (c t : Int) (w : World) :
    Calls Try.prog 26 #[.agg #[.bool b, .int .i64 c, .int .i64 t]] w fun e w' => e = .returned (.bool (okSv ⟨b, c, t⟩)) ∧ Below w.heap.size w w' := by
  rcases (show c < 1 ∨ (1 ≤ c ∧ t < c) ∨ (1 ≤ c ∧ c ≤ t ∧ 1000 < t) ∨ (1 ≤ c ∧ c ≤ t ∧ t ≤ 1000) from by omega) with h | ⟨h, h⟩ | ⟨h, h, h⟩ | ⟨h, h, h⟩
  all_goals
    (go_enter Try.func26, Try.ntmps26
     go_wp2
     go_ret
     exact ⟨ret_b (by rw [Bool.eq_iff_iff]; simp [okSv]; omega), below1 _ _⟩)
end Go.Proofs.Ytdmkinoomnallaa
namespace Go.Proofs.Ytdmkinoomnallaa
open Go.ChangeShapes Go.WideShapes Go.ChangeAt Go.RowKit
set_option linter.unusedVariables false

theorem all_next {α : Type} (f : α → Bool) (xs : List α) (k : Nat) (x : α) (h : xs[k]? = some x) (ha : (xs.take k).all f = true) (hx : f x = true) : (xs.take (k + 1)).all f = true := by
  rw [List.take_add_one, h]; simp [ha, hx]
theorem all_not {α : Type} (f : α → Bool) (xs : List α) (k : Nat) (x : α) (h : xs[k]? = some x) (hx : f x = false) : xs.all f = false := by
  have hm : x ∈ xs := List.mem_of_getElem? h
  cases e : xs.all f with
  | false => rfl
  | true => rw [List.all_eq_true.1 e x hm] at hx; cases hx
theorem all_end {α : Type} (f : α → Bool) (xs : List α) (k : Nat) (h : xs.length ≤ k) (ha : (xs.take k).all f = true) : xs.all f = true := by
  rwa [List.take_of_length_le h] at ha

end Go.Proofs.Ytdmkinoomnallaa
namespace Go.Proofs.Ytdmkinoomnallaa
open Go.ChangeShapes Go.WideShapes Go.ChangeAt Go.RowKit
set_option linter.unusedVariables false



end Go.Proofs.Ytdmkinoomnallaa
namespace Go.Proofs.Ytdmkinoomnallaa
open Go.ChangeShapes Go.WideShapes Go.ChangeAt Go.RowKit
set_option linter.unusedVariables false



end Go.Proofs.Ytdmkinoomnallaa
