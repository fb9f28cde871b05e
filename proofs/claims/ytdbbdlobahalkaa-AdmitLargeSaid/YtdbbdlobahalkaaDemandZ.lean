/- The document's demand of a partition, and its steps. -/
import Derived.Test.YtdbbdlobahalkaaDemandOne
import Derived.Test.YtdbbdlobahalkaaDemandS
import Derived.Test.YtdbbdlobahalkaaGrow
namespace Go.Proofs.Ytdbbdlobahalkaa
open Go.ChangeShapes Go.WideShapes Go.ChangeAt Go.RowKit
set_option linter.unusedVariables false
attribute [local go_sem ↓] Go.wp_at_zero Go.wp_at_succ

theorem ofV_bd (k : Tk) (t : Int) (high : Bool) : 0 ≤ ofV k t high ∧ ofV k t high ≤ 1099511627777000 := by
  obtain ⟨c0, c1⟩ := cutT_in t
  unfold ofV
  by_cases h : okTk k = true
  · rw [if_pos h]
    split
    · exact highAt_bd h c0 c1
    · exact lowAt_bd h c0 c1
  · rw [if_neg h]; omega
theorem servV_bd (s : Sv) (t : Int) : 0 ≤ servV s t ∧ servV s t ≤ 1099511627777000 := by
  obtain ⟨c0, c1⟩ := cutT_in t
  unfold servV
  by_cases h : okSv s = true
  · rw [if_pos h]; exact servAt_bd h c0 c1
  · rw [if_neg h]; omega
theorem take_map_next {α : Type} (f : α → Int) (xs : List α) (k : Nat) (x : α) (h : xs[k]? = some x) : sumI ((xs.take (k + 1)).map f) = sumI ((xs.take k).map f) + f x := by
  rw [List.take_add_one, h, List.map_append]
  exact sumI_snoc _ _
theorem sum_bd {α : Type} (f : α → Int) (hf : ∀ x, 0 ≤ f x ∧ f x ≤ 1099511627777000) (xs : List α) (h : xs.length ≤ 20) : 0 ≤ sumI (xs.map f) ∧ sumI (xs.map f) ≤ 21990232555540000 := by
  have := sumI_bd (B := 1099511627777000) xs.length (xs.map f) (by simp) (fun x hx => by
    obtain ⟨y, _, rfl⟩ := List.mem_map.1 hx
    exact hf y)
  have h2 : ((xs.length : Nat) : Int) ≤ 20 := by omega
  omega
theorem stepsV_len (d : Int → Int) : ∀ k, (stepsV d k).length ≤ k
  | 0 => by simp [stepsV]
  | k + 1 => by
    have := stepsV_len d k
    rw [stepsV_next]
    split
    · omega
    · rw [List.length_append]; simp; omega
end Go.Proofs.Ytdbbdlobahalkaa
