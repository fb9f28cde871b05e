/- Joined of ConfN, ConfO: Which numbers are partitions', and which are other ones, each once: plain facts, and the document's walk. -/
import Derived.Test.YtkikapodobeaaaaBase
import Derived.Deep.RegionLaw
import Derived.Deep.CutRange
import Derived.OwnWalk
namespace Go.Proofs.Ytkikapodobeaaaa
open Go.ChangeShapes Go.WideShapes Go.ChangeAt Go.RowKit
set_option linter.unusedVariables false
attribute [local go_sem ↓] Go.wp_at_zero Go.wp_at_succ

theorem has_any (fr mg p : Int) (wa pa ca : Option Addr) (wn wc pn pc cn cc : Nat) (w : World) :
    Calls Try.prog 20 #[.agg #[.int .i64 fr, .int .i64 mg, .slice wa wn wc, .slice pa pn pc, .slice ca cn cc], .int .i64 p] w fun e w' => e = .returned (.bool (hasB pn p)) ∧ Below w.heap.size w w' := by
  rcases (show p < 0 ∨ (0 ≤ p ∧ (pn : Int) ≤ p) ∨ (0 ≤ p ∧ p < (pn : Int)) from by omega) with h | ⟨h, h⟩ | ⟨h, h⟩
  all_goals
    (go_enter Try.func20, Try.ntmps20
     go_wp2
     go_ret
     exact ⟨ret_b (by rw [Bool.eq_iff_iff]; simp [hasB]; try omega), below1 _ _⟩)
theorem refHas_any (fr mg p : Int) (wa pa ca : Option Addr) (wn wc pn pc cn cc : Nat) (w : World) :
    Calls Try.prog 12 #[.agg #[.int .i64 fr, .int .i64 mg, .slice wa wn wc, .slice pa pn pc, .slice ca cn cc], .int .i64 p] w fun e w' => e = .returned (.bool (hasB pn p)) ∧ Below w.heap.size w w' := by
  rcases (show p < 0 ∨ (0 ≤ p ∧ (pn : Int) ≤ p) ∨ (0 ≤ p ∧ p < (pn : Int)) from by omega) with h | ⟨h, h⟩ | ⟨h, h⟩
  all_goals
    (go_enter Try.func12, Try.ntmps12
     go_wp2
     go_ret
     exact ⟨ret_b (by rw [Bool.eq_iff_iff]; simp [hasB]; try omega), below1 _ _⟩)

end Go.Proofs.Ytkikapodobeaaaa
namespace Go.Proofs.Ytkikapodobeaaaa
open Go.ChangeShapes Go.WideShapes Go.ChangeAt Go.RowKit
set_option linter.unusedVariables false
attribute [local go_sem ↓] Go.wp_at_zero Go.wp_at_succ

/-- Marks: of each number below pn, whether it is among those of s. -/
def marks (pn : Nat) (s : List Int) : List Value := (List.range pn).map fun (i : Nat) => Value.bool (decide ((i : Int) ∈ s))
theorem marks_len (pn : Nat) (s : List Int) : (marks pn s).length = pn := by simp [marks]
theorem marks_at {pn : Nat} {s : List Int} {i : Nat} (h : i < pn) : (marks pn s)[i]? = some (.bool (decide ((i : Int) ∈ s))) := by simp [marks, h]
theorem marks_set {pn : Nat} {s t : List Int} {i : Nat} (ht : ∀ x, x ∈ t ↔ x ∈ s ∨ x = (i : Int)) : (marks pn s).set i (.bool true) = marks pn t := by
  apply List.ext_getElem?
  intro j
  by_cases hj : j < pn
  · rw [marks_at hj]
    by_cases e : i = j
    · subst e
      rw [List.getElem?_set_self (by rw [marks_len]; exact hj)]
      have : ((i : Int) ∈ t) := (ht _).2 (.inr rfl)
      simp [this]
    · rw [List.getElem?_set_ne e, marks_at hj]
      have : ((j : Int) ∈ t ↔ (j : Int) ∈ s) := by
        rw [ht]
        constructor
        · rintro (h | h)
          · exact h
          · omega
        · exact .inl
      simp [this]
  · rw [List.getElem?_eq_none (by rw [List.length_set, marks_len]; omega), List.getElem?_eq_none (by rw [marks_len]; omega)]
theorem marks_nil (pn : Nat) : List.replicate pn (Value.bool false) = marks pn [] := by
  apply List.ext_getElem?
  intro j
  by_cases hj : j < pn
  · rw [marks_at hj, List.getElem?_replicate, if_pos hj]; simp
  · rw [List.getElem?_eq_none (by simp; omega), List.getElem?_eq_none (by rw [marks_len]; omega)]
theorem Try.infoBool : (Try.prog.info? 4).map (fun i => (i.zero, i.size, i.bytes)) = some (some (.bool false), 1, 1) := by kernel_rfl

end Go.Proofs.Ytkikapodobeaaaa
