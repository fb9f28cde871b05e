/- The sorted list of what a heap holds. -/
import Derived.Test.YtnenbgdonkgkfaaGreatHeapA
namespace Go.Proofs.YtnenbgdonkgkfaaGreat
open Go.ChangeShapes Go.WideShapes Go.ChangeAt Go.RowKit
set_option linter.unusedVariables false

/-- The sorted list of what a heap holds. -/
theorem HpD.list {w : World} {lo hi H W X room n : Nat} {D : Nat → Option Int} (h : HpD w lo hi H W X room n D) : ∃ R : List En, Rep R D ∧ R.length = n := by
  obtain ⟨f, x, _, hG, _⟩ := h
  have hlt : ∀ a b, (!(ltOf cmpH) b a) = true ↔ ¬ ltH b a := fun a b => by rw [lt_cmpH]; simp
  have hp : ((rowH n f).mergeSort (fun x y => !(ltOf cmpH) y x)).Perm (rowH n f) := List.mergeSort_perm _ _
  have hs : ((rowH n f).mergeSort (fun x y => !(ltOf cmpH) y x)).Pairwise (fun a b => (!(ltOf cmpH) b a) = true) := List.pairwise_mergeSort (le := fun x y => !(ltOf cmpH) y x)
      (fun a b c h1 h2 => (hlt a c).2 (ltH.le_trans ((hlt a b).1 h1) ((hlt b c).1 h2)))
      (fun a b => by
        rw [Bool.or_eq_true, hlt, hlt]
        by_cases hc : ltH b a
        · exact .inr hc.asymm
        · exact .inl hc) _
  refine ⟨(rowH n f).mergeSort (fun x y => !(ltOf cmpH) y x), ⟨?_, fun id d => ?_⟩, ?_⟩
  · have hnd : ((rowH n f).mergeSort (fun x y => !(ltOf cmpH) y x)).Pairwise (fun a b => a ≠ b) := (hp.nodup_iff).2 (row_nodup hG)
    refine (hs.and hnd).imp fun {a b} hab => ?_
    have h1 := (hlt a b).1 hab.1
    rcases Decidable.em (ltH a b) with h2 | h2
    · exact h2
    · exact absurd (eq_of_not h2 h1) hab.2
  · rw [hp.mem_iff]; exact mem_row hG id d
  · rw [hp.length_eq]; simp [rowH]
end Go.Proofs.YtnenbgdonkgkfaaGreat
