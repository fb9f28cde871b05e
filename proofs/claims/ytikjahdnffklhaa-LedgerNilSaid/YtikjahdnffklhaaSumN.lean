/- Sums over the first so many numbers. -/
import Derived.Test.YtikjahdnffklhaaBase
namespace Go.Proofs.Ytikjahdnffklhaa
set_option linter.unusedVariables false

def sumN (f : Nat → Nat) : Nat → Nat
  | 0 => 0
  | k + 1 => sumN f k + f k
theorem sumN_add (f g : Nat → Nat) (k : Nat) : sumN (fun i => f i + g i) k = sumN f k + sumN g k := by
  induction k with
  | zero => rfl
  | succ k ih => simp only [sumN, ih]; omega
theorem sumN_congr {f g : Nat → Nat} {k : Nat} (h : ∀ i, i < k → f i = g i) : sumN f k = sumN g k := by
  induction k with
  | zero => rfl
  | succ k ih => simp only [sumN]; rw [ih (fun i hi => h i (by omega)), h k (by omega)]
theorem sumN_zero (k : Nat) : sumN (fun _ => 0) k = 0 := by
  induction k with
  | zero => rfl
  | succ k ih => simp [sumN, ih]
/-- One number is told, once. -/
theorem sumN_one (c : Int) (v k : Nat) : sumN (fun i => if c = (i : Int) then v else 0) k = if 0 ≤ c ∧ c < (k : Int) then v else 0 := by
  induction k with
  | zero => rw [if_neg (by omega)]; rfl
  | succ k ih =>
    simp only [sumN, ih]
    by_cases h : c = (k : Int)
    · rw [if_pos h, if_neg (by omega), if_pos (by omega)]; omega
    · rw [if_neg h]
      by_cases h2 : 0 ≤ c ∧ c < (k : Int)
      · rw [if_pos h2, if_pos (by omega)]; rfl
      · rw [if_neg h2, if_neg (by omega)]
theorem sumN_le {f : Nat → Nat} {b : Nat} (h : ∀ i, f i ≤ b) (k : Nat) : sumN f k ≤ k * b := by
  induction k with
  | zero => simp [sumN]
  | succ k ih => simp only [sumN]; have := h k; rw [Nat.succ_mul]; omega
end Go.Proofs.Ytikjahdnffklhaa
