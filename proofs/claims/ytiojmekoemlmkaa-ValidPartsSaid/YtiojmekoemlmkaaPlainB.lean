/- Plain facts on what divides two numbers: the rounds of division with rest, and how soon they end. -/
import Derived.Test.YtiojmekoemlmkaaPlainA
namespace Go.Proofs.Ytiojmekoemlmkaa
open Go.RowKit
set_option linter.unusedVariables false

/-- x and y are what is left of a and b, somewhere on the way. -/
def OnWay (a b x y : Int) : Prop := Nat.gcd x.toNat y.toNat = Nat.gcd a.toNat b.toNat ∧ 0 ≤ x ∧ 0 ≤ y ∧ x ≤ 9223372036854775807 ∧ y ≤ 9223372036854775807
def gcdI (a b : Int) : Int := if a < 0 ∨ b < 0 then 0 else (Nat.gcd a.toNat b.toNat : Nat)

theorem onWay_next {a b x y : Int} (h : OnWay a b x y) (hy : 1 ≤ y) : OnWay a b y (x % y) := by
  obtain ⟨g, x0, y0, x1, y1⟩ := h
  have m0 := mod_pos' (a := x) hy
  have m1 := mod_lt' (a := x) hy
  refine ⟨?_, y0, m0, y1, by omega⟩
  rw [← g]
  obtain ⟨m, rfl⟩ := Int.eq_ofNat_of_zero_le x0
  obtain ⟨n, rfl⟩ := Int.eq_ofNat_of_zero_le y0
  have e : ((m : Int) % (n : Int)).toNat = m % n := rfl
  rw [e]
  simp only [Int.toNat_natCast]
  rw [Nat.gcd_comm m n, Nat.gcd_rec n m, Nat.gcd_comm]
theorem onWay_end {a b x : Int} (h : OnWay a b x 0) (ha : 0 ≤ a) (hb : 0 ≤ b) : x = gcdI a b := by
  obtain ⟨g, x0, _, _, _⟩ := h
  unfold gcdI
  rw [if_neg (by omega), ← g]
  simp
  omega
theorem gcdI_neg {a b : Int} (h : a < 0 ∨ b < 0) : gcdI a b = 0 := by unfold gcdI; rw [if_pos h]
theorem gcdI_pos {a b : Int} (ha : 0 ≤ a) (hb : 0 ≤ b) : gcdI a b = (Nat.gcd a.toNat b.toNat : Nat) := by unfold gcdI; rw [if_neg (by omega)]
theorem gcdI_nonneg (a b : Int) : 0 ≤ gcdI a b := by unfold gcdI; split <;> omega

/-- Behind i rounds what is left is so small. -/
def Less (i : Nat) (x y : Int) : Prop := (i = 0 ∧ x.toNat * y.toNat * 2 ≤ 2 ^ 127) ∨ (y < x ∧ x.toNat * y.toNat * 2 ^ i ≤ 2 ^ 127)
theorem less_start {a b : Int} (ha : a ≤ 9223372036854775807) (hb : b ≤ 9223372036854775807) : Less 0 a b := by
  refine .inl ⟨rfl, ?_⟩
  have h : a.toNat * b.toNat ≤ 9223372036854775807 * 9223372036854775807 := Nat.mul_le_mul (by omega) (by omega)
  exact Nat.le_trans (Nat.mul_le_mul h (Nat.le_refl _)) (by decide)
theorem less_next {i : Nat} {x y : Int} (h : Less i x y) (x0 : 0 ≤ x) (hy : 1 ≤ y) : Less (i + 1) y (x % y) := by
  have m1 := mod_lt' (a := x) hy
  obtain ⟨m, rfl⟩ := Int.eq_ofNat_of_zero_le x0
  obtain ⟨n, rfl⟩ := Int.eq_ofNat_of_zero_le (show 0 ≤ y by omega)
  have e : ((m : Int) % (n : Int)).toNat = m % n := rfl
  refine .inr ⟨m1, ?_⟩
  rw [e]
  simp only [Less, Int.toNat_natCast] at h ⊢
  have hn : 0 < n := by omega
  rcases h with ⟨k, h⟩ | ⟨k, h⟩
  · subst k
    have : n * (m % n) ≤ m * n := by rw [Nat.mul_comm m n]; exact Nat.mul_le_mul (Nat.le_refl _) (Nat.mod_le _ _)
    exact Nat.le_trans (Nat.mul_le_mul this (Nat.le_refl _)) h
  · have : n * (m % n) * 2 ≤ m * n := by
      have h1 : m % n * 2 ≤ m := by
        have := Nat.mod_add_div m n
        have h3 := Nat.mod_lt m hn
        have h2 : 1 ≤ m / n := Nat.div_pos (by omega) hn
        have h4 : n * 1 ≤ n * (m / n) := Nat.mul_le_mul (Nat.le_refl _) h2
        omega
      rw [Nat.mul_assoc, Nat.mul_comm m n]; exact Nat.mul_le_mul (Nat.le_refl _) h1
    rw [Nat.pow_succ, Nat.mul_comm (2 ^ i) 2, ← Nat.mul_assoc]
    exact Nat.le_trans (Nat.mul_le_mul this (Nat.le_refl _)) h
theorem less_end {x y : Int} (h : Less 200 x y) (x0 : 0 ≤ x) (y0 : 0 ≤ y) : y = 0 := by
  rcases h with ⟨k, _⟩ | ⟨k, h⟩
  · omega
  · by_cases e : y = 0
    · exact e
    · have : 1 ≤ x.toNat * y.toNat := Nat.mul_pos (by omega) (by omega)
      have h2 : 1 * 2 ^ 200 ≤ 2 ^ 127 := Nat.le_trans (Nat.mul_le_mul this (Nat.le_refl _)) h
      exact absurd h2 (by decide)

end Go.Proofs.Ytiojmekoemlmkaa
