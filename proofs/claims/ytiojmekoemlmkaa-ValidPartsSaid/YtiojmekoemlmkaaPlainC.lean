/- Plain facts on the least number that all of a list divide, as it is worked out one by one. -/
import Derived.Test.YtiojmekoemlmkaaPlainB
namespace Go.Proofs.Ytiojmekoemlmkaa
open Go.RowKit
set_option linter.unusedVariables false

def fitB (a : Int) : Bool := decide (0 ≤ a ∧ a ≤ 4611686018427387904)
def addFits (a b : Int) : Bool := fitB a && fitB b && decide (a + b ≤ 4611686018427387904)
def addTold (a b : Int) : Int := if addFits a b then a + b else 0
def mulFits (a b : Int) : Bool := fitB a && fitB b && decide (a * b ≤ 4611686018427387904)
def mulTold (a b : Int) : Int := if mulFits a b then a * b else 0
theorem fitB_t {a : Int} (h : fitB a = true) : 0 ≤ a ∧ a ≤ 4611686018427387904 := by simpa [fitB] using h
theorem fitB_f {a : Int} (h : ¬ fitB a = true) : a < 0 ∨ 4611686018427387904 < a := by simp [fitB] at h; omega
theorem addFits_t {a b : Int} (h : fitB a = true) (k : fitB b = true) (s : a + b ≤ 4611686018427387904) : addFits a b = true := by
  simp [addFits, h, k, s]
theorem addFits_f {a b : Int} (h : fitB a = false ∨ fitB b = false ∨ 4611686018427387904 < a + b) : addFits a b = false := by
  rcases h with h | h | h <;> simp [addFits, h]
theorem addTold_t {a b : Int} (h : addFits a b = true) : addTold a b = a + b := by simp [addTold, h]
theorem addTold_f {a b : Int} (h : addFits a b = false) : addTold a b = 0 := by simp [addTold, h]
theorem mulFits_t {a b : Int} (h : fitB a = true) (k : fitB b = true) (s : a * b ≤ 4611686018427387904) : mulFits a b = true := by
  simp [mulFits, h, k, s]
theorem mulFits_f {a b : Int} (h : fitB a = false ∨ fitB b = false ∨ 4611686018427387904 < a * b) : mulFits a b = false := by
  rcases h with h | h | h <;> simp [mulFits, h]
theorem mulTold_t {a b : Int} (h : mulFits a b = true) : mulTold a b = a * b := by simp [mulTold, h]
theorem mulTold_f {a b : Int} (h : mulFits a b = false) : mulTold a b = 0 := by simp [mulTold, h]
theorem mulFits_in {a b : Int} (h : mulFits a b = true) : (0 ≤ a ∧ a ≤ 4611686018427387904) ∧ (0 ≤ b ∧ b ≤ 4611686018427387904) ∧ a * b ≤ 4611686018427387904 := by
  simp [mulFits, fitB] at h; omega
theorem div_gt {m a b : Int} (h : 0 < a) : m / a < b ↔ m < a * b := by
  rw [Int.ediv_lt_iff_lt_mul h, Int.mul_comm]

/-- One number more. -/
def lcmNext (acc n : Int) : Int := acc / gcdI acc n * n
def lcmRun (acc : Int) : List Int → Option Int
  | [] => some acc
  | n :: r => if n < 1 then none else if mulFits (acc / gcdI acc n) n then lcmRun (lcmNext acc n) r else none
def lcmOk (most : Int) (l : List Int) : Bool := match lcmRun 1 l with | none => false | some n => !decide (most < n)
def lcmV (most : Int) (l : List Int) : Int := match lcmRun 1 l with | none => 0 | some n => if most < n then 0 else n

theorem lcmRun_stop1 {acc n : Int} {l : List Int} (h : n < 1) : lcmRun acc (n :: l) = none := by simp [lcmRun, h]
theorem lcmRun_stop2 {acc n : Int} {l : List Int} (h : mulFits (acc / gcdI acc n) n = false) : lcmRun acc (n :: l) = none := by simp [lcmRun, h]
theorem lcmRun_next {acc n : Int} {l : List Int} (h : 1 ≤ n) (k : mulFits (acc / gcdI acc n) n = true) : lcmRun acc (n :: l) = lcmRun (lcmNext acc n) l := by
  have : ¬ n < 1 := by omega
  simp [lcmRun, this, k]
theorem gcdI_one {acc n : Int} (h : 1 ≤ acc) (k : 1 ≤ n) : 1 ≤ gcdI acc n ∧ gcdI acc n ≤ acc ∧ gcdI acc n ≤ n := by
  rw [gcdI_pos (by omega) (by omega)]
  have h1 := Nat.gcd_le_left n.toNat (show 0 < acc.toNat by omega)
  have h2 := Nat.gcd_le_right acc.toNat (show 0 < n.toNat by omega)
  have h3 := Nat.gcd_pos_of_pos_left n.toNat (show 0 < acc.toNat by omega)
  omega
theorem gcdI_dvd {a b : Int} (h : 0 ≤ a) (k : 0 ≤ b) : gcdI a b ∣ a ∧ gcdI a b ∣ b := by
  rw [gcdI_pos h k]
  obtain ⟨m, rfl⟩ := Int.eq_ofNat_of_zero_le h
  obtain ⟨n, rfl⟩ := Int.eq_ofNat_of_zero_le k
  simp only [Int.toNat_natCast]
  exact ⟨Int.natCast_dvd_natCast.2 (Nat.gcd_dvd_left m n), Int.natCast_dvd_natCast.2 (Nat.gcd_dvd_right m n)⟩
theorem quo_one {acc n : Int} (h : 1 ≤ acc) (k : 1 ≤ n) : 1 ≤ acc / gcdI acc n ∧ acc / gcdI acc n ≤ acc := by
  obtain ⟨g1, g2, g3⟩ := gcdI_one h k
  exact ⟨(Int.le_ediv_iff_mul_le (by omega)).2 (by omega), (div_bd g1 (by omega)).2⟩
theorem lcmNext_one {acc n : Int} (h : 1 ≤ acc) (k : 1 ≤ n) (f : mulFits (acc / gcdI acc n) n = true) : 1 ≤ lcmNext acc n ∧ lcmNext acc n ≤ 4611686018427387904 := by
  refine ⟨?_, (mulFits_in f).2.2⟩
  have := Int.mul_le_mul (quo_one h k).1 k (by omega) (by have := (quo_one h k).1; omega)
  simpa [lcmNext] using this
/-- What was worked out so far divides what comes, and so does the number. -/
theorem lcmNext_dvd {acc n : Int} (h : 1 ≤ acc) (k : 1 ≤ n) : acc ∣ lcmNext acc n ∧ n ∣ lcmNext acc n := by
  obtain ⟨d1, d2⟩ := gcdI_dvd (show 0 ≤ acc by omega) (show 0 ≤ n by omega)
  refine ⟨?_, Int.dvd_mul_left _ _⟩
  obtain ⟨c, hc⟩ := d2
  obtain ⟨g1, _, _⟩ := gcdI_one h k
  have e : acc / gcdI acc n * gcdI acc n = acc := Int.ediv_mul_cancel d1
  have : lcmNext acc n = acc * c := by
    unfold lcmNext
    conv => lhs; rhs; rw [hc]
    rw [← Int.mul_assoc, e]
  exact ⟨c, this⟩
theorem lcmRun_all : ∀ (l : List Int) (acc n : Int), 1 ≤ acc → acc ≤ 4611686018427387904 → lcmRun acc l = some n → 1 ≤ n ∧ n ≤ 4611686018427387904 ∧ acc ∣ n ∧ ∀ x ∈ l, 1 ≤ x ∧ x ∣ n
  | [], acc, n, h, h2, e => by
    simp [lcmRun] at e; subst e; exact ⟨h, h2, Int.dvd_refl _, by simp⟩
  | x :: r, acc, n, h, h2, e => by
    by_cases k : x < 1
    · rw [lcmRun_stop1 k] at e; cases e
    · have k1 : 1 ≤ x := by omega
      cases f : mulFits (acc / gcdI acc x) x with
      | false => rw [lcmRun_stop2 f] at e; cases e
      | true =>
        rw [lcmRun_next k1 f] at e
        obtain ⟨a, b⟩ := lcmNext_one h k1 f
        obtain ⟨q1, q2, q3, q4⟩ := lcmRun_all r _ n a b e
        obtain ⟨d1, d2⟩ := lcmNext_dvd h k1
        refine ⟨q1, q2, Int.dvd_trans d1 q3, fun y hy => ?_⟩
        rcases List.mem_cons.1 hy with rfl | hy
        · exact ⟨k1, Int.dvd_trans d2 q3⟩
        · exact q4 y hy
theorem lcm_end_none {most : Int} {l : List Int} (h : lcmRun 1 l = none) : lcmV most l = 0 ∧ lcmOk most l = false := by simp [lcmV, lcmOk, h]
theorem lcm_end_over {most n : Int} {l : List Int} (h : lcmRun 1 l = some n) (k : most < n) : lcmV most l = 0 ∧ lcmOk most l = false := by simp [lcmV, lcmOk, h, k]
theorem lcm_end_in {most n : Int} {l : List Int} (h : lcmRun 1 l = some n) (k : ¬ most < n) : lcmV most l = n ∧ lcmOk most l = true := by simp [lcmV, lcmOk, h, k]
theorem drop_at {l : List Int} {k : Nat} (h : k < l.length) : l.drop k = l.getD k 0 :: l.drop (k + 1) := by
  rw [List.drop_eq_getElem_cons h]; simp [h]
theorem drop_end {l : List Int} {k : Nat} (h : l.length ≤ k) : l.drop k = [] := List.drop_of_length_le h

end Go.Proofs.Ytiojmekoemlmkaa
