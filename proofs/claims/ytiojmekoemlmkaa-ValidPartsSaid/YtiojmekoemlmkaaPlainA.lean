/- Plain facts on whole numbers: division rounded down, up, and towards nought. -/
import Derived.RowKit
import Derived.IntWalk
namespace Go.Proofs.Ytiojmekoemlmkaa
open Go.RowKit
set_option linter.unusedVariables false

def flo (a b : Int) : Int := if b < 1 then 0 else a / b
def cei (a b : Int) : Int := if b < 1 then 0 else -((-a) / b)
def rest (a b : Int) : Int := if b < 1 then 0 else a % b

theorem divs {a b q r : Int} (hb : 0 < b) (h : r + b * q = a) (h0 : 0 ≤ r) (h1 : r < b) : a / b = q ∧ a % b = r := (Int.ediv_emod_unique hb).2 ⟨h, h0, h1⟩
theorem div_parts (a : Int) {b : Int} (hb : 0 < b) : a % b + b * (a / b) = a ∧ 0 ≤ a % b ∧ a % b < b := (Int.ediv_emod_unique hb).1 ⟨rfl, rfl⟩
theorem div_bd {a b : Int} (hb : 1 ≤ b) (h0 : 0 ≤ a) : 0 ≤ a / b ∧ a / b ≤ a := by
  have := hb; exact ⟨Int.ediv_nonneg h0 (by omega), Int.ediv_le_self _ h0⟩
theorem tneg {a b : Int} (h : a < 0) (hb : 1 ≤ b) : a.tdiv b = -((-a) / b) ∧ a.tmod b = -((-a) % b) := by
  have e : a = -(-a) := by omega
  constructor
  · conv => lhs; rw [e, Int.neg_tdiv]
    rw [Int.tdiv_eq_ediv_of_nonneg (by omega)]
  · conv => lhs; rw [e, Int.neg_tmod]
    rw [Int.tmod_eq_emod_of_nonneg (by omega)]
/-- What is left of -a, seen from a. -/
theorem neg_div0 {a b : Int} (hb : 1 ≤ b) (h : (-a) % b = 0) : a / b = -((-a) / b) ∧ a % b = 0 := by
  have p := div_parts (-a) (b := b) (by omega)
  exact divs (by omega) (by rw [Int.mul_neg]; omega) (by omega) (by omega)
theorem neg_div1 {a b : Int} (hb : 1 ≤ b) (h : 0 < (-a) % b) : a / b = -((-a) / b) - 1 ∧ a % b = b - (-a) % b := by
  have p := div_parts (-a) (b := b) (by omega)
  exact divs (by omega) (by rw [Int.mul_sub, Int.mul_neg, Int.mul_one]; omega) (by omega) (by omega)
theorem half {n b : Int} (hb : 1 ≤ b) (h : 0 < n % b) (h0 : 0 ≤ n) : n / b ≤ n - n / b := by
  have p := div_parts n (b := b) (by omega)
  have q := div_bd hb h0
  have h2 : 2 ≤ b := by
    by_cases e : b = 1
    · subst e; have := Int.emod_one n; omega
    · omega
  have : 2 * (n / b) ≤ b * (n / b) := Int.mul_le_mul_of_nonneg_right h2 q.1
  omega

theorem flo_pos {a b : Int} (hb : 1 ≤ b) : flo a b = a / b := by unfold flo; rw [if_neg (by omega)]
theorem rest_pos {a b : Int} (hb : 1 ≤ b) : rest a b = a % b := by unfold rest; rw [if_neg (by omega)]
theorem cei_pos {a b : Int} (hb : 1 ≤ b) : cei a b = -((-a) / b) := by unfold cei; rw [if_neg (by omega)]

theorem flo_n1 {a b : Int} (h : a < 0) (hb : 1 ≤ b) (lo : -9223372036854775808 ≤ a) (t : a.tmod b < 0) : wrap64 (a.tdiv b - 1) = flo a b := by
  obtain ⟨e, f⟩ := tneg h hb
  rw [f] at t
  have p := div_parts (-a) (b := b) (by omega)
  have q := half (n := -a) hb (by omega) (by omega)
  have q2 := div_bd (a := -a) hb (by omega)
  rw [flo_pos hb, e, (neg_div1 (a := a) hb (by omega)).1]
  exact IntWalk.wrap64_in _ (by omega)
theorem flo_n2 {a b : Int} (h : a < 0) (hb : 1 ≤ b) (t : 0 ≤ a.tmod b) : a.tdiv b = flo a b := by
  obtain ⟨e, f⟩ := tneg h hb
  rw [f] at t
  have p := div_parts (-a) (b := b) (by omega)
  rw [flo_pos hb, e, (neg_div0 (a := a) hb (by omega)).1]
theorem mod_pos' {a b : Int} (hb : 1 ≤ b) : 0 ≤ a % b := Int.emod_nonneg _ (by omega)
theorem mod_lt' {a b : Int} (hb : 1 ≤ b) : a % b < b := Int.emod_lt_of_pos _ (by omega)
theorem cei_p1 {a b : Int} (h : 0 ≤ a) (hb : 1 ≤ b) (hi : a ≤ 9223372036854775807) (t : 0 < a % b) : a / b + 1 = cei a b ∧ wrap64 (a / b + 1) = cei a b := by
  have p := half (n := a) hb t h
  have q := div_bd hb h
  have e : cei a b = a / b + 1 := by
    have := neg_div1 (a := -a) hb (by rw [Int.neg_neg]; exact t)
    rw [Int.neg_neg] at this
    rw [cei_pos hb, this.1]; omega
  rw [e]
  exact ⟨rfl, IntWalk.wrap64_in _ (by omega)⟩
theorem cei_p2 {a b : Int} (hb : 1 ≤ b) (t : a % b ≤ 0) : a / b = cei a b := by
  have g := mod_pos' (a := a) hb
  have := neg_div0 (a := -a) hb (by rw [Int.neg_neg]; omega)
  rw [Int.neg_neg] at this
  rw [cei_pos hb, this.1]; omega
theorem cei_n {a b : Int} (h : a < 0) (hb : 1 ≤ b) : a.tdiv b = cei a b := by
  rw [cei_pos hb, (tneg h hb).1]
theorem tmod_np {a b : Int} (h : a < 0) (hb : 1 ≤ b) : a.tmod b ≤ 0 := by
  rw [(tneg h hb).2]; have := mod_pos' (a := -a) hb; omega
theorem rest_n1 {a b : Int} (h : a < 0) (hb : 1 ≤ b) (hi : b ≤ 9223372036854775807) (t : a.tmod b < 0) : a.tmod b + b = rest a b ∧ wrap64 (a.tmod b + b) = rest a b := by
  have f := (tneg h hb).2
  have p := div_parts (-a) (b := b) (by omega)
  have e : a.tmod b + b = rest a b := by
    rw [f] at t
    rw [rest_pos hb, f, (neg_div1 (a := a) hb (by omega)).2]; omega
  refine ⟨e, ?_⟩
  rw [← e]; exact IntWalk.wrap64_in _ (by omega)
theorem rest_n2 {a b : Int} (h : a < 0) (hb : 1 ≤ b) (t : 0 ≤ a.tmod b) : a.tmod b = rest a b := by
  have f := (tneg h hb).2
  have p := div_parts (-a) (b := b) (by omega)
  rw [f] at t
  rw [rest_pos hb, f, (neg_div0 (a := a) hb (by omega)).2]; omega

end Go.Proofs.Ytiojmekoemlmkaa
