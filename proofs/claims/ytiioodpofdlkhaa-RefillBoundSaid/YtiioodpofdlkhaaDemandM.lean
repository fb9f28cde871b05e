/- How much may be asked for: no program in it. -/
import Derived.Test.YtiioodpofdlkhaaBase
namespace Go.Proofs.Ytiioodpofdlkhaa
set_option linter.unusedVariables false

def cutT (t : Int) : Int := min (max t 0) 1099511627776
theorem cutT_in (t : Int) : 0 ≤ cutT t ∧ cutT t ≤ 1099511627776 := by unfold cutT; omega
theorem cutT_of {t : Int} (h0 : 0 ≤ t) (h1 : t ≤ 1099511627776) : cutT t = t := by unfold cutT; omega
theorem okTk_t {k : Tk} (h : okTk k = true) : 1 ≤ k.lo ∧ k.lo ≤ k.v ∧ k.v ≤ k.d ∧ k.d ≤ k.t ∧ k.t ≤ 1000 ∧ k.lo ≤ k.top ∧ k.top ≤ k.d ∧ (k.hi = true ∨ (k.v = k.d ∧ k.top = k.lo)) := of_decide_eq_true h
theorem okSv_t {s : Sv} (h : okSv s = true) : 1 ≤ s.c ∧ s.c ≤ s.t ∧ s.t ≤ 1000 := of_decide_eq_true h
/-- What is asked for by one task in t ticks. -/
def lowAt (k : Tk) (t : Int) : Int := if t < k.v then 0 else k.lo * ((t - k.v) / k.t + 1)
def doneAt (k : Tk) (t : Int) : Int := if k.d - k.v ≤ t % k.t ∧ t % k.t < k.d then max 0 (k.lo - (t % k.t - (k.d - k.v))) else 0
def highAt (k : Tk) (t : Int) : Int := if k.hi = false ∨ t < k.d - k.v then 0 else k.top * ((t - (k.d - k.v)) / k.t + 1) - doneAt k t
def servAt (s : Sv) (t : Int) : Int := if s.re then (if t < s.t then 0 else s.c * ((t - 1) / s.t + 1)) else s.c * (t / s.t)
def ofV (k : Tk) (t : Int) (high : Bool) : Int := if okTk k then (if high then highAt k (cutT t) else lowAt k (cutT t)) else 0
def servV (s : Sv) (t : Int) : Int := if okSv s then servAt s (cutT t) else 0
def sumI (l : List Int) : Int := l.foldl (fun a b => a + b) 0
theorem sumI_snoc (l : List Int) (x : Int) : sumI (l ++ [x]) = sumI l + x := by simp [sumI]
theorem sumI_bd {B : Int} : ∀ (n : Nat) (l : List Int), l.length = n → (∀ x ∈ l, 0 ≤ x ∧ x ≤ B) → 0 ≤ sumI l ∧ sumI l ≤ n * B
  | 0, l, hl, _ => by
    have : l = [] := List.eq_nil_of_length_eq_zero hl
    subst this
    simp [sumI]
  | n + 1, l, hl, h => by
    have hne : l ≠ [] := by intro e; subst e; cases hl
    obtain ⟨ys, y, rfl⟩ : ∃ ys y, l = ys ++ [y] := ⟨l.dropLast, l.getLast hne, (List.dropLast_concat_getLast hne).symm⟩
    have h1 := sumI_bd n ys (by simpa using hl) fun x hx => h x (by simp [hx])
    have h2 := h y (by simp)
    rw [sumI_snoc]
    have e : ((n + 1 : Nat) : Int) * B = n * B + B := by rw [Int.natCast_add, Int.add_mul]; simp
    omega
def lowV (p : Pt) (t : Int) : Int := sumI (p.ts.map fun k => ofV k t false) + sumI (p.ss.map fun s => servV s t)
def highV (p : Pt) (t : Int) : Int := sumI (p.ts.map fun k => ofV k t true)
def demV (p : Pt) (t : Int) (high : Bool) : Int := if high then highV p t else lowV p t
theorem div_next (a : Int) {T : Int} (hT : 0 < T) : (a + T) / T = a / T + 1 := by
  have := Int.add_mul_ediv_right a 1 (show T ≠ 0 by omega)
  rwa [Int.one_mul] at this
theorem div_le_self {a T : Int} (ha : 0 ≤ a) (hT : 1 ≤ T) : a / T ≤ a := by
  have := Int.mul_ediv_add_emod a T
  have h1 := Int.emod_nonneg a (show T ≠ 0 by omega)
  have h2 : 0 ≤ a / T := Int.ediv_nonneg ha (by omega)
  have h3 : 1 * (a / T) ≤ T * (a / T) := Int.mul_le_mul_of_nonneg_right hT h2
  omega
section
variable {k : Tk} {s : Sv} {t : Int}
theorem lowAt_bd (h : okTk k = true) (h0 : 0 ≤ t) (h1 : t ≤ 1099511627776) : 0 ≤ lowAt k t ∧ lowAt k t ≤ 1099511627777000 := by
  obtain ⟨a1, a2, a3, a4, a5, a6, a7, a8⟩ := okTk_t h
  unfold lowAt
  split
  · omega
  · have d0 : 0 ≤ (t - k.v) / k.t := Int.ediv_nonneg (by omega) (by omega)
    have d1 := div_le_self (a := t - k.v) (T := k.t) (by omega) (by omega)
    refine ⟨Int.mul_nonneg (by omega) (by omega), ?_⟩
    have := Int.mul_le_mul (a := k.lo) (b := (t - k.v) / k.t + 1) (c := 1000) (d := 1099511627777) (by omega) (by omega) (by omega) (by omega)
    omega
theorem doneAt_bd (h : okTk k = true) : 0 ≤ doneAt k t ∧ doneAt k t ≤ k.lo := by
  obtain ⟨a1, a2, a3, a4, a5, a6, a7, a8⟩ := okTk_t h
  unfold doneAt
  split <;> omega
theorem highAt_bd (h : okTk k = true) (h0 : 0 ≤ t) (h1 : t ≤ 1099511627776) : 0 ≤ highAt k t ∧ highAt k t ≤ 1099511627777000 := by
  obtain ⟨a1, a2, a3, a4, a5, a6, a7, a8⟩ := okTk_t h
  unfold highAt
  split
  · omega
  · have hd := doneAt_bd (t := t) h
    have d0 : 0 ≤ (t - (k.d - k.v)) / k.t := Int.ediv_nonneg (by omega) (by omega)
    have d1 := div_le_self (a := t - (k.d - k.v)) (T := k.t) (by omega) (by omega)
    have m1 := Int.mul_le_mul (a := k.top) (b := (t - (k.d - k.v)) / k.t + 1) (c := 1000) (d := 1099511627777) (by omega) (by omega) (by omega) (by omega)
    have m2 : k.top * 1 ≤ k.top * ((t - (k.d - k.v)) / k.t + 1) := Int.mul_le_mul_of_nonneg_left (by omega) (by omega)
    omega
theorem servAt_bd (h : okSv s = true) (h0 : 0 ≤ t) (h1 : t ≤ 1099511627776) : 0 ≤ servAt s t ∧ servAt s t ≤ 1099511627777000 := by
  obtain ⟨a1, a2, a3⟩ := okSv_t h
  unfold servAt
  split
  · split
    · omega
    · have d0 : 0 ≤ (t - 1) / s.t := Int.ediv_nonneg (by omega) (by omega)
      have d1 := div_le_self (a := t - 1) (T := s.t) (by omega) (by omega)
      refine ⟨Int.mul_nonneg (by omega) (by omega), ?_⟩
      have := Int.mul_le_mul (a := s.c) (b := (t - 1) / s.t + 1) (c := 1000) (d := 1099511627777) (by omega) (by omega) (by omega) (by omega)
      omega
  · have d0 : 0 ≤ t / s.t := Int.ediv_nonneg (by omega) (by omega)
    have d1 := div_le_self (a := t) (T := s.t) (by omega) (by omega)
    refine ⟨Int.mul_nonneg (by omega) (by omega), ?_⟩
    have := Int.mul_le_mul (a := s.c) (b := t / s.t) (c := 1000) (d := 1099511627776) (by omega) (by omega) (by omega) (by omega)
    omega
theorem lowAt_mono (h : okTk k = true) {u : Int} (ht : t ≤ u) : lowAt k t ≤ lowAt k u := by
  obtain ⟨a1, a2, a3, a4, a5, a6, a7, a8⟩ := okTk_t h
  unfold lowAt
  by_cases h1 : t < k.v
  · rw [if_pos h1]
    split
    · omega
    · have d0 : 0 ≤ (u - k.v) / k.t := Int.ediv_nonneg (by omega) (by omega)
      exact Int.mul_nonneg (by omega) (by omega)
  · rw [if_neg h1, if_neg (by omega)]
    have := Int.ediv_le_ediv (show 0 < k.t by omega) (show t - k.v ≤ u - k.v by omega)
    exact Int.mul_le_mul_of_nonneg_left (by omega) (by omega)
theorem servAt_mono (h : okSv s = true) (h0 : 0 ≤ t) {u : Int} (ht : t ≤ u) : servAt s t ≤ servAt s u := by
  obtain ⟨a1, a2, a3⟩ := okSv_t h
  unfold servAt
  split
  · by_cases h1 : t < s.t
    · rw [if_pos h1]
      split
      · omega
      · have d0 : 0 ≤ (u - 1) / s.t := Int.ediv_nonneg (by omega) (by omega)
        exact Int.mul_nonneg (by omega) (by omega)
    · rw [if_neg h1, if_neg (by omega)]
      have := Int.ediv_le_ediv (show 0 < s.t by omega) (show t - 1 ≤ u - 1 by omega)
      exact Int.mul_le_mul_of_nonneg_left (by omega) (by omega)
  · have := Int.ediv_le_ediv (show 0 < s.t by omega) ht
    exact Int.mul_le_mul_of_nonneg_left (by omega) (by omega)
theorem lowAt_period (h : okTk k = true) (ht : k.v ≤ t) : lowAt k (t + k.t) = lowAt k t + k.lo := by
  obtain ⟨a1, a2, a3, a4, a5, a6, a7, a8⟩ := okTk_t h
  unfold lowAt
  rw [if_neg (by omega), if_neg (by omega), show t + k.t - k.v = t - k.v + k.t by omega, div_next _ (by omega), Int.mul_add, Int.mul_add]
  omega
theorem highAt_period (h : okTk k = true) (ht : k.d - k.v ≤ t) (hh : k.hi = true) : highAt k (t + k.t) = highAt k t + k.top := by
  obtain ⟨a1, a2, a3, a4, a5, a6, a7, a8⟩ := okTk_t h
  have e : doneAt k (t + k.t) = doneAt k t := by unfold doneAt; rw [Int.add_emod_right]
  unfold highAt
  rw [if_neg (by simp [hh]; omega), if_neg (by simp [hh]; omega), e, show t + k.t - (k.d - k.v) = t - (k.d - k.v) + k.t by omega, div_next _ (by omega), Int.mul_add, Int.mul_add]
  omega
theorem servAt_period (h : okSv s = true) (ht : s.t ≤ t) : servAt s (t + s.t) = servAt s t + s.c := by
  obtain ⟨a1, a2, a3⟩ := okSv_t h
  unfold servAt
  split
  · rw [if_neg (by omega), if_neg (by omega), show t + s.t - 1 = t - 1 + s.t by omega, div_next _ (by omega), Int.mul_add, Int.mul_add]
    omega
  · rw [div_next _ (by omega), Int.mul_add]
    omega
end
/-- How many of the numbers a, a + T, a + 2T .. are at most b. -/
def stepsTo (a T b : Int) : Int := if b < a then 0 else (b - a) / T + 1
theorem stepsTo_next {a T b : Int} (hT : 1 ≤ T) (h : a ≤ b) : stepsTo a T b = stepsTo (a + T) T b + 1 := by
  unfold stepsTo
  rw [if_neg (by omega)]
  by_cases h1 : b < a + T
  · rw [if_pos h1, Int.ediv_eq_zero_of_lt (by omega) (by omega)]
  · rw [if_neg h1]
    have := div_next (b - (a + T)) (show 0 < T by omega)
    rw [show b - (a + T) + T = b - a by omega] at this
    omega
theorem lowAt_steps {k : Tk} {t : Int} : lowAt k t = k.lo * stepsTo 0 k.t (t - k.v) := by
  unfold lowAt stepsTo
  by_cases h : t < k.v
  · rw [if_pos h, if_pos (by omega)]; simp
  · rw [if_neg h, if_neg (by omega), Int.sub_zero]
theorem stepsTo_later {a c T b : Int} (hT : 1 ≤ T) (h : a ≤ c) : stepsTo c T b ≤ stepsTo a T b := by
  unfold stepsTo
  by_cases h1 : b < c
  · rw [if_pos h1]
    split
    · omega
    · have := Int.ediv_nonneg (show 0 ≤ b - a by omega) (show 0 ≤ T by omega)
      omega
  · rw [if_neg h1, if_neg (by omega)]
    have := Int.ediv_le_ediv (show 0 < T by omega) (show b - c ≤ b - a by omega)
    omega
theorem servAt_steps {s : Sv} {t : Int} (h : okSv s = true) (h0 : 0 ≤ t) : servAt s t = if t < s.t then 0 else s.c + s.c * stepsTo (if s.re then 1 else s.t) s.t (t - s.t) := by
  obtain ⟨a1, a2, a3⟩ := okSv_t h
  unfold servAt
  cases hr : s.re with
  | true =>
    simp only [if_true]
    split
    · rfl
    · rename_i h1
      unfold stepsTo
      by_cases h2 : t - s.t < 1
      · rw [if_pos h2, Int.ediv_eq_zero_of_lt (by omega) (by omega)]; omega
      · rw [if_neg h2]
        have := div_next (t - s.t - 1) (show 0 < s.t by omega)
        rw [show t - s.t - 1 + s.t = t - 1 by omega] at this
        rw [this, Int.mul_add, Int.mul_add]; omega
  | false =>
    simp only [Bool.false_eq_true, if_false]
    split
    · rename_i h1
      rw [Int.ediv_eq_zero_of_lt h0 h1]; simp
    · rename_i h1
      unfold stepsTo
      have d1 := div_next (t - s.t) (show 0 < s.t by omega)
      rw [show t - s.t + s.t = t by omega] at d1
      by_cases h2 : t - s.t < s.t
      · rw [if_pos h2, d1, Int.ediv_eq_zero_of_lt (by omega) h2]; simp
      · rw [if_neg h2]
        have d2 := div_next (t - s.t - s.t) (show 0 < s.t by omega)
        rw [show t - s.t - s.t + s.t = t - s.t by omega] at d2
        rw [d1, d2, Int.mul_add, Int.mul_add]; omega
/-- Where the demand changes. -/
def stepsV (d : Int → Int) (far : Nat) : List Nat := ((List.range far).map (· + 1)).filter fun (t : Nat) => d (t : Int) != d ((t : Int) - 1)
theorem stepsV_next (d : Int → Int) (k : Nat) : stepsV d (k + 1) = if d ((k : Int) + 1) = d (k : Int) then stepsV d k else stepsV d k ++ [k + 1] := by
  unfold stepsV
  rw [List.range_succ, List.map_append, List.filter_append]
  have e : (((k + 1 : Nat) : Int)) - 1 = k := by omega
  have e2 : ((k + 1 : Nat) : Int) = (k : Int) + 1 := by omega
  by_cases h : d ((k : Int) + 1) = d (k : Int)
  · rw [if_pos h]; simp [e2, h]
  · rw [if_neg h]; simp [e2, h]
end Go.Proofs.Ytiioodpofdlkhaa
