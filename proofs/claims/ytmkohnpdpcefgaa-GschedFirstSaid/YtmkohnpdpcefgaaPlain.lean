/- Joined of PlainA, PlainB, PlainC: Plain facts on whole numbers: division rounded down, up, and towards nought. -/
import Derived.RowKit
import Derived.IntWalk
namespace Go.Proofs.Ytmkohnpdpcefgaa
open Go.RowKit
set_option linter.unusedVariables false

def flo (a b : Int) : Int := if b < 1 then 0 else a / b
def cei (a b : Int) : Int := if b < 1 then 0 else -((-a) / b)
def rest (a b : Int) : Int := if b < 1 then 0 else a % b

theorem divs {a b q r : Int} (hb : 0 < b) (h : r + b * q = a) (h0 : 0 ≤ r) (h1 : r < b) : a / b = q ∧ a % b = r := (Int.ediv_emod_unique hb).2 ⟨h, h0, h1⟩
theorem div_parts (a : Int) {b : Int} (hb : 0 < b) : a % b + b * (a / b) = a ∧ 0 ≤ a % b ∧ a % b < b := (Int.ediv_emod_unique hb).1 ⟨rfl, rfl⟩
theorem div_bd {a b : Int} (hb : 1 ≤ b) (h0 : 0 ≤ a) : 0 ≤ a / b ∧ a / b ≤ a := by
  have := hb; exact ⟨Int.ediv_nonneg h0 (by omega), Int.ediv_le_self _ h0⟩
theorem tneg {a b : Int} (h : a < 0) (hb : 1 ≤ b) : a.tdiv b = -((-a) / b) ∧ a.tmod b = -((-a) % b) := by
  have e : a = -(-a) := by omega
  constructor
  · conv => lhs; rw [e, Int.neg_tdiv]
    rw [Int.tdiv_eq_ediv_of_nonneg (by omega)]
  · conv => lhs; rw [e, Int.neg_tmod]
    rw [Int.tmod_eq_emod_of_nonneg (by omega)]
/-- What is left of -a, seen from a. -/
theorem neg_div0 {a b : Int} (hb : 1 ≤ b) (h : (-a) % b = 0) : a / b = -((-a) / b) ∧ a % b = 0 := by
  have p := div_parts (-a) (b := b) (by omega)
  exact divs (by omega) (by rw [Int.mul_neg]; omega) (by omega) (by omega)
theorem neg_div1 {a b : Int} (hb : 1 ≤ b) (h : 0 < (-a) % b) : a / b = -((-a) / b) - 1 ∧ a % b = b - (-a) % b := by
  have p := div_parts (-a) (b := b) (by omega)
  exact divs (by omega) (by rw [Int.mul_sub, Int.mul_neg, Int.mul_one]; omega) (by omega) (by omega)
theorem half {n b : Int} (hb : 1 ≤ b) (h : 0 < n % b) (h0 : 0 ≤ n) : n / b ≤ n - n / b := by
  have p := div_parts n (b := b) (by omega)
  have q := div_bd hb h0
  have h2 : 2 ≤ b := by
    by_cases e : b = 1
    · subst e; have := Int.emod_one n; omega
    · omega
  have : 2 * (n / b) ≤ b * (n / b) := Int.mul_le_mul_of_nonneg_right h2 q.1
  omega

theorem flo_pos {a b : Int} (hb : 1 ≤ b) : flo a b = a / b := by unfold flo; rw [if_neg (by omega)]
theorem rest_pos {a b : Int} (hb : 1 ≤ b) : rest a b = a % b := by unfold rest; rw [if_neg (by omega)]
theorem cei_pos {a b : Int} (hb : 1 ≤ b) : cei a b = -((-a) / b) := by unfold cei; rw [if_neg (by omega)]

theorem flo_n1 {a b : Int} (h : a < 0) (hb : 1 ≤ b) (lo : -9223372036854775808 ≤ a) (t : a.tmod b < 0) : wrap64 (a.tdiv b - 1) = flo a b := by
  obtain ⟨e, f⟩ := tneg h hb
  rw [f] at t
  have p := div_parts (-a) (b := b) (by omega)
  have q := half (n := -a) hb (by omega) (by omega)
  have q2 := div_bd (a := -a) hb (by omega)
  rw [flo_pos hb, e, (neg_div1 (a := a) hb (by omega)).1]
  exact IntWalk.wrap64_in _ (by omega)
theorem flo_n2 {a b : Int} (h : a < 0) (hb : 1 ≤ b) (t : 0 ≤ a.tmod b) : a.tdiv b = flo a b := by
  obtain ⟨e, f⟩ := tneg h hb
  rw [f] at t
  have p := div_parts (-a) (b := b) (by omega)
  rw [flo_pos hb, e, (neg_div0 (a := a) hb (by omega)).1]
theorem mod_pos' {a b : Int} (hb : 1 ≤ b) : 0 ≤ a % b := Int.emod_nonneg _ (by omega)
theorem mod_lt' {a b : Int} (hb : 1 ≤ b) : a % b < b := Int.emod_lt_of_pos _ (by omega)
theorem cei_p1 {a b : Int} (h : 0 ≤ a) (hb : 1 ≤ b) (hi : a ≤ 9223372036854775807) (t : 0 < a % b) : a / b + 1 = cei a b ∧ wrap64 (a / b + 1) = cei a b := by
  have p := half (n := a) hb t h
  have q := div_bd hb h
  have e : cei a b = a / b + 1 := by
    have := neg_div1 (a := -a) hb (by rw [Int.neg_neg]; exact t)
    rw [Int.neg_neg] at this
    rw [cei_pos hb, this.1]; omega
  rw [e]
  exact ⟨rfl, IntWalk.wrap64_in _ (by omega)⟩
theorem cei_p2 {a b : Int} (hb : 1 ≤ b) (t : a % b ≤ 0) : a / b = cei a b := by
  have g := mod_pos' (a := a) hb
  have := neg_div0 (a := -a) hb (by rw [Int.neg_neg]; omega)
  rw [Int.neg_neg] at this
  rw [cei_pos hb, this.1]; omega
theorem cei_n {a b : Int} (h : a < 0) (hb : 1 ≤ b) : a.tdiv b = cei a b := by
  rw [cei_pos hb, (tneg h hb).1]
theorem tmod_np {a b : Int} (h : a < 0) (hb : 1 ≤ b) : a.tmod b ≤ 0 := by
  rw [(tneg h hb).2]; have := mod_pos' (a := -a) hb; omega
theorem rest_n1 {a b : Int} (h : a < 0) (hb : 1 ≤ b) (hi : b ≤ 9223372036854775807) (t : a.tmod b < 0) : a.tmod b + b = rest a b ∧ wrap64 (a.tmod b + b) = rest a b := by
  have f := (tneg h hb).2
  have p := div_parts (-a) (b := b) (by omega)
  have e : a.tmod b + b = rest a b := by
    rw [f] at t
    rw [rest_pos hb, f, (neg_div1 (a := a) hb (by omega)).2]; omega
  refine ⟨e, ?_⟩
  rw [← e]; exact IntWalk.wrap64_in _ (by omega)
theorem rest_n2 {a b : Int} (h : a < 0) (hb : 1 ≤ b) (t : 0 ≤ a.tmod b) : a.tmod b = rest a b := by
  have f := (tneg h hb).2
  have p := div_parts (-a) (b := b) (by omega)
  rw [f] at t
  rw [rest_pos hb, f, (neg_div0 (a := a) hb (by omega)).2]; omega

end Go.Proofs.Ytmkohnpdpcefgaa
namespace Go.Proofs.Ytmkohnpdpcefgaa
open Go.RowKit
set_option linter.unusedVariables false

/-- x and y are what is left of a and b, somewhere on the way. -/
def OnWay (a b x y : Int) : Prop := Nat.gcd x.toNat y.toNat = Nat.gcd a.toNat b.toNat ∧ 0 ≤ x ∧ 0 ≤ y ∧ x ≤ 9223372036854775807 ∧ y ≤ 9223372036854775807
def gcdI (a b : Int) : Int := if a < 0 ∨ b < 0 then 0 else (Nat.gcd a.toNat b.toNat : Nat)

theorem onWay_next {a b x y : Int} (h : OnWay a b x y) (hy : 1 ≤ y) : OnWay a b y (x % y) := by
  obtain ⟨g, x0, y0, x1, y1⟩ := h
  have m0 := mod_pos' (a := x) hy
  have m1 := mod_lt' (a := x) hy
  refine ⟨?_, y0, m0, y1, by omega⟩
  rw [← g]
  obtain ⟨m, rfl⟩ := Int.eq_ofNat_of_zero_le x0
  obtain ⟨n, rfl⟩ := Int.eq_ofNat_of_zero_le y0
  have e : ((m : Int) % (n : Int)).toNat = m % n := rfl
  rw [e]
  simp only [Int.toNat_natCast]
  rw [Nat.gcd_comm m n, Nat.gcd_rec n m, Nat.gcd_comm]
theorem onWay_end {a b x : Int} (h : OnWay a b x 0) (ha : 0 ≤ a) (hb : 0 ≤ b) : x = gcdI a b := by
  obtain ⟨g, x0, _, _, _⟩ := h
  unfold gcdI
  rw [if_neg (by omega), ← g]
  simp
  omega
theorem gcdI_neg {a b : Int} (h : a < 0 ∨ b < 0) : gcdI a b = 0 := by unfold gcdI; rw [if_pos h]
theorem gcdI_pos {a b : Int} (ha : 0 ≤ a) (hb : 0 ≤ b) : gcdI a b = (Nat.gcd a.toNat b.toNat : Nat) := by unfold gcdI; rw [if_neg (by omega)]
theorem gcdI_nonneg (a b : Int) : 0 ≤ gcdI a b := by unfold gcdI; split <;> omega

/-- Behind i rounds what is left is so small. -/
def Less (i : Nat) (x y : Int) : Prop := (i = 0 ∧ x.toNat * y.toNat * 2 ≤ 2 ^ 127) ∨ (y < x ∧ x.toNat * y.toNat * 2 ^ i ≤ 2 ^ 127)
theorem less_start {a b : Int} (ha : a ≤ 9223372036854775807) (hb : b ≤ 9223372036854775807) : Less 0 a b := by
  refine .inl ⟨rfl, ?_⟩
  have h : a.toNat * b.toNat ≤ 9223372036854775807 * 9223372036854775807 := Nat.mul_le_mul (by omega) (by omega)
  exact Nat.le_trans (Nat.mul_le_mul h (Nat.le_refl _)) (by decide)
theorem less_next {i : Nat} {x y : Int} (h : Less i x y) (x0 : 0 ≤ x) (hy : 1 ≤ y) : Less (i + 1) y (x % y) := by
  have m1 := mod_lt' (a := x) hy
  obtain ⟨m, rfl⟩ := Int.eq_ofNat_of_zero_le x0
  obtain ⟨n, rfl⟩ := Int.eq_ofNat_of_zero_le (show 0 ≤ y by omega)
  have e : ((m : Int) % (n : Int)).toNat = m % n := rfl
  refine .inr ⟨m1, ?_⟩
  rw [e]
  simp only [Less, Int.toNat_natCast] at h ⊢
  have hn : 0 < n := by omega
  rcases h with ⟨k, h⟩ | ⟨k, h⟩
  · subst k
    have : n * (m % n) ≤ m * n := by rw [Nat.mul_comm m n]; exact Nat.mul_le_mul (Nat.le_refl _) (Nat.mod_le _ _)
    exact Nat.le_trans (Nat.mul_le_mul this (Nat.le_refl _)) h
  · have : n * (m % n) * 2 ≤ m * n := by
      have h1 : m % n * 2 ≤ m := by
        have := Nat.mod_add_div m n
        have h3 := Nat.mod_lt m hn
        have h2 : 1 ≤ m / n := Nat.div_pos (by omega) hn
        have h4 : n * 1 ≤ n * (m / n) := Nat.mul_le_mul (Nat.le_refl _) h2
        omega
      rw [Nat.mul_assoc, Nat.mul_comm m n]; exact Nat.mul_le_mul (Nat.le_refl _) h1
    rw [Nat.pow_succ, Nat.mul_comm (2 ^ i) 2, ← Nat.mul_assoc]
    exact Nat.le_trans (Nat.mul_le_mul this (Nat.le_refl _)) h
theorem less_end {x y : Int} (h : Less 200 x y) (x0 : 0 ≤ x) (y0 : 0 ≤ y) : y = 0 := by
  rcases h with ⟨k, _⟩ | ⟨k, h⟩
  · omega
  · by_cases e : y = 0
    · exact e
    · have : 1 ≤ x.toNat * y.toNat := Nat.mul_pos (by omega) (by omega)
      have h2 : 1 * 2 ^ 200 ≤ 2 ^ 127 := Nat.le_trans (Nat.mul_le_mul this (Nat.le_refl _)) h
      exact absurd h2 (by decide)

end Go.Proofs.Ytmkohnpdpcefgaa
namespace Go.Proofs.Ytmkohnpdpcefgaa
open Go.RowKit
set_option linter.unusedVariables false

def fitB (a : Int) : Bool := decide (0 ≤ a ∧ a ≤ 4611686018427387904)
def addFits (a b : Int) : Bool := fitB a && fitB b && decide (a + b ≤ 4611686018427387904)
def addTold (a b : Int) : Int := if addFits a b then a + b else 0
def mulFits (a b : Int) : Bool := fitB a && fitB b && decide (a * b ≤ 4611686018427387904)
def mulTold (a b : Int) : Int := if mulFits a b then a * b else 0
theorem fitB_t {a : Int} (h : fitB a = true) : 0 ≤ a ∧ a ≤ 4611686018427387904 := by simpa [fitB] using h
theorem fitB_f {a : Int} (h : ¬ fitB a = true) : a < 0 ∨ 4611686018427387904 < a := by simp [fitB] at h; omega
theorem addFits_t {a b : Int} (h : fitB a = true) (k : fitB b = true) (s : a + b ≤ 4611686018427387904) : addFits a b = true := by
  simp [addFits, h, k, s]
theorem addFits_f {a b : Int} (h : fitB a = false ∨ fitB b = false ∨ 4611686018427387904 < a + b) : addFits a b = false := by
  rcases h with h | h | h <;> simp [addFits, h]
theorem addTold_t {a b : Int} (h : addFits a b = true) : addTold a b = a + b := by simp [addTold, h]
theorem addTold_f {a b : Int} (h : addFits a b = false) : addTold a b = 0 := by simp [addTold, h]
theorem mulFits_t {a b : Int} (h : fitB a = true) (k : fitB b = true) (s : a * b ≤ 4611686018427387904) : mulFits a b = true := by
  simp [mulFits, h, k, s]
theorem mulFits_f {a b : Int} (h : fitB a = false ∨ fitB b = false ∨ 4611686018427387904 < a * b) : mulFits a b = false := by
  rcases h with h | h | h <;> simp [mulFits, h]
theorem mulTold_t {a b : Int} (h : mulFits a b = true) : mulTold a b = a * b := by simp [mulTold, h]
theorem mulTold_f {a b : Int} (h : mulFits a b = false) : mulTold a b = 0 := by simp [mulTold, h]
theorem mulFits_in {a b : Int} (h : mulFits a b = true) : (0 ≤ a ∧ a ≤ 4611686018427387904) ∧ (0 ≤ b ∧ b ≤ 4611686018427387904) ∧ a * b ≤ 4611686018427387904 := by
  simp [mulFits, fitB] at h; omega
theorem div_gt {m a b : Int} (h : 0 < a) : m / a < b ↔ m < a * b := by
  rw [Int.ediv_lt_iff_lt_mul h, Int.mul_comm]

/-- One number more. -/
def lcmNext (acc n : Int) : Int := acc / gcdI acc n * n
def lcmRun (acc : Int) : List Int → Option Int
  | [] => some acc
  | n :: r => if n < 1 then none else if mulFits (acc / gcdI acc n) n then lcmRun (lcmNext acc n) r else none
def lcmOk (most : Int) (l : List Int) : Bool := match lcmRun 1 l with | none => false | some n => !decide (most < n)
def lcmV (most : Int) (l : List Int) : Int := match lcmRun 1 l with | none => 0 | some n => if most < n then 0 else n

theorem lcmRun_stop1 {acc n : Int} {l : List Int} (h : n < 1) : lcmRun acc (n :: l) = none := by simp [lcmRun, h]
theorem lcmRun_stop2 {acc n : Int} {l : List Int} (h : mulFits (acc / gcdI acc n) n = false) : lcmRun acc (n :: l) = none := by simp [lcmRun, h]
theorem lcmRun_next {acc n : Int} {l : List Int} (h : 1 ≤ n) (k : mulFits (acc / gcdI acc n) n = true) : lcmRun acc (n :: l) = lcmRun (lcmNext acc n) l := by
  have : ¬ n < 1 := by omega
  simp [lcmRun, this, k]
theorem gcdI_one {acc n : Int} (h : 1 ≤ acc) (k : 1 ≤ n) : 1 ≤ gcdI acc n ∧ gcdI acc n ≤ acc ∧ gcdI acc n ≤ n := by
  rw [gcdI_pos (by omega) (by omega)]
  have h1 := Nat.gcd_le_left n.toNat (show 0 < acc.toNat by omega)
  have h2 := Nat.gcd_le_right acc.toNat (show 0 < n.toNat by omega)
  have h3 := Nat.gcd_pos_of_pos_left n.toNat (show 0 < acc.toNat by omega)
  omega
theorem gcdI_dvd {a b : Int} (h : 0 ≤ a) (k : 0 ≤ b) : gcdI a b ∣ a ∧ gcdI a b ∣ b := by
  rw [gcdI_pos h k]
  obtain ⟨m, rfl⟩ := Int.eq_ofNat_of_zero_le h
  obtain ⟨n, rfl⟩ := Int.eq_ofNat_of_zero_le k
  simp only [Int.toNat_natCast]
  exact ⟨Int.natCast_dvd_natCast.2 (Nat.gcd_dvd_left m n), Int.natCast_dvd_natCast.2 (Nat.gcd_dvd_right m n)⟩
theorem quo_one {acc n : Int} (h : 1 ≤ acc) (k : 1 ≤ n) : 1 ≤ acc / gcdI acc n ∧ acc / gcdI acc n ≤ acc := by
  obtain ⟨g1, g2, g3⟩ := gcdI_one h k
  exact ⟨(Int.le_ediv_iff_mul_le (by omega)).2 (by omega), (div_bd g1 (by omega)).2⟩
theorem lcmNext_one {acc n : Int} (h : 1 ≤ acc) (k : 1 ≤ n) (f : mulFits (acc / gcdI acc n) n = true) : 1 ≤ lcmNext acc n ∧ lcmNext acc n ≤ 4611686018427387904 := by
  refine ⟨?_, (mulFits_in f).2.2⟩
  have := Int.mul_le_mul (quo_one h k).1 k (by omega) (by have := (quo_one h k).1; omega)
  simpa [lcmNext] using this
/-- What was worked out so far divides what comes, and so does the number. -/
theorem lcmNext_dvd {acc n : Int} (h : 1 ≤ acc) (k : 1 ≤ n) : acc ∣ lcmNext acc n ∧ n ∣ lcmNext acc n := by
  obtain ⟨d1, d2⟩ := gcdI_dvd (show 0 ≤ acc by omega) (show 0 ≤ n by omega)
  refine ⟨?_, Int.dvd_mul_left _ _⟩
  obtain ⟨c, hc⟩ := d2
  obtain ⟨g1, _, _⟩ := gcdI_one h k
  have e : acc / gcdI acc n * gcdI acc n = acc := Int.ediv_mul_cancel d1
  have : lcmNext acc n = acc * c := by
    unfold lcmNext
    conv => lhs; rhs; rw [hc]
    rw [← Int.mul_assoc, e]
  exact ⟨c, this⟩
theorem lcmRun_all : ∀ (l : List Int) (acc n : Int), 1 ≤ acc → acc ≤ 4611686018427387904 → lcmRun acc l = some n → 1 ≤ n ∧ n ≤ 4611686018427387904 ∧ acc ∣ n ∧ ∀ x ∈ l, 1 ≤ x ∧ x ∣ n
  | [], acc, n, h, h2, e => by
    simp [lcmRun] at e; subst e; exact ⟨h, h2, Int.dvd_refl _, by simp⟩
  | x :: r, acc, n, h, h2, e => by
    by_cases k : x < 1
    · rw [lcmRun_stop1 k] at e; cases e
    · have k1 : 1 ≤ x := by omega
      cases f : mulFits (acc / gcdI acc x) x with
      | false => rw [lcmRun_stop2 f] at e; cases e
      | true =>
        rw [lcmRun_next k1 f] at e
        obtain ⟨a, b⟩ := lcmNext_one h k1 f
        obtain ⟨q1, q2, q3, q4⟩ := lcmRun_all r _ n a b e
        obtain ⟨d1, d2⟩ := lcmNext_dvd h k1
        refine ⟨q1, q2, Int.dvd_trans d1 q3, fun y hy => ?_⟩
        rcases List.mem_cons.1 hy with rfl | hy
        · exact ⟨k1, Int.dvd_trans d2 q3⟩
        · exact q4 y hy
theorem lcm_end_none {most : Int} {l : List Int} (h : lcmRun 1 l = none) : lcmV most l = 0 ∧ lcmOk most l = false := by simp [lcmV, lcmOk, h]
theorem lcm_end_over {most n : Int} {l : List Int} (h : lcmRun 1 l = some n) (k : most < n) : lcmV most l = 0 ∧ lcmOk most l = false := by simp [lcmV, lcmOk, h, k]
theorem lcm_end_in {most n : Int} {l : List Int} (h : lcmRun 1 l = some n) (k : ¬ most < n) : lcmV most l = n ∧ lcmOk most l = true := by simp [lcmV, lcmOk, h, k]
theorem drop_at {l : List Int} {k : Nat} (h : k < l.length) : l.drop k = l.getD k 0 :: l.drop (k + 1) := by
  rw [List.drop_eq_getElem_cons h]; simp [h]
theorem drop_end {l : List Int} {k : Nat} (h : l.length ≤ k) : l.drop k = [] := List.drop_of_length_le h

end Go.Proofs.Ytmkohnpdpcefgaa
