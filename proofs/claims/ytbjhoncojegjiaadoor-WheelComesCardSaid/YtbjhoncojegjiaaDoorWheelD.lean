/- Plain facts of digits: at which level a tick behind now lies, in which slot; whose turn comes. -/
import Derived.Lib.BitFns
import Derived.Lib.TrailingZeros
namespace Go.Proofs.YtbjhoncojegjiaaDoor
theorem bitLenAux_le : ∀ (f x k : Nat), x < 2 ^ f → (Lib.bitLenAux f x ≤ k ↔ x < 2 ^ k)
  | 0, x, k, h => by
    have : x = 0 := by simpa using h
    subst this
    exact ⟨fun _ => Nat.two_pow_pos k, fun _ => Nat.zero_le _⟩
  | f + 1, x, k, h => by
    unfold Lib.bitLenAux
    by_cases h0 : x = 0
    · subst h0; rw [if_pos rfl]; exact ⟨fun _ => Nat.two_pow_pos k, fun _ => Nat.zero_le _⟩
    · rw [if_neg h0]
      have hx : x / 2 < 2 ^ f := by rw [Nat.pow_succ] at h; omega
      cases k with
      | zero => simp; omega
      | succ k =>
        have := bitLenAux_le f (x / 2) k hx
        rw [Nat.pow_succ]
        omega
theorem bitLen_le {x : Nat} (h : x < 2 ^ 64) (k : Nat) : Lib.bitLen x ≤ k ↔ x < 2 ^ k := bitLenAux_le 64 x k h
theorem p16 (d : Nat) : 16 ^ d = 2 ^ (4 * d) := by rw [show (16 : Nat) = 2 ^ 4 by rfl, ← Nat.pow_mul]
theorem xor_lt {a b m : Nat} : a ^^^ b < 2 ^ m ↔ a / 2 ^ m = b / 2 ^ m := by
  rw [← Nat.shiftRight_eq_div_pow, ← Nat.shiftRight_eq_div_pow]
  constructor
  · intro h
    have e : (a ^^^ b) >>> m = 0 := by rw [Nat.shiftRight_eq_div_pow]; exact Nat.div_eq_of_lt h
    rw [Nat.shiftRight_xor_distrib] at e
    have e2 : (a >>> m ^^^ b >>> m) ^^^ b >>> m = b >>> m := by rw [e, Nat.zero_xor]
    rwa [Nat.xor_assoc, Nat.xor_self, Nat.xor_zero] at e2
  · intro h
    have e : (a ^^^ b) >>> m = 0 := by rw [Nat.shiftRight_xor_distrib, h, Nat.xor_self]
    rw [Nat.shiftRight_eq_div_pow] at e
    exact (Nat.div_eq_zero_iff_lt (Nat.two_pow_pos m)).1 e
/-- The level of a tick behind now: the highest digit in which they part. -/
def lev (a b : Nat) : Nat := (Lib.bitLen (a ^^^ b) - 1) / 4
theorem lev_hi {a b : Nat} (ha : a < 2 ^ 64) (hb : b < 2 ^ 64) : a / 16 ^ (lev a b + 1) = b / 16 ^ (lev a b + 1) := by
  rw [p16, ← xor_lt, ← bitLen_le (Nat.xor_lt_two_pow ha hb)]
  unfold lev
  omega
theorem lev_lo {a b : Nat} (ha : a < 2 ^ 64) (hb : b < 2 ^ 64) (h : a ≠ b) : a / 16 ^ lev a b ≠ b / 16 ^ lev a b := by
  have h1 : ¬ (a ^^^ b) < 2 ^ 0 := by rw [xor_lt]; simpa using h
  rw [p16, Ne, ← xor_lt, ← bitLen_le (Nat.xor_lt_two_pow ha hb)]
  rw [← bitLen_le (Nat.xor_lt_two_pow ha hb)] at h1
  unfold lev
  omega
theorem div16 (a d : Nat) : a / 16 ^ (d + 1) = a / 16 ^ d / 16 := by rw [Nat.pow_succ, Nat.div_div_eq_div_mul]
theorem div_up {a b : Nat} : ∀ k d, a / 16 ^ d = b / 16 ^ d → a / 16 ^ (d + k) = b / 16 ^ (d + k)
  | 0, _, h => h
  | k + 1, d, h => by rw [← Nat.add_assoc, div16, div16, div_up k d h]
theorem lev_is {a b d : Nat} (ha : a < 2 ^ 64) (hb : b < 2 ^ 64) (h1 : a / 16 ^ (d + 1) = b / 16 ^ (d + 1)) (h2 : a / 16 ^ d ≠ b / 16 ^ d) : lev a b = d := by
  have hne : a ≠ b := fun e => h2 (by rw [e])
  have k1 := lev_hi ha hb
  have k2 := lev_lo ha hb hne
  rcases Nat.lt_trichotomy (lev a b) d with h | h | h
  · exact absurd (by have := div_up (d - (lev a b + 1)) _ k1; rwa [show lev a b + 1 + (d - (lev a b + 1)) = d by omega] at this) h2
  · exact h
  · exact absurd (by have := div_up (lev a b - (d + 1)) _ h1; rwa [show d + 1 + (lev a b - (d + 1)) = lev a b by omega] at this) k2
theorem lev_lt {a b : Nat} (ha : a < 2 ^ 63) (hb : b < 2 ^ 63) : lev a b < 16 := by
  have h := (bitLen_le (x := a ^^^ b) (Nat.xor_lt_two_pow (by omega) (by omega)) 63).2 (Nat.xor_lt_two_pow ha hb)
  unfold lev
  omega
/-- The slot of a tick behind now; the slot whose turn comes. -/
def slotK (a b : Nat) : Nat := 16 * lev a b + b / 16 ^ lev a b % 16
def tlev (n : Nat) : Nat := Lib.ctz 64 n / 4
def turnK (n : Nat) : Nat := 16 * tlev n + n / 16 ^ tlev n % 16
theorem slotK_lt {a b : Nat} (ha : a < 2 ^ 63) (hb : b < 2 ^ 63) : slotK a b < 256 := by
  have := lev_lt ha hb
  unfold slotK; omega
theorem ctz_spec {n : Nat} (h0 : n ≠ 0) (h : n < 2 ^ 64) : ∃ m, n = 2 ^ Lib.ctz 64 n * (2 * m + 1) ∧ Lib.ctz 64 n < 64 := by
  have e : Lib.ctz 64 n = Lib.ctzFrom 64 n := by simp [Lib.ctz, h0]
  rw [e]
  exact Lib.ctzFrom_spec 64 n (by omega) h
theorem tlev_lt {n : Nat} (h0 : n ≠ 0) (h : n < 2 ^ 64) : tlev n < 16 := by
  obtain ⟨_, _, h⟩ := ctz_spec h0 h
  unfold tlev; omega
theorem turnK_lt {n : Nat} (h0 : n ≠ 0) (h : n < 2 ^ 64) : turnK n < 256 := by
  have := tlev_lt h0 h
  unfold turnK; omega
/-- 16^e divides n at its turn's level and below, 16^(e+1) does not. -/
theorem tlev_dvd {n d : Nat} (h0 : n ≠ 0) (h : n < 2 ^ 64) (hd : d ≤ tlev n) : n % 16 ^ d = 0 := by
  obtain ⟨m, hm, _⟩ := ctz_spec h0 h
  rw [hm, p16]
  apply Nat.mod_eq_zero_of_dvd
  exact Nat.dvd_trans (Nat.pow_dvd_pow 2 (by unfold tlev at hd; omega)) (Nat.dvd_mul_right _ _)
theorem tlev_not {n : Nat} (h0 : n ≠ 0) (h : n < 2 ^ 64) : n / 16 ^ tlev n % 16 ≠ 0 := by
  obtain ⟨m, hm, _⟩ := ctz_spec h0 h
  intro e
  have h1 : n % 16 ^ (tlev n + 1) = 0 := by
    rw [Nat.pow_succ, Nat.mod_mul, tlev_dvd h0 h (Nat.le_refl _), e]; simp
  rw [p16] at h1
  obtain ⟨q, hq⟩ := Nat.dvd_of_mod_eq_zero h1
  rw [show 4 * (tlev n + 1) = Lib.ctz 64 n + (1 + (4 * (tlev n + 1) - Lib.ctz 64 n - 1)) by unfold tlev; omega, Nat.pow_add, Nat.pow_add, Nat.mul_assoc] at hq
  have hp : 0 < 2 ^ Lib.ctz 64 n := Nat.two_pow_pos _
  have h2 := Nat.eq_of_mul_eq_mul_left hp (hm.symm.trans hq)
  rw [Nat.mul_assoc, Nat.pow_one] at h2
  omega
/-- Behind a step: what stays, and what turns. -/
theorem prev_div {n d : Nat} (h0 : n ≠ 0) (h : n < 2 ^ 64) (hd : d ≤ tlev n) : (n - 1) / 16 ^ d + 1 = n / 16 ^ d := by
  obtain ⟨q, hq⟩ := Nat.dvd_of_mod_eq_zero (tlev_dvd h0 h hd)
  have hp : 0 < 16 ^ d := Nat.pow_pos (by omega)
  generalize 16 ^ d = p at hq hp ⊢
  subst hq
  cases q with
  | zero => omega
  | succ q =>
    rw [Nat.mul_div_cancel_left _ hp]
    have : p * (q + 1) - 1 = p * q + (p - 1) := by rw [Nat.mul_succ]; omega
    rw [this, Nat.mul_add_div hp, Nat.div_eq_of_lt (by omega)]
    
theorem prev_up {n d : Nat} (h0 : n ≠ 0) (h : n < 2 ^ 64) (hd : tlev n < d) : (n - 1) / 16 ^ d = n / 16 ^ d := by
  have h1 := prev_div h0 h (Nat.le_refl _)
  have h2 := tlev_not h0 h
  have : (n - 1) / 16 ^ (tlev n + 1) = n / 16 ^ (tlev n + 1) := by rw [div16, div16]; omega
  have := div_up (d - (tlev n + 1)) _ this
  rwa [show tlev n + 1 + (d - (tlev n + 1)) = d by omega] at this
/-- A timer that is not in the slot whose turn comes stays where it is; its tick is another one. -/
theorem slot_stay {n y : Nat} (h0 : n ≠ 0) (h : n < 2 ^ 64) (hy : y < 2 ^ 64) (hny : n ≤ y) (hs : slotK (n - 1) y ≠ turnK n) : slotK n y = slotK (n - 1) y ∧ y ≠ n := by
  have k1 := lev_hi (a := n - 1) (b := y) (by omega) hy
  have k2 := lev_lo (a := n - 1) (b := y) (by omega) hy (by omega)
  obtain ⟨d, hd⟩ : ∃ d, d = lev (n - 1) y := ⟨_, rfl⟩
  rw [← hd] at k1 k2
  rcases Nat.lt_trichotomy d (tlev n) with g | g | g
  · have := prev_div h0 h (show d + 1 ≤ tlev n by omega)
    have h3 : n / 16 ^ (d + 1) ≤ y / 16 ^ (d + 1) := Nat.div_le_div_right hny
    omega
  · have a1 := prev_div h0 h (Nat.le_of_eq g)
    have a2 := prev_up h0 h (show tlev n < d + 1 by omega)
    have h3 : n / 16 ^ d ≤ y / 16 ^ d := Nat.div_le_div_right hny
    have hne : n / 16 ^ d ≠ y / 16 ^ d := fun e => hs (by unfold slotK turnK; rw [← hd, ← g, ← e])
    have hl := lev_is h hy (by rw [← a2, k1]) hne
    refine ⟨by unfold slotK; rw [hl, ← hd], fun e => hne (by rw [e])⟩
  · have a1 := prev_up h0 h g
    have a2 := prev_up h0 h (show tlev n < d + 1 by omega)
    have hne : n / 16 ^ d ≠ y / 16 ^ d := by rw [← a1]; exact k2
    have hl := lev_is h hy (by rw [← a2, k1]) hne
    refine ⟨by unfold slotK; rw [hl, ← hd], fun e => hne (by rw [e])⟩
/-- A timer that is in it goes on to a lower level, or comes. -/
theorem slot_go {n y : Nat} (h0 : n ≠ 0) (h : n < 2 ^ 64) (hy : y < 2 ^ 64) (_hny : n ≤ y) (hs : slotK (n - 1) y = turnK n) (hne : y ≠ n) : slotK n y ≠ turnK n := by
  have k1 := lev_hi (a := n - 1) (b := y) (by omega) hy
  have hl : lev (n - 1) y = tlev n := by unfold slotK turnK at hs; omega
  have hd : y / 16 ^ tlev n % 16 = n / 16 ^ tlev n % 16 := by unfold slotK turnK at hs; rw [hl] at hs; omega
  rw [hl] at k1
  have a2 := prev_up h0 h (show tlev n < tlev n + 1 by omega)
  have e1 : n / 16 ^ tlev n = y / 16 ^ tlev n := by
    rw [a2, div16, div16] at k1; omega
  have l0 := lev_lo h hy (Ne.symm hne)
  intro e
  have : lev n y = tlev n := by unfold slotK turnK at e; omega
  rw [this] at l0
  exact l0 e1
/-- Its own tick's timers are in it. -/
theorem slot_own {n : Nat} (h0 : n ≠ 0) (h : n < 2 ^ 64) : slotK (n - 1) n = turnK n := by
  apply Classical.byContradiction
  intro hs
  exact (slot_stay h0 h h (Nat.le_refl _) hs).2 rfl
end Go.Proofs.YtbjhoncojegjiaaDoor
