/- Where a slack that goes on alike first breaks: no program in it. -/
import Derived.Test.YtdbbdlobahalkaaSupplyM
namespace Go.Proofs.Ytdbbdlobahalkaa
set_option linter.unusedVariables false

/-- It never breaks, or first there. -/
def IsBreak (S : Nat → Int) : Option Nat → Prop
  | none => ∀ t, 0 ≤ S t
  | some T => S T < 0 ∧ ∀ t, t < T → 0 ≤ S t
theorem IsBreak.one {S : Nat → Int} {o q : Option Nat} (h : IsBreak S o) (k : IsBreak S q) : o = q := by
  cases o with
  | none => cases q with
    | none => rfl
    | some T => have := h T; have := k.1; omega
  | some T => cases q with
    | none => have := k T; have := h.1; omega
    | some U =>
      rcases Nat.lt_trichotomy T U with g | g | g
      · have := k.2 T g; have := h.1; omega
      · rw [g]
      · have := h.2 U g; have := k.1; omega
/-- From far on, each round takes the same. -/
def Round (S : Nat → Int) (far h : Nat) (lost : Int) : Prop := ∀ t, far ≤ t → S (t + h) = S t - lost
theorem Round.times {S : Nat → Int} {far h : Nat} {lost : Int} (hr : Round S far h lost) {t : Nat} (ht : far ≤ t) : ∀ k : Nat, S (t + k * h) = S t - k * lost
  | 0 => by simp
  | k + 1 => by
    have h1 := hr.times ht k
    have h2 := hr (t + k * h) (by omega)
    rw [show t + (k + 1) * h = t + k * h + h by rw [Nat.add_mul]; omega, h2, h1, show ((k + 1 : Nat) : Int) * lost = k * lost + lost by rw [Int.natCast_add, Int.add_mul]; simp]
    omega
theorem place_of {far h t : Nat} (hh : 1 ≤ h) (ht : far ≤ t) : ∃ t0 k, far ≤ t0 ∧ t0 < far + h ∧ t = t0 + k * h := by
  refine ⟨far + (t - far) % h, (t - far) / h, by omega, by have := Nat.mod_lt (t - far) (show 0 < h by omega); omega, ?_⟩
  have := Nat.mod_add_div (t - far) h
  rw [Nat.mul_comm] at this
  omega
/-- The first one of those, from t0 on, a round apart, at which it breaks. -/
def atV (S : Nat → Int) (h : Nat) (lost : Int) (t : Nat) : Nat := t + (S t / lost + 1).toNat * h
theorem atV_is {S : Nat → Int} {far h : Nat} {lost : Int} (hr : Round S far h lost) (hl : 0 < lost) {t : Nat} (ht : far ≤ t) (h0 : 0 ≤ S t) : S (atV S h lost t) < 0 ∧ ∀ k : Nat, S (t + k * h) < 0 → atV S h lost t ≤ t + k * h := by
  have q0 : 0 ≤ S t / lost := Int.ediv_nonneg h0 (by omega)
  have d := Int.mul_ediv_add_emod (S t) lost
  have m0 := Int.emod_nonneg (S t) (show lost ≠ 0 by omega)
  have m1 := Int.emod_lt_of_pos (S t) hl
  refine ⟨?_, fun k hk => ?_⟩
  · unfold atV
    rw [hr.times ht, Int.toNat_of_nonneg (by omega), Int.add_mul, Int.mul_comm (S t / lost) lost]
    omega
  · unfold atV
    have hkk : S t / lost + 1 ≤ k := by
      rw [hr.times ht] at hk
      rcases Int.lt_or_le (S t / lost) k with g | g
      · omega
      · have : (k : Int) * lost ≤ S t / lost * lost := Int.mul_le_mul_of_nonneg_right g (by omega)
        rw [Int.mul_comm (S t / lost) lost] at this
        omega
    have : (S t / lost + 1).toNat * h ≤ k * h := Nat.mul_le_mul_right _ (by omega)
    omega
theorem break_early {S : Nat → Int} {T : Nat} (h1 : S T < 0) (h2 : ∀ t, t < T → 0 ≤ S t) : IsBreak S (some T) := ⟨h1, h2⟩
theorem break_never {S : Nat → Int} {far h : Nat} {lost : Int} (hr : Round S far h lost) (hh : 1 ≤ h) (h0 : ∀ t, t < far + h → 0 ≤ S t) (hl : lost ≤ 0) : IsBreak S none := by
  intro t
  rcases Nat.lt_or_ge t far with g | g
  · exact h0 t (by omega)
  · obtain ⟨t0, k, a, b, rfl⟩ := place_of hh g
    rw [hr.times a]
    have := h0 t0 b
    have : (k : Int) * lost ≤ 0 := Int.mul_nonpos_of_nonneg_of_nonpos (by omega) hl
    omega
theorem break_late {S : Nat → Int} {far h : Nat} {lost : Int} (hr : Round S far h lost) (hh : 1 ≤ h) (h0 : ∀ t, t < far + h → 0 ≤ S t) (hl : 0 < lost) : IsBreak S (some (leastOf (fun i => atV S h lost (far + i)) (h - 1))) := by
  obtain ⟨i, hi, hv⟩ := leastOf_at (g := fun i => atV S h lost (far + i)) (h - 1)
  refine ⟨?_, fun t ht => ?_⟩
  · rw [hv]
    exact (atV_is hr hl (by omega) (h0 _ (by omega))).1
  · rcases Int.lt_or_le (S t) 0 with g | g
    · exfalso
      rcases Nat.lt_or_ge t far with g2 | g2
      · have := h0 t (by omega); omega
      · obtain ⟨t0, k, a, b, rfl⟩ := place_of hh g2
        have h1 := (atV_is hr hl a (h0 t0 b)).2 k g
        have h2 := leastOf_le (g := fun i => atV S h lost (far + i)) (k := h - 1) (i := t0 - far) (by omega)
        simp only [show far + (t0 - far) = t0 by omega] at h2
        omega
    · exact g
/-- The least at which it breaks, as it is found. -/
def phaseV (S : Nat → Int) (far h : Nat) (lost : Int) : Option Nat :=
  match (List.range (far + h)).find? fun (t : Nat) => decide (S t < 0) with
  | some t => some t
  | none => if lost ≤ 0 then none else some (leastOf (fun i => atV S h lost (far + i)) (h - 1))
theorem phase_is {S : Nat → Int} {far h : Nat} {lost : Int} (hr : Round S far h lost) (hh : 1 ≤ h) : IsBreak S (phaseV S far h lost) := by
  unfold phaseV
  cases hf : (List.range (far + h)).find? fun (t : Nat) => decide (S t < 0) with
  | some T =>
    have hk := List.find?_range_eq_some.1 hf
    refine ⟨by simpa using hk.1, fun t ht => ?_⟩
    have := hk.2.2 t ht
    simp at this
    exact this
  | none =>
    have h0 : ∀ t, t < far + h → 0 ≤ S t := fun t ht => by
      have := List.find?_eq_none.1 hf t (List.mem_range.2 ht)
      simpa using this
    by_cases hl : lost ≤ 0
    · simp only [hl, if_true]; exact break_never hr hh h0 hl
    · simp only [hl, if_false]; exact break_late hr hh h0 (by omega)
end Go.Proofs.Ytdbbdlobahalkaa
