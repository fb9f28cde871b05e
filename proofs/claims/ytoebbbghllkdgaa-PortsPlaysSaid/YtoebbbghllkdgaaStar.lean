/- Things beside each other in one memory, each with blocks of its own. -/
import Derived.Test.YtoebbbghllkdgaaTwo
namespace Go.Proofs.Ytoebbbghllkdgaa
open Go.ChangeShapes Go.WideShapes Go.ChangeAt Go.RowKit
set_option linter.unusedVariables false

abbrev Own := World → (Nat → Prop) → Prop
def Star (P Q : Own) (w : World) (S : Nat → Prop) : Prop := ∃ A B, P w A ∧ Q w B ∧ (∀ k, A k → ¬ B k) ∧ ∀ k, S k ↔ A k ∨ B k
/-- n of them. -/
def Fam (n : Nat) (P : Nat → Own) (w : World) (S : Nat → Prop) : Prop := ∃ A : Nat → Nat → Prop, (∀ i, i < n → P i w (A i)) ∧ (∀ i j, i < n → j < n → i ≠ j → ∀ k, A i k → ¬ A j k) ∧ ∀ k, S k ↔ ∃ i, i < n ∧ A i k
section
variable {P Q P' Q' : Own} {F F' : Nat → Own} {w w' : World} {S S' A A' : Nat → Prop} {n i : Nat}
theorem star_own (hP : OwnP P) (hQ : OwnP Q) : OwnP (Star P Q) :=
  ⟨fun ⟨A, B, hA, hB, hd, hs⟩ hk hz => ⟨A, B, hP.keep hA (fun k h => hk k ((hs k).2 (.inl h))) hz, hQ.keep hB (fun k h => hk k ((hs k).2 (.inr h))) hz, hd, hs⟩,
   fun ⟨A, B, hA, hB, hd, hs⟩ k hk => ((hs k).1 hk).elim (hP.lt hA k) (hQ.lt hB k)⟩
theorem fam_own (hF : ∀ i, OwnP (F i)) : OwnP (Fam n F) :=
  ⟨fun ⟨A, hA, hd, hs⟩ hk hz => ⟨A, fun i hi => (hF i).keep (hA i hi) (fun k h => hk k ((hs k).2 ⟨i, hi, h⟩)) hz, hd, hs⟩,
   fun ⟨A, hA, hd, hs⟩ k hk => by obtain ⟨i, hi, h⟩ := (hs k).1 hk; exact (hF i).lt (hA i hi) k h⟩
/-- What grows of a part is beside what stays. -/
theorem grow_part {B : Nat → Prop} (hQ : OwnP Q) (hB : Q w B) (hd : ∀ k, A k → ¬ B k) (hs : ∀ k, S k ↔ A k ∨ B k) (g : GrowS A A' w w') : Q w' B ∧ (∀ k, A' k → ¬ B k) ∧ GrowS S (fun k => A' k ∨ B k) w w' :=
  ⟨hQ.keep hB (fun k hk => g.block k (hQ.lt hB k hk) (fun h => hd k h hk)) g.size, fun k h1 h2 => (g.own k h1).elim (fun h => hd k h h2) (fun h => by have := hQ.lt hB k h2; omega),
   ⟨g.os, g.tape, g.output, g.size, fun k hk hS => g.block k hk (fun h => hS ((hs k).2 (.inl h))), fun k hk => hk.elim (fun h => (g.own k h).elim (fun h => .inl ((hs k).2 (.inl h))) .inr) (fun h => .inl ((hs k).2 (.inr h)))⟩⟩
theorem Star.left (hQ : OwnP Q) (h : Star P Q w S) : ∃ A, P w A ∧ (∀ k, A k → S k) ∧ ∀ {w' A'} {P' : Own}, P' w' A' → GrowS A A' w w' → ∃ S', Star P' Q w' S' ∧ GrowS S S' w w' := by
  obtain ⟨A, B, hA, hB, hd, hs⟩ := h
  refine ⟨A, hA, fun k h => (hs k).2 (.inl h), fun {w' A' P'} h1 g => ?_⟩
  obtain ⟨q1, q2, q3⟩ := grow_part hQ hB hd hs g
  exact ⟨_, ⟨A', B, h1, q1, q2, fun _ => Iff.rfl⟩, q3⟩
theorem Star.right (hP : OwnP P) (h : Star P Q w S) : ∃ B, Q w B ∧ (∀ k, B k → S k) ∧ ∀ {w' B'} {Q' : Own}, Q' w' B' → GrowS B B' w w' → ∃ S', Star P Q' w' S' ∧ GrowS S S' w w' := by
  obtain ⟨A, B, hA, hB, hd, hs⟩ := h
  refine ⟨B, hB, fun k h => (hs k).2 (.inr h), fun {w' B' Q'} h1 g => ?_⟩
  obtain ⟨q1, q2, q3⟩ := grow_part hP hA (fun k h1 h2 => hd k h2 h1) (fun k => (hs k).trans or_comm) g
  exact ⟨_, ⟨A, B', q1, h1, fun k h3 h4 => q2 k h4 h3, fun _ => or_comm⟩, q3⟩
/-- Both, and what comes of the second. -/
theorem Star.rest (hP : OwnP P) (h : Star P Q w S) : ∃ A B, P w A ∧ Q w B ∧ (∀ k, A k → ¬ B k) ∧ (∀ k, A k → S k) ∧ (∀ k, B k → S k) ∧ ∀ {w' B'} {Q' : Own}, Q' w' B' → GrowS B B' w w' → ∃ S', Star P Q' w' S' ∧ GrowS S S' w w' := by
  obtain ⟨A, B, hA, hB, hd, hs⟩ := h
  refine ⟨A, B, hA, hB, hd, fun k h => (hs k).2 (.inl h), fun k h => (hs k).2 (.inr h), fun {w' B' Q'} h1 g => ?_⟩
  obtain ⟨q1, q2, q3⟩ := grow_part hP hA (fun k h1 h2 => hd k h2 h1) (fun k => (hs k).trans or_comm) g
  exact ⟨_, ⟨A, B', q1, h1, fun k h3 h4 => q2 k h4 h3, fun _ => or_comm⟩, q3⟩
def updO (F : Nat → Own) (i : Nat) (P : Own) : Nat → Own := fun j => if j = i then P else F j
theorem Fam.congr (h : Fam n F w S) (he : ∀ i, i < n → F' i = F i) : Fam n F' w S := by
  obtain ⟨A, hA, hd, hs⟩ := h
  exact ⟨A, fun i hi => by rw [he i hi]; exact hA i hi, hd, hs⟩
theorem Fam.at_ (hF : ∀ i, OwnP (F i)) (h : Fam n F w S) (hi : i < n) : ∃ A, F i w A ∧ (∀ k, A k → S k) ∧ ∀ {w' A'} {P' : Own}, P' w' A' → GrowS A A' w w' → ∃ S', Fam n (updO F i P') w' S' ∧ GrowS S S' w w' := by
  obtain ⟨A, hA, hd, hs⟩ := h
  refine ⟨A i, hA i hi, fun k h => (hs k).2 ⟨i, hi, h⟩, fun {w' A' P'} h1 g => ?_⟩
  refine ⟨fun k => ∃ j, j < n ∧ (if j = i then A' else A j) k, ⟨fun j => if j = i then A' else A j, fun j hj => ?_, fun j l hj hl hne k h2 h3 => ?_, fun _ => Iff.rfl⟩, ⟨g.os, g.tape, g.output, g.size, fun k hk hS => g.block k hk (fun h => hS ((hs k).2 ⟨i, hi, h⟩)), fun k hk => ?_⟩⟩
  · unfold updO
    by_cases e : j = i
    · simp only [if_pos e]; exact h1
    · simp only [if_neg e]
      exact (hF j).keep (hA j hj) (fun k hk => g.block k ((hF j).lt (hA j hj) k hk) (fun h => hd i j hi hj (fun e' => e e'.symm) k h hk)) g.size
  · by_cases e : j = i
    · have e' : l ≠ i := fun h => hne (e.trans h.symm)
      simp only [if_pos e] at h2
      simp only [if_neg e'] at h3
      rcases g.own k h2 with h | h
      · exact hd i l hi hl (fun h => e' h.symm) k h h3
      · have := (hF l).lt (hA l hl) k h3; omega
    · simp only [if_neg e] at h2
      by_cases e' : l = i
      · simp only [if_pos e'] at h3
        rcases g.own k h3 with h | h
        · exact hd j i hj hi e k h2 h
        · have := (hF j).lt (hA j hj) k h2; omega
      · simp only [if_neg e'] at h3
        exact hd j l hj hl hne k h2 h3
  · obtain ⟨j, hj, h2⟩ := hk
    by_cases e : j = i
    · simp only [if_pos e] at h2
      exact (g.own k h2).elim (fun h => .inl ((hs k).2 ⟨i, hi, h⟩)) .inr
    · simp only [if_neg e] at h2
      exact .inl ((hs k).2 ⟨j, hj, h2⟩)
theorem Fam.nil (F : Nat → Own) (w : World) : Fam 0 F w (fun _ => False) := ⟨fun _ _ => False, fun i hi => by omega, fun i j hi => by omega, fun k => ⟨False.elim, fun ⟨i, hi, _⟩ => by omega⟩⟩
/-- One more. -/
theorem Fam.snoc (hF : ∀ i, OwnP (F i)) (h : Fam n F w S) (hA : F n w A) (hd : ∀ k, S k → ¬ A k) : Fam (n + 1) F w (fun k => S k ∨ A k) := by
  obtain ⟨B, hB, hdB, hs⟩ := h
  refine ⟨fun i => if i = n then A else B i, fun i hi => ?_, fun i j hi hj hne k h1 h2 => ?_, fun k => ⟨fun h => ?_, fun ⟨i, hi, h⟩ => ?_⟩⟩
  · by_cases e : i = n
    · simp only [if_pos e]; rw [e]; exact hA
    · simp only [if_neg e]; exact hB i (by omega)
  · by_cases e : i = n
    · simp only [if_pos e] at h1
      have e' : j ≠ n := fun h => hne (e.trans h.symm)
      simp only [if_neg e'] at h2
      exact hd k ((hs k).2 ⟨j, by omega, h2⟩) h1
    · simp only [if_neg e] at h1
      by_cases e' : j = n
      · simp only [if_pos e'] at h2
        exact hd k ((hs k).2 ⟨i, by omega, h1⟩) h2
      · simp only [if_neg e'] at h2
        exact hdB i j (by omega) (by omega) hne k h1 h2
  · rcases h with h | h
    · obtain ⟨i, hi, h⟩ := (hs k).1 h
      exact ⟨i, by omega, by simp only [if_neg (show i ≠ n by omega)]; exact h⟩
    · exact ⟨n, by omega, by simpa using h⟩
  · by_cases e : i = n
    · simp only [if_pos e] at h; exact .inr h
    · simp only [if_neg e] at h; exact .inl ((hs k).2 ⟨i, by omega, h⟩)
theorem star_two {A B : Nat → Prop} (hA : P w A) (hB : Q w B) (hd : ∀ k, A k → ¬ B k) : Star P Q w (fun k => A k ∨ B k) := ⟨A, B, hA, hB, hd, fun _ => Iff.rfl⟩
end
end Go.Proofs.Ytoebbbghllkdgaa
