/- How little is offered: the least count of some ticks one behind the other; no program in it. -/
import Derived.Test.YtdbbdlobahalkaaFrameP
namespace Go.Proofs.Ytdbbdlobahalkaa
set_option linter.unusedVariables false

/-- The least of some first counts, from the first on. -/
def leastOf (g : Nat → Nat) : Nat → Nat
  | 0 => g 0
  | k + 1 => min (leastOf g k) (g (k + 1))
theorem leastOf_le {g : Nat → Nat} : ∀ {k i : Nat}, i ≤ k → leastOf g k ≤ g i
  | 0, i, h => by have : i = 0 := by omega
                  subst this; exact Nat.le_refl _
  | k + 1, i, h => by
    unfold leastOf
    rcases Nat.lt_or_ge i (k + 1) with h1 | h1
    · exact Nat.le_trans (Nat.min_le_left _ _) (leastOf_le (by omega))
    · have : i = k + 1 := by omega
      subst this; exact Nat.min_le_right _ _
theorem leastOf_at {g : Nat → Nat} : ∀ k : Nat, ∃ i, i ≤ k ∧ leastOf g k = g i
  | 0 => ⟨0, Nat.le_refl _, rfl⟩
  | k + 1 => by
    unfold leastOf
    rcases Nat.le_total (leastOf g k) (g (k + 1)) with h | h
    · obtain ⟨i, h1, h2⟩ := leastOf_at (g := g) k
      exact ⟨i, by omega, by rw [Nat.min_eq_left h, h2]⟩
    · exact ⟨k + 1, Nat.le_refl _, Nat.min_eq_right h⟩
theorem leastOf_eq {g : Nat → Nat} {k m : Nat} (h1 : ∀ i, i ≤ k → m ≤ g i) (h2 : ∃ i, i ≤ k ∧ g i = m) : leastOf g k = m := by
  obtain ⟨i, a, b⟩ := h2
  obtain ⟨j, c, d⟩ := leastOf_at (g := g) k
  have := h1 j c
  have := leastOf_le (g := g) a
  omega
theorem leastOf_mono {g h : Nat → Nat} {k : Nat} (hg : ∀ i, i ≤ k → g i ≤ h i) : leastOf g k ≤ leastOf h k := by
  obtain ⟨j, c, d⟩ := leastOf_at (g := h) k
  rw [d]
  exact Nat.le_trans (leastOf_le c) (hg j c)
/-- The least count of n ticks one behind the other, where all comes again each F. -/
def leastV (f : Int → Bool) (F n : Nat) : Nat := leastOf (fun i => cnt f (i : Int) n) (F - 1)
theorem cnt_mod {f : Int → Bool} {F : Nat} (h : Again f F) (a : Int) (n : Nat) : cnt f (a % F) n = cnt f a n := cnt_same fun i _ => by
  have e : a = a % F + (a / F) * F := by rw [Int.mul_comm]; exact (Int.emod_add_mul_ediv a F).symm
  rcases Int.le_total 0 (a / F) with hq | hq
  · have := h.times (a % F + i) (a / F).toNat
    rw [Int.toNat_of_nonneg hq] at this
    rw [← this]; congr 1; omega
  · have := h.less (a % F + i) (-(a / F)).toNat
    rw [Int.toNat_of_nonneg (by omega)] at this
    rw [← this, Int.neg_mul, Int.sub_neg]; congr 1; omega
section
variable {f : Int → Bool} {F : Nat}
theorem leastV_le (h : Again f F) (hF : 1 ≤ F) (a : Int) (n : Nat) : leastV f F n ≤ cnt f a n := by
  have h0 : 0 ≤ a % F := Int.emod_nonneg _ (by omega)
  have h1 : a % F < F := Int.emod_lt_of_pos _ (by omega)
  rw [← cnt_mod h a n]
  have := leastOf_le (g := fun i => cnt f (i : Int) n) (k := F - 1) (i := (a % F).toNat) (by omega)
  rw [Int.toNat_of_nonneg h0] at this
  exact this
theorem leastV_at (hF : 1 ≤ F) (n : Nat) : ∃ i : Nat, i < F ∧ cnt f (i : Int) n = leastV f F n := by
  obtain ⟨i, h1, h2⟩ := leastOf_at (g := fun i => cnt f (i : Int) n) (F - 1)
  exact ⟨i, by omega, h2.symm⟩
theorem leastV_zero : leastV f F 0 = 0 := leastOf_eq (fun i _ => Nat.zero_le _) ⟨0, Nat.zero_le _, rfl⟩
theorem leastV_bd (n : Nat) : leastV f F n ≤ n := Nat.le_trans (leastOf_le (i := 0) (Nat.zero_le _)) (cnt_le _ _ _)
theorem leastV_frame (h : Again f F) (hF : 1 ≤ F) (n : Nat) : leastV f F (n + F) = leastV f F n + cnt f 0 F := by
  refine leastOf_eq (fun i _ => ?_) ?_
  · rw [cnt_add, cnt_frame h ((i : Int) + n)]
    exact Nat.add_le_add_right (leastV_le h hF _ _) _
  · obtain ⟨i, h1, h2⟩ := leastV_at (f := f) hF n
    exact ⟨i, by omega, by rw [cnt_add, cnt_frame h ((i : Int) + n), h2]⟩
theorem leastV_frames (h : Again f F) (hF : 1 ≤ F) (n : Nat) : ∀ k : Nat, leastV f F (n + k * F) = k * cnt f 0 F + leastV f F n
  | 0 => by simp
  | k + 1 => by
    rw [Nat.succ_mul, ← Nat.add_assoc, leastV_frame h hF, leastV_frames h hF n k, Nat.succ_mul]
    omega
theorem leastV_split (h : Again f F) (hF : 1 ≤ F) (n : Nat) : leastV f F n = n / F * cnt f 0 F + leastV f F (n % F) := by
  have := leastV_frames h hF (n % F) (n / F)
  rwa [Nat.mul_comm (n / F) F, Nat.mod_add_div] at this
theorem leastV_next (h : Again f F) (hF : 1 ≤ F) (n : Nat) : leastV f F n ≤ leastV f F (n + 1) ∧ leastV f F (n + 1) ≤ leastV f F n + 1 := by
  constructor
  · exact leastOf_mono fun i _ => cnt_mono f i n 1
  · obtain ⟨i, h1, h2⟩ := leastV_at (f := f) hF n
    have h3 := leastV_le h hF (i : Int) (n + 1)
    have h4 := cnt_add f (i : Int) n 1
    have h5 := cnt_le f ((i : Int) + n) 1
    omega
theorem leastV_mono (h : Again f F) (hF : 1 ≤ F) (n : Nat) : ∀ k, leastV f F n ≤ leastV f F (n + k)
  | 0 => Nat.le_refl _
  | k + 1 => Nat.le_trans (leastV_mono h hF n k) (leastV_next h hF (n + k)).1
theorem leastV_le_of (h : Again f F) (hF : 1 ≤ F) {n m : Nat} (hn : n ≤ m) : leastV f F n ≤ leastV f F m := by
  obtain ⟨k, rfl⟩ : ∃ k, m = n + k := ⟨m - n, by omega⟩
  exact leastV_mono h hF n k
theorem leastV_two (h : Again f F) (hF : 1 ≤ F) (a b : Nat) : leastV f F a + leastV f F b ≤ leastV f F (a + b) := by
  obtain ⟨i, h1, h2⟩ := leastV_at (f := f) hF (a + b)
  rw [← h2, cnt_add]
  exact Nat.add_le_add (leastV_le h hF _ _) (leastV_le h hF _ _)
theorem off_le : cnt f 0 F ≤ F := cnt_le _ _ _
/-- The least tick from 0 on from which on there are just so few. -/
def worstV (f : Int → Bool) (F n : Nat) : Nat := ((List.range F).find? fun (i : Nat) => cnt f (i : Int) n == leastV f F n).getD 0
theorem worstV_is (hF : 1 ≤ F) (n : Nat) : worstV f F n < F ∧ cnt f (worstV f F n : Int) n = leastV f F n ∧ ∀ j, j < worstV f F n → cnt f (j : Int) n ≠ leastV f F n := by
  obtain ⟨i, h1, h2⟩ := leastV_at (f := f) hF n
  unfold worstV
  cases hf : (List.range F).find? fun (i : Nat) => cnt f (i : Int) n == leastV f F n with
  | none =>
    have := List.find?_eq_none.1 hf i (List.mem_range.2 h1)
    simp [h2] at this
  | some k =>
    have hk := List.find?_range_eq_some.1 hf
    simp only [Option.getD_some]
    refine ⟨List.mem_range.1 hk.2.1, by simpa using hk.1, fun j hj e => ?_⟩
    have := hk.2.2 j hj
    simp [e] at this
theorem worstV_eq (hF : 1 ≤ F) {n k : Nat} (h1 : cnt f (k : Int) n = leastV f F n) (h2 : ∀ j, j < k → cnt f (j : Int) n ≠ leastV f F n) : worstV f F n = k := by
  obtain ⟨a, b, c⟩ := worstV_is (f := f) hF n
  rcases Nat.lt_trichotomy (worstV f F n) k with h | h | h
  · exact absurd b (h2 _ h)
  · exact h
  · exact absurd h1 (c _ h)
/-- A wait: the least number of ticks whose supply is enough. -/
def IsWait (f : Int → Bool) (F work n : Nat) : Prop := work ≤ leastV f F n ∧ ∀ m, m < n → leastV f F m < work
theorem IsWait.one {work n m : Nat} (h : IsWait f F work n) (k : IsWait f F work m) : n = m := by
  rcases Nat.lt_trichotomy n m with g | g | g
  · have := k.2 n g; have := h.1; omega
  · exact g
  · have := h.2 m g; have := k.1; omega
theorem wait_from (h : Again f F) (hF : 1 ≤ F) {work n : Nat} (h1 : work ≤ leastV f F n) (h2 : n = 0 ∨ leastV f F (n - 1) < work) : IsWait f F work n := by
  refine ⟨h1, fun m hm => ?_⟩
  rcases h2 with rfl | h2
  · omega
  · exact Nat.lt_of_le_of_lt (leastV_le_of h hF (by omega)) h2
/-- From as many frames on, and at most so many ticks behind them. -/
theorem wait_bound (h : Again f F) (hF : 1 ≤ F) {work : Nat} (hw : 1 ≤ work) (ho : 1 ≤ cnt f 0 F) :
    leastV f F ((work / cnt f 0 F - 2) * F) < work ∧ work ≤ leastV f F ((work / cnt f 0 F - 2) * F + 3 * F) := by
  have e1 := leastV_frames h hF 0 (work / cnt f 0 F - 2)
  have e2 := leastV_frames h hF 0 ((work / cnt f 0 F - 2) + 3)
  rw [leastV_zero, Nat.zero_add, Nat.add_zero] at e1 e2
  rw [Nat.add_mul] at e2
  have d1 := Nat.div_add_mod work (cnt f 0 F)
  have d2 := Nat.mod_lt work ho
  rw [e1, e2]
  have d3 := Nat.div_mul_le_self work (cnt f 0 F)
  rcases Nat.lt_or_ge (work / cnt f 0 F) 2 with g | g
  · have g0 : work / cnt f 0 F - 2 = 0 := by omega
    rw [g0]
    constructor
    · omega
    · have : work / cnt f 0 F * cnt f 0 F ≤ 1 * cnt f 0 F := Nat.mul_le_mul_right _ (by omega)
      rw [Nat.mul_comm] at d1
      omega
  · obtain ⟨q, hq⟩ : ∃ q, work / cnt f 0 F = q + 2 := ⟨work / cnt f 0 F - 2, by omega⟩
    rw [hq] at d1 d3 ⊢
    rw [Nat.mul_comm] at d1
    rw [show q + 2 - 2 = q by omega]
    rw [Nat.add_mul] at d1 d3 ⊢
    omega
end
end Go.Proofs.Ytdbbdlobahalkaa
