/- Counting what comes again each frame: no program in it. -/
import Derived.Test.YtiojmekoemlmkaaConfZ
namespace Go.Proofs.Ytiojmekoemlmkaa
set_option linter.unusedVariables false

/-- How many of the n things from a on are such. -/
def cnt (f : Int → Bool) (a : Int) : Nat → Nat
  | 0 => 0
  | n + 1 => cnt f a n + (if f (a + n) = true then 1 else 0)
theorem cnt_le (f : Int → Bool) (a : Int) : ∀ n, cnt f a n ≤ n
  | 0 => Nat.le_refl _
  | n + 1 => by
    have := cnt_le f a n
    unfold cnt
    split <;> omega
theorem cnt_mono (f : Int → Bool) (a : Int) (n : Nat) : ∀ m, cnt f a n ≤ cnt f a (n + m)
  | 0 => Nat.le_refl _
  | m + 1 => by
    have := cnt_mono f a n m
    show _ ≤ cnt f a (n + m) + _
    omega
theorem cnt_add (f : Int → Bool) (a : Int) (n : Nat) : ∀ m, cnt f a (n + m) = cnt f a n + cnt f (a + n) m
  | 0 => rfl
  | m + 1 => by
    have ih := cnt_add f a n m
    have e : a + ((n + m : Nat) : Int) = a + n + m := by omega
    show cnt f a (n + m) + _ = _ + (cnt f (a + n) m + _)
    rw [ih, show a + ((n.add m : Nat) : Int) = a + n + m from e, Nat.add_assoc]
theorem cnt_first (f : Int → Bool) (a : Int) (n : Nat) : cnt f a (n + 1) = (if f a = true then 1 else 0) + cnt f (a + 1) n := by
  rw [Nat.add_comm n 1, cnt_add f a 1 n]
  have e : a + ((0 : Nat) : Int) = a := by omega
  simp [cnt]
theorem cnt_same {f g : Int → Bool} {a b : Int} : ∀ {n : Nat}, (∀ i : Nat, i < n → f (a + i) = g (b + i)) → cnt f a n = cnt g b n
  | 0, _ => rfl
  | n + 1, h => by
    have ih := cnt_same (n := n) fun i hi => h i (by omega)
    unfold cnt
    rw [ih, h n (by omega)]
theorem cnt_zero {f : Int → Bool} {a : Int} : ∀ {n : Nat}, cnt f a n = 0 ↔ ∀ i : Nat, i < n → f (a + i) = false
  | 0 => ⟨fun _ i hi => by omega, fun _ => rfl⟩
  | n + 1 => by
    unfold cnt
    constructor
    · intro h i hi
      have h0 : cnt f a n = 0 := by omega
      by_cases e : i = n
      · subst e
        split at h
        · omega
        · rename_i hf; simpa using hf
      · exact cnt_zero.1 h0 i (by omega)
    · intro h
      rw [cnt_zero.2 fun i hi => h i (by omega), h n (by omega)]
      rfl
theorem cnt_pos {f : Int → Bool} {a : Int} {n i : Nat} (hi : i < n) (h : f (a + i) = true) : 0 < cnt f a n := by
  by_cases e : cnt f a n = 0
  · have := cnt_zero.1 e i hi
    rw [h] at this
    cases this
  · omega
/-- What comes again each F. -/
def Again (f : Int → Bool) (F : Nat) : Prop := ∀ t, f (t + F) = f t
theorem Again.times {f : Int → Bool} {F : Nat} (h : Again f F) (t : Int) : ∀ k : Nat, f (t + k * F) = f t
  | 0 => by simp
  | k + 1 => by
    have e : t + ((k + 1 : Nat) : Int) * F = t + k * F + F := by rw [Int.natCast_add, Int.add_mul]; simp [Int.add_assoc]
    rw [e, h, h.times t k]
theorem Again.less {f : Int → Bool} {F : Nat} (h : Again f F) (t : Int) (k : Nat) : f (t - k * F) = f t := by
  have := h.times (t - k * F) k
  rw [Int.sub_add_cancel] at this
  exact this.symm
theorem Again.mod {f : Int → Bool} {F : Nat} (h : Again f F) (t : Int) : f (t % F) = f t := by
  have e : t % F + F * (t / F) = t := Int.emod_add_mul_ediv t F
  rcases Int.le_total 0 (t / F) with hk | hk
  · obtain ⟨k, hk⟩ := Int.eq_ofNat_of_zero_le hk
    rw [hk] at e
    have := h.times (t % F) k
    rw [Int.mul_comm (k : Int), e] at this
    exact this.symm
  · obtain ⟨k, hk⟩ := Int.eq_ofNat_of_zero_le (Int.neg_nonneg_of_nonpos hk)
    have hk' : t / F = -(k : Int) := by omega
    rw [hk', Int.mul_neg, Int.mul_comm] at e
    have := h.less (t % F) k
    rw [show t % (F : Int) - k * F = t by omega] at this
    exact this.symm
theorem cnt_shift {f : Int → Bool} {F : Nat} (h : Again f F) (a : Int) : cnt f (a + 1) F = cnt f a F := by
  have e1 := cnt_first f a F
  have e2 : cnt f a (F + 1) = cnt f a F + (if f (a + F) = true then 1 else 0) := rfl
  rw [h a] at e2
  omega
theorem cnt_shifts {f : Int → Bool} {F : Nat} (h : Again f F) (a : Int) : ∀ k : Nat, cnt f (a + k) F = cnt f a F
  | 0 => by simp
  | k + 1 => by
    have e : a + ((k + 1 : Nat) : Int) = a + k + 1 := by omega
    rw [e, cnt_shift h, cnt_shifts h a k]
/-- As many ticks as a frame has hold the same, wherever they begin. -/
theorem cnt_frame {f : Int → Bool} {F : Nat} (h : Again f F) (a : Int) : cnt f a F = cnt f 0 F := by
  rcases Int.le_total 0 a with ha | ha
  · obtain ⟨k, hk⟩ := Int.eq_ofNat_of_zero_le ha
    have := cnt_shifts h 0 k
    rw [Int.zero_add] at this
    rw [hk]; exact this
  · obtain ⟨k, hk⟩ := Int.eq_ofNat_of_zero_le (Int.neg_nonneg_of_nonpos ha)
    have := cnt_shifts h a k
    rw [show a + (k : Int) = 0 by omega] at this
    exact this.symm
theorem cnt_frames {f : Int → Bool} {F : Nat} (h : Again f F) (a : Int) : ∀ k : Nat, cnt f a (k * F) = k * cnt f 0 F
  | 0 => by simp [cnt]
  | k + 1 => by rw [Nat.add_mul, Nat.one_mul, cnt_add, cnt_frames h a k, cnt_frame h (a + _), Nat.add_mul, Nat.one_mul]
/-- So many frames, and what is left of one. -/
theorem cnt_split {f : Int → Bool} {F : Nat} (h : Again f F) (a : Int) (n : Nat) : cnt f a n = n / F * cnt f 0 F + cnt f (a % F) (n % F) := by
  have e : n = n / F * F + n % F := by have := Nat.div_add_mod n F; rw [Nat.mul_comm] at this; exact this.symm
  have e2 : cnt f (a + ((n / F * F : Nat) : Int)) (n % F) = cnt f (a % F) (n % F) := cnt_same fun i _ => by
    have e3 : a + ((n / F * F : Nat) : Int) + i = a + i + (n / F : Nat) * F := by rw [Int.natCast_mul]; omega
    rw [e3, h.times, ← h.mod (a + i), ← h.mod (a % F + i), Int.emod_add_emod]
  calc cnt f a n = cnt f a (n / F * F + n % F) := by rw [← e]
    _ = _ := by rw [cnt_add, cnt_frames h, e2]
/-- The first one. -/
def nextI (f : Int → Bool) (a : Int) : Nat → Option Nat
  | 0 => none
  | n + 1 => match nextI f a n with
    | some i => some i
    | none => if f (a + n) = true then some n else none
theorem nextI_none {f : Int → Bool} {a : Int} : ∀ {n : Nat}, nextI f a n = none → cnt f a n = 0
  | 0, _ => rfl
  | n + 1, h => by
    unfold nextI at h
    unfold cnt
    cases e : nextI f a n with
    | some i => rw [e] at h; cases h
    | none =>
      rw [e] at h
      simp only at h
      split at h
      · cases h
      · rename_i hf; rw [nextI_none e, if_neg hf]
theorem nextI_some {f : Int → Bool} {a : Int} : ∀ {n i : Nat}, nextI f a n = some i → i < n ∧ f (a + i) = true ∧ cnt f a i = 0
  | 0, i, h => by cases h
  | n + 1, i, h => by
    unfold nextI at h
    cases e : nextI f a n with
    | some j =>
      rw [e] at h
      cases h
      obtain ⟨h1, h2, h3⟩ := nextI_some e
      exact ⟨by omega, h2, h3⟩
    | none =>
      rw [e] at h
      simp only at h
      split at h
      · rename_i hf
        cases h
        exact ⟨by omega, hf, nextI_none e⟩
      · cases h
theorem nextI_of {f : Int → Bool} {a : Int} {n i : Nat} (hi : i < n) (h : f (a + i) = true) (h0 : cnt f a i = 0) : nextI f a n = some i := by
  cases e : nextI f a n with
  | none => have := cnt_pos hi h; rw [nextI_none e] at this; omega
  | some j =>
    obtain ⟨h1, h2, h3⟩ := nextI_some e
    by_cases e1 : i < j
    · have := cnt_pos e1 h; omega
    by_cases e2 : j < i
    · have := cnt_pos e2 h2; omega
    rw [show j = i by omega]
/-- There is one in a frame just if a frame holds any. -/
theorem nextI_is {f : Int → Bool} {F : Nat} (h : Again f F) (a : Int) : (nextI f a F).isSome = decide (0 < cnt f 0 F) := by
  rw [← cnt_frame h a]
  cases e : nextI f a F with
  | none => rw [nextI_none e]; rfl
  | some i => obtain ⟨h1, h2, _⟩ := nextI_some e; simp [cnt_pos h1 h2]

/-- Whose a place of a frame is, and its kind. -/
def ownAt (m : Int) : List Wn → Int → Int × Int
  | [], _ => (-1, 0)
  | x :: xs, t => if x.at_ ≤ t ∧ t - x.at_ < x.len then (x.part, if t - x.at_ < m then 1 else 2) else ownAt m xs t
/-- Windows as they may be, from a place on. -/
def okW (F : Int) : Int → List Wn → Bool
  | _, [] => true
  | a, x :: xs => decide (a ≤ x.at_) && (decide (x.at_ < F) && (decide (1 ≤ x.len) && (decide (x.len ≤ F - x.at_) && (decide (0 ≤ x.part) && (decide (x.part < 6) && okW F (x.at_ + x.len) xs)))))
def owner (F : Nat) (m : Int) (l : List Wn) (t : Int) : Int × Int := ownAt m l (t % F)
/-- Is a tick open to a partition? -/
def isO (F : Nat) (m : Int) (l : List Wn) (p t : Int) : Bool := (owner F m l t).2 == 2 && (owner F m l t).1 == p
theorem owner_again (F : Nat) (m : Int) (l : List Wn) (t : Int) : owner F m l (t + F) = owner F m l t := by
  unfold owner; rw [Int.add_emod_right]
theorem isO_again (F : Nat) (m : Int) (l : List Wn) (p : Int) : Again (isO F m l p) F := fun t => by unfold isO; rw [owner_again]
def offeredV (F : Nat) (m : Int) (l : List Wn) (p : Int) : Nat := cnt (isO F m l p) 0 F
def countV (F : Nat) (m : Int) (l : List Wn) (p a : Int) (n : Nat) : Nat := cnt (isO F m l p) a n
theorem countV_split (F : Nat) (m : Int) (l : List Wn) (p a : Int) (n : Nat) : countV F m l p a n = n / F * offeredV F m l p + cnt (isO F m l p) (a % F) (n % F) := cnt_split (isO_again F m l p) a n
theorem countV_frame (F : Nat) (m : Int) (l : List Wn) (p a : Int) : countV F m l p a F = offeredV F m l p := cnt_frame (isO_again F m l p) a
theorem ownAt_gap {m : Int} : ∀ {l : List Wn} {t : Int}, (∀ x ∈ l, ¬(x.at_ ≤ t ∧ t - x.at_ < x.len)) → ownAt m l t = (-1, 0)
  | [], _, _ => rfl
  | x :: xs, t, h => by unfold ownAt; rw [if_neg (h x (by simp))]; exact ownAt_gap fun y hy => h y (by simp [hy])
theorem okW_from {F : Int} : ∀ {l : List Wn} {a : Int}, okW F a l = true → ∀ x ∈ l, a ≤ x.at_ ∧ x.at_ < F ∧ 1 ≤ x.len ∧ x.len ≤ F - x.at_ ∧ 0 ≤ x.part ∧ x.part < 6
  | [], _, _, x, hx => by cases hx
  | y :: ys, a, h, x, hx => by
    simp only [okW, Bool.and_eq_true, decide_eq_true_eq] at h
    obtain ⟨h1, h2, h3, h4, h5, h6, h7⟩ := h
    rcases List.mem_cons.1 hx with e | e
    · subst e; exact ⟨h1, h2, h3, h4, h5, h6⟩
    · have := okW_from h7 x e; omega
/-- A place lies in one window at most. -/
theorem ownAt_of {F m : Int} : ∀ {l : List Wn} {a t : Int}, okW F a l = true → ∀ x ∈ l, x.at_ ≤ t → t - x.at_ < x.len → ownAt m l t = (x.part, if t - x.at_ < m then 1 else 2)
  | [], _, _, _, x, hx, _, _ => by cases hx
  | y :: ys, a, t, h, x, hx, h1, h2 => by
    have h' := h
    simp only [okW, Bool.and_eq_true, decide_eq_true_eq] at h'
    obtain ⟨g1, g2, g3, g4, g5, g6, g7⟩ := h'
    unfold ownAt
    rcases List.mem_cons.1 hx with e | e
    · subst e; rw [if_pos ⟨h1, h2⟩]
    · have := okW_from g7 x e
      rw [if_neg (by omega)]
      exact ownAt_of g7 x e h1 h2
end Go.Proofs.Ytiojmekoemlmkaa
