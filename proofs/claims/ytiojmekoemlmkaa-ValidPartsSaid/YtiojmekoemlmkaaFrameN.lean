/- Windows counted window by window, and tick by tick: the same. No program in it. -/
import Derived.Test.YtiojmekoemlmkaaFrameM
namespace Go.Proofs.Ytiojmekoemlmkaa
set_option linter.unusedVariables false

/-- Is a place open to a partition? -/
def isG (m : Int) (l : List Wn) (p t : Int) : Bool := (ownAt m l t).2 == 2 && (ownAt m l t).1 == p
/-- How many places ahead of e are open to p, window by window. -/
def aheadV (m p e : Int) : List Wn → Int
  | [] => 0
  | x :: xs => (if x.part = p then max 0 (min (x.at_ + x.len) e - (x.at_ + m)) else 0) + aheadV m p e xs
theorem aheadV_zero {F m p e : Int} (hm : 0 ≤ m) : ∀ {l : List Wn} {a : Int}, okW F a l = true → e ≤ a → aheadV m p e l = 0
  | [], _, _, _ => rfl
  | x :: xs, a, h, he => by
    simp only [okW, Bool.and_eq_true, decide_eq_true_eq] at h
    obtain ⟨h1, h2, h3, h4, h5, h6, h7⟩ := h
    unfold aheadV
    rw [aheadV_zero hm h7 (by omega)]
    split <;> omega
theorem aheadV_step {F m p : Int} (hm : 0 ≤ m) : ∀ {l : List Wn} {a e : Int}, okW F a l = true → aheadV m p (e + 1) l = aheadV m p e l + (if isG m l p e = true then 1 else 0)
  | [], _, _, _ => by simp [aheadV, isG, ownAt]
  | x :: xs, a, e, h => by
    have h' := h
    simp only [okW, Bool.and_eq_true, decide_eq_true_eq] at h'
    obtain ⟨h1, h2, h3, h4, h5, h6, h7⟩ := h'
    by_cases hin : x.at_ ≤ e ∧ e - x.at_ < x.len
    · have e1 : isG m (x :: xs) p e = (decide (m ≤ e - x.at_) && decide (x.part = p)) := by
        unfold isG ownAt
        rw [if_pos hin]
        by_cases k : e - x.at_ < m
        · simp [k]; omega
        · have k2 : m ≤ e - x.at_ := by omega
          simp only [if_neg k, k2, decide_true, Bool.true_and]
          rw [Bool.eq_iff_iff]; simp
      rw [e1]
      unfold aheadV
      rw [aheadV_zero hm h7 (show e ≤ x.at_ + x.len by omega), aheadV_zero hm h7 (show e + 1 ≤ x.at_ + x.len by omega)]
      by_cases hp : x.part = p
      · by_cases hk : m ≤ e - x.at_ <;> simp [hp, hk] <;> omega
      · simp [hp]
    · have e1 : isG m (x :: xs) p e = isG m xs p e := by
        unfold isG
        rw [ownAt, if_neg hin]
      rw [e1]
      unfold aheadV
      rw [aheadV_step hm h7]
      split <;> omega
theorem aheadV_cnt {F m p : Int} {l : List Wn} (hm : 0 ≤ m) (h : okW F 0 l = true) : ∀ n : Nat, aheadV m p n l = cnt (isG m l p) 0 n
  | 0 => by rw [show ((0 : Nat) : Int) = 0 from rfl, aheadV_zero hm h (Int.le_refl _)]; rfl
  | n + 1 => by
    have := aheadV_step (p := p) hm h (e := n)
    rw [show ((n + 1 : Nat) : Int) = (n : Int) + 1 from rfl, this, aheadV_cnt hm h n]
    show _ = ((cnt (isG m l p) 0 n + (if isG m l p (0 + (n : Int)) = true then 1 else 0) : Nat) : Int)
    rw [Int.zero_add]
    split <;> simp
theorem isO_place {F : Nat} {m : Int} {l : List Wn} {p t : Int} (h0 : 0 ≤ t) (h1 : t < F) : isO F m l p t = isG m l p t := by
  unfold isO isG owner
  rw [Int.emod_eq_of_lt h0 h1]
/-- What is open of a frame ahead of a place. -/
theorem aheadV_isO {F : Nat} {m p : Int} {l : List Wn} (hm : 0 ≤ m) (h : okW F 0 l = true) {n : Nat} (hn : n ≤ F) : aheadV m p n l = cnt (isO F m l p) 0 n := by
  rw [aheadV_cnt hm h n]
  congr 1
  exact cnt_same fun i hi => (isO_place (by omega) (by omega)).symm
theorem aheadV_offered {F : Nat} {m p : Int} {l : List Wn} (hm : 0 ≤ m) (h : okW F 0 l = true) : aheadV m p F l = offeredV F m l p := aheadV_isO hm h (Nat.le_refl _)
/-- So many frames, and what is ahead of a place in the last one. -/
def sinceV (F : Nat) (m p : Int) (l : List Wn) (e : Int) : Int := e / F * offeredV F m l p + aheadV m p (e % F) l
theorem sinceV_cnt {F : Nat} {m p : Int} {l : List Wn} (hF : 1 ≤ F) (hm : 0 ≤ m) (h : okW F 0 l = true) (n : Nat) : sinceV F m p l n = cnt (isO F m l p) 0 n := by
  rw [cnt_split (isO_again F m l p) 0 n]
  unfold sinceV
  have h1 : n % F < F := Nat.mod_lt _ hF
  rw [show (n : Int) % (F : Int) = ((n % F : Nat) : Int) from (Int.natCast_emod n F).symm, show (n : Int) / (F : Int) = ((n / F : Nat) : Int) from (Int.natCast_ediv n F).symm, aheadV_isO hm h (by omega), Int.natCast_add, Int.natCast_mul, Int.zero_emod]
  rfl
/-- The program's count, and the document's. -/
theorem sinceV_count {F : Nat} {m p : Int} {l : List Wn} (hF : 1 ≤ F) (hm : 0 ≤ m) (h : okW F 0 l = true) (t : Int) (n : Nat) : sinceV F m p l (t % F + n) - sinceV F m p l (t % F) = countV F m l p t n := by
  have h0 : 0 ≤ t % (F : Int) := Int.emod_nonneg _ (by omega)
  obtain ⟨c, hc⟩ := Int.eq_ofNat_of_zero_le h0
  have e : countV F m l p t n = cnt (isO F m l p) c n := by
    unfold countV
    rw [cnt_split (isO_again F m l p) t n, cnt_split (isO_again F m l p) c n, ← hc, Int.emod_emod]
  rw [e, hc, ← Int.natCast_add, sinceV_cnt hF hm h, sinceV_cnt hF hm h, cnt_add, Int.zero_add]
  omega

/-- The first place from b on that is open to p, window by window. -/
def firstV (m p b : Int) : List Wn → Int × Bool
  | [] => (0, false)
  | x :: xs => if x.part = p ∧ max (x.at_ + m) b < x.at_ + x.len then (max (x.at_ + m) b, true) else firstV m p b xs
theorem firstV_none {m p b : Int} : ∀ {l : List Wn}, (firstV m p b l).2 = false → (firstV m p b l).1 = 0
  | [], _ => rfl
  | x :: xs, h => by
    unfold firstV at h ⊢
    split at h
    · cases h
    · rename_i k; rw [if_neg k]; exact firstV_none h
theorem isG_gap {F m p : Int} {l : List Wn} {a t : Int} (h : okW F a l = true) (ht : t < a) : isG m l p t = false := by
  have := ownAt_gap (m := m) (l := l) (t := t) fun x hx => by have := okW_from h x hx; omega
  unfold isG; rw [this]; rfl
theorem firstV_no {F m p b : Int} : ∀ {l : List Wn} {a : Int}, okW F a l = true → (firstV m p b l).2 = false → ∀ y, b ≤ y → isG m l p y = false
  | [], _, _, _, y, _ => by simp [isG, ownAt]
  | x :: xs, a, h, hf, y, hy => by
    have h' := h
    simp only [okW, Bool.and_eq_true, decide_eq_true_eq] at h'
    obtain ⟨h1, h2, h3, h4, h5, h6, h7⟩ := h'
    unfold firstV at hf
    split at hf
    · cases hf
    · rename_i k
      have ih := firstV_no h7 hf y hy
      unfold isG ownAt
      by_cases hin : x.at_ ≤ y ∧ y - x.at_ < x.len
      · rw [if_pos hin]
        by_cases hk : y - x.at_ < m
        · simp [hk]
        · have : x.part ≠ p := fun e => k ⟨e, by omega⟩
          simp [this]
      · rw [if_neg hin]; exact ih
theorem firstV_yes {F m p b : Int} (hm : 0 ≤ m) : ∀ {l : List Wn} {a z : Int}, okW F a l = true → firstV m p b l = (z, true) → b ≤ z ∧ a ≤ z ∧ z < F ∧ isG m l p z = true ∧ ∀ y, b ≤ y → y < z → isG m l p y = false
  | [], _, _, _, hf => by simp [firstV] at hf
  | x :: xs, a, z, h, hf => by
    have h' := h
    simp only [okW, Bool.and_eq_true, decide_eq_true_eq] at h'
    obtain ⟨h1, h2, h3, h4, h5, h6, h7⟩ := h'
    unfold firstV at hf
    split at hf
    · rename_i k
      cases hf
      refine ⟨by omega, by omega, by omega, ?_, fun y hy1 hy2 => ?_⟩
      · unfold isG ownAt
        rw [if_pos (by omega)]
        have : ¬ max (x.at_ + m) b - x.at_ < m := by omega
        simp [this, k.1]
      · by_cases hin : x.at_ ≤ y ∧ y - x.at_ < x.len
        · unfold isG ownAt
          rw [if_pos hin]
          have : y - x.at_ < m := by omega
          simp [this]
        · have e : isG m (x :: xs) p y = isG m xs p y := by unfold isG; rw [ownAt, if_neg hin]
          rw [e]
          exact isG_gap h7 (by omega)
    · rename_i k
      obtain ⟨g1, g2, g3, g4, g5⟩ := firstV_yes hm h7 hf
      refine ⟨g1, by omega, g3, ?_, fun y hy1 hy2 => ?_⟩
      · have e : isG m (x :: xs) p z = isG m xs p z := by unfold isG; rw [ownAt, if_neg (by omega)]
        rw [e]; exact g4
      · have ih := g5 y hy1 hy2
        unfold isG ownAt
        by_cases hin : x.at_ ≤ y ∧ y - x.at_ < x.len
        · rw [if_pos hin]
          by_cases hk : y - x.at_ < m
          · simp [hk]
          · have : x.part ≠ p := fun e => k ⟨e, by omega⟩
            simp [this]
        · rw [if_neg hin]; exact ih
/-- Which tick comes next, as the document says it: how far it is. -/
def nextV (F : Nat) (m : Int) (l : List Wn) (p t : Int) : Option Nat := nextI (isO F m l p) t F
theorem isO_from {F : Nat} (m : Int) (l : List Wn) (p t : Int) (i : Int) : isO F m l p (t + i) = isO F m l p (t % F + i) := by
  rw [← (isO_again F m l p).mod (t + i), ← (isO_again F m l p).mod (t % F + i), Int.emod_add_emod]
theorem next_here {F : Nat} {m p t z : Int} {l : List Wn} (hF : 1 ≤ F) (hm : 0 ≤ m) (h : okW F 0 l = true) (hf : firstV m p (t % F) l = (z, true)) : t % F ≤ z ∧ z < F ∧ nextV F m l p t = some (z - t % F).toNat := by
  have h0 : 0 ≤ t % (F : Int) := Int.emod_nonneg _ (by omega)
  obtain ⟨g1, g2, g3, g4, g5⟩ := firstV_yes hm h hf
  refine ⟨g1, g3, nextI_of (by omega) ?_ (cnt_zero.2 fun i hi => ?_)⟩
  · rw [isO_from, isO_place (by omega) (by omega), show t % (F : Int) + ((z - t % F).toNat : Int) = z by omega]
    exact g4
  · rw [isO_from, isO_place (by omega) (by omega)]
    exact g5 _ (by omega) (by omega)
theorem next_later {F : Nat} {m p t z : Int} {l : List Wn} (hF : 1 ≤ F) (hm : 0 ≤ m) (h : okW F 0 l = true) (hn : (firstV m p (t % F) l).2 = false) (hf : firstV m p 0 l = (z, true)) : 0 ≤ z ∧ z < t % F ∧ t % F < F ∧ nextV F m l p t = some (z + F - t % F).toNat := by
  have h0 : 0 ≤ t % (F : Int) := Int.emod_nonneg _ (by omega)
  have h1 : t % (F : Int) < F := Int.emod_lt_of_pos _ (by omega)
  obtain ⟨g1, g2, g3, g4, g5⟩ := firstV_yes hm h hf
  have no := firstV_no h hn
  have hz : z < t % F := by
    by_cases e : z < t % F
    · exact e
    · rw [no z (by omega)] at g4; cases g4
  have back : ∀ i : Int, F ≤ t % F + i → t % F + i < F + F → isO F m l p (t + i) = isG m l p (t % F + i - F) := fun i k1 k2 => by
    rw [isO_from, show t % (F : Int) + i = t % F + i - F + F by omega, isO_again F m l p, isO_place (by omega) (by omega), Int.add_sub_cancel]
  refine ⟨g1, hz, h1, nextI_of (by omega) ?_ (cnt_zero.2 fun i hi => ?_)⟩
  · rw [back _ (by omega) (by omega), show t % (F : Int) + ((z + F - t % F).toNat : Int) - F = z by omega]
    exact g4
  · by_cases k : t % (F : Int) + i < F
    · rw [isO_from, isO_place (by omega) (by omega)]
      exact no _ (by omega)
    · rw [back _ (by omega) (by omega)]
      exact g5 _ (by omega) (by omega)
theorem next_never {F : Nat} {m p t : Int} {l : List Wn} (hF : 1 ≤ F) (hm : 0 ≤ m) (h : okW F 0 l = true) (hf : (firstV m p 0 l).2 = false) : nextV F m l p t = none := by
  have no := firstV_no h hf
  unfold nextV
  cases e : nextI (isO F m l p) t F with
  | none => rfl
  | some i =>
    obtain ⟨_, k, _⟩ := nextI_some e
    have h0 : 0 ≤ (t + i) % (F : Int) := Int.emod_nonneg _ (by omega)
    rw [← (isO_again F m l p).mod, isO_place h0 (Int.emod_lt_of_pos _ (by omega)), no _ h0] at k
    cases k
theorem offered_le (F : Nat) (m : Int) (l : List Wn) (p : Int) : offeredV F m l p ≤ F := cnt_le _ _ _
end Go.Proofs.Ytiojmekoemlmkaa
