/- Joined of FrameM, FrameN, FrameA, FrameB, FrameC, FrameD, FrameE, FrameF: Counting what comes again each frame: no program in it. -/
import Derived.Test.YtmkohnpdpcefgaaBase
import Derived.Deep.QuietTactic
import Derived.BigQuiet
import Derived.IntWalk
import Derived.Test.YtmkohnpdpcefgaaNum
import Derived.Deep.RegionHeld3
namespace Go.Proofs.Ytmkohnpdpcefgaa
set_option linter.unusedVariables false

/-- How many of the n things from a on are such. -/
def cnt (f : Int → Bool) (a : Int) : Nat → Nat
  | 0 => 0
  | n + 1 => cnt f a n + (if f (a + n) = true then 1 else 0)
theorem cnt_le (f : Int → Bool) (a : Int) : ∀ n, cnt f a n ≤ n
  | 0 => Nat.le_refl _
  | n + 1 => by
    have := cnt_le f a n
    unfold cnt
    split <;> omega
theorem cnt_mono (f : Int → Bool) (a : Int) (n : Nat) : ∀ m, cnt f a n ≤ cnt f a (n + m)
  | 0 => Nat.le_refl _
  | m + 1 => by
    have := cnt_mono f a n m
    show _ ≤ cnt f a (n + m) + _
    omega
theorem cnt_add (f : Int → Bool) (a : Int) (n : Nat) : ∀ m, cnt f a (n + m) = cnt f a n + cnt f (a + n) m
  | 0 => rfl
  | m + 1 => by
    have ih := cnt_add f a n m
    have e : a + ((n + m : Nat) : Int) = a + n + m := by omega
    show cnt f a (n + m) + _ = _ + (cnt f (a + n) m + _)
    rw [ih, show a + ((n.add m : Nat) : Int) = a + n + m from e, Nat.add_assoc]
theorem cnt_first (f : Int → Bool) (a : Int) (n : Nat) : cnt f a (n + 1) = (if f a = true then 1 else 0) + cnt f (a + 1) n := by
  rw [Nat.add_comm n 1, cnt_add f a 1 n]
  have e : a + ((0 : Nat) : Int) = a := by omega
  simp [cnt]
theorem cnt_same {f g : Int → Bool} {a b : Int} : ∀ {n : Nat}, (∀ i : Nat, i < n → f (a + i) = g (b + i)) → cnt f a n = cnt g b n
  | 0, _ => rfl
  | n + 1, h => by
    have ih := cnt_same (n := n) fun i hi => h i (by omega)
    unfold cnt
    rw [ih, h n (by omega)]
theorem cnt_zero {f : Int → Bool} {a : Int} : ∀ {n : Nat}, cnt f a n = 0 ↔ ∀ i : Nat, i < n → f (a + i) = false
  | 0 => ⟨fun _ i hi => by omega, fun _ => rfl⟩
  | n + 1 => by
    unfold cnt
    constructor
    · intro h i hi
      have h0 : cnt f a n = 0 := by omega
      by_cases e : i = n
      · subst e
        split at h
        · omega
        · rename_i hf; simpa using hf
      · exact cnt_zero.1 h0 i (by omega)
    · intro h
      rw [cnt_zero.2 fun i hi => h i (by omega), h n (by omega)]
      rfl
theorem cnt_pos {f : Int → Bool} {a : Int} {n i : Nat} (hi : i < n) (h : f (a + i) = true) : 0 < cnt f a n := by
  by_cases e : cnt f a n = 0
  · have := cnt_zero.1 e i hi
    rw [h] at this
    cases this
  · omega
/-- What comes again each F. -/
def Again (f : Int → Bool) (F : Nat) : Prop := ∀ t, f (t + F) = f t
theorem Again.times {f : Int → Bool} {F : Nat} (h : Again f F) (t : Int) : ∀ k : Nat, f (t + k * F) = f t
  | 0 => by simp
  | k + 1 => by
    have e : t + ((k + 1 : Nat) : Int) * F = t + k * F + F := by rw [Int.natCast_add, Int.add_mul]; simp [Int.add_assoc]
    rw [e, h, h.times t k]
theorem Again.less {f : Int → Bool} {F : Nat} (h : Again f F) (t : Int) (k : Nat) : f (t - k * F) = f t := by
  have := h.times (t - k * F) k
  rw [Int.sub_add_cancel] at this
  exact this.symm
theorem Again.mod {f : Int → Bool} {F : Nat} (h : Again f F) (t : Int) : f (t % F) = f t := by
  have e : t % F + F * (t / F) = t := Int.emod_add_mul_ediv t F
  rcases Int.le_total 0 (t / F) with hk | hk
  · obtain ⟨k, hk⟩ := Int.eq_ofNat_of_zero_le hk
    rw [hk] at e
    have := h.times (t % F) k
    rw [Int.mul_comm (k : Int), e] at this
    exact this.symm
  · obtain ⟨k, hk⟩ := Int.eq_ofNat_of_zero_le (Int.neg_nonneg_of_nonpos hk)
    have hk' : t / F = -(k : Int) := by omega
    rw [hk', Int.mul_neg, Int.mul_comm] at e
    have := h.less (t % F) k
    rw [show t % (F : Int) - k * F = t by omega] at this
    exact this.symm
theorem cnt_shift {f : Int → Bool} {F : Nat} (h : Again f F) (a : Int) : cnt f (a + 1) F = cnt f a F := by
  have e1 := cnt_first f a F
  have e2 : cnt f a (F + 1) = cnt f a F + (if f (a + F) = true then 1 else 0) := rfl
  rw [h a] at e2
  omega
theorem cnt_shifts {f : Int → Bool} {F : Nat} (h : Again f F) (a : Int) : ∀ k : Nat, cnt f (a + k) F = cnt f a F
  | 0 => by simp
  | k + 1 => by
    have e : a + ((k + 1 : Nat) : Int) = a + k + 1 := by omega
    rw [e, cnt_shift h, cnt_shifts h a k]
/-- As many ticks as a frame has hold the same, wherever they begin. -/
theorem cnt_frame {f : Int → Bool} {F : Nat} (h : Again f F) (a : Int) : cnt f a F = cnt f 0 F := by
  rcases Int.le_total 0 a with ha | ha
  · obtain ⟨k, hk⟩ := Int.eq_ofNat_of_zero_le ha
    have := cnt_shifts h 0 k
    rw [Int.zero_add] at this
    rw [hk]; exact this
  · obtain ⟨k, hk⟩ := Int.eq_ofNat_of_zero_le (Int.neg_nonneg_of_nonpos ha)
    have := cnt_shifts h a k
    rw [show a + (k : Int) = 0 by omega] at this
    exact this.symm
theorem cnt_frames {f : Int → Bool} {F : Nat} (h : Again f F) (a : Int) : ∀ k : Nat, cnt f a (k * F) = k * cnt f 0 F
  | 0 => by simp [cnt]
  | k + 1 => by rw [Nat.add_mul, Nat.one_mul, cnt_add, cnt_frames h a k, cnt_frame h (a + _), Nat.add_mul, Nat.one_mul]
/-- So many frames, and what is left of one. -/
theorem cnt_split {f : Int → Bool} {F : Nat} (h : Again f F) (a : Int) (n : Nat) : cnt f a n = n / F * cnt f 0 F + cnt f (a % F) (n % F) := by
  have e : n = n / F * F + n % F := by have := Nat.div_add_mod n F; rw [Nat.mul_comm] at this; exact this.symm
  have e2 : cnt f (a + ((n / F * F : Nat) : Int)) (n % F) = cnt f (a % F) (n % F) := cnt_same fun i _ => by
    have e3 : a + ((n / F * F : Nat) : Int) + i = a + i + (n / F : Nat) * F := by rw [Int.natCast_mul]; omega
    rw [e3, h.times, ← h.mod (a + i), ← h.mod (a % F + i), Int.emod_add_emod]
  calc cnt f a n = cnt f a (n / F * F + n % F) := by rw [← e]
    _ = _ := by rw [cnt_add, cnt_frames h, e2]
/-- The first one. -/
def nextI (f : Int → Bool) (a : Int) : Nat → Option Nat
  | 0 => none
  | n + 1 => match nextI f a n with
    | some i => some i
    | none => if f (a + n) = true then some n else none
theorem nextI_none {f : Int → Bool} {a : Int} : ∀ {n : Nat}, nextI f a n = none → cnt f a n = 0
  | 0, _ => rfl
  | n + 1, h => by
    unfold nextI at h
    unfold cnt
    cases e : nextI f a n with
    | some i => rw [e] at h; cases h
    | none =>
      rw [e] at h
      simp only at h
      split at h
      · cases h
      · rename_i hf; rw [nextI_none e, if_neg hf]
theorem nextI_some {f : Int → Bool} {a : Int} : ∀ {n i : Nat}, nextI f a n = some i → i < n ∧ f (a + i) = true ∧ cnt f a i = 0
  | 0, i, h => by cases h
  | n + 1, i, h => by
    unfold nextI at h
    cases e : nextI f a n with
    | some j =>
      rw [e] at h
      cases h
      obtain ⟨h1, h2, h3⟩ := nextI_some e
      exact ⟨by omega, h2, h3⟩
    | none =>
      rw [e] at h
      simp only at h
      split at h
      · rename_i hf
        cases h
        exact ⟨by omega, hf, nextI_none e⟩
      · cases h
theorem nextI_of {f : Int → Bool} {a : Int} {n i : Nat} (hi : i < n) (h : f (a + i) = true) (h0 : cnt f a i = 0) : nextI f a n = some i := by
  cases e : nextI f a n with
  | none => have := cnt_pos hi h; rw [nextI_none e] at this; omega
  | some j =>
    obtain ⟨h1, h2, h3⟩ := nextI_some e
    by_cases e1 : i < j
    · have := cnt_pos e1 h; omega
    by_cases e2 : j < i
    · have := cnt_pos e2 h2; omega
    rw [show j = i by omega]
/-- There is one in a frame just if a frame holds any. -/
theorem nextI_is {f : Int → Bool} {F : Nat} (h : Again f F) (a : Int) : (nextI f a F).isSome = decide (0 < cnt f 0 F) := by
  rw [← cnt_frame h a]
  cases e : nextI f a F with
  | none => rw [nextI_none e]; rfl
  | some i => obtain ⟨h1, h2, _⟩ := nextI_some e; simp [cnt_pos h1 h2]

/-- Whose a place of a frame is, and its kind. -/
def ownAt (m : Int) : List Wn → Int → Int × Int
  | [], _ => (-1, 0)
  | x :: xs, t => if x.at_ ≤ t ∧ t - x.at_ < x.len then (x.part, if t - x.at_ < m then 1 else 2) else ownAt m xs t
/-- Windows as they may be, from a place on. -/
def okW (F : Int) : Int → List Wn → Bool
  | _, [] => true
  | a, x :: xs => decide (a ≤ x.at_) && (decide (x.at_ < F) && (decide (1 ≤ x.len) && (decide (x.len ≤ F - x.at_) && (decide (0 ≤ x.part) && (decide (x.part < 6) && okW F (x.at_ + x.len) xs)))))
def owner (F : Nat) (m : Int) (l : List Wn) (t : Int) : Int × Int := ownAt m l (t % F)
/-- Is a tick open to a partition? -/
def isO (F : Nat) (m : Int) (l : List Wn) (p t : Int) : Bool := (owner F m l t).2 == 2 && (owner F m l t).1 == p
theorem owner_again (F : Nat) (m : Int) (l : List Wn) (t : Int) : owner F m l (t + F) = owner F m l t := by
  unfold owner; rw [Int.add_emod_right]
theorem isO_again (F : Nat) (m : Int) (l : List Wn) (p : Int) : Again (isO F m l p) F := fun t => by unfold isO; rw [owner_again]
def offeredV (F : Nat) (m : Int) (l : List Wn) (p : Int) : Nat := cnt (isO F m l p) 0 F
def countV (F : Nat) (m : Int) (l : List Wn) (p a : Int) (n : Nat) : Nat := cnt (isO F m l p) a n
theorem countV_split (F : Nat) (m : Int) (l : List Wn) (p a : Int) (n : Nat) : countV F m l p a n = n / F * offeredV F m l p + cnt (isO F m l p) (a % F) (n % F) := cnt_split (isO_again F m l p) a n
theorem countV_frame (F : Nat) (m : Int) (l : List Wn) (p a : Int) : countV F m l p a F = offeredV F m l p := cnt_frame (isO_again F m l p) a
theorem ownAt_gap {m : Int} : ∀ {l : List Wn} {t : Int}, (∀ x ∈ l, ¬(x.at_ ≤ t ∧ t - x.at_ < x.len)) → ownAt m l t = (-1, 0)
  | [], _, _ => rfl
  | x :: xs, t, h => by unfold ownAt; rw [if_neg (h x (by simp))]; exact ownAt_gap fun y hy => h y (by simp [hy])
theorem okW_from {F : Int} : ∀ {l : List Wn} {a : Int}, okW F a l = true → ∀ x ∈ l, a ≤ x.at_ ∧ x.at_ < F ∧ 1 ≤ x.len ∧ x.len ≤ F - x.at_ ∧ 0 ≤ x.part ∧ x.part < 6
  | [], _, _, x, hx => by cases hx
  | y :: ys, a, h, x, hx => by
    simp only [okW, Bool.and_eq_true, decide_eq_true_eq] at h
    obtain ⟨h1, h2, h3, h4, h5, h6, h7⟩ := h
    rcases List.mem_cons.1 hx with e | e
    · subst e; exact ⟨h1, h2, h3, h4, h5, h6⟩
    · have := okW_from h7 x e; omega
/-- A place lies in one window at most. -/
theorem ownAt_of {F m : Int} : ∀ {l : List Wn} {a t : Int}, okW F a l = true → ∀ x ∈ l, x.at_ ≤ t → t - x.at_ < x.len → ownAt m l t = (x.part, if t - x.at_ < m then 1 else 2)
  | [], _, _, _, x, hx, _, _ => by cases hx
  | y :: ys, a, t, h, x, hx, h1, h2 => by
    have h' := h
    simp only [okW, Bool.and_eq_true, decide_eq_true_eq] at h'
    obtain ⟨g1, g2, g3, g4, g5, g6, g7⟩ := h'
    unfold ownAt
    rcases List.mem_cons.1 hx with e | e
    · subst e; rw [if_pos ⟨h1, h2⟩]
    · have := okW_from g7 x e
      rw [if_neg (by omega)]
      exact ownAt_of g7 x e h1 h2
end Go.Proofs.Ytmkohnpdpcefgaa
namespace Go.Proofs.Ytmkohnpdpcefgaa
set_option linter.unusedVariables false

/-- Is a place open to a partition? -/
def isG (m : Int) (l : List Wn) (p t : Int) : Bool := (ownAt m l t).2 == 2 && (ownAt m l t).1 == p
/-- How many places ahead of e are open to p, window by window. -/
def aheadV (m p e : Int) : List Wn → Int
  | [] => 0
  | x :: xs => (if x.part = p then max 0 (min (x.at_ + x.len) e - (x.at_ + m)) else 0) + aheadV m p e xs
theorem aheadV_zero {F m p e : Int} (hm : 0 ≤ m) : ∀ {l : List Wn} {a : Int}, okW F a l = true → e ≤ a → aheadV m p e l = 0
  | [], _, _, _ => rfl
  | x :: xs, a, h, he => by
    simp only [okW, Bool.and_eq_true, decide_eq_true_eq] at h
    obtain ⟨h1, h2, h3, h4, h5, h6, h7⟩ := h
    unfold aheadV
    rw [aheadV_zero hm h7 (by omega)]
    split <;> omega
theorem aheadV_step {F m p : Int} (hm : 0 ≤ m) : ∀ {l : List Wn} {a e : Int}, okW F a l = true → aheadV m p (e + 1) l = aheadV m p e l + (if isG m l p e = true then 1 else 0)
  | [], _, _, _ => by simp [aheadV, isG, ownAt]
  | x :: xs, a, e, h => by
    have h' := h
    simp only [okW, Bool.and_eq_true, decide_eq_true_eq] at h'
    obtain ⟨h1, h2, h3, h4, h5, h6, h7⟩ := h'
    by_cases hin : x.at_ ≤ e ∧ e - x.at_ < x.len
    · have e1 : isG m (x :: xs) p e = (decide (m ≤ e - x.at_) && decide (x.part = p)) := by
        unfold isG ownAt
        rw [if_pos hin]
        by_cases k : e - x.at_ < m
        · simp [k]; omega
        · have k2 : m ≤ e - x.at_ := by omega
          simp only [if_neg k, k2, decide_true, Bool.true_and]
          rw [Bool.eq_iff_iff]; simp
      rw [e1]
      unfold aheadV
      rw [aheadV_zero hm h7 (show e ≤ x.at_ + x.len by omega), aheadV_zero hm h7 (show e + 1 ≤ x.at_ + x.len by omega)]
      by_cases hp : x.part = p
      · by_cases hk : m ≤ e - x.at_ <;> simp [hp, hk] <;> omega
      · simp [hp]
    · have e1 : isG m (x :: xs) p e = isG m xs p e := by
        unfold isG
        rw [ownAt, if_neg hin]
      rw [e1]
      unfold aheadV
      rw [aheadV_step hm h7]
      split <;> omega
theorem aheadV_cnt {F m p : Int} {l : List Wn} (hm : 0 ≤ m) (h : okW F 0 l = true) : ∀ n : Nat, aheadV m p n l = cnt (isG m l p) 0 n
  | 0 => by rw [show ((0 : Nat) : Int) = 0 from rfl, aheadV_zero hm h (Int.le_refl _)]; rfl
  | n + 1 => by
    have := aheadV_step (p := p) hm h (e := n)
    rw [show ((n + 1 : Nat) : Int) = (n : Int) + 1 from rfl, this, aheadV_cnt hm h n]
    show _ = ((cnt (isG m l p) 0 n + (if isG m l p (0 + (n : Int)) = true then 1 else 0) : Nat) : Int)
    rw [Int.zero_add]
    split <;> simp
theorem isO_place {F : Nat} {m : Int} {l : List Wn} {p t : Int} (h0 : 0 ≤ t) (h1 : t < F) : isO F m l p t = isG m l p t := by
  unfold isO isG owner
  rw [Int.emod_eq_of_lt h0 h1]
/-- What is open of a frame ahead of a place. -/
theorem aheadV_isO {F : Nat} {m p : Int} {l : List Wn} (hm : 0 ≤ m) (h : okW F 0 l = true) {n : Nat} (hn : n ≤ F) : aheadV m p n l = cnt (isO F m l p) 0 n := by
  rw [aheadV_cnt hm h n]
  congr 1
  exact cnt_same fun i hi => (isO_place (by omega) (by omega)).symm
theorem aheadV_offered {F : Nat} {m p : Int} {l : List Wn} (hm : 0 ≤ m) (h : okW F 0 l = true) : aheadV m p F l = offeredV F m l p := aheadV_isO hm h (Nat.le_refl _)
/-- So many frames, and what is ahead of a place in the last one. -/
def sinceV (F : Nat) (m p : Int) (l : List Wn) (e : Int) : Int := e / F * offeredV F m l p + aheadV m p (e % F) l
theorem sinceV_cnt {F : Nat} {m p : Int} {l : List Wn} (hF : 1 ≤ F) (hm : 0 ≤ m) (h : okW F 0 l = true) (n : Nat) : sinceV F m p l n = cnt (isO F m l p) 0 n := by
  rw [cnt_split (isO_again F m l p) 0 n]
  unfold sinceV
  have h1 : n % F < F := Nat.mod_lt _ hF
  rw [show (n : Int) % (F : Int) = ((n % F : Nat) : Int) from (Int.natCast_emod n F).symm, show (n : Int) / (F : Int) = ((n / F : Nat) : Int) from (Int.natCast_ediv n F).symm, aheadV_isO hm h (by omega), Int.natCast_add, Int.natCast_mul, Int.zero_emod]
  rfl
/-- The program's count, and the document's. -/
theorem sinceV_count {F : Nat} {m p : Int} {l : List Wn} (hF : 1 ≤ F) (hm : 0 ≤ m) (h : okW F 0 l = true) (t : Int) (n : Nat) : sinceV F m p l (t % F + n) - sinceV F m p l (t % F) = countV F m l p t n := by
  have h0 : 0 ≤ t % (F : Int) := Int.emod_nonneg _ (by omega)
  obtain ⟨c, hc⟩ := Int.eq_ofNat_of_zero_le h0
  have e : countV F m l p t n = cnt (isO F m l p) c n := by
    unfold countV
    rw [cnt_split (isO_again F m l p) t n, cnt_split (isO_again F m l p) c n, ← hc, Int.emod_emod]
  rw [e, hc, ← Int.natCast_add, sinceV_cnt hF hm h, sinceV_cnt hF hm h, cnt_add, Int.zero_add]
  omega

/-- The first place from b on that is open to p, window by window. -/
def firstV (m p b : Int) : List Wn → Int × Bool
  | [] => (0, false)
  | x :: xs => if x.part = p ∧ max (x.at_ + m) b < x.at_ + x.len then (max (x.at_ + m) b, true) else firstV m p b xs
theorem firstV_none {m p b : Int} : ∀ {l : List Wn}, (firstV m p b l).2 = false → (firstV m p b l).1 = 0
  | [], _ => rfl
  | x :: xs, h => by
    unfold firstV at h ⊢
    split at h
    · cases h
    · rename_i k; rw [if_neg k]; exact firstV_none h
theorem isG_gap {F m p : Int} {l : List Wn} {a t : Int} (h : okW F a l = true) (ht : t < a) : isG m l p t = false := by
  have := ownAt_gap (m := m) (l := l) (t := t) fun x hx => by have := okW_from h x hx; omega
  unfold isG; rw [this]; rfl
theorem firstV_no {F m p b : Int} : ∀ {l : List Wn} {a : Int}, okW F a l = true → (firstV m p b l).2 = false → ∀ y, b ≤ y → isG m l p y = false
  | [], _, _, _, y, _ => by simp [isG, ownAt]
  | x :: xs, a, h, hf, y, hy => by
    have h' := h
    simp only [okW, Bool.and_eq_true, decide_eq_true_eq] at h'
    obtain ⟨h1, h2, h3, h4, h5, h6, h7⟩ := h'
    unfold firstV at hf
    split at hf
    · cases hf
    · rename_i k
      have ih := firstV_no h7 hf y hy
      unfold isG ownAt
      by_cases hin : x.at_ ≤ y ∧ y - x.at_ < x.len
      · rw [if_pos hin]
        by_cases hk : y - x.at_ < m
        · simp [hk]
        · have : x.part ≠ p := fun e => k ⟨e, by omega⟩
          simp [this]
      · rw [if_neg hin]; exact ih
theorem firstV_yes {F m p b : Int} (hm : 0 ≤ m) : ∀ {l : List Wn} {a z : Int}, okW F a l = true → firstV m p b l = (z, true) → b ≤ z ∧ a ≤ z ∧ z < F ∧ isG m l p z = true ∧ ∀ y, b ≤ y → y < z → isG m l p y = false
  | [], _, _, _, hf => by simp [firstV] at hf
  | x :: xs, a, z, h, hf => by
    have h' := h
    simp only [okW, Bool.and_eq_true, decide_eq_true_eq] at h'
    obtain ⟨h1, h2, h3, h4, h5, h6, h7⟩ := h'
    unfold firstV at hf
    split at hf
    · rename_i k
      cases hf
      refine ⟨by omega, by omega, by omega, ?_, fun y hy1 hy2 => ?_⟩
      · unfold isG ownAt
        rw [if_pos (by omega)]
        have : ¬ max (x.at_ + m) b - x.at_ < m := by omega
        simp [this, k.1]
      · by_cases hin : x.at_ ≤ y ∧ y - x.at_ < x.len
        · unfold isG ownAt
          rw [if_pos hin]
          have : y - x.at_ < m := by omega
          simp [this]
        · have e : isG m (x :: xs) p y = isG m xs p y := by unfold isG; rw [ownAt, if_neg hin]
          rw [e]
          exact isG_gap h7 (by omega)
    · rename_i k
      obtain ⟨g1, g2, g3, g4, g5⟩ := firstV_yes hm h7 hf
      refine ⟨g1, by omega, g3, ?_, fun y hy1 hy2 => ?_⟩
      · have e : isG m (x :: xs) p z = isG m xs p z := by unfold isG; rw [ownAt, if_neg (by omega)]
        rw [e]; exact g4
      · have ih := g5 y hy1 hy2
        unfold isG ownAt
        by_cases hin : x.at_ ≤ y ∧ y - x.at_ < x.len
        · rw [if_pos hin]
          by_cases hk : y - x.at_ < m
          · simp [hk]
          · have : x.part ≠ p := fun e => k ⟨e, by omega⟩
            simp [this]
        · rw [if_neg hin]; exact ih
/-- Which tick comes next, as the document says it: how far it is. -/
def nextV (F : Nat) (m : Int) (l : List Wn) (p t : Int) : Option Nat := nextI (isO F m l p) t F
theorem isO_from {F : Nat} (m : Int) (l : List Wn) (p t : Int) (i : Int) : isO F m l p (t + i) = isO F m l p (t % F + i) := by
  rw [← (isO_again F m l p).mod (t + i), ← (isO_again F m l p).mod (t % F + i), Int.emod_add_emod]
theorem next_here {F : Nat} {m p t z : Int} {l : List Wn} (hF : 1 ≤ F) (hm : 0 ≤ m) (h : okW F 0 l = true) (hf : firstV m p (t % F) l = (z, true)) : t % F ≤ z ∧ z < F ∧ nextV F m l p t = some (z - t % F).toNat := by
  have h0 : 0 ≤ t % (F : Int) := Int.emod_nonneg _ (by omega)
  obtain ⟨g1, g2, g3, g4, g5⟩ := firstV_yes hm h hf
  refine ⟨g1, g3, nextI_of (by omega) ?_ (cnt_zero.2 fun i hi => ?_)⟩
  · rw [isO_from, isO_place (by omega) (by omega), show t % (F : Int) + ((z - t % F).toNat : Int) = z by omega]
    exact g4
  · rw [isO_from, isO_place (by omega) (by omega)]
    exact g5 _ (by omega) (by omega)
theorem next_later {F : Nat} {m p t z : Int} {l : List Wn} (hF : 1 ≤ F) (hm : 0 ≤ m) (h : okW F 0 l = true) (hn : (firstV m p (t % F) l).2 = false) (hf : firstV m p 0 l = (z, true)) : 0 ≤ z ∧ z < t % F ∧ t % F < F ∧ nextV F m l p t = some (z + F - t % F).toNat := by
  have h0 : 0 ≤ t % (F : Int) := Int.emod_nonneg _ (by omega)
  have h1 : t % (F : Int) < F := Int.emod_lt_of_pos _ (by omega)
  obtain ⟨g1, g2, g3, g4, g5⟩ := firstV_yes hm h hf
  have no := firstV_no h hn
  have hz : z < t % F := by
    by_cases e : z < t % F
    · exact e
    · rw [no z (by omega)] at g4; cases g4
  have back : ∀ i : Int, F ≤ t % F + i → t % F + i < F + F → isO F m l p (t + i) = isG m l p (t % F + i - F) := fun i k1 k2 => by
    rw [isO_from, show t % (F : Int) + i = t % F + i - F + F by omega, isO_again F m l p, isO_place (by omega) (by omega), Int.add_sub_cancel]
  refine ⟨g1, hz, h1, nextI_of (by omega) ?_ (cnt_zero.2 fun i hi => ?_)⟩
  · rw [back _ (by omega) (by omega), show t % (F : Int) + ((z + F - t % F).toNat : Int) - F = z by omega]
    exact g4
  · by_cases k : t % (F : Int) + i < F
    · rw [isO_from, isO_place (by omega) (by omega)]
      exact no _ (by omega)
    · rw [back _ (by omega) (by omega)]
      exact g5 _ (by omega) (by omega)
theorem next_never {F : Nat} {m p t : Int} {l : List Wn} (hF : 1 ≤ F) (hm : 0 ≤ m) (h : okW F 0 l = true) (hf : (firstV m p 0 l).2 = false) : nextV F m l p t = none := by
  have no := firstV_no h hf
  unfold nextV
  cases e : nextI (isO F m l p) t F with
  | none => rfl
  | some i =>
    obtain ⟨_, k, _⟩ := nextI_some e
    have h0 : 0 ≤ (t + i) % (F : Int) := Int.emod_nonneg _ (by omega)
    rw [← (isO_again F m l p).mod, isO_place h0 (Int.emod_lt_of_pos _ (by omega)), no _ h0] at k
    cases k
theorem offered_le (F : Nat) (m : Int) (l : List Wn) (p : Int) : offeredV F m l p ≤ F := cnt_le _ _ _
end Go.Proofs.Ytmkohnpdpcefgaa
namespace Go.Proofs.Ytmkohnpdpcefgaa
open Go.ChangeShapes Go.WideShapes Go.ChangeAt Go.RowKit
set_option linter.unusedVariables false

theorem ret_ii {a b c d : Int} (h : a = b) (k : c = d) : Ending.returned (.tuple #[.int .i64 a, .int .i64 c]) = .returned (.tuple #[.int .i64 b, .int .i64 d]) := by rw [h, k]
theorem ret_ib {a b : Int} {x y : Bool} (h : a = b) (k : x = y) : Ending.returned (.tuple #[.int .i64 a, .bool x]) = .returned (.tuple #[.int .i64 b, .bool y]) := by rw [h, k]
theorem ret_i {a b : Int} (h : a = b) : Ending.returned (.int .i64 a) = .returned (.int .i64 b) := by rw [h]

theorem below_drewN {B : Nat} {a w : World} (n : Nat) (h : Below B a w) : Below B a (w.drewN n) := ⟨h.os, h.tape, h.output, h.size, h.block⟩
set_option maxRecDepth 100000 in
set_option maxHeartbeats 2000000 in
theorem open_any (m : Int) (la : Option Addr) (ln lc : Nat) (a n p : Int) (w : World) (h0 : 0 ≤ m) (h1 : m ≤ 8) (h2 : 0 ≤ a) (h3 : 1 ≤ n) (h4 : a + n ≤ 256) :
    Calls Try.prog 55 #[.agg #[.int .i64 m, .slice la ln lc], .agg #[.int .i64 a, .int .i64 n, .int .i64 p]] w fun e w' => e = .returned (.tuple #[.int .i64 (a + m), .int .i64 (a + n)]) ∧ Below w.heap.size w w' := by
  have B2 := Lib.hid ((below1 w (.cells #[.int .i64 m, .slice la ln lc] 108)).alloc (by simp) (.cells #[.int .i64 a, .int .i64 n, .int .i64 p] 66))
  go_enter Try.func55, Try.ntmps55
  go_wp2_with fail
  have s1 : IntKind.i64.wrap (a + m) = a + m := IntWalk.i64_in _ (by omega)
  have s2 : IntKind.i64.wrap (a + n) = a + n := IntWalk.i64_in _ (by omega)
  go_quiet (fail)
  clear s1 s2
  go_wp2_with fail
  go_ret2
  exact ⟨rfl, by repeat first | exact Below.refl _ _ | refine below_drewN _ ?_ | refine b_alloc ?_ (Nat.le_refl _) _⟩

theorem ownAt_in {m t : Int} {x : Wn} {xs : List Wn} (h : x.at_ ≤ t) (k : t < x.at_ + x.len) : ownAt m (x :: xs) t = (x.part, if t - x.at_ < m then 1 else 2) := by unfold ownAt; rw [if_pos (by omega)]
theorem ownAt_out {m t : Int} {x : Wn} {xs : List Wn} (h : t < x.at_ ∨ x.at_ + x.len ≤ t) : ownAt m (x :: xs) t = ownAt m xs t := by
  show (if _ then _ else _) = _
  rw [if_neg (by omega)]
theorem drop_cons {α : Type} {l : List α} {k : Nat} {x : α} (h : l[k]? = some x) : l.drop k = x :: l.drop (k + 1) := by
  obtain ⟨hk, rfl⟩ := List.getElem?_eq_some_iff.1 h
  exact List.drop_eq_getElem_cons hk
set_option maxRecDepth 100000 in
set_option maxHeartbeats 4000000 in
theorem wOwner_any (m : Int) (la : Option Addr) (ln lc : Nat) (t : Int) (w : World) (lo hi : Nat) (l : List Wn) (F : Int) (hln : l.length = ln) (hl : Lies w lo hi (.slice la ln lc) ln 3 (l.flatMap Wn.cells)) (hhi : hi ≤ w.heap.size) (h2 : ln ≤ 1000) (h0 : 0 ≤ m) (h1 : m ≤ 8) (hok : okW F 0 l = true) (hF : F ≤ 256) :
    Calls Try.prog 41 #[.agg #[.int .i64 m, .slice la ln lc], .int .i64 t] w fun e w' => e = .returned (.tuple #[.int .i64 (ownAt m l t).1, .int .i64 (ownAt m l t).2]) ∧ Below w.heap.size w w' := by
  obtain ⟨V, hV⟩ : ∃ V, V = w.alloc (.cells #[.int .i64 m, .slice la ln lc] 108) := ⟨_, rfl⟩
  have B1 : Below w.heap.size w V := by rw [hV]; exact below1 _ _
  have hblk : V.heap[w.heap.size]? = some (.cells #[.int .i64 m, .slice la ln lc] 108 (0, 0)) := by rw [hV]; exact heap_alloc_new _ _
  have hlt0 := lt_of_block hblk
  have HL := Lib.hid (hl.keep (SameIn.of_below B1 hhi)); have HLN := Lib.hid hln
  have HBK := Lib.hid hblk; have HB1 := Lib.hid B1
  have hhv : hi ≤ V.heap.size := by omega
  have HV := Lib.hid hV
  have HOK := Lib.hid hok
  clear hl hln hblk B1 hV hok
  go_enter Try.func41, Try.ntmps41
  go_wp2_with fail
  go_loopw [13] (fun i wr => ∃ k : Nat, k ≤ ln ∧ i = .int .i64 k ∧ Hid (ownAt m l t = ownAt m (l.drop k) t) ∧ Below V.heap.size V wr) (fun i _ => ln - (intOf i).toNat)
  case atStart => exact ⟨0, by omega, rfl, Lib.hid rfl, by rw [HV.out]; exact Below.refl _ _⟩
  case round =>
    obtain ⟨k, hk, rfl, HA, hb⟩ := hrel
    by_cases hlt : k < ln
    · have tk : decide ((k : Int) < (ln : Int)) = true := by simpa using hlt
      obtain ⟨x, hx⟩ : ∃ x, l[k]? = some x := ⟨_, List.getElem?_eq_getElem (by rw [HLN.out]; exact hlt)⟩
      have hlies := HL.out.keep (SameIn.of_below hb hhv)
      obtain ⟨a2, c2, e2, _, _, hc⟩ := hlies
      cases e2
      rcases hc with h0 | ⟨b, off, rfl, hb1, hb2, hc⟩
      · omega
      obtain ⟨s0, s1, s2⟩ := Lies.wn hc hx
      have q := okW_from HOK.out x (List.mem_of_getElem? hx)
      have hd := drop_cons hx
      have l0 : (0 : Int) ≤ (k : Int) := by omega
      have l1 : (k : Int) < (ln : Int) := by omega
      have B0 : wr.cell? ⟨w.heap.size, 0, none⟩ = some (.int .i64 m) := (hb.cell hlt0).trans (cell_in HBK.out rfl)
      have B2 : wr.cell? ⟨w.heap.size, 1, none⟩ = some (.slice (some ⟨b, off, none⟩) ln lc) := (hb.cell hlt0).trans (cell_in HBK.out rfl)
      obtain ⟨xa, xn, xp⟩ := x
      simp only at s0 s1 s2 q
      obtain ⟨q1, q2, q3, q4, q5, q6⟩ := q
      have n0 : w.heap.size < wr.heap.size := by have := hb.size; omega
      have HBB := Lib.hid hb
      have HD := Lib.hid hd
      clear hc hx hb hd
      rcases (show t < xa ∨ (xa ≤ t ∧ xa + xn ≤ t) ∨ (xa ≤ t ∧ t < xa + xn ∧ t < xa + m) ∨ (xa ≤ t ∧ t < xa + xn ∧ xa + m ≤ t) from by omega) with h | ⟨h, h5⟩ | ⟨h, h5, h6⟩ | ⟨h, h5, h6⟩
      · have HN : Hid (ownAt m l t = ownAt m (l.drop (k + 1)) t) := Lib.hid (by rw [HA.out, HD.out]; exact ownAt_out (.inl h))
        go_wp2_with (first | (go_at_call 55; refine (open_any _ _ _ _ _ _ _ _ (by omega) (by omega) (by omega) (by omega) (by omega)).mono ?_; rintro e w1 ⟨rfl, hb2⟩; have y0 : w1.cell? ⟨wr.heap.size, 0, none⟩ = some (.int .i64 xa) := (by rw [hb2.cell (by simp)]; simp); have y1 : w1.cell? ⟨wr.heap.size, 1, none⟩ = some (.int .i64 xn) := (by rw [hb2.cell (by simp)]; simp); have y2 : w1.cell? ⟨wr.heap.size, 2, none⟩ = some (.int .i64 xp) := (by rw [hb2.cell (by simp)]; simp); have HB2 := Lib.hid hb2; clear hb2))
        go_roundw
        case rel => exact ⟨k + 1, by omega, by go_num, HN, HBB.out.trans (((below1 _ _).trans (HB2.out.mono (by simp))).mono HBB.out.size)⟩
        case measure => simp [intOf]; omega
      · have HN : Hid (ownAt m l t = ownAt m (l.drop (k + 1)) t) := Lib.hid (by rw [HA.out, HD.out]; exact ownAt_out (.inr h5))
        go_wp2_with (first | (go_at_call 55; refine (open_any _ _ _ _ _ _ _ _ (by omega) (by omega) (by omega) (by omega) (by omega)).mono ?_; rintro e w1 ⟨rfl, hb2⟩; have y0 : w1.cell? ⟨wr.heap.size, 0, none⟩ = some (.int .i64 xa) := (by rw [hb2.cell (by simp)]; simp); have y1 : w1.cell? ⟨wr.heap.size, 1, none⟩ = some (.int .i64 xn) := (by rw [hb2.cell (by simp)]; simp); have y2 : w1.cell? ⟨wr.heap.size, 2, none⟩ = some (.int .i64 xp) := (by rw [hb2.cell (by simp)]; simp); have HB2 := Lib.hid hb2; clear hb2))
        go_roundw
        case rel => exact ⟨k + 1, by omega, by go_num, HN, HBB.out.trans (((below1 _ _).trans (HB2.out.mono (by simp))).mono HBB.out.size)⟩
        case measure => simp [intOf]; omega
      · have HN : Hid (ownAt m l t = (xp, 1)) := Lib.hid (by rw [HA.out, HD.out, ownAt_in h h5, if_pos (by show t - xa < m; omega)])
        go_wp2_with (first | (go_at_call 55; refine (open_any _ _ _ _ _ _ _ _ (by omega) (by omega) (by omega) (by omega) (by omega)).mono ?_; rintro e w1 ⟨rfl, hb2⟩; have y0 : w1.cell? ⟨wr.heap.size, 0, none⟩ = some (.int .i64 xa) := (by rw [hb2.cell (by simp)]; simp); have y1 : w1.cell? ⟨wr.heap.size, 1, none⟩ = some (.int .i64 xn) := (by rw [hb2.cell (by simp)]; simp); have y2 : w1.cell? ⟨wr.heap.size, 2, none⟩ = some (.int .i64 xp) := (by rw [hb2.cell (by simp)]; simp); have HB2 := Lib.hid hb2; clear hb2))
        go_ret2
        exact ⟨ret_ii (by rw [HN.out]) (by rw [HN.out]), HB1.out.trans ((HBB.out.trans (((below1 _ _).trans (HB2.out.mono (by simp))).mono HBB.out.size)).mono HB1.out.size)⟩
      · have HN : Hid (ownAt m l t = (xp, 2)) := Lib.hid (by rw [HA.out, HD.out, ownAt_in h h5, if_neg (by show ¬ t - xa < m; omega)])
        go_wp2_with (first | (go_at_call 55; refine (open_any _ _ _ _ _ _ _ _ (by omega) (by omega) (by omega) (by omega) (by omega)).mono ?_; rintro e w1 ⟨rfl, hb2⟩; have y0 : w1.cell? ⟨wr.heap.size, 0, none⟩ = some (.int .i64 xa) := (by rw [hb2.cell (by simp)]; simp); have y1 : w1.cell? ⟨wr.heap.size, 1, none⟩ = some (.int .i64 xn) := (by rw [hb2.cell (by simp)]; simp); have y2 : w1.cell? ⟨wr.heap.size, 2, none⟩ = some (.int .i64 xp) := (by rw [hb2.cell (by simp)]; simp); have HB2 := Lib.hid hb2; clear hb2))
        go_ret2
        exact ⟨ret_ii (by rw [HN.out]) (by rw [HN.out]), HB1.out.trans ((HBB.out.trans (((below1 _ _).trans (HB2.out.mono (by simp))).mono HBB.out.size)).mono HB1.out.size)⟩
    · have tk : decide ((k : Int) < (ln : Int)) = false := by simp; omega
      have HE : Hid (ownAt m l t = (-1, 0)) := Lib.hid (by rw [HA.out, List.drop_of_length_le (by rw [HLN.out]; omega)]; rfl)
      go_wp2_with fail
      go_ret2
      exact ⟨ret_ii (by rw [HE.out]) (by rw [HE.out]), HB1.out.trans (hb.mono HB1.out.size)⟩
end Go.Proofs.Ytmkohnpdpcefgaa
namespace Go.Proofs.Ytmkohnpdpcefgaa
open Go.ChangeShapes Go.WideShapes Go.ChangeAt Go.RowKit
set_option linter.unusedVariables false

theorem aheadV_cons (m p e : Int) (x : Wn) (xs : List Wn) : aheadV m p e (x :: xs) = (if x.part = p then max 0 (min (x.at_ + x.len) e - (x.at_ + m)) else 0) + aheadV m p e xs := rfl
theorem firstV_hit {m p b : Int} {x : Wn} {xs : List Wn} (h : x.part = p) (k : max (x.at_ + m) b < x.at_ + x.len) : firstV m p b (x :: xs) = (max (x.at_ + m) b, true) := by
  show (if _ then _ else _) = _
  rw [if_pos ⟨h, k⟩]
theorem firstV_miss {m p b : Int} {x : Wn} {xs : List Wn} (h : ¬ (x.part = p ∧ max (x.at_ + m) b < x.at_ + x.len)) : firstV m p b (x :: xs) = firstV m p b xs := by
  show (if _ then _ else _) = _
  rw [if_neg h]
set_option maxRecDepth 100000 in
set_option maxHeartbeats 4000000 in
theorem wFirst_any (m : Int) (la : Option Addr) (ln lc : Nat) (p z : Int) (w : World) (lo hi : Nat) (l : List Wn) (F : Int) (hln : l.length = ln) (hl : Lies w lo hi (.slice la ln lc) ln 3 (l.flatMap Wn.cells)) (hhi : hi ≤ w.heap.size) (h2 : ln ≤ 1000) (h0 : 0 ≤ m) (h1 : m ≤ 8) (hok : okW F 0 l = true) (hF : F ≤ 256) (hz0 : 0 ≤ z) (hz1 : z ≤ 256) :
    Calls Try.prog 40 #[.agg #[.int .i64 m, .slice la ln lc], .int .i64 p, .int .i64 z] w fun e w' => e = .returned (.tuple #[.int .i64 (firstV m p z l).1, .bool (firstV m p z l).2]) ∧ Below w.heap.size w w' := by
  obtain ⟨V, hV⟩ : ∃ V, V = w.alloc (.cells #[.int .i64 m, .slice la ln lc] 108) := ⟨_, rfl⟩
  have B1 : Below w.heap.size w V := by rw [hV]; exact below1 _ _
  have hblk : V.heap[w.heap.size]? = some (.cells #[.int .i64 m, .slice la ln lc] 108 (0, 0)) := by rw [hV]; exact heap_alloc_new _ _
  have hlt0 := lt_of_block hblk
  have HL := Lib.hid (hl.keep (SameIn.of_below B1 hhi)); have HLN := Lib.hid hln
  have HBK := Lib.hid hblk; have HB1 := Lib.hid B1
  have hhv : hi ≤ V.heap.size := by omega
  have HV := Lib.hid hV
  have HOK := Lib.hid hok
  clear hl hln hblk B1 hV hok
  go_enter Try.func40, Try.ntmps40
  go_wp2_with fail
  go_loopw [16] (fun i wr => ∃ k : Nat, k ≤ ln ∧ i = .int .i64 k ∧ Hid (firstV m p z l = firstV m p z (l.drop k)) ∧ Below V.heap.size V wr) (fun i _ => ln - (intOf i).toNat)
  case atStart => exact ⟨0, by omega, rfl, Lib.hid rfl, by rw [HV.out]; exact Below.refl _ _⟩
  case round =>
    obtain ⟨k, hk, rfl, HA, hb⟩ := hrel
    by_cases hlt : k < ln
    · have tk : decide ((k : Int) < (ln : Int)) = true := by simpa using hlt
      obtain ⟨x, hx⟩ : ∃ x, l[k]? = some x := ⟨_, List.getElem?_eq_getElem (by rw [HLN.out]; exact hlt)⟩
      have hlies := HL.out.keep (SameIn.of_below hb hhv)
      obtain ⟨a2, c2, e2, _, _, hc⟩ := hlies
      cases e2
      rcases hc with h0 | ⟨b, off, rfl, hb1, hb2, hc⟩
      · omega
      obtain ⟨s0, s1, s2⟩ := Lies.wn hc hx
      have q := okW_from HOK.out x (List.mem_of_getElem? hx)
      have hd := drop_cons hx
      have l0 : (0 : Int) ≤ (k : Int) := by omega
      have l1 : (k : Int) < (ln : Int) := by omega
      have B0 : wr.cell? ⟨w.heap.size, 0, none⟩ = some (.int .i64 m) := (hb.cell hlt0).trans (cell_in HBK.out rfl)
      have B2 : wr.cell? ⟨w.heap.size, 1, none⟩ = some (.slice (some ⟨b, off, none⟩) ln lc) := (hb.cell hlt0).trans (cell_in HBK.out rfl)
      obtain ⟨xa, xn, xp⟩ := x
      simp only at s0 s1 s2 q
      obtain ⟨q1, q2, q3, q4, q5, q6⟩ := q
      have n0 : w.heap.size < wr.heap.size := by have := hb.size; omega
      have HBB := Lib.hid hb
      have HD := Lib.hid hd
      clear hc hx hb hd
      by_cases hp : xp = p
      · have t1 : (xp == p) = true := by simpa using hp
        rcases (show (z ≤ xa + m ∧ xn ≤ m) ∨ (z ≤ xa + m ∧ m < xn) ∨ (xa + m < z ∧ xa + xn ≤ z) ∨ (xa + m < z ∧ z < xa + xn) from by omega) with ⟨h5, h6⟩ | ⟨h5, h6⟩ | ⟨h5, h6⟩ | ⟨h5, h6⟩
        · have HN : Hid (firstV m p z l = firstV m p z (l.drop (k + 1))) := Lib.hid (by rw [HA.out, HD.out]; exact firstV_miss (by show ¬ (xp = p ∧ max (xa + m) z < xa + xn); omega))
          have HP := Lib.hid hp; clear hp
          go_wp2_with (first | (go_at_call 55; refine (open_any _ _ _ _ _ _ _ _ (by omega) (by omega) (by omega) (by omega) (by omega)).mono ?_; rintro e w1 ⟨rfl, hb2⟩; have y0 : w1.cell? ⟨wr.heap.size, 0, none⟩ = some (.int .i64 xa) := (by rw [hb2.cell (by simp)]; simp); have y1 : w1.cell? ⟨wr.heap.size, 1, none⟩ = some (.int .i64 xn) := (by rw [hb2.cell (by simp)]; simp); have y2 : w1.cell? ⟨wr.heap.size, 2, none⟩ = some (.int .i64 xp) := (by rw [hb2.cell (by simp)]; simp); have HB2 := Lib.hid hb2; clear hb2))
          go_roundw
          case rel => exact ⟨k + 1, by omega, by go_num, HN, HBB.out.trans (((below1 _ _).trans (HB2.out.mono (by simp))).mono HBB.out.size)⟩
          case measure => simp [intOf]; omega
        · have HN : Hid (firstV m p z l = (xa + m, true)) := Lib.hid (by rw [HA.out, HD.out, firstV_hit hp (by show max (xa + m) z < xa + xn; omega)]; show (max (xa + m) z, true) = _; rw [show max (xa + m) z = xa + m by omega])
          have HP := Lib.hid hp; clear hp
          go_wp2_with (first | (go_at_call 55; refine (open_any _ _ _ _ _ _ _ _ (by omega) (by omega) (by omega) (by omega) (by omega)).mono ?_; rintro e w1 ⟨rfl, hb2⟩; have y0 : w1.cell? ⟨wr.heap.size, 0, none⟩ = some (.int .i64 xa) := (by rw [hb2.cell (by simp)]; simp); have y1 : w1.cell? ⟨wr.heap.size, 1, none⟩ = some (.int .i64 xn) := (by rw [hb2.cell (by simp)]; simp); have y2 : w1.cell? ⟨wr.heap.size, 2, none⟩ = some (.int .i64 xp) := (by rw [hb2.cell (by simp)]; simp); have HB2 := Lib.hid hb2; clear hb2))
          go_ret2
          exact ⟨ret_ib (by rw [HN.out]) (by rw [HN.out]), HB1.out.trans ((HBB.out.trans (((below1 _ _).trans (HB2.out.mono (by simp))).mono HBB.out.size)).mono HB1.out.size)⟩
        · have HN : Hid (firstV m p z l = firstV m p z (l.drop (k + 1))) := Lib.hid (by rw [HA.out, HD.out]; exact firstV_miss (by show ¬ (xp = p ∧ max (xa + m) z < xa + xn); omega))
          have HP := Lib.hid hp; clear hp
          go_wp2_with (first | (go_at_call 55; refine (open_any _ _ _ _ _ _ _ _ (by omega) (by omega) (by omega) (by omega) (by omega)).mono ?_; rintro e w1 ⟨rfl, hb2⟩; have y0 : w1.cell? ⟨wr.heap.size, 0, none⟩ = some (.int .i64 xa) := (by rw [hb2.cell (by simp)]; simp); have y1 : w1.cell? ⟨wr.heap.size, 1, none⟩ = some (.int .i64 xn) := (by rw [hb2.cell (by simp)]; simp); have y2 : w1.cell? ⟨wr.heap.size, 2, none⟩ = some (.int .i64 xp) := (by rw [hb2.cell (by simp)]; simp); have HB2 := Lib.hid hb2; clear hb2))
          go_roundw
          case rel => exact ⟨k + 1, by omega, by go_num, HN, HBB.out.trans (((below1 _ _).trans (HB2.out.mono (by simp))).mono HBB.out.size)⟩
          case measure => simp [intOf]; omega
        · have HN : Hid (firstV m p z l = (z, true)) := Lib.hid (by rw [HA.out, HD.out, firstV_hit hp (by show max (xa + m) z < xa + xn; omega)]; show (max (xa + m) z, true) = _; rw [show max (xa + m) z = z by omega])
          have HP := Lib.hid hp; clear hp
          go_wp2_with (first | (go_at_call 55; refine (open_any _ _ _ _ _ _ _ _ (by omega) (by omega) (by omega) (by omega) (by omega)).mono ?_; rintro e w1 ⟨rfl, hb2⟩; have y0 : w1.cell? ⟨wr.heap.size, 0, none⟩ = some (.int .i64 xa) := (by rw [hb2.cell (by simp)]; simp); have y1 : w1.cell? ⟨wr.heap.size, 1, none⟩ = some (.int .i64 xn) := (by rw [hb2.cell (by simp)]; simp); have y2 : w1.cell? ⟨wr.heap.size, 2, none⟩ = some (.int .i64 xp) := (by rw [hb2.cell (by simp)]; simp); have HB2 := Lib.hid hb2; clear hb2))
          go_ret2
          exact ⟨ret_ib (by rw [HN.out]) (by rw [HN.out]), HB1.out.trans ((HBB.out.trans (((below1 _ _).trans (HB2.out.mono (by simp))).mono HBB.out.size)).mono HB1.out.size)⟩
      · have t1 : (xp == p) = false := by simpa using hp
        rcases (show z ≤ xa + m ∨ xa + m < z from by omega) with h5 | h5
        · have HN : Hid (firstV m p z l = firstV m p z (l.drop (k + 1))) := Lib.hid (by rw [HA.out, HD.out]; exact firstV_miss (by show ¬ (xp = p ∧ max (xa + m) z < xa + xn); omega))
          have HP := Lib.hid hp; clear hp
          go_wp2_with (first | (go_at_call 55; refine (open_any _ _ _ _ _ _ _ _ (by omega) (by omega) (by omega) (by omega) (by omega)).mono ?_; rintro e w1 ⟨rfl, hb2⟩; have y0 : w1.cell? ⟨wr.heap.size, 0, none⟩ = some (.int .i64 xa) := (by rw [hb2.cell (by simp)]; simp); have y1 : w1.cell? ⟨wr.heap.size, 1, none⟩ = some (.int .i64 xn) := (by rw [hb2.cell (by simp)]; simp); have y2 : w1.cell? ⟨wr.heap.size, 2, none⟩ = some (.int .i64 xp) := (by rw [hb2.cell (by simp)]; simp); have HB2 := Lib.hid hb2; clear hb2))
          go_roundw
          case rel => exact ⟨k + 1, by omega, by go_num, HN, HBB.out.trans (((below1 _ _).trans (HB2.out.mono (by simp))).mono HBB.out.size)⟩
          case measure => simp [intOf]; omega
        · have HN : Hid (firstV m p z l = firstV m p z (l.drop (k + 1))) := Lib.hid (by rw [HA.out, HD.out]; exact firstV_miss (by show ¬ (xp = p ∧ max (xa + m) z < xa + xn); omega))
          have HP := Lib.hid hp; clear hp
          go_wp2_with (first | (go_at_call 55; refine (open_any _ _ _ _ _ _ _ _ (by omega) (by omega) (by omega) (by omega) (by omega)).mono ?_; rintro e w1 ⟨rfl, hb2⟩; have y0 : w1.cell? ⟨wr.heap.size, 0, none⟩ = some (.int .i64 xa) := (by rw [hb2.cell (by simp)]; simp); have y1 : w1.cell? ⟨wr.heap.size, 1, none⟩ = some (.int .i64 xn) := (by rw [hb2.cell (by simp)]; simp); have y2 : w1.cell? ⟨wr.heap.size, 2, none⟩ = some (.int .i64 xp) := (by rw [hb2.cell (by simp)]; simp); have HB2 := Lib.hid hb2; clear hb2))
          go_roundw
          case rel => exact ⟨k + 1, by omega, by go_num, HN, HBB.out.trans (((below1 _ _).trans (HB2.out.mono (by simp))).mono HBB.out.size)⟩
          case measure => simp [intOf]; omega
    · have tk : decide ((k : Int) < (ln : Int)) = false := by simp; omega
      have HE : Hid (firstV m p z l = (0, false)) := Lib.hid (by rw [HA.out, List.drop_of_length_le (by rw [HLN.out]; omega)]; rfl)
      go_wp2_with fail
      go_ret2
      exact ⟨ret_ib (by rw [HE.out]) (by rw [HE.out]), HB1.out.trans (hb.mono HB1.out.size)⟩
end Go.Proofs.Ytmkohnpdpcefgaa
namespace Go.Proofs.Ytmkohnpdpcefgaa
open Go.ChangeShapes Go.WideShapes Go.ChangeAt Go.RowKit
set_option linter.unusedVariables false

theorem bel_then {B : Nat} {a w w' : World} (h : Below B a w) (hB : B ≤ a.heap.size) (k : Below w.heap.size w w') : Below B a w' := h.trans (k.mono (Nat.le_trans hB h.size))
/-- A table in memory, as the program has it: block g. -/
structure Tab (w : World) (lo hi g F : Nat) (m : Int) (la : Option Addr) (ln lc : Nat) (l : List Wn) : Prop where
  blk : w.heap[g]? = some (.cells #[.int .i64 m, .slice la ln lc, .int .i64 F] 110 (0, 0))
  low : lo ≤ g
  high : g < hi
  lies : Lies w lo hi (.slice la ln lc) ln 3 (l.flatMap Wn.cells)
  len : l.length = ln
  few : ln ≤ 1000
  f1 : 1 ≤ F
  f2 : F ≤ 256
  m0 : 0 ≤ m
  m8 : m ≤ 8
  ok : okW F 0 l = true
theorem Tab.keep {w w' : World} {lo hi g F : Nat} {m : Int} {la : Option Addr} {ln lc : Nat} {l : List Wn} (h : Tab w lo hi g F m la ln lc l) {B : Nat} (hb : Below B w w') (hB : hi ≤ B) : Tab w' lo hi g F m la ln lc l :=
  { h with blk := (hb.block g (by have := h.high; omega)).trans h.blk, lies := h.lies.keep (SameIn.of_below hb hB) }
section
variable {w : World} {lo hi g F : Nat} {m : Int} {la : Option Addr} {ln lc : Nat} {l : List Wn}
theorem Tab.c0 (h : Tab w lo hi g F m la ln lc l) : w.cell? ⟨g, 0, none⟩ = some (.int .i64 m) := cell_in h.blk rfl
theorem Tab.c1 (h : Tab w lo hi g F m la ln lc l) : w.cell? ⟨g, 1, none⟩ = some (.slice la ln lc) := cell_in h.blk rfl
theorem Tab.c2 (h : Tab w lo hi g F m la ln lc l) : w.cell? ⟨g, 2, none⟩ = some (.int .i64 F) := cell_in h.blk rfl
theorem tMade_any (h : Tab w lo hi g F m la ln lc l) :
    Calls Try.prog 38 #[.pointer (some ⟨g, 0, none⟩)] w fun e w' => e = .returned (.bool true) ∧ w = w' := by
  have c2 := h.c2
  have hF : decide (0 < F) = true := decide_eq_true h.f1
  clear h
  go_enter Try.func38, Try.ntmps38
  go_wp2_with fail
  go_ret
  exact ⟨rfl, rfl⟩
theorem tPlace_any (h : Tab w lo hi g F m la ln lc l) (t : Int) (t0 : -9223372036854775808 ≤ t) (t1 : t ≤ 9223372036854775807) :
    Calls Try.prog 39 #[.pointer (some ⟨g, 0, none⟩), .int .i64 t] w fun e w' => e = .returned (.int .i64 (t % F)) ∧ w = w' := by
  have c2 := h.c2
  have HR := Lib.hid (rest_pos (a := t) (b := F) (by have := h.f1; omega))
  have hF : (F : Int) ≤ 256 := by have := h.f2; omega
  clear h
  go_enter Try.func39, Try.ntmps39
  go_wp2_with (first | (go_at_call 54; refine (numMod_any _ _ _ t0 t1 (by omega)).mono ?_; rintro e w' ⟨rfl, rfl⟩))
  go_ret
  exact ⟨ret_i HR.out, rfl⟩
set_option maxRecDepth 100000 in
set_option maxHeartbeats 2000000 in
theorem tOwner_any (h : Tab w lo hi g F m la ln lc l) (hhi : hi ≤ w.heap.size) (t : Int) (t0 : -9223372036854775808 ≤ t) (t1 : t ≤ 9223372036854775807) :
    Calls Try.prog 28 #[.pointer (some ⟨g, 0, none⟩), .int .i64 t] w fun e w' => e = .returned (.tuple #[.int .i64 (owner F m l t).1, .int .i64 (owner F m l t).2]) ∧ Below w.heap.size w w' := by
  have H := Lib.hid h
  have KS := Lib.hid (fun (W : World) (hb : Below w.heap.size w W) => (⟨hb, (h.keep hb hhi).c0, (h.keep hb hhi).c1, (h.keep hb hhi).c2⟩ : Below w.heap.size w W ∧ W.cell? ⟨g, 0, none⟩ = some (.int .i64 m) ∧ W.cell? ⟨g, 1, none⟩ = some (.slice la ln lc) ∧ W.cell? ⟨g, 2, none⟩ = some (.int .i64 F)))
  have CO := Lib.hid (fun (W : World) (z : Int) (hb : Below w.heap.size w W) => wOwner_any m la ln lc z W lo hi l F h.len (h.lies.keep (SameIn.of_below hb hhi)) (Nat.le_trans hhi hb.size) h.few h.m0 h.m8 h.ok (by have := h.f2; omega))
  have HO : Hid (owner F m l t = ownAt m l (t % F)) := Lib.hid rfl
  have c0 := h.c0; have c1 := h.c1; have c2 := h.c2
  have hgw : g < w.heap.size := by have := h.high; omega
  clear h
  go_enter Try.func28, Try.ntmps28
  go_wp2_with (first | (go_at_call 38; refine (tMade_any H.out).mono ?_; rintro e w' ⟨rfl, rfl⟩))
  go_region_held3 (fun W => Below w.heap.size w W ∧ W.cell? ⟨g, 0, none⟩ = some (.int .i64 m) ∧ W.cell? ⟨g, 1, none⟩ = some (.slice la ln lc) ∧ W.cell? ⟨g, 2, none⟩ = some (.int .i64 F))
    (first | exact KS.out _ ((Below.refl _ _).drew) | exact KS.out _ (by assumption))
    (first
      | (go_at_call 39; refine (tPlace_any (H.out.keep (by go_split_ands; assumption) hhi) _ t0 t1).mono ?_; rintro e w' ⟨rfl, rfl⟩)
      | (go_at_call 41; refine (CO.out _ _ (by go_split_ands; assumption)).mono ?_; rintro e w2 ⟨rfl, hb5⟩; have hbn : Below w.heap.size w w2 := (by go_split_ands; exact bel_then (by assumption) (Nat.le_refl _) hb5)))
  go_wp2_with fail
  go_ret2
  exact ⟨ret_ii (by rw [HO.out]) (by rw [HO.out]), by assumption⟩
end
end Go.Proofs.Ytmkohnpdpcefgaa
namespace Go.Proofs.Ytmkohnpdpcefgaa
open Go.ChangeShapes Go.WideShapes Go.ChangeAt Go.RowKit
set_option linter.unusedVariables false

/-- The document's count: of no more than 2^62 ticks, and none below 0. -/
def countT (F : Nat) (m : Int) (l : List Wn) (p t n : Int) : Int := countV F m l p t (min (max n 0) 4611686018427387904).toNat
/-- The document's next tick, and whether there is one. -/
def nextT (F : Nat) (m : Int) (l : List Wn) (p t : Int) : Int × Bool := match nextV F m l p (min t 4611686018427387904) with
  | some i => (min t 4611686018427387904 + i, true)
  | none => (0, false)
theorem countT_none {F : Nat} {m : Int} {l : List Wn} {p t n : Int} (h : n < 1) : countT F m l p t n = 0 := by
  unfold countT
  rw [show (min (max n 0) 4611686018427387904).toNat = 0 by omega]
  rfl
theorem nextT_some {F : Nat} {m : Int} {l : List Wn} {p t : Int} {i : Nat} (h : nextV F m l p (min t 4611686018427387904) = some i) : nextT F m l p t = (min t 4611686018427387904 + i, true) := by unfold nextT; rw [h]
theorem nextT_none {F : Nat} {m : Int} {l : List Wn} {p t : Int} (h : nextV F m l p (min t 4611686018427387904) = none) : nextT F m l p t = (0, false) := by unfold nextT; rw [h]
theorem aheadV_bd {F : Nat} {m p z : Int} {l : List Wn} (hm : 0 ≤ m) (h : okW F 0 l = true) (h0 : 0 ≤ z) (h1 : z ≤ F) : 0 ≤ aheadV m p z l ∧ aheadV m p z l ≤ F := by
  obtain ⟨n, rfl⟩ := Int.eq_ofNat_of_zero_le h0
  rw [aheadV_isO hm h (by omega)]
  have := cnt_le (isO F m l p) 0 n
  omega
/-- The frames ahead of a tick hold no more than there are ticks. -/
theorem frames_bd {F : Nat} {e : Int} {B : Int} (hF : 1 ≤ F) (h0 : 0 ≤ e) (b0 : 0 ≤ B) (b1 : B ≤ F) : 0 ≤ e / F ∧ 0 ≤ e / F * B ∧ e / F * B ≤ e := by
  have q := div_parts e (b := F) (by omega)
  have q0 : 0 ≤ e / F := Int.ediv_nonneg h0 (by omega)
  refine ⟨q0, Int.mul_nonneg q0 b0, ?_⟩
  have := Int.mul_le_mul_of_nonneg_left b1 q0
  rw [Int.mul_comm (F : Int)] at q
  omega
theorem sinceV_bd {F : Nat} {m p e : Int} {l : List Wn} (hF : 1 ≤ F) (hm : 0 ≤ m) (h : okW F 0 l = true) (h0 : 0 ≤ e) : 0 ≤ sinceV F m p l e ∧ sinceV F m p l e ≤ e := by
  obtain ⟨n, rfl⟩ := Int.eq_ofNat_of_zero_le h0
  rw [sinceV_cnt hF hm h]
  have := cnt_le (isO F m l p) 0 n
  omega
section
variable {w : World} {lo hi g F : Nat} {m : Int} {la : Option Addr} {ln lc : Nat} {l : List Wn}
/-- What a table's cells say, whatever is made beside it. -/
theorem Tab.says (h : Tab w lo hi g F m la ln lc l) (hhi : hi ≤ w.heap.size) (W : World) (hb : Below w.heap.size w W) : Below w.heap.size w W ∧ W.cell? ⟨g, 0, none⟩ = some (.int .i64 m) ∧ W.cell? ⟨g, 1, none⟩ = some (.slice la ln lc) ∧ W.cell? ⟨g, 2, none⟩ = some (.int .i64 F) :=
  ⟨hb, (h.keep hb hhi).c0, (h.keep hb hhi).c1, (h.keep hb hhi).c2⟩
end
end Go.Proofs.Ytmkohnpdpcefgaa
namespace Go.Proofs.Ytmkohnpdpcefgaa
open Go.ChangeShapes Go.WideShapes Go.ChangeAt Go.RowKit
set_option linter.unusedVariables false
section
variable {w : World} {lo hi g F : Nat} {m : Int} {la : Option Addr} {ln lc : Nat} {l : List Wn}
end
end Go.Proofs.Ytmkohnpdpcefgaa
namespace Go.Proofs.Ytmkohnpdpcefgaa
open Go.ChangeShapes Go.WideShapes Go.ChangeAt Go.RowKit
set_option linter.unusedVariables false
section
variable {w : World} {lo hi g F : Nat} {m : Int} {la : Option Addr} {ln lc : Nat} {l : List Wn}
set_option maxRecDepth 100000 in
set_option maxHeartbeats 1000000 in
theorem tNext_any (h : Tab w lo hi g F m la ln lc l) (hhi : hi ≤ w.heap.size) (p t : Int) (t0 : -9223372036854775808 ≤ t) (t1 : t ≤ 9223372036854775807) :
    Calls Try.prog 26 #[.pointer (some ⟨g, 0, none⟩), .int .i64 p, .int .i64 t] w fun e w' => e = .returned (.tuple #[.int .i64 (nextT F m l p t).1, .bool (nextT F m l p t).2]) ∧ Below w.heap.size w w' := by
  have H := Lib.hid h
  have hF1 : (1 : Int) ≤ (F : Int) := by have := h.f1; omega
  have f2 := h.f2
  have hgw : g < w.heap.size := by have := h.high; omega
  obtain ⟨T, hT, hT1, hT2⟩ : ∃ T : Int, T = min t 4611686018427387904 ∧ -9223372036854775808 ≤ T ∧ T ≤ 4611686018427387904 := ⟨_, rfl, by omega, by omega⟩
  have z0 : 0 ≤ T % (F : Int) := mod_pos' hF1
  have z1 : T % (F : Int) < F := mod_lt' hF1
  have CP := Lib.hid (fun (W : World) (hb : Below w.heap.size w W) => tPlace_any (h.keep hb hhi) T hT1 (by omega))
  have CS := Lib.hid (fun (W : World) (x : Int) (x0 : 0 ≤ x) (x1 : x ≤ 256) (hb : Below w.heap.size w W) => wFirst_any m la ln lc p x W lo hi l F h.len (h.lies.keep (SameIn.of_below hb hhi)) (Nat.le_trans hhi hb.size) h.few h.m0 h.m8 h.ok (by omega) x0 x1)
  have KS := Lib.hid (h.says hhi)
  have c0 := h.c0; have c1 := h.c1; have c2 := h.c2
  cases e1 : firstV m p (T % F) l with
  | mk x1 b1 =>
    cases b1 with
    | true =>
      obtain ⟨g1, g2, g3⟩ := next_here h.f1 h.m0 h.ok e1
      have HN : Hid (nextT F m l p t = (T + (x1 - T % F), true)) := Lib.hid (by
        rw [hT] at g3
        rw [nextT_some g3, ← hT]
        rw [← hT] at g3
        rw [show (((x1 - T % F).toNat : Nat) : Int) = x1 - T % F by omega])
      have E1 := Lib.hid e1
      clear g3 e1 h
      generalize T % (F : Int) = Z at CP E1 z0 z1 HN g1
      rcases (show (t ≤ 4611686018427387904 ∧ T = t) ∨ (4611686018427387904 < t ∧ T = 4611686018427387904) by omega) with ⟨n1, n3⟩ | ⟨n1, n3⟩
      all_goals
        (subst n3
         clear hT
         go_enter Try.func26, Try.ntmps26
         go_wp2_with (first
           | (go_at_call 38; refine (tMade_any H.out).mono ?_; rintro e w' ⟨rfl, rfl⟩)
           | (go_at_call 39; refine (CP.out _ (Below.refl _ _)).mono ?_; rintro e w' ⟨rfl, rfl⟩)
           | (go_at_call 40; refine (CS.out _ _ (by omega) (by omega) (by first | assumption | exact Below.refl _ _)).mono ?_; rintro e w2 ⟨rfl, hb2⟩; rw [E1.out]; have hbn : Below w.heap.size w w2 := (by first | exact bel_then (by assumption) (Nat.le_refl _) hb2 | exact hb2); have y := KS.out _ hbn; obtain ⟨_, y0, y1, y2⟩ := y))
         go_ret2
         exact ⟨ret_ib (by rw [HN.out]) (by rw [HN.out]), by assumption⟩)
    | false =>
      cases e2 : firstV m p 0 l with
      | mk x2 b2 =>
        cases b2 with
        | true =>
          obtain ⟨g1, g2, g2', g3⟩ := next_later (t := T) h.f1 h.m0 h.ok (by rw [e1]) e2
          have HN : Hid (nextT F m l p t = (T + (x2 + F - T % F), true)) := Lib.hid (by
            rw [hT] at g3
            rw [nextT_some g3, ← hT]
            rw [← hT] at g3
            rw [show (((x2 + F - T % F).toNat : Nat) : Int) = x2 + F - T % F by omega])
          have E1 := Lib.hid e1
          have E2 := Lib.hid e2
          clear g3 e1 e2 h
          generalize T % (F : Int) = Z at CP E1 z0 z1 HN g2 g2'
          rcases (show (t ≤ 4611686018427387904 ∧ T = t) ∨ (4611686018427387904 < t ∧ T = 4611686018427387904) by omega) with ⟨n1, n3⟩ | ⟨n1, n3⟩
          all_goals
            (subst n3
             clear hT
             go_enter Try.func26, Try.ntmps26
             go_wp2_with (first
               | (go_at_call 38; refine (tMade_any H.out).mono ?_; rintro e w' ⟨rfl, rfl⟩)
               | (go_at_call 39; refine (CP.out _ (Below.refl _ _)).mono ?_; rintro e w' ⟨rfl, rfl⟩)
               | (go_at_call 40; refine (CS.out _ _ (by omega) (by omega) (by first | assumption | exact Below.refl _ _)).mono ?_; rintro e w2 ⟨rfl, hb2⟩; (first | rw [E1.out] | rw [E2.out]); have hbn : Below w.heap.size w w2 := (by first | exact bel_then (by assumption) (Nat.le_refl _) hb2 | exact hb2); have y := KS.out _ hbn; obtain ⟨_, y0, y1, y2⟩ := y))
             go_ret2
             exact ⟨ret_ib (by rw [HN.out]) (by rw [HN.out]), by assumption⟩)
        | false =>
          have g3 := next_never (t := T) h.f1 h.m0 h.ok (by rw [e2])
          have z2 : x2 = 0 := by have := firstV_none (m := m) (p := p) (b := 0) (l := l) (by rw [e2]); rw [e2] at this; exact this
          have HN : Hid (nextT F m l p t = (0, false)) := Lib.hid (by rw [hT] at g3; exact nextT_none g3)
          have E1 := Lib.hid e1
          have E2 := Lib.hid e2
          clear g3 e1 e2 h
          generalize T % (F : Int) = Z at CP E1 z0 z1
          rcases (show (t ≤ 4611686018427387904 ∧ T = t) ∨ (4611686018427387904 < t ∧ T = 4611686018427387904) by omega) with ⟨n1, n3⟩ | ⟨n1, n3⟩
          all_goals
            (subst n3
             clear hT
             go_enter Try.func26, Try.ntmps26
             go_wp2_with (first
               | (go_at_call 38; refine (tMade_any H.out).mono ?_; rintro e w' ⟨rfl, rfl⟩)
               | (go_at_call 39; refine (CP.out _ (Below.refl _ _)).mono ?_; rintro e w' ⟨rfl, rfl⟩)
               | (go_at_call 40; refine (CS.out _ _ (by omega) (by omega) (by first | assumption | exact Below.refl _ _)).mono ?_; rintro e w2 ⟨rfl, hb2⟩; (first | rw [E1.out] | rw [E2.out]); have hbn : Below w.heap.size w w2 := (by first | exact bel_then (by assumption) (Nat.le_refl _) hb2 | exact hb2); have y := KS.out _ hbn; obtain ⟨_, y0, y1, y2⟩ := y))
             go_ret2
             exact ⟨ret_ib (by rw [HN.out]) (by rw [HN.out]), by assumption⟩)
end
end Go.Proofs.Ytmkohnpdpcefgaa
