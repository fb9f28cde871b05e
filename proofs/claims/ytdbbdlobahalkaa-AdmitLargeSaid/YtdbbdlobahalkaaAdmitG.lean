/- Where a phase breaks first it breaks where the demand has risen, within the bound: no program in it. -/
import Derived.Test.YtdbbdlobahalkaaAdmitV
import Derived.Test.YtdbbdlobahalkaaDemandS
namespace Go.Proofs.Ytdbbdlobahalkaa
set_option linter.unusedVariables false

theorem sum_le {α : Type} {f g : α → Int} {l : List α} (h : ∀ x ∈ l, g x ≤ f x) : sumI (l.map g) ≤ sumI (l.map f) := (sum_rises f g l h).1
theorem mul_div_exact {h T : Int} (hT : 1 ≤ T) (hd : T ∣ h) : h = T * (h / T) := (Int.mul_ediv_cancel' hd).symm
/-- So many whole periods begin at a or before, if a is at most a period. -/
theorem begun_le {h a T : Int} (hT : 1 ≤ T) (h1 : 1 ≤ h) (hd : T ∣ h) (a1 : a ≤ T) : a ≤ h ∧ h / T ≤ (h - a) / T + 1 := by
  have e := mul_div_exact hT hd
  have hq : 1 ≤ h / T := by
    rcases Int.lt_or_le (h / T) 1 with g | g
    · have : T * (h / T) ≤ T * 0 := Int.mul_le_mul_of_nonneg_left (by omega) (by omega)
      omega
    · exact g
  have m : T * 1 ≤ T * (h / T) := Int.mul_le_mul_of_nonneg_left hq (by omega)
  refine ⟨by omega, ?_⟩
  have k : h / T - 1 ≤ (h - a) / T := by
    rw [Int.le_ediv_iff_mul_le (by omega), Int.sub_mul, Int.mul_comm (h / T) T, ← e]
    omega
  omega
theorem rate_demand {p : Pt} {h : Int} (high : Bool) (h1 : 1 ≤ h) (d1 : ∀ k ∈ p.ts, okTk k = true → k.t ∣ h) (d2 : ∀ s ∈ p.ss, okSv s = true → s.t ∣ h) : rateU h p high ≤ demU p h high := by
  unfold rateU demU
  have hA : sumI (p.ts.map (rateTk h high)) ≤ sumI (p.ts.map fun k => ofU k h high) := by
    refine sum_le fun k hk => ?_
    unfold rateTk ofU
    cases ho : okTk k with
    | false => simp
    | true =>
      obtain ⟨a1, a2, a3, a4, a5, a6, a7, a8⟩ := okTk_t ho
      have hd := d1 k hk ho
      cases high with
      | false =>
        obtain ⟨g1, g2⟩ := begun_le (a := k.v) (by omega) h1 hd (by omega)
        have m : k.lo * (h / k.t) ≤ k.lo * ((h - k.v) / k.t + 1) := Int.mul_le_mul_of_nonneg_left g2 (by omega)
        have e : lowAt k h = k.lo * ((h - k.v) / k.t + 1) := by unfold lowAt; rw [if_neg (by omega)]
        rw [Int.mul_comm] at m
        simpa [e] using m
      | true =>
        cases hh : k.hi with
        | false => simp [highAt, hh]
        | true =>
          obtain ⟨g1, g2⟩ := begun_le (a := k.d - k.v) (by omega) h1 hd (by omega)
          have e : highAt k h = k.top * ((h - (k.d - k.v)) / k.t + 1) - doneAt k h := by unfold highAt; rw [if_neg (fun q => by rcases q with q | q; exact absurd (hh.symm.trans q) (by decide); omega)]
          have hm : h % k.t = 0 := Int.emod_eq_zero_of_dvd hd
          have key : k.top * (h / k.t) ≤ k.top * ((h - (k.d - k.v)) / k.t + 1) - doneAt k h := by
            rcases Int.lt_or_le 0 (k.d - k.v) with g | g
            · have z : doneAt k h = 0 := by unfold doneAt; rw [hm, if_neg (by omega)]
              have m : k.top * (h / k.t) ≤ k.top * ((h - (k.d - k.v)) / k.t + 1) := Int.mul_le_mul_of_nonneg_left g2 (by omega)
              omega
            · have z : k.d - k.v = 0 := by omega
              have b := doneAt_bd (t := h) ho
              rw [z, Int.sub_zero, Int.mul_add]
              omega
          rw [Int.mul_comm] at key
          simpa [e] using key
  have hB : sumI (p.ss.map (rateSv h)) ≤ sumI (p.ss.map fun s => servU s h) := by
    refine sum_le fun s hs => ?_
    unfold rateSv servU
    cases ho : okSv s with
    | false => simp
    | true =>
      obtain ⟨a1, a2, a3⟩ := okSv_t ho
      have hd := d2 s hs ho
      obtain ⟨g1, g2⟩ := begun_le (a := 1) (by omega) h1 hd (by omega)
      obtain ⟨g3, _⟩ := begun_le (a := s.t) (by omega) h1 hd (by omega)
      have key : h / s.t * s.c ≤ servAt s h := by
        unfold servAt
        split
        · rw [if_neg (by omega), Int.mul_comm]
          exact Int.mul_le_mul_of_nonneg_left g2 (by omega)
        · rw [Int.mul_comm]; exact Int.le_refl _
      simpa using key
  cases high
  · simp only [Bool.false_eq_true, if_false]; omega
  · simp only [if_true]; omega
theorem stepsV_mem {d : Int → Int} {n t : Nat} : t ∈ stepsV d n ↔ (1 ≤ t ∧ t ≤ n) ∧ d (t : Int) ≠ d ((t : Int) - 1) := by
  unfold stepsV
  rw [List.mem_filter, List.mem_map]
  constructor
  · rintro ⟨⟨a, ha, rfl⟩, h⟩
    have := List.mem_range.1 ha
    exact ⟨⟨by omega, by omega⟩, by simpa using h⟩
  · rintro ⟨⟨h1, h2⟩, h⟩
    exact ⟨⟨t - 1, List.mem_range.2 (by omega), by omega⟩, by simpa using h⟩
theorem stepsV_rises (d : Int → Int) (n : Nat) : (0 :: stepsV d n).Pairwise (· < ·) := by
  refine List.pairwise_cons.2 ⟨fun t ht => ?_, ?_⟩
  · have := (stepsV_mem.1 ht).1; omega
  · unfold stepsV
    refine List.Pairwise.filter _ ?_
    rw [List.pairwise_map]
    exact (List.pairwise_lt_range (n := n)).imp fun h => by omega
/-- In a list that rises, the first one found is the least. -/
theorem find_least {P : Nat → Bool} : ∀ {l : List Nat}, l.Pairwise (· < ·) → ∀ {T : Nat}, l.find? P = some T → T ∈ l ∧ P T = true ∧ ∀ t ∈ l, t < T → P t = false
  | [], _, T, h => by cases h
  | x :: l, hl, T, h => by
    rw [List.pairwise_cons] at hl
    cases hp : P x with
    | true =>
      rw [List.find?_cons_of_pos hp] at h
      cases h
      refine ⟨by simp, hp, fun t ht hlt => ?_⟩
      rcases List.mem_cons.1 ht with rfl | ht
      · omega
      · have := hl.1 t ht; omega
    | false =>
      rw [List.find?_cons_of_neg (by simp [hp])] at h
      obtain ⟨h1, h2, h3⟩ := find_least hl.2 h
      refine ⟨by simp [h1], h2, fun t ht hlt => ?_⟩
      rcases List.mem_cons.1 ht with rfl | ht
      · exact hp
      · exact h3 t ht hlt
/-- A slack that falls only where the demand rises, and of which a round within the bound decides all others, breaks first at a rise. -/
theorem turns_break {S : Nat → Int} {d : Int → Int} {n far h : Nat} {lost : Int} (hr : Round S far h lost) (hh : 1 ≤ h) (hn : far + h ≤ n + 1) (hd : ∀ t : Nat, 1 ≤ t → t ≤ n → d (t : Int) = d ((t : Int) - 1) → S (t - 1) ≤ S t) (hl : h ≤ n) (hz : 0 ≤ S h → lost ≤ 0) :
    IsBreak S ((0 :: stepsV d n).find? fun (t : Nat) => decide (S t < 0)) := by
  -- one that breaks within the bound is behind a turn that does
  have key : ∀ m t : Nat, t ≤ m → t ≤ n → S t < 0 → ∃ u, u ∈ 0 :: stepsV d n ∧ u ≤ t ∧ S u < 0 := by
    intro m
    induction m with
    | zero => intro t h1 h2 h3; obtain rfl : t = 0 := by omega
              exact ⟨0, by simp, Nat.le_refl _, h3⟩
    | succ m ih =>
      intro t h1 h2 h3
      rcases Nat.eq_zero_or_pos t with rfl | h0
      · exact ⟨0, by simp, Nat.le_refl _, h3⟩
      · by_cases e : d (t : Int) = d ((t : Int) - 1)
        · have h5 := hd t h0 h2 e
          obtain ⟨u, u1, u2, u3⟩ := ih (t - 1) (by omega) (by omega) (by omega)
          exact ⟨u, u1, by omega, u3⟩
        · exact ⟨t, List.mem_cons.2 (.inr (stepsV_mem.2 ⟨⟨h0, h2⟩, e⟩)), Nat.le_refl _, h3⟩
  have hle : ∀ t ∈ 0 :: stepsV d n, t ≤ n := fun t ht => by
    rcases List.mem_cons.1 ht with rfl | ht
    · omega
    · exact (stepsV_mem.1 ht).1.2
  cases hf : (0 :: stepsV d n).find? fun (t : Nat) => decide (S t < 0) with
  | some T =>
    obtain ⟨h1, h2, h3⟩ := find_least (stepsV_rises d n) hf
    refine ⟨by simpa using h2, fun t ht => ?_⟩
    rcases Int.lt_or_le (S t) 0 with g | g
    · exfalso
      have hT := hle T h1
      obtain ⟨u, u1, u2, u3⟩ := key t t (Nat.le_refl _) (by omega) g
      have := h3 u u1 (by omega)
      simp at this
      omega
    · exact g
  | none =>
    have h0 : ∀ t, t ≤ n → 0 ≤ S t := fun t ht => by
      rcases Int.lt_or_le (S t) 0 with g | g
      · exfalso
        obtain ⟨u, u1, u2, u3⟩ := key t t (Nat.le_refl _) ht g
        have := List.find?_eq_none.1 hf u u1
        simp at this
        omega
      · exact g
    exact break_never hr hh (fun t ht => h0 t (by omega)) (hz (h0 h hl))
/-- The ticks at which a phase is looked at. -/
def turnsV (x : Pt) (n : Nat) (high : Bool) : List Nat := 0 :: stepsV (fun t => demV x t high) n
def turnsI (x : Pt) (n : Nat) (high : Bool) : List Int := (turnsV x n high).map fun (t : Nat) => (t : Int)
theorem phaseC_turns {c : Cf} (hz : (checkV c).1 = 0) {F : Nat} (hF : c.frame = (F : Int)) (k : Nat) (x : Pt) (high : Bool) (hb : boundOk c.frame x = true) :
    phaseC c F k x high = (turnsV x (boundV c.frame x).toNat high).find? fun (t : Nat) => decide (slackU (isO F c.margin c.ws (k : Int)) F x high t < 0) := by
  refine (phaseC_is hz hF k x high hb).one ?_
  obtain ⟨e1, e2, h1, h2, h3, e3, hr⟩ := round_of hz hF k x high hb
  obtain ⟨b1, b2, b3⟩ := bound_ok hb
  obtain ⟨g1, g2, ⟨g3, g4⟩, g5, g6⟩ := hyper_ok b1
  have f1 : 1 ≤ F := by
    have := g3
    omega
  unfold turnsV
  rw [e3, Int.toNat_natCast]
  refine turns_break hr h2 (by omega) (fun t t1 t2 he => ?_) (by omega) fun hs => ?_
  · have he : demV x (t : Int) high = demV x ((t : Int) - 1) high := he
    rw [demV_U x (by omega) (by omega), demV_U x (by omega) (by omega)] at he
    unfold slackU
    rw [show ((t - 1 : Nat) : Int) = (t : Int) - 1 by omega, he]
    have m : leastV (isO F c.margin c.ws (k : Int)) F (t - 1) ≤ leastV (isO F c.margin c.ws (k : Int)) F t := leastV_le_of (isO_again F c.margin c.ws (k : Int)) f1 (by omega)
    omega
  · have hd := rate_demand (p := x) (h := ((hyperV c.frame x).toNat : Int)) high (by omega) (by rw [e2]; exact g5) (by rw [e2]; exact g6)
    unfold slackU at hs
    unfold lostU
    omega
end Go.Proofs.Ytdbbdlobahalkaa
