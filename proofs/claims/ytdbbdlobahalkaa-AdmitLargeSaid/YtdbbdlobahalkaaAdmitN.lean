/- Demand against supply, from far on a round like the one before: no program in it. -/
import Derived.Test.YtdbbdlobahalkaaAdmitM
import Derived.Test.YtdbbdlobahalkaaBoundM
namespace Go.Proofs.Ytdbbdlobahalkaa
set_option linter.unusedVariables false

/-- What is asked for, of as many ticks as there are (none is cut). -/
def ofU (k : Tk) (t : Int) (high : Bool) : Int := if okTk k then (if high then highAt k t else lowAt k t) else 0
def servU (s : Sv) (t : Int) : Int := if okSv s then servAt s t else 0
def demU (p : Pt) (t : Int) (high : Bool) : Int := sumI (p.ts.map fun k => ofU k t high) + (if high then 0 else sumI (p.ss.map fun s => servU s t))
theorem ofV_U (k : Tk) {t : Int} (h0 : 0 ≤ t) (h1 : t ≤ 1099511627776) (high : Bool) : ofV k t high = ofU k t high := by unfold ofV ofU; rw [cutT_of h0 h1]
theorem servV_U (s : Sv) {t : Int} (h0 : 0 ≤ t) (h1 : t ≤ 1099511627776) : servV s t = servU s t := by unfold servV servU; rw [cutT_of h0 h1]
theorem demV_U (p : Pt) {t : Int} (h0 : 0 ≤ t) (h1 : t ≤ 1099511627776) (high : Bool) : demV p t high = demU p t high := by
  have e1 : ∀ hg, (p.ts.map fun k => ofV k t hg) = p.ts.map fun k => ofU k t hg := fun hg => List.map_congr_left fun k _ => ofV_U k h0 h1 hg
  have e2 : (p.ss.map fun s => servV s t) = p.ss.map fun s => servU s t := List.map_congr_left fun s _ => servV_U s h0 h1
  unfold demV demU lowV highV
  cases high <;> simp [e1, e2]
/-- A cut time is as good as the time that it is cut to. -/
theorem demV_cut (p : Pt) (t : Int) (high : Bool) : demV p t high = demU p (cutT t) high := by
  obtain ⟨c0, c1⟩ := cutT_in t
  have e : cutT (cutT t) = cutT t := cutT_of c0 c1
  rw [← demV_U p c0 c1]
  have e1 : ∀ hg, (p.ts.map fun k => ofV k t hg) = p.ts.map fun k => ofV k (cutT t) hg := fun hg => List.map_congr_left fun k _ => by unfold ofV; rw [e]
  have e2 : (p.ss.map fun s => servV s t) = p.ss.map fun s => servV s (cutT t) := List.map_congr_left fun s _ => by unfold servV; rw [e]
  unfold demV lowV highV
  cases high <;> simp [e1, e2]
def rateU (n : Int) (p : Pt) (high : Bool) : Int := sumI (p.ts.map (rateTk n high)) + (if high then 0 else sumI (p.ss.map (rateSv n)))
theorem rateV_U (p : Pt) {n : Int} (h0 : 0 ≤ n) (h1 : n ≤ 1099511627776) (high : Bool) : rateV n p high = rateU n p high := by unfold rateV rateU; rw [cutT_of h0 h1]
theorem demU_round {p : Pt} {h t : Int} (high : Bool) (h0 : 0 ≤ h) (ht : farV p ≤ t) (d1 : ∀ k ∈ p.ts, okTk k = true → k.t ∣ h) (d2 : ∀ s ∈ p.ss, okSv s = true → s.t ∣ h) : demU p (t + h) high = demU p t high + rateU h p high := by
  have hf := farV_bd p
  unfold demU rateU
  rw [sum_more (g := fun k => ofU k t high) (r := rateTk h high) p.ts fun k hk => ?_, sum_more (g := fun s => servU s t) (r := rateSv h) p.ss fun s hs => ?_]
  · cases high <;> simp <;> omega
  · unfold servU rateSv
    cases ho : okSv s with
    | false => simp
    | true =>
      have q := okSv_t ho
      have := rounds (g := servAt s) (T := s.t) (c := s.c) (a := s.t) (fun u hu => servAt_period ho hu) (by omega) h0 (d2 s hs ho) t (Int.le_trans (far_serv hs ho) ht)
      simpa using this
  · unfold ofU rateTk
    cases ho : okTk k with
    | false => simp
    | true =>
      have q := okTk_t ho
      have hd := far_task hk ho
      cases high with
      | false =>
        have := rounds (g := lowAt k) (T := k.t) (c := k.lo) (a := k.v) (fun u hu => lowAt_period ho hu) (by omega) h0 (d1 k hk ho) t (by omega)
        simpa using this
      | true =>
        cases hh : k.hi with
        | false => simp [highAt, hh]
        | true =>
          have := rounds (g := highAt k) (T := k.t) (c := k.top) (a := k.d - k.v) (fun u hu => highAt_period ho hu hh) (by omega) h0 (d1 k hk ho) t (by omega)
          simpa using this
/-- The slack of t ticks: the supply of them less the demand. -/
def slackU (f : Int → Bool) (F : Nat) (p : Pt) (high : Bool) (t : Nat) : Int := (leastV f F t : Int) - demU p t high
/-- What a round more takes. -/
def lostU (f : Int → Bool) (F : Nat) (p : Pt) (high : Bool) (h : Nat) : Int := rateU h p high - (leastV f F h : Int)
theorem least_round {f : Int → Bool} {F : Nat} (ag : Again f F) (hF : 1 ≤ F) {h : Nat} (hd : F ∣ h) (t : Nat) : leastV f F (t + h) = leastV f F t + leastV f F h := by
  obtain ⟨q, rfl⟩ := hd
  rw [Nat.mul_comm F q]
  have h1 := leastV_frames ag hF t q
  have h2 := leastV_frames ag hF 0 q
  rw [Nat.zero_add, leastV_zero] at h2
  omega
theorem slack_round {f : Int → Bool} {F : Nat} (ag : Again f F) (hF : 1 ≤ F) (p : Pt) (high : Bool) {far h : Nat} (hfar : (far : Int) = farV p) (hF2 : F ∣ h) (d1 : ∀ k ∈ p.ts, okTk k = true → k.t ∣ (h : Int)) (d2 : ∀ s ∈ p.ss, okSv s = true → s.t ∣ (h : Int)) :
    Round (slackU f F p high) far h (lostU f F p high h) := fun t ht => by
  unfold slackU lostU
  have h1 := demU_round (p := p) (h := (h : Int)) (t := (t : Int)) high (by omega) (by omega) d1 d2
  have h2 := least_round ag hF hF2 t
  rw [show ((t + h : Nat) : Int) = (t : Int) + (h : Int) by omega, h1, h2]
  omega
theorem ofU_bd (k : Tk) (t : Int) (h0 : 0 ≤ t) (high : Bool) : 0 ≤ ofU k t high := by
  unfold ofU
  by_cases h : okTk k = true
  · rw [if_pos h]
    obtain ⟨a1, a2, a3, a4, a5, a6, a7, a8⟩ := okTk_t h
    split
    · unfold highAt
      split
      · omega
      · have hd := doneAt_bd (t := t) h
        have d0 : 0 ≤ (t - (k.d - k.v)) / k.t := Int.ediv_nonneg (by omega) (by omega)
        have m2 : k.top * 1 ≤ k.top * ((t - (k.d - k.v)) / k.t + 1) := Int.mul_le_mul_of_nonneg_left (by omega) (by omega)
        omega
    · unfold lowAt
      split
      · omega
      · have d0 : 0 ≤ (t - k.v) / k.t := Int.ediv_nonneg (by omega) (by omega)
        exact Int.mul_nonneg (by omega) (by omega)
  · rw [if_neg h]; omega
theorem servU_bd (s : Sv) (t : Int) (h0 : 0 ≤ t) : 0 ≤ servU s t := by
  unfold servU
  by_cases h : okSv s = true
  · rw [if_pos h]
    obtain ⟨a1, a2, a3⟩ := okSv_t h
    unfold servAt
    split
    · split
      · omega
      · have d0 : 0 ≤ (t - 1) / s.t := Int.ediv_nonneg (by omega) (by omega)
        exact Int.mul_nonneg (by omega) (by omega)
    · exact Int.mul_nonneg (by omega) (Int.ediv_nonneg h0 (by omega))
  · rw [if_neg h]; omega
theorem sumI_pos : ∀ (n : Nat) (l : List Int), l.length = n → (∀ x ∈ l, 0 ≤ x) → 0 ≤ sumI l
  | 0, l, hl, _ => by rw [List.eq_nil_of_length_eq_zero hl]; simp [sumI]
  | n + 1, l, hl, h => by
    have hne : l ≠ [] := by intro e; subst e; cases hl
    obtain ⟨ys, y, rfl⟩ : ∃ ys y, l = ys ++ [y] := ⟨l.dropLast, l.getLast hne, (List.dropLast_concat_getLast hne).symm⟩
    have h1 := sumI_pos n ys (by simpa using hl) fun x hx => h x (by simp [hx])
    have h2 := h y (by simp)
    rw [sumI_snoc]
    omega
theorem demU_pos (p : Pt) (t : Int) (h0 : 0 ≤ t) (high : Bool) : 0 ≤ demU p t high := by
  unfold demU
  have h1 := sumI_pos _ (p.ts.map fun k => ofU k t high) rfl fun x hx => by
    obtain ⟨k, _, rfl⟩ := List.mem_map.1 hx
    exact ofU_bd k t h0 high
  have h2 := sumI_pos _ (p.ss.map fun s => servU s t) rfl fun x hx => by
    obtain ⟨s, _, rfl⟩ := List.mem_map.1 hx
    exact servU_bd s t h0
  split <;> omega
theorem slack_le (f : Int → Bool) (F : Nat) (p : Pt) (high : Bool) (t : Nat) : slackU f F p high t ≤ t := by
  unfold slackU
  have h1 := leastV_bd (f := f) (F := F) t
  have h2 := demU_pos p t (by omega) high
  omega
/-- A break that is found is no farther than that: far below 2^40. -/
theorem phase_bd {S : Nat → Int} {far h : Nat} {lost : Int} (hS : ∀ t, S t ≤ t) (hb : far + h ≤ 65536) {T : Nat} (hT : phaseV S far h lost = some T) : T ≤ 4295098368 := by
  unfold phaseV at hT
  split at hT
  · rename_i t hf
    cases hT
    have := List.mem_range.1 (List.mem_of_find?_eq_some hf)
    omega
  · by_cases hl : lost ≤ 0
    · simp [hl] at hT
    · simp only [hl, if_false] at hT
      cases hT
      obtain ⟨i, hi, hv⟩ := leastOf_at (g := fun i => atV S h lost (far + i)) (h - 1)
      rw [hv]
      unfold atV
      have h1 := hS (far + i)
      have h3 : S (far + i) / lost ≤ 65536 := by
        rcases Int.lt_or_le (S (far + i)) 0 with g | g
        · have := Int.ediv_neg_of_neg_of_pos g (show 0 < lost by omega); omega
        · have := div_le_self g (show 1 ≤ lost by omega)
          rcases Nat.eq_zero_or_pos h with h0 | h0
          · subst h0; omega
          · omega
      have h4 : (S (far + i) / lost + 1).toNat ≤ 65537 := by omega
      have h5 : (S (far + i) / lost + 1).toNat * h ≤ 65537 * 65536 := Nat.mul_le_mul h4 (by omega)
      omega
/-- Of no high tasks nothing is asked in high mode: it never breaks. -/
theorem slack_lows {f : Int → Bool} {F : Nat} {p : Pt} (h : ∀ k ∈ p.ts, k.hi = false) : IsBreak (slackU f F p true) none := fun t => by
  unfold slackU demU
  have e : (p.ts.map fun k => ofU k (t : Int) true) = p.ts.map fun _ => (0 : Int) := List.map_congr_left fun k hk => by
    unfold ofU highAt
    rw [if_pos (show (true : Bool) = true from rfl)]
    split
    · rw [if_pos (Or.inl (h k hk))]
    · rfl
  have z : ∀ l : List Tk, sumI (l.map fun _ => (0 : Int)) = 0 := fun l => by
    have : ∀ n : Nat, sumI (List.replicate n (0 : Int)) = 0 := fun n => by
      induction n with
      | zero => rfl
      | succ n ih => rw [List.replicate_succ', sumI_snoc, ih]; rfl
    rw [List.map_const']
    exact this _
  rw [e, z]
  simp
end Go.Proofs.Ytdbbdlobahalkaa
