/- Where demand rises: a mark for each period and place in it; no program in it. -/
import Derived.Test.YtdbbdlobahalkaaDemandOne
namespace Go.Proofs.Ytdbbdlobahalkaa
set_option linter.unusedVariables false

/-- Does what begins at i, and comes again after e ticks each, come at t? -/
def hitB (i e t : Nat) : Bool := decide (i ≤ t) && (t - i) % e == 0
def fromT (k : Tk) (high : Bool) : Int := if high then (if k.top = k.lo then k.d - k.v + 1 else k.d - k.v) else k.v
def toT (k : Tk) (high : Bool) : Int := if high then k.d - k.v + k.lo else k.v
def countsB (k : Tk) (high : Bool) : Bool := okTk k && (k.hi || !high)
def mTk (high : Bool) (k : Tk) (p i : Nat) : Bool := countsB k high && (decide ((p : Int) = k.t) && (decide (fromT k high ≤ (i : Int)) && decide ((i : Int) ≤ toT k high)))
def firstS (s : Sv) : Int := if s.re then s.t + 1 else s.t
def mSv (high : Bool) (s : Sv) (p i : Nat) : Bool := (okSv s && !high) && (decide ((p : Int) = s.t) && decide ((i : Int) = firstS s))
def oSv (high : Bool) (s : Sv) (i : Nat) : Bool := (okSv s && !high) && (s.re && decide ((i : Int) = s.t))
def againV (p : Pt) (high : Bool) (q i : Nat) : Bool := p.ts.any (fun k => mTk high k q i) || p.ss.any (fun s => mSv high s q i)
def onceV (p : Pt) (high : Bool) (i : Nat) : Bool := p.ss.any fun s => oSv high s i
def metE (once : Nat → Bool) (again : Nat → Nat → Bool) (t : Nat) : Bool :=
  (List.range 1001).any (fun i => once i && hitB i 65536 t) || (List.range 1001).any fun p => (List.range (p + 2)).any fun i => again p i && hitB i p t
theorem ofV_no' {k : Tk} {n : Int} {high : Bool} (h : countsB k high = false) : ofV k n high = 0 := by
  unfold countsB at h
  unfold ofV highAt
  cases h1 : okTk k <;> cases h2 : k.hi <;> cases high <;> simp_all
theorem servV_no' {s : Sv} {n : Int} (h : okSv s = false) : servV s n = 0 := by unfold servV; simp [h]
theorem hitB_iff {i e t : Nat} : hitB i e t = true ↔ i ≤ t ∧ ((t : Int) - i) % e = 0 := by
  unfold hitB
  rw [Bool.and_eq_true, decide_eq_true_eq, beq_iff_eq]
  constructor
  · rintro ⟨h1, h2⟩
    refine ⟨h1, ?_⟩
    rw [show (t : Int) - i = ((t - i : Nat) : Int) by omega, ← Int.natCast_emod, h2]
    rfl
  · rintro ⟨h1, h2⟩
    refine ⟨h1, ?_⟩
    rw [show (t : Int) - i = ((t - i : Nat) : Int) by omega, ← Int.natCast_emod] at h2
    exact_mod_cast h2
theorem mod_before {x T : Int} (hT : 1 ≤ T) : (x - 1) % T = if x % T = 0 then T - 1 else x % T - 1 := by
  have e := Int.mul_ediv_add_emod x T
  have h0 := Int.emod_nonneg x (show T ≠ 0 by omega)
  have h1 := Int.emod_lt_of_pos x (show 0 < T by omega)
  by_cases h : x % T = 0
  · rw [if_pos h]
    refine ((Int.ediv_emod_unique (q := x / T - 1) (show 0 < T by omega)).2 ⟨?_, by omega, by omega⟩).2
    rw [Int.mul_sub, Int.mul_one]; omega
  · rw [if_neg h]
    exact ((Int.ediv_emod_unique (q := x / T) (show 0 < T by omega)).2 ⟨by omega, by omega, by omega⟩).2
theorem div_before {x T : Int} (hT : 1 ≤ T) : x / T = (x - 1) / T + if x % T = 0 then 1 else 0 := by
  have e := Int.mul_ediv_add_emod x T
  have h0 := Int.emod_nonneg x (show T ≠ 0 by omega)
  have h1 := Int.emod_lt_of_pos x (show 0 < T by omega)
  by_cases h : x % T = 0
  · rw [if_pos h]
    have := ((Int.ediv_emod_unique (a := x - 1) (r := T - 1) (q := x / T - 1) (show 0 < T by omega)).2 ⟨by rw [Int.mul_sub, Int.mul_one]; omega, by omega, by omega⟩).1
    omega
  · rw [if_neg h]
    have := ((Int.ediv_emod_unique (a := x - 1) (r := x % T - 1) (q := x / T) (show 0 < T by omega)).2 ⟨by omega, by omega, by omega⟩).1
    omega
theorem stepsTo_before {a T t : Int} (hT : 1 ≤ T) : stepsTo a T t = stepsTo a T (t - 1) + if a ≤ t ∧ (t - a) % T = 0 then 1 else 0 := by
  unfold stepsTo
  by_cases h1 : t < a
  · rw [if_pos h1, if_pos (by omega), if_neg (by omega)]; rfl
  · rw [if_neg h1]
    by_cases h2 : t - 1 < a
    · have e : t - a = 0 := by omega
      rw [if_pos h2, e, if_pos ⟨by omega, Int.zero_emod _⟩]
      simp
    · rw [if_neg h2]
      have := div_before (x := t - a) hT
      rw [show t - a - 1 = t - 1 - a by omega] at this
      by_cases h3 : (t - a) % T = 0
      · rw [if_pos h3] at this; rw [if_pos ⟨by omega, h3⟩]; omega
      · rw [if_neg h3] at this; rw [if_neg (by omega)]; omega
theorem le_self_mod {t T : Int} (h0 : 0 ≤ t) (hT : 1 ≤ T) : t % T ≤ t := by
  have e := Int.mul_ediv_add_emod t T
  have := Int.mul_nonneg (show 0 ≤ T by omega) (Int.ediv_nonneg h0 (show 0 ≤ T by omega))
  omega
theorem mod_is {t g T : Int} (g0 : 0 ≤ g) (g1 : g < T) : (t - g) % T = 0 ↔ t % T = g := by
  rw [← Int.emod_eq_emod_iff_emod_sub_eq_zero, Int.emod_eq_of_lt g0 g1]
theorem sub_self_mod {t T : Int} : (t - T) % T = t % T := Int.sub_emod_right t T
/-- Low mode: it rises where a job is due that is all there. -/
theorem low_rises {k : Tk} (h : okTk k = true) (t : Int) : lowAt k (t - 1) ≤ lowAt k t ∧ (lowAt k t ≠ lowAt k (t - 1) ↔ k.v ≤ t ∧ (t - k.v) % k.t = 0) := by
  obtain ⟨a1, a2, a3, a4, a5, a6, a7, a8⟩ := okTk_t h
  rw [lowAt_begun, lowAt_begun, stepsTo_before (t := t) (show 1 ≤ k.t by omega)]
  by_cases hc : k.v ≤ t ∧ (t - k.v) % k.t = 0
  · rw [if_pos hc, Int.mul_add]
    exact ⟨by omega, fun _ => hc, fun _ => by omega⟩
  · rw [if_neg hc, Int.add_zero]
    exact ⟨by omega, fun hne => absurd rfl hne, fun hh => absurd hh hc⟩
theorem doneV_cases (k : Tk) (n : Int) : (n < k.d - k.v ∧ doneV k n = 0) ∨ (k.d ≤ n ∧ doneV k n = 0) ∨ (k.d - k.v ≤ n ∧ n < k.d ∧ k.lo - (n - (k.d - k.v)) ≤ 0 ∧ doneV k n = 0) ∨ (k.d - k.v ≤ n ∧ n < k.d ∧ 0 < k.lo - (n - (k.d - k.v)) ∧ doneV k n = k.lo - (n - (k.d - k.v))) := by
  unfold doneV
  split <;> omega
/-- High mode: from a period's first tick on, as long as less and less was done. -/
theorem high_rises {k : Tk} (h : okTk k = true) (hh : k.hi = true) {t : Int} (ht : 1 ≤ t) : highAt k (t - 1) ≤ highAt k t ∧
    (highAt k t ≠ highAt k (t - 1) ↔ (fromT k true ≤ t % k.t ∧ t % k.t ≤ toT k true) ∨ (t % k.t = 0 ∧ toT k true = k.t)) := by
  obtain ⟨a1, a2, a3, a4, a5, a6, a7, a8⟩ := okTk_t h
  have hT : 1 ≤ k.t := by omega
  rw [highAt_begun h hh (show 0 ≤ t by omega), highAt_begun h hh (show 0 ≤ t - 1 by omega), stepsTo_before (t := t) hT, doneAt_eq, doneAt_eq, mod_before hT]
  have m := mod_is (t := t) (g := k.d - k.v) (T := k.t) (by omega) (by omega)
  have hr := le_self_mod (show 0 ≤ t by omega) hT
  have r0 := Int.emod_nonneg t (show k.t ≠ 0 by omega)
  have r1 := Int.emod_lt_of_pos t (show 0 < k.t by omega)
  have hc : (k.d - k.v ≤ t ∧ (t - (k.d - k.v)) % k.t = 0) ↔ t % k.t = k.d - k.v := ⟨fun x => m.1 x.2, fun x => ⟨by omega, m.2 x⟩⟩
  generalize stepsTo (k.d - k.v) k.t (t - 1) = q
  unfold fromT toT
  simp only [if_true]
  by_cases hg : t % k.t = k.d - k.v
  · rw [if_pos (hc.2 hg), Int.mul_add, Int.mul_one]
    generalize k.top * q = x
    generalize t % k.t = r at *
    clear hc m
    have c1 := doneV_cases k r
    by_cases e1 : r = 0
    · rw [if_pos e1]
      have c2 := doneV_cases k (k.t - 1)
      generalize doneV k r = y at *
      generalize doneV k (k.t - 1) = z at *
      by_cases e2 : k.top = k.lo
      · rw [if_pos e2]; omega
      · rw [if_neg e2]; omega
    · rw [if_neg e1]
      have c2 := doneV_cases k (r - 1)
      generalize doneV k r = y at *
      generalize doneV k (r - 1) = z at *
      by_cases e2 : k.top = k.lo
      · rw [if_pos e2]; omega
      · rw [if_neg e2]; omega
  · rw [if_neg (fun x => hg (hc.1 x)), Int.add_zero]
    generalize k.top * q = x
    generalize t % k.t = r at *
    clear hc m
    have c1 := doneV_cases k r
    by_cases e1 : r = 0
    · rw [if_pos e1]
      have c2 := doneV_cases k (k.t - 1)
      generalize doneV k r = y at *
      generalize doneV k (k.t - 1) = z at *
      by_cases e2 : k.top = k.lo
      · rw [if_pos e2]; omega
      · rw [if_neg e2]; omega
    · rw [if_neg e1]
      have c2 := doneV_cases k (r - 1)
      generalize doneV k r = y at *
      generalize doneV k (r - 1) = z at *
      by_cases e2 : k.top = k.lo
      · rw [if_pos e2]; omega
      · rw [if_neg e2]; omega
theorem serv_rises {s : Sv} (h : okSv s = true) {t : Int} (ht : 1 ≤ t) : servAt s (t - 1) ≤ servAt s t ∧ (servAt s t ≠ servAt s (t - 1) ↔ (s.re = true ∧ t = s.t) ∨ (firstS s ≤ t ∧ (t - firstS s) % s.t = 0)) := by
  obtain ⟨a1, a2, a3⟩ := okSv_t h
  have hT : 1 ≤ s.t := by omega
  refine ⟨servAt_mono h (by omega) (by omega), ?_⟩
  unfold servAt firstS
  cases hr : s.re with
  | true =>
    simp only [if_true, true_and]
    by_cases h1 : t < s.t
    · rw [if_pos h1, if_pos (by omega)]
      exact ⟨fun x => absurd rfl x, fun x => by omega⟩
    · rw [if_neg h1]
      by_cases h2 : t = s.t
      · rw [if_pos (by omega)]
        have e0 : (t - 1) / s.t = 0 := Int.ediv_eq_zero_of_lt (by omega) (by omega)
        rw [e0]
        exact ⟨fun _ => .inl h2, fun _ => by omega⟩
      · rw [if_neg (by omega)]
        have e := div_before (x := t - 1) hT
        have m1 := sub_self_mod (t := t - 1) (T := s.t)
        rw [show t - 1 - s.t = t - (s.t + 1) by omega] at m1
        rw [m1]
        by_cases h3 : (t - 1) % s.t = 0
        · rw [if_pos h3] at e
          rw [e, Int.mul_add, Int.mul_add]
          exact ⟨fun _ => .inr ⟨by omega, h3⟩, fun _ => by omega⟩
        · rw [if_neg h3, Int.add_zero] at e
          rw [e]
          exact ⟨fun x => absurd rfl x, fun x => by omega⟩
  | false =>
    simp only [Bool.false_eq_true, if_false, false_and, false_or]
    have e := div_before (x := t) hT
    rw [sub_self_mod]
    by_cases h3 : t % s.t = 0
    · rw [if_pos h3] at e
      have hle : s.t ≤ t := by
        have e2 := Int.mul_ediv_add_emod t s.t
        rcases Int.lt_or_le t s.t with h4 | h4
        · rw [Int.emod_eq_of_lt (by omega) h4] at h3; omega
        · exact h4
      rw [e, Int.mul_add, Int.mul_one]
      exact ⟨fun _ => ⟨hle, h3⟩, fun _ => by omega⟩
    · rw [if_neg h3, Int.add_zero] at e
      rw [e]
      exact ⟨fun x => absurd rfl x, fun x => absurd x.2 h3⟩
theorem fold_from : ∀ (l : List Int) (a : Int), l.foldl (fun a b => a + b) a = a + l.foldl (fun a b => a + b) 0
  | [], a => by simp
  | x :: l, a => by
    rw [List.foldl_cons, List.foldl_cons, fold_from l (a + x), fold_from l (0 + x)]
    omega
theorem sumI_cons (x : Int) (l : List Int) : sumI (x :: l) = x + sumI l := by
  unfold sumI
  rw [List.foldl_cons, fold_from]
  omega
theorem sum_rises {α : Type} (f g : α → Int) : ∀ (l : List α), (∀ x ∈ l, g x ≤ f x) → sumI (l.map g) ≤ sumI (l.map f) ∧ (sumI (l.map f) ≠ sumI (l.map g) ↔ ∃ x ∈ l, f x ≠ g x)
  | [], _ => by simp [sumI]
  | y :: l, hl => by
    obtain ⟨h1, h2⟩ := sum_rises f g l fun x hx => hl x (by simp [hx])
    have hy := hl y (by simp)
    rw [List.map_cons, List.map_cons, sumI_cons, sumI_cons]
    refine ⟨by omega, ?_⟩
    constructor
    · intro hne
      by_cases e : f y = g y
      · obtain ⟨x, hx, hxe⟩ := h2.1 (by omega)
        exact ⟨x, by simp [hx], hxe⟩
      · exact ⟨y, by simp, e⟩
    · rintro ⟨x, hx, hxe⟩
      rcases List.mem_cons.1 hx with rfl | hx
      · omega
      · have := h2.2 ⟨x, hx, hxe⟩
        omega
/-- A task's marks hit where its demand rises. -/
theorem task_rises (high : Bool) (k : Tk) {t : Nat} (h1 : 1 ≤ t) (h2 : t ≤ 65536) : ofV k ((t : Int) - 1) high ≤ ofV k t high ∧
    (ofV k t high ≠ ofV k ((t : Int) - 1) high ↔ ∃ p < 1001, ∃ i < p + 2, mTk high k p i = true ∧ hitB i p t = true) := by
  have c1 : cutT (t : Int) = t := cutT_of (by omega) (by omega)
  have c2 : cutT ((t : Int) - 1) = (t : Int) - 1 := cutT_of (by omega) (by omega)
  cases hc : countsB k high with
  | false =>
    rw [ofV_no' hc, ofV_no' hc]
    refine ⟨by omega, fun x => absurd rfl x, ?_⟩
    rintro ⟨p, _, i, _, hm, _⟩
    unfold mTk at hm
    rw [hc] at hm
    cases hm
  | true =>
    have hok : okTk k = true := by unfold countsB at hc; simp at hc; exact hc.1
    obtain ⟨a1, a2, a3, a4, a5, a6, a7, a8⟩ := okTk_t hok
    have hm : ∀ p i, mTk high k p i = true ↔ ((p : Int) = k.t ∧ fromT k high ≤ (i : Int) ∧ (i : Int) ≤ toT k high) := fun p i => by
      unfold mTk; rw [hc]; simp
    have r0 := Int.emod_nonneg (t : Int) (show k.t ≠ 0 by omega)
    have r1 := Int.emod_lt_of_pos (t : Int) (show 0 < k.t by omega)
    have hle := le_self_mod (t := (t : Int)) (T := k.t) (by omega) (by omega)
    -- marks, by what is left of t by T
    have key : (∃ p < 1001, ∃ i < p + 2, mTk high k p i = true ∧ hitB i p t = true) ↔ ∃ i : Int, 0 ≤ i ∧ i ≤ k.t ∧ fromT k high ≤ i ∧ i ≤ toT k high ∧ i ≤ t ∧ ((t : Int) - i) % k.t = 0 := by
      have hto : toT k high ≤ k.t := by unfold toT; split <;> omega
      constructor
      · rintro ⟨p, hp, i, hi, hmm, hh⟩
        obtain ⟨e1, e2, e3⟩ := (hm p i).1 hmm
        obtain ⟨e4, e5⟩ := hitB_iff.1 hh
        rw [e1] at e5
        exact ⟨i, by omega, by omega, e2, e3, by omega, e5⟩
      · rintro ⟨i, i0, i1, e2, e3, e4, e5⟩
        obtain ⟨j, rfl⟩ := Int.eq_ofNat_of_zero_le i0
        refine ⟨k.t.toNat, by omega, j, by omega, (hm _ _).2 ⟨by omega, e2, e3⟩, hitB_iff.2 ⟨by omega, ?_⟩⟩
        rw [show ((k.t.toNat : Nat) : Int) = k.t by omega]
        exact e5
    rw [key]
    cases high with
    | false =>
      have v1 : ofV k t false = lowAt k t := by unfold ofV; rw [if_pos hok, c1]; simp
      have v2 : ofV k ((t : Int) - 1) false = lowAt k ((t : Int) - 1) := by unfold ofV; rw [if_pos hok, c2]; simp
      rw [v1, v2]
      obtain ⟨l1, l2⟩ := low_rises hok (t : Int)
      refine ⟨l1, l2.trans ?_⟩
      unfold fromT toT
      simp only [Bool.false_eq_true, if_false]
      constructor
      · rintro ⟨e1, e2⟩
        exact ⟨k.v, by omega, by omega, by omega, by omega, e1, e2⟩
      · rintro ⟨i, _, _, e1, e2, e3, e4⟩
        obtain rfl : i = k.v := by omega
        exact ⟨e3, e4⟩
    | true =>
      have hh : k.hi = true := by unfold countsB at hc; simp at hc; exact hc.2
      have v1 : ofV k t true = highAt k t := by unfold ofV; rw [if_pos hok, c1]; simp
      have v2 : ofV k ((t : Int) - 1) true = highAt k ((t : Int) - 1) := by unfold ofV; rw [if_pos hok, c2]; simp
      rw [v1, v2]
      obtain ⟨l1, l2⟩ := high_rises hok hh (t := (t : Int)) (by omega)
      refine ⟨l1, l2.trans ?_⟩
      have f0 : 0 ≤ fromT k true := by unfold fromT; simp only [if_true]; split <;> omega
      have hto : toT k true ≤ k.t := by unfold toT; simp only [if_true]; omega
      have ft : fromT k true ≤ toT k true := by unfold fromT toT; simp only [if_true]; split <;> omega
      have hfrom : fromT k true ≤ k.t := by omega
      constructor
      · rintro (⟨e1, e2⟩ | ⟨e1, e2⟩)
        · refine ⟨(t : Int) % k.t, r0, by omega, e1, e2, hle, ?_⟩
          exact (mod_is r0 r1).2 rfl
        · have htT : k.t ≤ (t : Int) := by
            rcases Int.lt_or_le (t : Int) k.t with h4 | h4
            · rw [Int.emod_eq_of_lt (by omega) h4] at e1; omega
            · exact h4
          exact ⟨k.t, by omega, by omega, hfrom, by omega, htT, by rw [sub_self_mod]; exact e1⟩
      · rintro ⟨i, i0, i1, e2, e3, e4, e5⟩
        by_cases hi : i = k.t
        · subst hi
          rw [sub_self_mod] at e5
          exact .inr ⟨e5, by omega⟩
        · have := (mod_is i0 (by omega)).1 e5
          exact .inl ⟨by omega, by omega⟩
/-- A server's marks hit where its demand rises. -/
theorem server_rises (s : Sv) {t : Nat} (h1 : 1 ≤ t) (h2 : t ≤ 65536) : servV s ((t : Int) - 1) ≤ servV s t ∧
    (servV s t ≠ servV s ((t : Int) - 1) ↔ (∃ i < 1001, oSv false s i = true ∧ hitB i 65536 t = true) ∨ ∃ p < 1001, ∃ i < p + 2, mSv false s p i = true ∧ hitB i p t = true) := by
  have c1 : cutT (t : Int) = t := cutT_of (by omega) (by omega)
  have c2 : cutT ((t : Int) - 1) = (t : Int) - 1 := cutT_of (by omega) (by omega)
  cases hc : okSv s with
  | false =>
    rw [servV_no' hc, servV_no' hc]
    refine ⟨by omega, fun x => absurd rfl x, ?_⟩
    rintro (⟨i, _, hm, _⟩ | ⟨p, _, i, _, hm, _⟩)
    · unfold oSv at hm; rw [hc] at hm; cases hm
    · unfold mSv at hm; rw [hc] at hm; cases hm
  | true =>
    obtain ⟨a1, a2, a3⟩ := okSv_t hc
    have hm : ∀ p i, mSv false s p i = true ↔ ((p : Int) = s.t ∧ (i : Int) = firstS s) := fun p i => by unfold mSv; rw [hc]; simp
    have ho : ∀ i, oSv false s i = true ↔ (s.re = true ∧ (i : Int) = s.t) := fun i => by unfold oSv; rw [hc]; simp
    have v1 : servV s t = servAt s t := by unfold servV; rw [if_pos hc, c1]
    have v2 : servV s ((t : Int) - 1) = servAt s ((t : Int) - 1) := by unfold servV; rw [if_pos hc, c2]
    rw [v1, v2]
    obtain ⟨l1, l2⟩ := serv_rises hc (t := (t : Int)) (by omega)
    refine ⟨l1, l2.trans ?_⟩
    have f0 : 1 ≤ firstS s ∧ firstS s ≤ s.t + 1 := by unfold firstS; split <;> omega
    constructor
    · rintro (⟨e1, e2⟩ | ⟨e1, e2⟩)
      · refine .inl ⟨t, by omega, (ho t).2 ⟨e1, e2⟩, hitB_iff.2 ⟨Nat.le_refl _, ?_⟩⟩
        rw [Int.sub_self]; rfl
      · refine .inr ⟨s.t.toNat, by omega, (firstS s).toNat, by omega, (hm _ _).2 ⟨by omega, by omega⟩, hitB_iff.2 ⟨by omega, ?_⟩⟩
        rw [show ((s.t.toNat : Nat) : Int) = s.t by omega, show (((firstS s).toNat : Nat) : Int) = firstS s by omega]
        exact e2
    · rintro (⟨i, hi, e1, e2⟩ | ⟨p, hp, i, hi, e1, e2⟩)
      · obtain ⟨e3, e4⟩ := (ho i).1 e1
        obtain ⟨e5, e6⟩ := hitB_iff.1 e2
        refine .inl ⟨e3, ?_⟩
        rw [Int.emod_eq_of_lt (by omega) (by omega)] at e6
        omega
      · obtain ⟨e3, e4⟩ := (hm p i).1 e1
        obtain ⟨e5, e6⟩ := hitB_iff.1 e2
        rw [e3, e4] at e6
        exact .inr ⟨by omega, e6⟩
/-- All marks together hit where the demand is another one than that of a tick less. -/
theorem met_is (a : Pt) (high : Bool) {t : Nat} (h1 : 1 ≤ t) (h2 : t ≤ 65536) : metE (onceV a high) (againV a high) t = (demV a t high != demV a ((t : Int) - 1) high) := by
  have ht := sum_rises (fun k => ofV k (t : Int) high) (fun k => ofV k ((t : Int) - 1) high) a.ts fun k _ => (task_rises high k h1 h2).1
  have hs := sum_rises (fun s => servV s (t : Int)) (fun s => servV s ((t : Int) - 1)) a.ss fun s _ => (server_rises s h1 h2).1
  have key : metE (onceV a high) (againV a high) t = true ↔ (∃ k ∈ a.ts, ∃ p < 1001, ∃ i < p + 2, mTk high k p i = true ∧ hitB i p t = true) ∨ (∃ s ∈ a.ss, (∃ i < 1001, oSv high s i = true ∧ hitB i 65536 t = true) ∨ ∃ p < 1001, ∃ i < p + 2, mSv high s p i = true ∧ hitB i p t = true) := by
    unfold metE onceV againV
    simp only [Bool.or_eq_true, List.any_eq_true, List.mem_range, Bool.and_eq_true]
    constructor
    · rintro (⟨i, hi, ⟨s, hs, e1⟩, e2⟩ | ⟨p, hp, i, hi, (⟨k, hk, e1⟩ | ⟨s, hs, e1⟩), e2⟩)
      · exact .inr ⟨s, hs, .inl ⟨i, hi, e1, e2⟩⟩
      · exact .inl ⟨k, hk, p, hp, i, hi, e1, e2⟩
      · exact .inr ⟨s, hs, .inr ⟨p, hp, i, hi, e1, e2⟩⟩
    · rintro (⟨k, hk, p, hp, i, hi, e1, e2⟩ | ⟨s, hs, (⟨i, hi, e1, e2⟩ | ⟨p, hp, i, hi, e1, e2⟩)⟩)
      · exact .inr ⟨p, hp, i, hi, .inl ⟨k, hk, e1⟩, e2⟩
      · exact .inl ⟨i, hi, ⟨s, hs, e1⟩, e2⟩
      · exact .inr ⟨p, hp, i, hi, .inr ⟨s, hs, e1⟩, e2⟩
  have kt : (∃ k ∈ a.ts, ofV k (t : Int) high ≠ ofV k ((t : Int) - 1) high) ↔ ∃ k ∈ a.ts, ∃ p < 1001, ∃ i < p + 2, mTk high k p i = true ∧ hitB i p t = true :=
    ⟨fun ⟨k, hk, e⟩ => ⟨k, hk, (task_rises high k h1 h2).2.1 e⟩, fun ⟨k, hk, e⟩ => ⟨k, hk, (task_rises high k h1 h2).2.2 e⟩⟩
  rw [Bool.eq_iff_iff, key, bne_iff_ne]
  unfold demV
  cases high with
  | true =>
    simp only [if_true]
    unfold highV
    refine Iff.trans ⟨?_, .inl⟩ (kt.symm.trans ht.2.symm)
    rintro (h | ⟨s, _, (⟨i, _, e, _⟩ | ⟨p, _, i, _, e, _⟩)⟩)
    · exact h
    · unfold oSv at e; simp at e
    · unfold mSv at e; simp at e
  | false =>
    simp only [Bool.false_eq_true, if_false]
    unfold lowV
    have ks : (∃ s ∈ a.ss, servV s (t : Int) ≠ servV s ((t : Int) - 1)) ↔ ∃ s ∈ a.ss, (∃ i < 1001, oSv false s i = true ∧ hitB i 65536 t = true) ∨ ∃ p < 1001, ∃ i < p + 2, mSv false s p i = true ∧ hitB i p t = true :=
      ⟨fun ⟨k, hk, e⟩ => ⟨k, hk, (server_rises k h1 h2).2.1 e⟩, fun ⟨k, hk, e⟩ => ⟨k, hk, (server_rises k h1 h2).2.2 e⟩⟩
    rw [← kt, ← ks, ← ht.2, ← hs.2]
    have m1 := ht.1; have m2 := hs.1
    omega
end Go.Proofs.Ytdbbdlobahalkaa
