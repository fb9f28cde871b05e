/- How far one must look: no program in it. -/
import Derived.Test.YtdbbdlobahalkaaDemandM
import Derived.Test.YtdbbdlobahalkaaPlain
namespace Go.Proofs.Ytdbbdlobahalkaa
set_option linter.unusedVariables false

def periodsV (p : Pt) : List Int := (p.ts.filter okTk).map (·.t) ++ (p.ss.filter okSv).map (·.t)
def hyperV (F : Int) (p : Pt) : Int := lcmV 65536 (F :: periodsV p)
def hyperOk (F : Int) (p : Pt) : Bool := lcmOk 65536 (F :: periodsV p)
def mostI (a : Int) (l : List Int) : Int := l.foldl max a
def farV (p : Pt) : Int := mostI (mostI 1 ((p.ts.filter okTk).map (·.d))) ((p.ss.filter okSv).map (·.t))
def boundOk (F : Int) (p : Pt) : Bool := hyperOk F p && decide (hyperV F p + farV p ≤ 65536)
def boundV (F : Int) (p : Pt) : Int := if boundOk F p then hyperV F p + farV p else 0
theorem mostI_le : ∀ (l : List Int) (a : Int), a ≤ mostI a l ∧ ∀ x ∈ l, x ≤ mostI a l
  | [], a => ⟨Int.le_refl _, by simp⟩
  | y :: l, a => by
    obtain ⟨h1, h2⟩ := mostI_le l (max a y)
    have e : mostI a (y :: l) = mostI (max a y) l := rfl
    rw [e]
    refine ⟨by omega, fun x hx => ?_⟩
    rcases List.mem_cons.1 hx with rfl | hx
    · omega
    · exact h2 x hx
theorem mostI_bd {B : Int} : ∀ (l : List Int) (a : Int), a ≤ B → (∀ x ∈ l, x ≤ B) → mostI a l ≤ B
  | [], a, h, _ => h
  | y :: l, a, h, k => by
    have e : mostI a (y :: l) = mostI (max a y) l := rfl
    rw [e]
    exact mostI_bd l _ (by have := k y (by simp); omega) fun x hx => k x (by simp [hx])
theorem mostI_snoc (l : List Int) (a y : Int) : mostI a (l ++ [y]) = max (mostI a l) y := by simp [mostI]
theorem farV_bd (p : Pt) : 1 ≤ farV p ∧ farV p ≤ 1000 := by
  unfold farV
  constructor
  · exact Int.le_trans (mostI_le _ 1).1 (mostI_le _ _).1
  · refine mostI_bd _ _ (mostI_bd _ _ (by omega) fun x hx => ?_) fun x hx => ?_
    · obtain ⟨k, hk, rfl⟩ := List.mem_map.1 hx
      have := okTk_t (List.mem_filter.1 hk).2
      omega
    · obtain ⟨s, hs, rfl⟩ := List.mem_map.1 hx
      have := okSv_t (List.mem_filter.1 hs).2
      omega
theorem far_task {p : Pt} {k : Tk} (hk : k ∈ p.ts) (h : okTk k = true) : k.d ≤ farV p :=
  Int.le_trans ((mostI_le _ 1).2 _ (List.mem_map.2 ⟨k, List.mem_filter.2 ⟨hk, h⟩, rfl⟩)) (mostI_le _ _).1
theorem far_serv {p : Pt} {s : Sv} (hs : s ∈ p.ss) (h : okSv s = true) : s.t ≤ farV p :=
  (mostI_le _ _).2 _ (List.mem_map.2 ⟨s, List.mem_filter.2 ⟨hs, h⟩, rfl⟩)
theorem lcm_ok' {most : Int} {l : List Int} (h : lcmOk most l = true) : ∃ n, lcmRun 1 l = some n ∧ n ≤ most ∧ lcmV most l = n := by
  cases e : lcmRun 1 l with
  | none => rw [(lcm_end_none e).2] at h; cases h
  | some n =>
    by_cases k : most < n
    · rw [(lcm_end_over e k).2] at h; cases h
    · exact ⟨n, rfl, by omega, (lcm_end_in e k).1⟩
theorem hyper_ok {F : Int} {p : Pt} (h : hyperOk F p = true) : 1 ≤ hyperV F p ∧ hyperV F p ≤ 65536 ∧ (1 ≤ F ∧ F ∣ hyperV F p) ∧ (∀ k ∈ p.ts, okTk k = true → k.t ∣ hyperV F p) ∧ ∀ s ∈ p.ss, okSv s = true → s.t ∣ hyperV F p := by
  obtain ⟨n, h1, h2, h3⟩ := lcm_ok' h
  obtain ⟨g1, g2, g3, g4⟩ := lcmRun_all _ 1 n (by omega) (by omega) h1
  have e : hyperV F p = n := h3
  rw [e]
  refine ⟨g1, h2, g4 F (by simp), fun k hk ho => (g4 _ ?_).2, fun s hs ho => (g4 _ ?_).2⟩
  · exact List.mem_cons_of_mem _ (List.mem_append.2 (.inl (List.mem_map.2 ⟨k, List.mem_filter.2 ⟨hk, ho⟩, rfl⟩)))
  · exact List.mem_cons_of_mem _ (List.mem_append.2 (.inr (List.mem_map.2 ⟨s, List.mem_filter.2 ⟨hs, ho⟩, rfl⟩)))
theorem hyper_no {F : Int} {p : Pt} (h : hyperOk F p = false) : hyperV F p = 0 := by
  unfold hyperOk at h
  unfold hyperV
  cases e : lcmRun 1 (F :: periodsV p) with
  | none => exact (lcm_end_none e).1
  | some n =>
    by_cases k : 65536 < n
    · exact (lcm_end_over e k).1
    · rw [(lcm_end_in e k).2] at h; cases h
/-- What a round more brings. -/
def rateTk (n : Int) (high : Bool) (k : Tk) : Int := if okTk k = false ∨ (high = true ∧ k.hi = false) then 0 else n / k.t * (if high then k.top else k.lo)
def rateSv (n : Int) (s : Sv) : Int := if okSv s = false then 0 else n / s.t * s.c
def rateV (n : Int) (p : Pt) (high : Bool) : Int := sumI (p.ts.map (rateTk (cutT n) high)) + (if high then 0 else sumI (p.ss.map (rateSv (cutT n))))
theorem times {g : Int → Int} {T c a : Int} (h : ∀ t, a ≤ t → g (t + T) = g t + c) (hT : 0 ≤ T) : ∀ (m : Nat) (t : Int), a ≤ t → g (t + m * T) = g t + m * c
  | 0, t, ht => by simp
  | m + 1, t, ht => by
    have h0 : 0 ≤ (m : Int) * T := Int.mul_nonneg (by omega) hT
    have h1 := times h hT m t ht
    have h2 := h (t + m * T) (by omega)
    rw [show (((m + 1 : Nat) : Int)) * T = m * T + T by rw [Int.natCast_add, Int.add_mul]; simp, ← Int.add_assoc, h2, h1, show (((m + 1 : Nat) : Int)) * c = m * c + c by rw [Int.natCast_add, Int.add_mul]; simp]
    omega
theorem rounds {g : Int → Int} {T c a h : Int} (hg : ∀ t, a ≤ t → g (t + T) = g t + c) (hT : 1 ≤ T) (hh : 0 ≤ h) (hd : T ∣ h) (t : Int) (ht : a ≤ t) : g (t + h) = g t + h / T * c := by
  obtain ⟨q, rfl⟩ := hd
  have hq : 0 ≤ q := by
    rcases Int.lt_or_le q 0 with g | g
    · have := Int.mul_neg_of_pos_of_neg (show 0 < T by omega) g; omega
    · exact g
  have e : T * q / T = q := Int.mul_ediv_cancel_left _ (by omega)
  rw [e]
  have := times hg (by omega) q.toNat t ht
  rw [Int.toNat_of_nonneg hq] at this
  rw [Int.mul_comm T q, this]
theorem sum_more {α : Type} {f g r : α → Int} : ∀ (l : List α), (∀ x ∈ l, f x = g x + r x) → sumI (l.map f) = sumI (l.map g) + sumI (l.map r) := by
  intro l
  have key : ∀ (n : Nat) (l : List α), l.length = n → (∀ x ∈ l, f x = g x + r x) → sumI (l.map f) = sumI (l.map g) + sumI (l.map r) := by
    intro n
    induction n with
    | zero => intro l hl _; rw [List.eq_nil_of_length_eq_zero hl]; rfl
    | succ n ih =>
      intro l hl h
      have hne : l ≠ [] := by intro e; subst e; cases hl
      obtain ⟨ys, y, rfl⟩ : ∃ ys y, l = ys ++ [y] := ⟨l.dropLast, l.getLast hne, (List.dropLast_concat_getLast hne).symm⟩
      have h1 := ih ys (by simpa using hl) fun x hx => h x (by simp [hx])
      have h2 := h y (by simp)
      simp only [List.map_append, List.map_cons, List.map_nil, sumI_snoc]
      omega
  exact key _ l rfl
theorem low_round {p : Pt} {h t : Int} (h0 : 0 ≤ h) (ht : farV p ≤ t) (hb : t + h ≤ 1099511627776) (d1 : ∀ k ∈ p.ts, okTk k = true → k.t ∣ h) (d2 : ∀ s ∈ p.ss, okSv s = true → s.t ∣ h) : lowV p (t + h) = lowV p t + rateV h p false := by
  have hf := farV_bd p
  have c1 : cutT (t + h) = t + h := cutT_of (by omega) hb
  have c2 : cutT t = t := cutT_of (by omega) (by omega)
  have c3 : cutT h = h := cutT_of h0 (by omega)
  unfold lowV rateV
  rw [c3]
  rw [sum_more (g := fun k => ofV k t false) (r := rateTk h false) p.ts fun k hk => ?_, sum_more (g := fun s => servV s t) (r := rateSv h) p.ss fun s hs => ?_]
  · simp only [Bool.false_eq_true, if_false]; omega
  · unfold servV rateSv
    rw [c1, c2]
    cases ho : okSv s with
    | false => simp
    | true =>
      have q := okSv_t ho
      have := rounds (g := servAt s) (T := s.t) (c := s.c) (a := s.t) (fun u hu => servAt_period ho hu) (by omega) h0 (d2 s hs ho) t (Int.le_trans (far_serv hs ho) ht)
      simpa using this
  · unfold ofV rateTk
    rw [c1, c2]
    cases ho : okTk k with
    | false => simp
    | true =>
      have q := okTk_t ho
      have := rounds (g := lowAt k) (T := k.t) (c := k.lo) (a := k.v) (fun u hu => lowAt_period ho hu) (by omega) h0 (d1 k hk ho) t (by have := far_task hk ho; omega)
      simpa using this
theorem high_round {p : Pt} {h t : Int} (h0 : 0 ≤ h) (ht : farV p ≤ t) (hb : t + h ≤ 1099511627776) (d1 : ∀ k ∈ p.ts, okTk k = true → k.t ∣ h) : highV p (t + h) = highV p t + rateV h p true := by
  have hf := farV_bd p
  have c1 : cutT (t + h) = t + h := cutT_of (by omega) hb
  have c2 : cutT t = t := cutT_of (by omega) (by omega)
  have c3 : cutT h = h := cutT_of h0 (by omega)
  unfold highV rateV
  rw [c3]
  rw [sum_more (g := fun k => ofV k t true) (r := rateTk h true) p.ts fun k hk => ?_]
  · simp
  · unfold ofV rateTk
    rw [c1, c2]
    cases ho : okTk k with
    | false => simp
    | true =>
      have q := okTk_t ho
      cases hh : k.hi with
      | false => simp [highAt, hh]
      | true =>
        have := rounds (g := highAt k) (T := k.t) (c := k.top) (a := k.d - k.v) (fun u hu => highAt_period ho hu hh) (by omega) h0 (d1 k hk ho) t (by have := far_task hk ho; omega)
        simpa using this
end Go.Proofs.Ytdbbdlobahalkaa
