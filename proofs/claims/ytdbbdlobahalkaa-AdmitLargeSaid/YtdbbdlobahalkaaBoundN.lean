/- Bounds: what is gathered of a list; the round, in whatever order its periods come; of all partitions: no program in it. -/
import Derived.Test.YtdbbdlobahalkaaBoundM
namespace Go.Proofs.Ytdbbdlobahalkaa
set_option linter.unusedVariables false

/-- What g tells of those of the first k that c takes. -/
def gath {α : Type} (c : α → Bool) (g : α → Int) (xs : List α) (k : Nat) : List Int := ((xs.take k).filter c).map g
theorem gath_zero {α : Type} (c : α → Bool) (g : α → Int) (xs : List α) : gath c g xs 0 = [] := rfl
theorem gath_yes {α : Type} {c : α → Bool} {g : α → Int} {xs : List α} {k : Nat} {x : α} (h : xs[k]? = some x) (hc : c x = true) : gath c g xs (k + 1) = gath c g xs k ++ [g x] := by
  unfold gath; rw [List.take_add_one, h]; simp [List.filter_append, hc]
theorem gath_no {α : Type} {c : α → Bool} {g : α → Int} {xs : List α} {k : Nat} {x : α} (h : xs[k]? = some x) (hc : c x = false) : gath c g xs (k + 1) = gath c g xs k := by
  unfold gath; rw [List.take_add_one, h]; simp [List.filter_append, hc]
theorem gath_end {α : Type} {c : α → Bool} {g : α → Int} {xs : List α} {k : Nat} (h : xs.length ≤ k) : gath c g xs k = (xs.filter c).map g := by
  unfold gath; rw [List.take_of_length_le h]
theorem gath_len {α : Type} (c : α → Bool) (g : α → Int) (xs : List α) (k : Nat) : (gath c g xs k).length ≤ k := by
  unfold gath
  rw [List.length_map]
  exact Nat.le_trans (List.length_filter_le _ _) (by rw [List.length_take]; omega)

theorem lcmNext_nat {acc n : Int} (h : 1 ≤ acc) (k : 1 ≤ n) : lcmNext acc n = ((Nat.lcm acc.toNat n.toNat : Nat) : Int) := by
  obtain ⟨a, rfl⟩ := Int.eq_ofNat_of_zero_le (show 0 ≤ acc by omega)
  obtain ⟨b, rfl⟩ := Int.eq_ofNat_of_zero_le (show 0 ≤ n by omega)
  unfold lcmNext
  rw [gcdI_pos (by omega) (by omega)]
  simp only [Int.toNat_natCast]
  rw [← Int.natCast_ediv, ← Int.natCast_mul]
  congr 1
  exact Nat.div_mul_right_comm (Nat.gcd_dvd_left a b) b
theorem lcmNext_least {acc n M : Int} (h : 1 ≤ acc) (k : 1 ≤ n) (hM : 1 ≤ M) (d1 : acc ∣ M) (d2 : n ∣ M) : lcmNext acc n ∣ M := by
  rw [lcmNext_nat h k]
  obtain ⟨a, rfl⟩ := Int.eq_ofNat_of_zero_le (show 0 ≤ acc by omega)
  obtain ⟨b, rfl⟩ := Int.eq_ofNat_of_zero_le (show 0 ≤ n by omega)
  obtain ⟨m, rfl⟩ := Int.eq_ofNat_of_zero_le (show 0 ≤ M by omega)
  simp only [Int.toNat_natCast]
  exact Int.natCast_dvd_natCast.2 (Nat.lcm_dvd (Int.natCast_dvd_natCast.1 d1) (Int.natCast_dvd_natCast.1 d2))
theorem fits_of_le {acc n : Int} (h : 1 ≤ acc) (k : 1 ≤ n) (hb : lcmNext acc n ≤ 4611686018427387904) : mulFits (acc / gcdI acc n) n = true := by
  obtain ⟨q1, q2⟩ := quo_one h k
  have e : acc / gcdI acc n * n = lcmNext acc n := rfl
  have m1 := Int.mul_le_mul_of_nonneg_left k (show 0 ≤ acc / gcdI acc n by omega)
  have m2 := Int.mul_le_mul_of_nonneg_right q1 (show 0 ≤ n by omega)
  rw [Int.mul_one, e] at m1
  rw [Int.one_mul, e] at m2
  exact mulFits_t (by unfold fitB; simp; omega) (by unfold fitB; simp; omega) (by rw [e]; exact hb)
theorem lcm_swap {acc n : Int} (h : 1 ≤ acc) (k : 1 ≤ n) : acc * (n / gcdI acc n) = lcmNext acc n := by
  obtain ⟨d1, d2⟩ := gcdI_dvd (show 0 ≤ acc by omega) (show 0 ≤ n by omega)
  have e1 := Int.ediv_mul_cancel d1
  have e2 := Int.ediv_mul_cancel d2
  have e3 : lcmNext acc n = acc / gcdI acc n * (n / gcdI acc n * gcdI acc n) := by rw [e2]; rfl
  rw [e3]
  conv => lhs; lhs; rw [← e1]
  rw [Int.mul_assoc, Int.mul_comm (gcdI acc n)]
theorem quo_two {acc n : Int} (h : 1 ≤ acc) (k : 1 ≤ n) : 1 ≤ n / gcdI acc n ∧ n / gcdI acc n ≤ n := by
  obtain ⟨g1, g2, g3⟩ := gcdI_one h k
  exact ⟨(Int.le_ediv_iff_mul_le (by omega)).2 (by omega), (div_bd g1 (by omega)).2⟩
theorem fits_swap {acc n : Int} (h : 1 ≤ acc) (k : 1 ≤ n) (ha : acc ≤ 4611686018427387904) : mulFits acc (n / gcdI acc n) = mulFits (acc / gcdI acc n) n := by
  by_cases hb : lcmNext acc n ≤ 4611686018427387904
  · rw [fits_of_le h k hb]
    have e := lcm_swap h k
    obtain ⟨q1, q2⟩ := quo_two h k
    have m2 := Int.mul_le_mul_of_nonneg_right h (show 0 ≤ n / gcdI acc n by omega)
    rw [Int.one_mul, e] at m2
    exact mulFits_t (by unfold fitB; simp; omega) (by unfold fitB; simp; omega) (by rw [e]; exact hb)
  · rw [mulFits_f (.inr (.inr (by rw [lcm_swap h k]; omega))), mulFits_f (.inr (.inr (show _ < lcmNext acc n by omega)))]
theorem lcm_end_past {most m : Int} {l r : List Int} (h : lcmRun 1 l = lcmRun m r) (h1 : 1 ≤ m) (h2 : m ≤ 4611686018427387904) (k : most < m) : lcmV most l = 0 ∧ lcmOk most l = false := by
  cases e : lcmRun m r with
  | none => exact lcm_end_none (h.trans e)
  | some n =>
    obtain ⟨q1, _, q3, _⟩ := lcmRun_all r m n h1 h2 e
    exact lcm_end_over (h.trans e) (by have := Int.le_of_dvd (by omega) q3; omega)
theorem lcmRun_least : ∀ (l : List Int) (acc n M : Int), 1 ≤ acc → 1 ≤ M → acc ∣ M → (∀ x ∈ l, 1 ≤ x ∧ x ∣ M) → lcmRun acc l = some n → n ∣ M
  | [], acc, n, M, h, hM, d, _, e => by simp [lcmRun] at e; subst e; exact d
  | x :: r, acc, n, M, h, hM, d, hx, e => by
    obtain ⟨x1, x2⟩ := hx x (by simp)
    cases f : mulFits (acc / gcdI acc x) x with
    | false => rw [lcmRun_stop2 f] at e; cases e
    | true =>
      rw [lcmRun_next x1 f] at e
      exact lcmRun_least r _ n M (lcmNext_one h x1 f).1 hM (lcmNext_least h x1 hM d x2) (fun y hy => hx y (by simp [hy])) e
theorem lcmRun_some : ∀ (l : List Int) (acc M : Int), 1 ≤ acc → 1 ≤ M → M ≤ 4611686018427387904 → acc ∣ M → (∀ x ∈ l, 1 ≤ x ∧ x ∣ M) → ∃ n, lcmRun acc l = some n
  | [], acc, M, h, hM, hM2, d, _ => ⟨acc, rfl⟩
  | x :: r, acc, M, h, hM, hM2, d, hx => by
    obtain ⟨x1, x2⟩ := hx x (by simp)
    have d3 := lcmNext_least h x1 hM d x2
    have f := fits_of_le h x1 (by have := Int.le_of_dvd (by omega) d3; omega)
    obtain ⟨n, hn⟩ := lcmRun_some r _ M (lcmNext_one h x1 f).1 hM hM2 d3 (fun y hy => hx y (by simp [hy]))
    exact ⟨n, by rw [lcmRun_next x1 f, hn]⟩
theorem lcm_half {l l' : List Int} (h : ∀ x, x ∈ l ↔ x ∈ l') (ho : lcmOk 65536 l = true) : lcmOk 65536 l' = true ∧ lcmV 65536 l' = lcmV 65536 l := by
  obtain ⟨n, h1, h2, h3⟩ := lcm_ok' ho
  obtain ⟨g1, g2, g3, g4⟩ := lcmRun_all _ 1 n (by omega) (by omega) h1
  obtain ⟨n', hn'⟩ := lcmRun_some l' 1 n (by omega) g1 g2 (Int.one_dvd _) fun x hx => g4 x ((h x).2 hx)
  obtain ⟨k1, k2, k3, k4⟩ := lcmRun_all _ 1 n' (by omega) (by omega) hn'
  have d1 : n' ∣ n := lcmRun_least l' 1 n' n (by omega) g1 (Int.one_dvd _) (fun x hx => g4 x ((h x).2 hx)) hn'
  have d2 : n ∣ n' := lcmRun_least l 1 n n' (by omega) k1 (Int.one_dvd _) (fun x hx => k4 x ((h x).1 hx)) h1
  have e : n' = n := by
    have := Int.le_of_dvd (by omega) d1
    have := Int.le_of_dvd (by omega) d2
    omega
  subst e
  obtain ⟨a, b⟩ := lcm_end_in (most := 65536) hn' (by omega)
  exact ⟨b, by rw [a, h3]⟩
theorem lcm_no {most : Int} {l : List Int} (h : lcmOk most l = false) : lcmV most l = 0 := by
  cases e : lcmRun 1 l with
  | none => exact (lcm_end_none e).1
  | some n =>
    by_cases k : most < n
    · exact (lcm_end_over e k).1
    · rw [(lcm_end_in e k).2] at h; cases h
/-- The order of the periods is of no matter. -/
theorem lcm_same {l l' : List Int} (h : ∀ x, x ∈ l ↔ x ∈ l') : lcmV 65536 l = lcmV 65536 l' ∧ lcmOk 65536 l = lcmOk 65536 l' := by
  cases h1 : lcmOk 65536 l with
  | true => obtain ⟨a, b⟩ := lcm_half h h1; exact ⟨b.symm, a.symm⟩
  | false =>
    cases h2 : lcmOk 65536 l' with
    | true => obtain ⟨a, b⟩ := lcm_half (fun x => (h x).symm) h2; rw [a] at h1; cases h1
    | false => exact ⟨by rw [lcm_no h1, lcm_no h2], rfl⟩
theorem hyper_last (F : Int) (p : Pt) : lcmV 65536 (periodsV p ++ [F]) = hyperV F p ∧ lcmOk 65536 (periodsV p ++ [F]) = hyperOk F p :=
  lcm_same fun x => by simp [or_comm]
def farsV (p : Pt) : List Int := (p.ts.filter okTk).map Tk.d ++ (p.ss.filter okSv).map Sv.t
theorem fars_most (p : Pt) : mostI 1 (farsV p) = farV p := by unfold farsV farV mostI; rw [List.foldl_append]
theorem periods_in {p : Pt} {x : Int} (h : x ∈ periodsV p) : 1 ≤ x ∧ x ≤ 1000 := by
  rcases List.mem_append.1 h with h | h
  · obtain ⟨k, hk, rfl⟩ := List.mem_map.1 h
    have := okTk_t (List.mem_filter.1 hk).2
    omega
  · obtain ⟨s, hs, rfl⟩ := List.mem_map.1 h
    have := okSv_t (List.mem_filter.1 hs).2
    omega
theorem fars_in {p : Pt} {x : Int} (h : x ∈ farsV p) : 1 ≤ x ∧ x ≤ 1000 := by
  rcases List.mem_append.1 h with h | h
  · obtain ⟨k, hk, rfl⟩ := List.mem_map.1 h
    have := okTk_t (List.mem_filter.1 hk).2
    omega
  · obtain ⟨s, hs, rfl⟩ := List.mem_map.1 h
    have := okSv_t (List.mem_filter.1 hs).2
    omega
theorem hyper_bd (F : Int) (p : Pt) : 0 ≤ hyperV F p ∧ hyperV F p ≤ 65536 := by
  cases h : hyperOk F p with
  | true => have := hyper_ok h; omega
  | false => rw [hyper_no h]; omega
theorem bound_ok {F : Int} {p : Pt} (h : boundOk F p = true) : hyperOk F p = true ∧ hyperV F p + farV p ≤ 65536 ∧ boundV F p = hyperV F p + farV p := by
  have e : boundV F p = hyperV F p + farV p := by unfold boundV; rw [if_pos h]
  unfold boundOk at h
  rw [Bool.and_eq_true, decide_eq_true_eq] at h
  exact ⟨h.1, h.2, e⟩
theorem bound_no {F : Int} {p : Pt} (h : boundOk F p = false) : boundV F p = 0 ∧ (hyperOk F p = false ∨ 65536 < hyperV F p + farV p) := by
  refine ⟨by unfold boundV; rw [h]; rfl, ?_⟩
  unfold boundOk at h
  rw [Bool.and_eq_false_iff, decide_eq_false_iff_not] at h
  rcases h with h | h
  · exact .inl h
  · exact .inr (by omega)
theorem bound_bd (F : Int) (p : Pt) : 0 ≤ boundV F p ∧ boundV F p ≤ 65536 := by
  cases h : boundOk F p with
  | true => have := bound_ok h; have := hyper_bd F p; have := farV_bd p; omega
  | false => rw [(bound_no h).1]; omega
/-- Of all partitions: the first without a bound, and 0; else -1 and the greatest one. -/
def allRun (F m k : Int) : List Pt → Int × Int
  | [] => (-1, m)
  | p :: r => if boundOk F p then allRun F (max m (boundV F p)) (k + 1) r else (k, 0)
def allV (c : Cf) : Int × Int := allRun c.frame 0 0 c.ps
theorem allRun_next {F m k : Int} {p : Pt} {r : List Pt} (h : boundOk F p = true) : allRun F m k (p :: r) = allRun F (max m (boundV F p)) (k + 1) r := by simp [allRun, h]
theorem allRun_stop {F m k : Int} {p : Pt} {r : List Pt} (h : boundOk F p = false) : allRun F m k (p :: r) = (k, 0) := by simp [allRun, h]
theorem sum_gath {α : Type} {c : α → Bool} {g f : α → Int} (h1 : ∀ x, c x = true → f x = g x) (h0 : ∀ x, c x = false → f x = 0) (xs : List α) : sumI ((xs.filter c).map g) = sumI (xs.map f) := by
  have key : ∀ (n : Nat) (l : List α), l.length = n → sumI ((l.filter c).map g) = sumI (l.map f) := by
    intro n
    induction n with
    | zero => intro l hl; rw [List.eq_nil_of_length_eq_zero hl]; rfl
    | succ n ih =>
      intro l hl
      have hne : l ≠ [] := by intro e; subst e; cases hl
      obtain ⟨ys, y, rfl⟩ : ∃ ys y, l = ys ++ [y] := ⟨l.dropLast, l.getLast hne, (List.dropLast_concat_getLast hne).symm⟩
      have h2 := ih ys (by simpa using hl)
      cases hc : c y with
      | true => simp only [List.filter_append, List.map_append, List.map_cons, List.map_nil, List.filter_cons, hc, if_true, List.filter_nil, sumI_snoc, h2, h1 y hc]
      | false => simp only [List.filter_append, List.map_append, List.map_cons, List.map_nil, List.filter_cons, hc, Bool.false_eq_true, if_false, List.filter_nil, List.append_nil, sumI_snoc, h2, h0 y hc, Int.add_zero]
  exact key _ xs rfl
end Go.Proofs.Ytdbbdlobahalkaa
