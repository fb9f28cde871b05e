/- What a verdict says of slack: no program in it. -/
import Derived.Test.YtdbbdlobahalkaaAdmitV
namespace Go.Proofs.Ytdbbdlobahalkaa
open Go.ChangeShapes Go.WideShapes Go.ChangeAt Go.RowKit
set_option linter.unusedVariables false

theorem phAt_at {c : Cf} {F k : Nat} {x : Pt} (high : Bool) (hx : c.ps[k]? = some x) : phAt c F (2 * k + (if high then 1 else 0)) = phaseC c F k x high := by
  have e1 : (2 * k + (if high then 1 else 0)) / 2 = k := by cases high <;> simp <;> omega
  have e2 : ((2 * k + (if high then 1 else 0)) % 2 == 1) = high := by cases high <;> simp <;> omega
  unfold phAt
  rw [e1, e2, hx]
theorem judge_large {c : Cf} {F : Nat} (hz : (checkV c).1 = 0) (hl : 0 ≤ (allV c).1) : judgeV c F = (⟨2, (allV c).1, false, 0⟩, 0) := by unfold judgeV; rw [if_pos hz, if_pos hl]
theorem judge_wrong {c : Cf} {F : Nat} (hz : ¬ (checkV c).1 = 0) : judgeV c F = (noVd, (checkV c).1) := by unfold judgeV; rw [if_neg hz]
theorem judge_just {c : Cf} (hz : (checkV c).1 = 0) {F : Nat} (hF : c.frame = (F : Int)) (hl : ¬ 0 ≤ (allV c).1) :
    (judgeV c F).2 = 0 ∧ (((judgeV c F).1 = noVd ∧ ∀ (k : Nat) (x : Pt) (high : Bool), c.ps[k]? = some x → ∀ t : Nat, 0 ≤ slackU (isO F c.margin c.ws (k : Int)) F x high t) ∨
      ∃ (k : Nat) (x : Pt) (high : Bool) (T : Nat), (judgeV c F).1 = ⟨1, (k : Int), high, (T : Int)⟩ ∧ c.ps[k]? = some x ∧ T ≤ 4295098368 ∧ slackU (isO F c.margin c.ws (k : Int)) F x high T < 0 ∧
        (∀ t, t < T → 0 ≤ slackU (isO F c.margin c.ws (k : Int)) F x high t) ∧ ∀ (k' : Nat) (x' : Pt) (high' : Bool), c.ps[k']? = some x' → (k' < k ∨ k' = k ∧ high' = false ∧ high = true) → ∀ t : Nat, 0 ≤ slackU (isO F c.margin c.ws (k' : Int)) F x' high' t) := by
  have hbd : ∀ x ∈ c.ps, boundOk c.frame x = true := all_bounded (m := 0) (k := 0) (by decide) (by have e : allV c = allRun c.frame 0 0 c.ps := rfl; rw [← e]; omega)
  have hj : judgeV c F = (judgeRun (phAt c F) (2 * c.ps.length) 0, 0) := by unfold judgeV; rw [if_pos hz, if_neg hl]
  rw [hj]
  refine ⟨rfl, ?_⟩
  have hbr : ∀ (k : Nat) (x : Pt) (high : Bool), c.ps[k]? = some x → IsBreak (slackU (isO F c.margin c.ws (k : Int)) F x high) (phaseC c F k x high) := fun k x high hx => phaseC_is hz hF k x high (hbd x (List.mem_of_getElem? hx))
  rcases judge_says (phAt c F) (2 * c.ps.length) 0 with ⟨g1, g2⟩ | ⟨j, T, g0, g1, g2, g3, g4⟩
  · refine .inl ⟨g1, fun k x high hx t => ?_⟩
    have hk := (List.getElem?_eq_some_iff.1 hx).1
    have h := hbr k x high hx
    rw [← phAt_at high hx, g2 _ (Nat.zero_le _) (by cases high <;> simp <;> omega)] at h
    exact h t
  · have hk : j / 2 < c.ps.length := by omega
    obtain ⟨x, hx⟩ : ∃ x, c.ps[j / 2]? = some x := ⟨_, List.getElem?_eq_getElem hk⟩
    have h := hbr (j / 2) x (j % 2 == 1) hx
    have ej : phaseC c F (j / 2) x (j % 2 == 1) = some T := by unfold phAt at g2; rw [hx] at g2; exact g2
    rw [ej] at h
    refine .inr ⟨j / 2, x, j % 2 == 1, T, g4, hx, ?_, h.1, h.2, fun k' x' high' hx' hlt t => ?_⟩
    · obtain ⟨_, _, _, _, h5, _⟩ := round_of hz hF (j / 2) x (j % 2 == 1) (hbd x (List.mem_of_getElem? hx))
      exact phase_bd (fun t => slack_le _ _ _ _ _) h5 ej
    · have h' := hbr k' x' high' hx'
      have hi : 2 * k' + (if high' then 1 else 0) < j := by
        rcases hlt with e | ⟨e1, e2, e3⟩
        · cases high' <;> simp <;> omega
        · subst e2
          have : j % 2 = 1 := by simpa using e3
          simp only [Bool.false_eq_true, if_false]; omega
      rw [← phAt_at high' hx', g3 _ (Nat.zero_le _) hi] at h'
      exact h' t
theorem just_cases {c : Cf} (hz : (checkV c).1 = 0) {F : Nat} (hF : c.frame = (F : Int)) (hl : ¬ 0 ≤ (allV c).1) (p : Int) {t : Int} (high : Bool) (t0 : 0 ≤ t) (t1 : t ≤ 1099511627776) :
    (judgeV c F).2 = 0 ∧ ∃ (k0 k1 : Int) (k2 : Bool) (k3 : Int), (judgeV c F).1 = ⟨k0, k1, k2, k3⟩ ∧ k0 ≠ 2 ∧
      (((slackT c F p t high).2 = false ∧ hasB c.ps.length p = false) ∨ ((slackT c F p t high).2 = true ∧ k0 = 0 ∧ 0 ≤ (slackT c F p t high).1) ∨
        ((slackT c F p t high).2 = true ∧ k0 = 1 ∧ (slackT c F k1 k3 k2).2 = true ∧ (slackT c F k1 k3 k2).1 < 0 ∧ 0 ≤ k3 ∧ (0 ≤ (slackT c F p t high).1 ∨ (k1 < p ∨ p = k1 ∧ high = true ∧ k2 = false ∨ p = k1 ∧ high = k2 ∧ k3 ≤ t)))) := by
  obtain ⟨j2, hj⟩ := judge_just hz hF hl
  refine ⟨j2, ?_⟩
  cases hp : hasB c.ps.length p with
  | false =>
    have e := slackT_no (F := F) (t := t) (high := high) (.inr hp)
    rcases hj with ⟨g1, _⟩ | ⟨k, x, hi, T, g1, _⟩
    · exact ⟨0, 0, false, 0, g1, by decide, .inl ⟨by rw [e], rfl⟩⟩
    · exact ⟨1, k, hi, T, g1, by decide, .inl ⟨by rw [e], rfl⟩⟩
  | true =>
    obtain ⟨p0, p1⟩ := hasB_true hp
    obtain ⟨q, rfl⟩ : ∃ q : Nat, p = (q : Int) := ⟨p.toNat, by omega⟩
    have hq : q < c.ps.length := by omega
    have hx' : c.ps[q]? = some c.ps[q] := List.getElem?_eq_getElem hq
    have e := slackT_yes (F := F) (t := t) (high := high) hz hx'
    rw [cutT_of t0 t1] at e
    rcases hj with ⟨g1, g2⟩ | ⟨k, x, hi, T, g1, g2, g3, g4, g5, g6⟩
    · exact ⟨0, 0, false, 0, g1, by decide, .inr (.inl ⟨by rw [e], rfl, by rw [e]; exact g2 q _ high hx' _⟩)⟩
    · have e2 := slackT_yes (F := F) (t := (T : Int)) (high := hi) hz g2
      rw [cutT_of (by omega) (by omega), Int.toNat_natCast] at e2
      refine ⟨1, k, hi, T, g1, by decide, .inr (.inr ⟨by rw [e], rfl, by rw [e2], by rw [e2]; exact g4, by omega, ?_⟩)⟩
      by_cases hs : 0 ≤ (slackT c F (q : Int) t high).1
      · exact .inl hs
      · refine .inr ?_
        rw [e] at hs
        rcases Nat.lt_trichotomy q k with h | h | h
        · exact absurd (g6 q _ high hx' (.inl h) _) hs
        · subst h
          obtain rfl : c.ps[q] = x := by have := hx'.symm.trans g2; cases this; rfl
          by_cases hh : high = hi
          · refine .inr (.inr ⟨rfl, hh, ?_⟩)
            subst hh
            by_cases hlt : t.toNat < T
            · exact absurd (g5 _ hlt) hs
            · omega
          · refine .inr (.inl ⟨rfl, ?_⟩)
            cases high
            · cases hi
              · exact absurd rfl hh
              · exact absurd (g6 q _ false hx' (.inr ⟨rfl, rfl, rfl⟩) _) hs
            · cases hi
              · exact ⟨rfl, rfl⟩
              · exact absurd rfl hh
        · exact .inl (by omega)
theorem noway_of {c : Cf} (hz : (checkV c).1 = 0) {F : Nat} (hF : c.frame = (F : Int)) (f1 : 1 ≤ F) (hl : ¬ 0 ≤ (allV c).1) {k1 k3 : Int} {k2 : Bool} (j1 : (judgeV c F).1 = ⟨1, k1, k2, k3⟩) :
    ∃ (k : Nat) (x : Pt) (T : Nat), k1 = (k : Int) ∧ k3 = (T : Int) ∧ c.ps[k]? = some x ∧ ((∀ y ∈ x.ts, y.hi = false) → x.ss = [] →
      k2 = false ∧ (cnt (isO F c.margin c.ws (k : Int)) (worstV (isO F c.margin c.ws (k : Int)) F T : Int) T : Int) < sumI (x.ts.map fun y => lowAt y (T : Int))) := by
  obtain ⟨_, hj⟩ := judge_just hz hF hl
  rcases hj with ⟨g1, _⟩ | ⟨k, x, hi, T, g1, g2, g3, g4, g5, g6⟩
  · rw [j1] at g1
    cases g1
  · rw [j1] at g1
    cases g1
    refine ⟨k, x, T, rfl, rfl, g2, fun hh hs => ?_⟩
    cases k2 with
    | true => exact absurd (slack_lows (f := isO F c.margin c.ws (k : Int)) (F := F) hh T) (by omega)
    | false =>
      refine ⟨rfl, ?_⟩
      obtain ⟨_, _, o1, _⟩ := ok_few hz g2
      rw [(worstV_is (f := isO F c.margin c.ws (k : Int)) f1 T).2.1]
      have e : (x.ts.map fun y => ofU y (T : Int) false) = x.ts.map fun y => lowAt y (T : Int) := List.map_congr_left fun y hy => by
        unfold ofU
        rw [if_pos (o1 y hy), if_neg (by decide)]
      unfold slackU demU at g4
      rw [e, hs] at g4
      simp [sumI] at g4
      unfold sumI
      omega
theorem steps_pos {a T b : Int} (hT : 1 ≤ T) : 0 ≤ stepsTo a T b := by
  unfold stepsTo
  split
  · omega
  · have := Int.ediv_nonneg (show 0 ≤ b - a by omega) (show 0 ≤ T by omega)
    omega
theorem steps_end {a T b : Int} (h : b < a) : stepsTo a T b = 0 := by unfold stepsTo; rw [if_pos h]
theorem low_bd {y : Tk} (h : okTk y = true) {T : Nat} (hT : T ≤ 3000) : 0 ≤ lowAt y (T : Int) ∧ lowAt y (T : Int) ≤ 4000000 := by
  obtain ⟨h1, h2, h3, h4, h5, _⟩ := okTk_t h
  unfold lowAt
  split
  · omega
  · have q0 := Int.ediv_nonneg (show 0 ≤ (T : Int) - y.v by omega) (show 0 ≤ y.t by omega)
    have q1 := Int.ediv_le_self y.t (show 0 ≤ (T : Int) - y.v by omega)
    have q2 := Int.mul_le_mul (show y.lo ≤ 1000 by omega) (show ((T : Int) - y.v) / y.t + 1 ≤ 3001 by omega) (by omega) (by omega)
    have q3 := Int.mul_nonneg (show 0 ≤ y.lo by omega) (show 0 ≤ ((T : Int) - y.v) / y.t + 1 by omega)
    omega
theorem low_take {ts : List Tk} {n : Nat} {y : Tk} (g : Tk → Int) (hy : ts[n]? = some y) : sumI ((ts.take (n + 1)).map g) = sumI ((ts.take n).map g) + g y := by
  rw [List.take_add_one, hy]
  simp [sumI_snoc]
theorem low_sum {ts : List Tk} (h : ∀ y ∈ ts, okTk y = true) {T : Nat} (hT : T ≤ 3000) : ∀ n : Nat, 0 ≤ sumI ((ts.take n).map fun y => lowAt y (T : Int)) ∧ sumI ((ts.take n).map fun y => lowAt y (T : Int)) ≤ n * 4000000
  | 0 => by simp [sumI]
  | n + 1 => by
    have ih := low_sum h hT n
    cases hy : ts[n]? with
    | some y =>
      have b := low_bd (h y (List.mem_of_getElem? hy)) hT
      rw [low_take _ hy]
      omega
    | none =>
      have e : ts.length ≤ n := by simpa using hy
      rw [List.take_of_length_le (by omega)]
      rw [List.take_of_length_le (by omega)] at ih
      omega
end Go.Proofs.Ytdbbdlobahalkaa
