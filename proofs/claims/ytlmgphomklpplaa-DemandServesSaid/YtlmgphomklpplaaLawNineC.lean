/- The walks of the statements that count jobs, and a server's ticks, one by one. -/
import Derived.Test.YtlmgphomklpplaaLawNineA
namespace Go.Proofs.Ytlmgphomklpplaa
open Go.ChangeShapes Go.WideShapes Go.ChangeAt Go.RowKit
set_option linter.unusedVariables false

theorem six_says (w : World) (b : Bool) (t d v lo top : Int) (W : World) (h : Below ((w.alloc (.cells #[.bool b, .int .i64 t, .int .i64 d, .int .i64 v, .int .i64 lo, .int .i64 top] 23)).alloc (.cells #[.bool b, .int .i64 t, .int .i64 d, .int .i64 v, .int .i64 lo, .int .i64 top] 27)).heap.size ((w.alloc (.cells #[.bool b, .int .i64 t, .int .i64 d, .int .i64 v, .int .i64 lo, .int .i64 top] 23)).alloc (.cells #[.bool b, .int .i64 t, .int .i64 d, .int .i64 v, .int .i64 lo, .int .i64 top] 27)) W) : W.cell? ⟨w.heap.size, 0, none⟩ = some (.bool b) ∧ W.cell? ⟨w.heap.size, 1, none⟩ = some (.int .i64 t) ∧ W.cell? ⟨w.heap.size, 2, none⟩ = some (.int .i64 d) ∧ W.cell? ⟨w.heap.size, 3, none⟩ = some (.int .i64 v) ∧ W.cell? ⟨w.heap.size, 4, none⟩ = some (.int .i64 lo) ∧ W.cell? ⟨w.heap.size, 5, none⟩ = some (.int .i64 top) ∧ W.cell? ⟨w.heap.size + 1, 0, none⟩ = some (.bool b) ∧ W.cell? ⟨w.heap.size + 1, 1, none⟩ = some (.int .i64 t) ∧ W.cell? ⟨w.heap.size + 1, 2, none⟩ = some (.int .i64 d) ∧ W.cell? ⟨w.heap.size + 1, 3, none⟩ = some (.int .i64 v) ∧ W.cell? ⟨w.heap.size + 1, 4, none⟩ = some (.int .i64 lo) ∧ W.cell? ⟨w.heap.size + 1, 5, none⟩ = some (.int .i64 top) := by
  have h1 := bel_thenD (below1 _ _) (Nat.le_refl _) h
  obtain ⟨k0, k1, k2, k3, k4, k5⟩ := box6_says _ _ _ _ _ _ _ _ W h1
  obtain ⟨k6, k7, k8, k9, k10, k11⟩ := box6_says _ _ _ _ _ _ _ _ W h
  simp only [World.size_alloc] at k6 k7 k8 k9 k10 k11
  exact ⟨k0, k1, k2, k3, k4, k5, k6, k7, k8, k9, k10, k11⟩
theorem three_says (w : World) (re : Bool) (c u : Int) (W : World) (h : Below ((w.alloc (.cells #[.bool re, .int .i64 c, .int .i64 u] 25)).alloc (.cells #[.bool re, .int .i64 c, .int .i64 u] 30)).heap.size ((w.alloc (.cells #[.bool re, .int .i64 c, .int .i64 u] 25)).alloc (.cells #[.bool re, .int .i64 c, .int .i64 u] 30)) W) : W.cell? ⟨w.heap.size, 0, none⟩ = some (.bool re) ∧ W.cell? ⟨w.heap.size, 1, none⟩ = some (.int .i64 c) ∧ W.cell? ⟨w.heap.size, 2, none⟩ = some (.int .i64 u) ∧ W.cell? ⟨w.heap.size + 1, 0, none⟩ = some (.bool re) ∧ W.cell? ⟨w.heap.size + 1, 1, none⟩ = some (.int .i64 c) ∧ W.cell? ⟨w.heap.size + 1, 2, none⟩ = some (.int .i64 u) := by
  have h1 := bel_thenD (below1 _ _) (Nat.le_refl _) h
  obtain ⟨k0, k1, k2⟩ := box3_says _ _ _ _ _ W h1
  obtain ⟨k3, k4, k5⟩ := box3_says _ _ _ _ _ W h
  simp only [World.size_alloc] at k3 k4 k5
  exact ⟨k0, k1, k2, k3, k4, k5⟩
theorem steps_none {a T b : Int} (h : b < a) : stepsTo a T b = 0 := by unfold stepsTo; rw [if_pos h]
theorem steps_bd {a T b : Int} (a0 : 0 ≤ a) (hT : 1 ≤ T) (hb : b ≤ 3000) : 0 ≤ stepsTo a T b ∧ stepsTo a T b ≤ 3001 := by
  unfold stepsTo
  split
  · omega
  · have q0 : 0 ≤ (b - a) / T := Int.ediv_nonneg (by omega) (by omega)
    have q1 : (b - a) / T ≤ b - a := div_le_self (by omega) hT
    omega
theorem mul_bd3 {a b : Int} (a0 : 0 ≤ a) (a1 : a ≤ 1000) (b0 : 0 ≤ b) (b1 : b ≤ 3001) : 0 ≤ a * b ∧ a * b ≤ 3001000 :=
  ⟨Int.mul_nonneg a0 b0, by have := Int.mul_le_mul a1 b1 b0 (show (0 : Int) ≤ 1000 by omega); omega⟩
set_option maxRecDepth 100000 in
set_option maxHeartbeats 2000000 in
theorem DemandArrives_not (b : Bool) (t d v lo top : Int) (n s : Int) (w : World) (hn : okTk ⟨b, t, d, v, lo, top⟩ = true → n < 0 ∨ 3000 < n ∨ s < 0 ∨ 3000 < s) :
    Calls Try.prog 6 #[.agg #[.bool b, .int .i64 t, .int .i64 d, .int .i64 v, .int .i64 lo, .int .i64 top], .int .i64 n, .int .i64 s] w fun e w' => e = .returned (.bool true) ∧ Below w.heap.size w w' := by
  obtain ⟨V, hV⟩ : ∃ V, V = ((w.alloc (.cells #[.bool b, .int .i64 t, .int .i64 d, .int .i64 v, .int .i64 lo, .int .i64 top] 23)).alloc (.cells #[.bool b, .int .i64 t, .int .i64 d, .int .i64 v, .int .i64 lo, .int .i64 top] 27)) := ⟨_, rfl⟩
  have ks := six_says w b t d v lo top
  have B2 : Hid (Below w.heap.size w ((w.alloc (.cells #[.bool b, .int .i64 t, .int .i64 d, .int .i64 v, .int .i64 lo, .int .i64 top] 23)).alloc (.cells #[.bool b, .int .i64 t, .int .i64 d, .int .i64 v, .int .i64 lo, .int .i64 top] 27))) := Lib.hid (b_alloc (below1 w _) (Nat.le_refl _) _)
  rw [← hV] at ks B2
  have KS := Lib.hid ks; have HV := Lib.hid hV
  clear ks hV
  cases hk : okTk ⟨b, t, d, v, lo, top⟩ with
  | false =>
    have HK := Lib.hid hk
    clear hn hk
    go_enter Try.func6, Try.ntmps6
    go_wp2_with
     (first
     | (go_at_call 17; refine (taskRight_any _ _ _ _ _ _ _).mono ?_; rintro e w1 ⟨rfl, hb1⟩; rw [HK.out]; rw [← HV.out] at hb1; have hbn := hb1; clear hb1; obtain ⟨k0, k1, k2, k3, k4, k5, k6, k7, k8, k9, k10, k11⟩ := KS.out _ hbn)
     | (go_at_call 12; refine (knows9_any _).mono ?_; rintro e w1 ⟨rfl, hb1⟩; have hbn := bel_thenD (show Below V.heap.size V _ by assumption) (Nat.le_refl _) hb1; clear hb1; obtain ⟨k0, k1, k2, k3, k4, k5, k6, k7, k8, k9, k10, k11⟩ := KS.out _ hbn)
     | (go_at_call 8; refine (of_any _ _ _ _ _ _ _ _ _).mono ?_; rintro e w1 ⟨rfl, hb1⟩; rw [HA.out]; have hbn := bel_thenD (show Below V.heap.size V _ by assumption) (Nat.le_refl _) hb1; clear hb1; obtain ⟨k0, k1, k2, k3, k4, k5, k6, k7, k8, k9, k10, k11⟩ := KS.out _ hbn))
    go_ret
    exact ⟨rfl, B2.out.trans (Below.mono (by repeat first | assumption | refine below_drewD _ ?_) B2.out.size)⟩
  | true =>
    have HK := Lib.hid hk
    rcases (show n < 0 ∨ (0 ≤ n ∧ 3000 < n) ∨ (0 ≤ n ∧ n ≤ 3000 ∧ s < 0) ∨ (0 ≤ n ∧ n ≤ 3000 ∧ 0 ≤ s ∧ 3000 < s) by have := hn hk; omega) with h | ⟨h, h2⟩ | ⟨h, h2, h3⟩ | ⟨h, h2, h3, h4⟩
    all_goals
      (clear hn hk
       go_enter Try.func6, Try.ntmps6
       go_wp2_with
        (first
     | (go_at_call 17; refine (taskRight_any _ _ _ _ _ _ _).mono ?_; rintro e w1 ⟨rfl, hb1⟩; rw [HK.out]; rw [← HV.out] at hb1; have hbn := hb1; clear hb1; obtain ⟨k0, k1, k2, k3, k4, k5, k6, k7, k8, k9, k10, k11⟩ := KS.out _ hbn)
     | (go_at_call 12; refine (knows9_any _).mono ?_; rintro e w1 ⟨rfl, hb1⟩; have hbn := bel_thenD (show Below V.heap.size V _ by assumption) (Nat.le_refl _) hb1; clear hb1; obtain ⟨k0, k1, k2, k3, k4, k5, k6, k7, k8, k9, k10, k11⟩ := KS.out _ hbn)
     | (go_at_call 8; refine (of_any _ _ _ _ _ _ _ _ _).mono ?_; rintro e w1 ⟨rfl, hb1⟩; rw [HA.out]; have hbn := bel_thenD (show Below V.heap.size V _ by assumption) (Nat.le_refl _) hb1; clear hb1; obtain ⟨k0, k1, k2, k3, k4, k5, k6, k7, k8, k9, k10, k11⟩ := KS.out _ hbn))
       go_ret
       exact ⟨rfl, B2.out.trans (Below.mono (by repeat first | assumption | refine below_drewD _ ?_) B2.out.size)⟩)
set_option maxRecDepth 100000 in
set_option maxHeartbeats 4000000 in
theorem DemandArrives_is (b : Bool) (t d v lo top : Int) (n s : Int) (w : World) (hk : okTk ⟨b, t, d, v, lo, top⟩ = true) (n0 : 0 ≤ n) (n1 : n ≤ 3000) (s0 : 0 ≤ s) (s1 : s ≤ 3000) :
    Calls Try.prog 6 #[.agg #[.bool b, .int .i64 t, .int .i64 d, .int .i64 v, .int .i64 lo, .int .i64 top], .int .i64 n, .int .i64 s] w fun e w' => e = .returned (.bool true) ∧ Below w.heap.size w w' := by
  obtain ⟨V, hV⟩ : ∃ V, V = ((w.alloc (.cells #[.bool b, .int .i64 t, .int .i64 d, .int .i64 v, .int .i64 lo, .int .i64 top] 23)).alloc (.cells #[.bool b, .int .i64 t, .int .i64 d, .int .i64 v, .int .i64 lo, .int .i64 top] 27)) := ⟨_, rfl⟩
  have ks := six_says w b t d v lo top
  have B2 : Hid (Below w.heap.size w ((w.alloc (.cells #[.bool b, .int .i64 t, .int .i64 d, .int .i64 v, .int .i64 lo, .int .i64 top] 23)).alloc (.cells #[.bool b, .int .i64 t, .int .i64 d, .int .i64 v, .int .i64 lo, .int .i64 top] 27))) := Lib.hid (b_alloc (below1 w _) (Nat.le_refl _) _)
  rw [← hV] at ks B2
  have KS := Lib.hid ks; have HV := Lib.hid hV
  clear ks hV
  have HK := Lib.hid hk
  obtain ⟨a1, a2, a3, a4, a5, a6, a7, a8⟩ := okTk_t hk
  simp only at a1 a2 a3 a4 a5 a6 a7
  have hA : ofV ⟨b, t, d, v, lo, top⟩ n false = lo * stepsTo 0 t (n - v) := by
    unfold ofV; rw [if_pos hk, cutT_of n0 (by omega)]; simp only [Bool.false_eq_true, if_false]; exact lowAt_steps
  obtain ⟨p0, p1⟩ := steps_bd (a := s) (T := t) (b := n - v) s0 (by omega) (by omega)
  obtain ⟨q0, q1⟩ := steps_bd (a := 0) (T := t) (b := n - v) (by omega) (by omega) (by omega)
  have hle : lo * stepsTo s t (n - v) ≤ lo * stepsTo 0 t (n - v) := Int.mul_le_mul_of_nonneg_left (stepsTo_later (by omega) s0) (by omega)
  obtain ⟨r0, r1⟩ := mul_bd3 (a := lo) (by omega) (by omega) p0 p1
  obtain ⟨X, hX⟩ : ∃ X, X = lo * stepsTo s t (n - v) := ⟨_, rfl⟩
  obtain ⟨L, hL⟩ : ∃ L, L = lo * stepsTo 0 t (n - v) := ⟨_, rfl⟩
  have hs0 : ¬ 0 < s → X = L := fun h => by rw [hX, hL, show s = 0 by omega]
  rw [← hL] at hA hle
  rw [← hX] at hle r0 r1
  have HA := Lib.hid hA; have HX := Lib.hid hX; have HS0 := Lib.hid hs0
  clear hA hL hk a8 hX hs0 p0 p1 q0 q1
  have z1 : decide (n < 0) = false := by simp; omega
  have z2 : decide (3000 < n) = false := by simp; omega
  have z3 : decide (s < 0) = false := by simp; omega
  have z4 : decide (3000 < s) = false := by simp; omega
  have z5 : decide (X ≤ L) = true := by simp; omega
  go_enter Try.func6, Try.ntmps6
  go_wp2_with
   (first
     | (go_at_call 17; refine (taskRight_any _ _ _ _ _ _ _).mono ?_; rintro e w1 ⟨rfl, hb1⟩; rw [HK.out]; rw [← HV.out] at hb1; have hbn := hb1; clear hb1; obtain ⟨k0, k1, k2, k3, k4, k5, k6, k7, k8, k9, k10, k11⟩ := KS.out _ hbn)
     | (go_at_call 12; refine (knows9_any _).mono ?_; rintro e w1 ⟨rfl, hb1⟩; have hbn := bel_thenD (show Below V.heap.size V _ by assumption) (Nat.le_refl _) hb1; clear hb1; obtain ⟨k0, k1, k2, k3, k4, k5, k6, k7, k8, k9, k10, k11⟩ := KS.out _ hbn)
     | (go_at_call 8; refine (of_any _ _ _ _ _ _ _ _ _).mono ?_; rintro e w1 ⟨rfl, hb1⟩; rw [HA.out]; have hbn := bel_thenD (show Below V.heap.size V _ by assumption) (Nat.le_refl _) hb1; clear hb1; obtain ⟨k0, k1, k2, k3, k4, k5, k6, k7, k8, k9, k10, k11⟩ := KS.out _ hbn))
  clear z1 z2 z3 z4
  obtain ⟨wo, hwo⟩ : ∃ wo, wo = w1 := ⟨_, rfl⟩
  subst hwo
  go_loop [8, 9] (fun x y => ∃ (A Y : Int), y = .int .i64 A ∧ x = .int .i64 Y ∧ 0 ≤ A ∧ A ≤ 4000 ∧ 0 ≤ Y ∧ Y ≤ 3001000 ∧ Hid (Y = lo * stepsTo s t (n - v) - lo * stepsTo A t (n - v))) (fun _ y => (4001 - intOf y).toNat)
  case atStart => exact ⟨s, 0, rfl, rfl, s0, by omega, by omega, by omega, Lib.hid (by omega)⟩
  case round =>
    obtain ⟨A, Y, rfl, rfl, g0, g1, g2, g3, HY⟩ := hrel
    by_cases h1 : A ≤ 3000
    · have t1 : decide (A ≤ 3000) = true := by simpa using h1
      by_cases h2 : A + v ≤ n
      · have t2 : decide (A + v ≤ n) = true := by simpa using h2
        have HY2 : Hid (Y + lo = lo * stepsTo s t (n - v) - lo * stepsTo (A + t) t (n - v) ∧ Y + lo ≤ 3001000) := Lib.hid (by
          have e := stepsTo_next (a := A) (T := t) (b := n - v) (by omega) (by omega)
          have hy := HY.out
          obtain ⟨p0, p1⟩ := steps_bd (a := A + t) (T := t) (b := n - v) (by omega) (by omega) (by omega)
          obtain ⟨m0, m1⟩ := mul_bd3 (a := lo) (by omega) (by omega) p0 p1
          rw [e, Int.mul_add, Int.mul_one] at hy
          have hx := HX.out
          rw [← hx] at hy ⊢
          omega)
        have b1 : Y + lo ≤ 3001000 := HY2.out.2
        go_wp2_with fail
        go_round
        case rel => exact ⟨A + t, Y + lo, rfl, rfl, by omega, by omega, by omega, b1, Lib.hid HY2.out.1⟩
        case measure => simp [intOf]; omega
      · have t2 : decide (A + v ≤ n) = false := by simp; omega
        have HY2 : Hid (Y = lo * stepsTo s t (n - v) - lo * stepsTo (A + t) t (n - v)) := Lib.hid (by
          have hy := HY.out
          rw [steps_none (show n - v < A by omega)] at hy
          rw [steps_none (show n - v < A + t by omega)]
          exact hy)
        go_wp2_with fail
        go_round
        case rel => exact ⟨A + t, Y, rfl, rfl, by omega, by omega, by omega, by omega, HY2⟩
        case measure => simp [intOf]; omega
    · have t1 : decide (A ≤ 3000) = false := by simp; omega
      obtain rfl : Y = X := by
        have hy := HY.out
        rw [steps_none (show n - v < A by omega)] at hy
        rw [HX.out]
        simpa using hy
      clear HY
      by_cases h2 : 0 < s
      · have t2 : decide (0 < s) = true := by simpa using h2
        go_wp2_with
         (first
     | (go_at_call 17; refine (taskRight_any _ _ _ _ _ _ _).mono ?_; rintro e w1 ⟨rfl, hb1⟩; rw [HK.out]; rw [← HV.out] at hb1; have hbn := hb1; clear hb1; obtain ⟨k0, k1, k2, k3, k4, k5, k6, k7, k8, k9, k10, k11⟩ := KS.out _ hbn)
     | (go_at_call 12; refine (knows9_any _).mono ?_; rintro e w1 ⟨rfl, hb1⟩; have hbn := bel_thenD (show Below V.heap.size V _ by assumption) (Nat.le_refl _) hb1; clear hb1; obtain ⟨k0, k1, k2, k3, k4, k5, k6, k7, k8, k9, k10, k11⟩ := KS.out _ hbn)
     | (go_at_call 8; refine (of_any _ _ _ _ _ _ _ _ _).mono ?_; rintro e w1 ⟨rfl, hb1⟩; rw [HA.out]; have hbn := bel_thenD (show Below V.heap.size V _ by assumption) (Nat.le_refl _) hb1; clear hb1; obtain ⟨k0, k1, k2, k3, k4, k5, k6, k7, k8, k9, k10, k11⟩ := KS.out _ hbn))
        go_ret
        exact ⟨rfl, B2.out.trans (Below.mono (by repeat first | assumption | refine below_drewD _ ?_) B2.out.size)⟩
      · have t2 : decide (0 < s) = false := by simpa using h2
        obtain rfl : Y = L := HS0.out (by omega)
        go_wp2_with
         (first
     | (go_at_call 17; refine (taskRight_any _ _ _ _ _ _ _).mono ?_; rintro e w1 ⟨rfl, hb1⟩; rw [HK.out]; rw [← HV.out] at hb1; have hbn := hb1; clear hb1; obtain ⟨k0, k1, k2, k3, k4, k5, k6, k7, k8, k9, k10, k11⟩ := KS.out _ hbn)
     | (go_at_call 12; refine (knows9_any _).mono ?_; rintro e w1 ⟨rfl, hb1⟩; have hbn := bel_thenD (show Below V.heap.size V _ by assumption) (Nat.le_refl _) hb1; clear hb1; obtain ⟨k0, k1, k2, k3, k4, k5, k6, k7, k8, k9, k10, k11⟩ := KS.out _ hbn)
     | (go_at_call 8; refine (of_any _ _ _ _ _ _ _ _ _).mono ?_; rintro e w1 ⟨rfl, hb1⟩; rw [HA.out]; have hbn := bel_thenD (show Below V.heap.size V _ by assumption) (Nat.le_refl _) hb1; clear hb1; obtain ⟨k0, k1, k2, k3, k4, k5, k6, k7, k8, k9, k10, k11⟩ := KS.out _ hbn))
        go_ret
        exact ⟨rfl, B2.out.trans (Below.mono (by repeat first | assumption | refine below_drewD _ ?_) B2.out.size)⟩
theorem DemandArrives_walk (b : Bool) (t d v lo top : Int) (n s : Int) (w : World) :
    Calls Try.prog 6 #[.agg #[.bool b, .int .i64 t, .int .i64 d, .int .i64 v, .int .i64 lo, .int .i64 top], .int .i64 n, .int .i64 s] w fun e w' => e = .returned (.bool true) ∧ Below w.heap.size w w' := by
  by_cases h : okTk ⟨b, t, d, v, lo, top⟩ = true ∧ 0 ≤ n ∧ n ≤ 3000 ∧ 0 ≤ s ∧ s ≤ 3000
  · exact DemandArrives_is b t d v lo top n s w h.1 h.2.1 h.2.2.1 h.2.2.2.1 h.2.2.2.2
  · exact DemandArrives_not b t d v lo top n s w fun h1 => by
      by_cases h3 : 0 ≤ n ∧ n ≤ 3000 ∧ 0 ≤ s ∧ s ≤ 3000
      · exact absurd ⟨h1, h3⟩ h
      · omega
set_option maxRecDepth 100000 in
set_option maxHeartbeats 2000000 in
theorem DemandServes_not (re : Bool) (c u : Int) (n s : Int) (w : World) (hn : okSv ⟨re, c, u⟩ = true → n < 0 ∨ 3000 < n ∨ s < 0 ∨ u ≤ s) :
    Calls Try.prog 7 #[.agg #[.bool re, .int .i64 c, .int .i64 u], .int .i64 n, .int .i64 s] w fun e w' => e = .returned (.bool true) ∧ Below w.heap.size w w' := by
  obtain ⟨V, hV⟩ : ∃ V, V = ((w.alloc (.cells #[.bool re, .int .i64 c, .int .i64 u] 25)).alloc (.cells #[.bool re, .int .i64 c, .int .i64 u] 30)) := ⟨_, rfl⟩
  have ks := three_says w re c u
  have B2 : Hid (Below w.heap.size w ((w.alloc (.cells #[.bool re, .int .i64 c, .int .i64 u] 25)).alloc (.cells #[.bool re, .int .i64 c, .int .i64 u] 30))) := Lib.hid (b_alloc (below1 w _) (Nat.le_refl _) _)
  rw [← hV] at ks B2
  have KS := Lib.hid ks; have HV := Lib.hid hV
  clear ks hV
  cases hk : okSv ⟨re, c, u⟩ with
  | false =>
    have HK := Lib.hid hk
    clear hn hk
    go_enter Try.func7, Try.ntmps7
    go_wp2_with
     (first
     | (go_at_call 18; refine (serverRight_any _ _ _ _).mono ?_; rintro e w1 ⟨rfl, hb1⟩; rw [HK.out]; rw [← HV.out] at hb1; have hbn := hb1; clear hb1; obtain ⟨k0, k1, k2, k3, k4, k5⟩ := KS.out _ hbn)
     | (go_at_call 12; refine (knows9_any _).mono ?_; rintro e w1 ⟨rfl, hb1⟩; have hbn := bel_thenD (show Below V.heap.size V _ by assumption) (Nat.le_refl _) hb1; clear hb1; obtain ⟨k0, k1, k2, k3, k4, k5⟩ := KS.out _ hbn)
     | (go_at_call 10; refine (serve_any _ _ _ _ _).mono ?_; rintro e w1 ⟨rfl, hb1⟩; rw [HA.out]; have hbn := bel_thenD (show Below V.heap.size V _ by assumption) (Nat.le_refl _) hb1; clear hb1; obtain ⟨k0, k1, k2, k3, k4, k5⟩ := KS.out _ hbn))
    go_ret
    exact ⟨rfl, B2.out.trans (Below.mono (by repeat first | assumption | refine below_drewD _ ?_) B2.out.size)⟩
  | true =>
    have HK := Lib.hid hk
    rcases (show n < 0 ∨ (0 ≤ n ∧ 3000 < n) ∨ (0 ≤ n ∧ n ≤ 3000 ∧ s < 0) ∨ (0 ≤ n ∧ n ≤ 3000 ∧ 0 ≤ s ∧ u ≤ s) by have := hn hk; omega) with h | ⟨h, h2⟩ | ⟨h, h2, h3⟩ | ⟨h, h2, h3, h4⟩
    all_goals
      (clear hn hk
       go_enter Try.func7, Try.ntmps7
       go_wp2_with
        (first
     | (go_at_call 18; refine (serverRight_any _ _ _ _).mono ?_; rintro e w1 ⟨rfl, hb1⟩; rw [HK.out]; rw [← HV.out] at hb1; have hbn := hb1; clear hb1; obtain ⟨k0, k1, k2, k3, k4, k5⟩ := KS.out _ hbn)
     | (go_at_call 12; refine (knows9_any _).mono ?_; rintro e w1 ⟨rfl, hb1⟩; have hbn := bel_thenD (show Below V.heap.size V _ by assumption) (Nat.le_refl _) hb1; clear hb1; obtain ⟨k0, k1, k2, k3, k4, k5⟩ := KS.out _ hbn)
     | (go_at_call 10; refine (serve_any _ _ _ _ _).mono ?_; rintro e w1 ⟨rfl, hb1⟩; rw [HA.out]; have hbn := bel_thenD (show Below V.heap.size V _ by assumption) (Nat.le_refl _) hb1; clear hb1; obtain ⟨k0, k1, k2, k3, k4, k5⟩ := KS.out _ hbn))
       go_ret
       exact ⟨rfl, B2.out.trans (Below.mono (by repeat first | assumption | refine below_drewD _ ?_) B2.out.size)⟩)
theorem serves_facts {re : Bool} {c u n z Z : Int} (hk : okSv ⟨re, c, u⟩ = true) (n0 : 0 ≤ n) (n1 : n ≤ 3000) (hz : (if re then 1 else u) ≤ z) (hZ : Z = if u ≤ n then c else 0) :
    Z + c * stepsTo z u (n - u) ≤ servV ⟨re, c, u⟩ n ∧ (z = (if re then 1 else u) → Z + c * stepsTo z u (n - u) = servV ⟨re, c, u⟩ n) ∧ 0 ≤ Z + c * stepsTo z u (n - u) ∧ Z + c * stepsTo z u (n - u) ≤ 3002000 := by
  obtain ⟨a1, a2, a3⟩ := okSv_t hk
  simp only at a1 a2 a3
  have hz1 : 1 ≤ z := by cases re <;> simp at hz <;> omega
  have hA : servV ⟨re, c, u⟩ n = if n < u then 0 else c + c * stepsTo (if re then 1 else u) u (n - u) := by
    unfold servV; rw [if_pos hk, cutT_of n0 (by omega)]; exact servAt_steps hk n0
  obtain ⟨p0, p1⟩ := steps_bd (a := z) (T := u) (b := n - u) (by omega) (by omega) (by omega)
  obtain ⟨m0, m1⟩ := mul_bd3 (a := c) (by omega) (by omega) p0 p1
  have hle : c * stepsTo z u (n - u) ≤ c * stepsTo (if re then 1 else u) u (n - u) := Int.mul_le_mul_of_nonneg_left (stepsTo_later (by omega) hz) (by omega)
  rw [hA]
  by_cases hu : n < u
  · rw [if_pos hu, hZ, if_neg (by omega), steps_none (show n - u < z by omega)]
    simp
  · rw [if_neg hu, hZ, if_pos (by omega)]
    exact ⟨by omega, fun h => by rw [h], by omega, by omega⟩
set_option maxRecDepth 100000 in
set_option maxHeartbeats 4000000 in
theorem DemandServes_is (re : Bool) (c u : Int) (n s : Int) (w : World) (hk : okSv ⟨re, c, u⟩ = true) (n0 : 0 ≤ n) (n1 : n ≤ 3000) (s0 : 0 ≤ s) (s1 : s < u) :
    Calls Try.prog 7 #[.agg #[.bool re, .int .i64 c, .int .i64 u], .int .i64 n, .int .i64 s] w fun e w' => e = .returned (.bool true) ∧ Below w.heap.size w w' := by
  obtain ⟨V, hV⟩ : ∃ V, V = ((w.alloc (.cells #[.bool re, .int .i64 c, .int .i64 u] 25)).alloc (.cells #[.bool re, .int .i64 c, .int .i64 u] 30)) := ⟨_, rfl⟩
  have ks := three_says w re c u
  have B2 : Hid (Below w.heap.size w ((w.alloc (.cells #[.bool re, .int .i64 c, .int .i64 u] 25)).alloc (.cells #[.bool re, .int .i64 c, .int .i64 u] 30))) := Lib.hid (b_alloc (below1 w _) (Nat.le_refl _) _)
  rw [← hV] at ks B2
  have KS := Lib.hid ks; have HV := Lib.hid hV
  clear ks hV
  have HK := Lib.hid hk
  obtain ⟨a1, a2, a3⟩ := okSv_t hk
  simp only at a1 a2 a3
  have z1 : decide (n < 0) = false := by simp; omega
  have z2 : decide (3000 < n) = false := by simp; omega
  have z3 : decide (s < 0) = false := by simp; omega
  have z4 : decide (u ≤ s) = false := by simp; omega
  by_cases hu : u ≤ n
  · cases re with
    | true =>
      obtain ⟨hle, heq, r0, r1⟩ := serves_facts (z := 1 + s) (Z := c) hk n0 n1 (by simp; try omega) (by rw [if_pos hu])
      clear hk
      obtain ⟨L, hL⟩ : ∃ L, L = servV ⟨true, c, u⟩ n := ⟨_, rfl⟩
      rw [← hL] at hle heq
      obtain ⟨X, hX⟩ : ∃ X, X = c + c * stepsTo (1 + s) u (n - u) := ⟨_, rfl⟩
      rw [← hX] at hle heq r0 r1
      have HA : Hid (servV ⟨true, c, u⟩ n = L) := Lib.hid hL.symm
      have HX := Lib.hid hX; have HEQ := Lib.hid heq
      clear hL hX heq
      have z5 : decide (X ≤ L) = true := by simp; omega
      have z6 : decide (u ≤ n) = true := by simp; omega
      go_enter Try.func7, Try.ntmps7
      go_wp2_with
       (first
     | (go_at_call 18; refine (serverRight_any _ _ _ _).mono ?_; rintro e w1 ⟨rfl, hb1⟩; rw [HK.out]; rw [← HV.out] at hb1; have hbn := hb1; clear hb1; obtain ⟨k0, k1, k2, k3, k4, k5⟩ := KS.out _ hbn)
     | (go_at_call 12; refine (knows9_any _).mono ?_; rintro e w1 ⟨rfl, hb1⟩; have hbn := bel_thenD (show Below V.heap.size V _ by assumption) (Nat.le_refl _) hb1; clear hb1; obtain ⟨k0, k1, k2, k3, k4, k5⟩ := KS.out _ hbn)
     | (go_at_call 10; refine (serve_any _ _ _ _ _).mono ?_; rintro e w1 ⟨rfl, hb1⟩; rw [HA.out]; have hbn := bel_thenD (show Below V.heap.size V _ by assumption) (Nat.le_refl _) hb1; clear hb1; obtain ⟨k0, k1, k2, k3, k4, k5⟩ := KS.out _ hbn))
      clear z1 z2 z3 z4
      obtain ⟨wo, hwo⟩ : ∃ wo, wo = w1 := ⟨_, rfl⟩
      subst hwo
      go_loop [8, 10] (fun x y => ∃ (A Y : Int), y = .int .i64 A ∧ x = .int .i64 Y ∧ 1 ≤ A ∧ A ≤ 4001 ∧ 0 ≤ Y ∧ Y ≤ 3002000 ∧ Hid (Y = X - c * stepsTo A u (n - u))) (fun _ y => (5001 - intOf y).toNat)
      case atStart => exact ⟨1 + s, c, rfl, rfl, by omega, by omega, by omega, by omega, Lib.hid (by rw [HX.out]; omega)⟩
      case round =>
        obtain ⟨A, Y, rfl, rfl, g0, g1, g2, g3, HY⟩ := hrel
        by_cases h1 : A + u ≤ n
        · have t1 : decide (A + u ≤ n) = true := by simpa using h1
          have HY2 : Hid (Y + c = X - c * stepsTo (A + u) u (n - u) ∧ Y + c ≤ 3002000) := Lib.hid (by
            have e := stepsTo_next (a := A) (T := u) (b := n - u) (by omega) (by omega)
            have hy := HY.out
            obtain ⟨p0, p1⟩ := steps_bd (a := A + u) (T := u) (b := n - u) (by omega) (by omega) (by omega)
            obtain ⟨m0, m1⟩ := mul_bd3 (a := c) (by omega) (by omega) p0 p1
            rw [e, Int.mul_add, Int.mul_one] at hy
            omega)
          have b1 : Y + c ≤ 3002000 := HY2.out.2
          go_wp2_with fail
          go_round
          case rel => exact ⟨A + u, Y + c, rfl, rfl, by omega, by omega, by omega, b1, Lib.hid HY2.out.1⟩
          case measure => simp [intOf]; omega
        · have t1 : decide (A + u ≤ n) = false := by simp; omega
          obtain rfl : Y = X := by
            have hy := HY.out
            rw [steps_none (show n - u < A by omega)] at hy
            simpa using hy
          clear HY
          by_cases h2 : 1 < 1 + s
          · have t2 : decide (1 < 1 + s) = true := by simpa using h2
            go_wp2_with
             (first
     | (go_at_call 18; refine (serverRight_any _ _ _ _).mono ?_; rintro e w1 ⟨rfl, hb1⟩; rw [HK.out]; rw [← HV.out] at hb1; have hbn := hb1; clear hb1; obtain ⟨k0, k1, k2, k3, k4, k5⟩ := KS.out _ hbn)
     | (go_at_call 12; refine (knows9_any _).mono ?_; rintro e w1 ⟨rfl, hb1⟩; have hbn := bel_thenD (show Below V.heap.size V _ by assumption) (Nat.le_refl _) hb1; clear hb1; obtain ⟨k0, k1, k2, k3, k4, k5⟩ := KS.out _ hbn)
     | (go_at_call 10; refine (serve_any _ _ _ _ _).mono ?_; rintro e w1 ⟨rfl, hb1⟩; rw [HA.out]; have hbn := bel_thenD (show Below V.heap.size V _ by assumption) (Nat.le_refl _) hb1; clear hb1; obtain ⟨k0, k1, k2, k3, k4, k5⟩ := KS.out _ hbn))
            go_ret
            exact ⟨rfl, B2.out.trans (Below.mono (by repeat first | assumption | refine below_drewD _ ?_) B2.out.size)⟩
          · have t2 : decide (1 < 1 + s) = false := by simpa using h2
            obtain rfl : Y = L := HEQ.out (by simp; omega)
            go_wp2_with
             (first
     | (go_at_call 18; refine (serverRight_any _ _ _ _).mono ?_; rintro e w1 ⟨rfl, hb1⟩; rw [HK.out]; rw [← HV.out] at hb1; have hbn := hb1; clear hb1; obtain ⟨k0, k1, k2, k3, k4, k5⟩ := KS.out _ hbn)
     | (go_at_call 12; refine (knows9_any _).mono ?_; rintro e w1 ⟨rfl, hb1⟩; have hbn := bel_thenD (show Below V.heap.size V _ by assumption) (Nat.le_refl _) hb1; clear hb1; obtain ⟨k0, k1, k2, k3, k4, k5⟩ := KS.out _ hbn)
     | (go_at_call 10; refine (serve_any _ _ _ _ _).mono ?_; rintro e w1 ⟨rfl, hb1⟩; rw [HA.out]; have hbn := bel_thenD (show Below V.heap.size V _ by assumption) (Nat.le_refl _) hb1; clear hb1; obtain ⟨k0, k1, k2, k3, k4, k5⟩ := KS.out _ hbn))
            go_ret
            exact ⟨rfl, B2.out.trans (Below.mono (by repeat first | assumption | refine below_drewD _ ?_) B2.out.size)⟩
    | false =>
      obtain ⟨hle, heq, r0, r1⟩ := serves_facts (z := u) (Z := c) hk n0 n1 (by simp; try omega) (by rw [if_pos hu])
      clear hk
      obtain ⟨L, hL⟩ : ∃ L, L = servV ⟨false, c, u⟩ n := ⟨_, rfl⟩
      rw [← hL] at hle heq
      obtain ⟨X, hX⟩ : ∃ X, X = c + c * stepsTo (u) u (n - u) := ⟨_, rfl⟩
      rw [← hX] at hle heq r0 r1
      have HA : Hid (servV ⟨false, c, u⟩ n = L) := Lib.hid hL.symm
      have HX := Lib.hid hX; have HEQ := Lib.hid heq
      clear hL hX heq
      have z5 : decide (X ≤ L) = true := by simp; omega
      have z6 : decide (u ≤ n) = true := by simp; omega
      go_enter Try.func7, Try.ntmps7
      go_wp2_with
       (first
     | (go_at_call 18; refine (serverRight_any _ _ _ _).mono ?_; rintro e w1 ⟨rfl, hb1⟩; rw [HK.out]; rw [← HV.out] at hb1; have hbn := hb1; clear hb1; obtain ⟨k0, k1, k2, k3, k4, k5⟩ := KS.out _ hbn)
     | (go_at_call 12; refine (knows9_any _).mono ?_; rintro e w1 ⟨rfl, hb1⟩; have hbn := bel_thenD (show Below V.heap.size V _ by assumption) (Nat.le_refl _) hb1; clear hb1; obtain ⟨k0, k1, k2, k3, k4, k5⟩ := KS.out _ hbn)
     | (go_at_call 10; refine (serve_any _ _ _ _ _).mono ?_; rintro e w1 ⟨rfl, hb1⟩; rw [HA.out]; have hbn := bel_thenD (show Below V.heap.size V _ by assumption) (Nat.le_refl _) hb1; clear hb1; obtain ⟨k0, k1, k2, k3, k4, k5⟩ := KS.out _ hbn))
      clear z1 z2 z3 z4
      obtain ⟨wo, hwo⟩ : ∃ wo, wo = w1 := ⟨_, rfl⟩
      subst hwo
      go_loop [8, 10] (fun x y => ∃ (A Y : Int), y = .int .i64 A ∧ x = .int .i64 Y ∧ 1 ≤ A ∧ A ≤ 4001 ∧ 0 ≤ Y ∧ Y ≤ 3002000 ∧ Hid (Y = X - c * stepsTo A u (n - u))) (fun _ y => (5001 - intOf y).toNat)
      case atStart => exact ⟨u, c, rfl, rfl, by omega, by omega, by omega, by omega, Lib.hid (by rw [HX.out]; omega)⟩
      case round =>
        obtain ⟨A, Y, rfl, rfl, g0, g1, g2, g3, HY⟩ := hrel
        by_cases h1 : A + u ≤ n
        · have t1 : decide (A + u ≤ n) = true := by simpa using h1
          have HY2 : Hid (Y + c = X - c * stepsTo (A + u) u (n - u) ∧ Y + c ≤ 3002000) := Lib.hid (by
            have e := stepsTo_next (a := A) (T := u) (b := n - u) (by omega) (by omega)
            have hy := HY.out
            obtain ⟨p0, p1⟩ := steps_bd (a := A + u) (T := u) (b := n - u) (by omega) (by omega) (by omega)
            obtain ⟨m0, m1⟩ := mul_bd3 (a := c) (by omega) (by omega) p0 p1
            rw [e, Int.mul_add, Int.mul_one] at hy
            omega)
          have b1 : Y + c ≤ 3002000 := HY2.out.2
          go_wp2_with fail
          go_round
          case rel => exact ⟨A + u, Y + c, rfl, rfl, by omega, by omega, by omega, b1, Lib.hid HY2.out.1⟩
          case measure => simp [intOf]; omega
        · have t1 : decide (A + u ≤ n) = false := by simp; omega
          obtain rfl : Y = X := by
            have hy := HY.out
            rw [steps_none (show n - u < A by omega)] at hy
            simpa using hy
          clear HY
          obtain rfl : Y = L := HEQ.out (by simp)
          by_cases h2 : 1 < u
          · have t2 : decide (1 < u) = true := by simpa using h2
            go_wp2_with
             (first
     | (go_at_call 18; refine (serverRight_any _ _ _ _).mono ?_; rintro e w1 ⟨rfl, hb1⟩; rw [HK.out]; rw [← HV.out] at hb1; have hbn := hb1; clear hb1; obtain ⟨k0, k1, k2, k3, k4, k5⟩ := KS.out _ hbn)
     | (go_at_call 12; refine (knows9_any _).mono ?_; rintro e w1 ⟨rfl, hb1⟩; have hbn := bel_thenD (show Below V.heap.size V _ by assumption) (Nat.le_refl _) hb1; clear hb1; obtain ⟨k0, k1, k2, k3, k4, k5⟩ := KS.out _ hbn)
     | (go_at_call 10; refine (serve_any _ _ _ _ _).mono ?_; rintro e w1 ⟨rfl, hb1⟩; rw [HA.out]; have hbn := bel_thenD (show Below V.heap.size V _ by assumption) (Nat.le_refl _) hb1; clear hb1; obtain ⟨k0, k1, k2, k3, k4, k5⟩ := KS.out _ hbn))
            go_ret
            exact ⟨rfl, B2.out.trans (Below.mono (by repeat first | assumption | refine below_drewD _ ?_) B2.out.size)⟩
          · have t2 : decide (1 < u) = false := by simpa using h2
            go_wp2_with
             (first
     | (go_at_call 18; refine (serverRight_any _ _ _ _).mono ?_; rintro e w1 ⟨rfl, hb1⟩; rw [HK.out]; rw [← HV.out] at hb1; have hbn := hb1; clear hb1; obtain ⟨k0, k1, k2, k3, k4, k5⟩ := KS.out _ hbn)
     | (go_at_call 12; refine (knows9_any _).mono ?_; rintro e w1 ⟨rfl, hb1⟩; have hbn := bel_thenD (show Below V.heap.size V _ by assumption) (Nat.le_refl _) hb1; clear hb1; obtain ⟨k0, k1, k2, k3, k4, k5⟩ := KS.out _ hbn)
     | (go_at_call 10; refine (serve_any _ _ _ _ _).mono ?_; rintro e w1 ⟨rfl, hb1⟩; rw [HA.out]; have hbn := bel_thenD (show Below V.heap.size V _ by assumption) (Nat.le_refl _) hb1; clear hb1; obtain ⟨k0, k1, k2, k3, k4, k5⟩ := KS.out _ hbn))
            go_ret
            exact ⟨rfl, B2.out.trans (Below.mono (by repeat first | assumption | refine below_drewD _ ?_) B2.out.size)⟩
  · cases re with
    | true =>
      obtain ⟨hle, heq, r0, r1⟩ := serves_facts (z := 1 + s) (Z := 0) hk n0 n1 (by simp; try omega) (by rw [if_neg hu])
      clear hk
      obtain ⟨L, hL⟩ : ∃ L, L = servV ⟨true, c, u⟩ n := ⟨_, rfl⟩
      rw [← hL] at hle heq
      obtain ⟨X, hX⟩ : ∃ X, X = 0 + c * stepsTo (1 + s) u (n - u) := ⟨_, rfl⟩
      rw [← hX] at hle heq r0 r1
      have HA : Hid (servV ⟨true, c, u⟩ n = L) := Lib.hid hL.symm
      have HX := Lib.hid hX; have HEQ := Lib.hid heq
      clear hL hX heq
      have z5 : decide (X ≤ L) = true := by simp; omega
      have z6 : decide (u ≤ n) = false := by simp; omega
      go_enter Try.func7, Try.ntmps7
      go_wp2_with
       (first
     | (go_at_call 18; refine (serverRight_any _ _ _ _).mono ?_; rintro e w1 ⟨rfl, hb1⟩; rw [HK.out]; rw [← HV.out] at hb1; have hbn := hb1; clear hb1; obtain ⟨k0, k1, k2, k3, k4, k5⟩ := KS.out _ hbn)
     | (go_at_call 12; refine (knows9_any _).mono ?_; rintro e w1 ⟨rfl, hb1⟩; have hbn := bel_thenD (show Below V.heap.size V _ by assumption) (Nat.le_refl _) hb1; clear hb1; obtain ⟨k0, k1, k2, k3, k4, k5⟩ := KS.out _ hbn)
     | (go_at_call 10; refine (serve_any _ _ _ _ _).mono ?_; rintro e w1 ⟨rfl, hb1⟩; rw [HA.out]; have hbn := bel_thenD (show Below V.heap.size V _ by assumption) (Nat.le_refl _) hb1; clear hb1; obtain ⟨k0, k1, k2, k3, k4, k5⟩ := KS.out _ hbn))
      clear z1 z2 z3 z4
      obtain ⟨wo, hwo⟩ : ∃ wo, wo = w1 := ⟨_, rfl⟩
      subst hwo
      go_loop [8, 10] (fun x y => ∃ (A Y : Int), y = .int .i64 A ∧ x = .int .i64 Y ∧ 1 ≤ A ∧ A ≤ 4001 ∧ 0 ≤ Y ∧ Y ≤ 3002000 ∧ Hid (Y = X - c * stepsTo A u (n - u))) (fun _ y => (5001 - intOf y).toNat)
      case atStart => exact ⟨1 + s, 0, rfl, rfl, by omega, by omega, by omega, by omega, Lib.hid (by rw [HX.out]; omega)⟩
      case round =>
        obtain ⟨A, Y, rfl, rfl, g0, g1, g2, g3, HY⟩ := hrel
        have h1 : ¬ A + u ≤ n := by omega
        have t1 : decide (A + u ≤ n) = false := by simp; omega
        obtain rfl : Y = X := by
          have hy := HY.out
          rw [steps_none (show n - u < A by omega)] at hy
          simpa using hy
        clear HY
        by_cases h2 : 1 < 1 + s
        · have t2 : decide (1 < 1 + s) = true := by simpa using h2
          go_wp2_with
           (first
     | (go_at_call 18; refine (serverRight_any _ _ _ _).mono ?_; rintro e w1 ⟨rfl, hb1⟩; rw [HK.out]; rw [← HV.out] at hb1; have hbn := hb1; clear hb1; obtain ⟨k0, k1, k2, k3, k4, k5⟩ := KS.out _ hbn)
     | (go_at_call 12; refine (knows9_any _).mono ?_; rintro e w1 ⟨rfl, hb1⟩; have hbn := bel_thenD (show Below V.heap.size V _ by assumption) (Nat.le_refl _) hb1; clear hb1; obtain ⟨k0, k1, k2, k3, k4, k5⟩ := KS.out _ hbn)
     | (go_at_call 10; refine (serve_any _ _ _ _ _).mono ?_; rintro e w1 ⟨rfl, hb1⟩; rw [HA.out]; have hbn := bel_thenD (show Below V.heap.size V _ by assumption) (Nat.le_refl _) hb1; clear hb1; obtain ⟨k0, k1, k2, k3, k4, k5⟩ := KS.out _ hbn))
          go_ret
          exact ⟨rfl, B2.out.trans (Below.mono (by repeat first | assumption | refine below_drewD _ ?_) B2.out.size)⟩
        · have t2 : decide (1 < 1 + s) = false := by simpa using h2
          obtain rfl : Y = L := HEQ.out (by simp; omega)
          go_wp2_with
           (first
     | (go_at_call 18; refine (serverRight_any _ _ _ _).mono ?_; rintro e w1 ⟨rfl, hb1⟩; rw [HK.out]; rw [← HV.out] at hb1; have hbn := hb1; clear hb1; obtain ⟨k0, k1, k2, k3, k4, k5⟩ := KS.out _ hbn)
     | (go_at_call 12; refine (knows9_any _).mono ?_; rintro e w1 ⟨rfl, hb1⟩; have hbn := bel_thenD (show Below V.heap.size V _ by assumption) (Nat.le_refl _) hb1; clear hb1; obtain ⟨k0, k1, k2, k3, k4, k5⟩ := KS.out _ hbn)
     | (go_at_call 10; refine (serve_any _ _ _ _ _).mono ?_; rintro e w1 ⟨rfl, hb1⟩; rw [HA.out]; have hbn := bel_thenD (show Below V.heap.size V _ by assumption) (Nat.le_refl _) hb1; clear hb1; obtain ⟨k0, k1, k2, k3, k4, k5⟩ := KS.out _ hbn))
          go_ret
          exact ⟨rfl, B2.out.trans (Below.mono (by repeat first | assumption | refine below_drewD _ ?_) B2.out.size)⟩
    | false =>
      obtain ⟨hle, heq, r0, r1⟩ := serves_facts (z := u) (Z := 0) hk n0 n1 (by simp; try omega) (by rw [if_neg hu])
      clear hk
      obtain ⟨L, hL⟩ : ∃ L, L = servV ⟨false, c, u⟩ n := ⟨_, rfl⟩
      rw [← hL] at hle heq
      obtain ⟨X, hX⟩ : ∃ X, X = 0 + c * stepsTo (u) u (n - u) := ⟨_, rfl⟩
      rw [← hX] at hle heq r0 r1
      have HA : Hid (servV ⟨false, c, u⟩ n = L) := Lib.hid hL.symm
      have HX := Lib.hid hX; have HEQ := Lib.hid heq
      clear hL hX heq
      have z5 : decide (X ≤ L) = true := by simp; omega
      have z6 : decide (u ≤ n) = false := by simp; omega
      go_enter Try.func7, Try.ntmps7
      go_wp2_with
       (first
     | (go_at_call 18; refine (serverRight_any _ _ _ _).mono ?_; rintro e w1 ⟨rfl, hb1⟩; rw [HK.out]; rw [← HV.out] at hb1; have hbn := hb1; clear hb1; obtain ⟨k0, k1, k2, k3, k4, k5⟩ := KS.out _ hbn)
     | (go_at_call 12; refine (knows9_any _).mono ?_; rintro e w1 ⟨rfl, hb1⟩; have hbn := bel_thenD (show Below V.heap.size V _ by assumption) (Nat.le_refl _) hb1; clear hb1; obtain ⟨k0, k1, k2, k3, k4, k5⟩ := KS.out _ hbn)
     | (go_at_call 10; refine (serve_any _ _ _ _ _).mono ?_; rintro e w1 ⟨rfl, hb1⟩; rw [HA.out]; have hbn := bel_thenD (show Below V.heap.size V _ by assumption) (Nat.le_refl _) hb1; clear hb1; obtain ⟨k0, k1, k2, k3, k4, k5⟩ := KS.out _ hbn))
      clear z1 z2 z3 z4
      obtain ⟨wo, hwo⟩ : ∃ wo, wo = w1 := ⟨_, rfl⟩
      subst hwo
      go_loop [8, 10] (fun x y => ∃ (A Y : Int), y = .int .i64 A ∧ x = .int .i64 Y ∧ 1 ≤ A ∧ A ≤ 4001 ∧ 0 ≤ Y ∧ Y ≤ 3002000 ∧ Hid (Y = X - c * stepsTo A u (n - u))) (fun _ y => (5001 - intOf y).toNat)
      case atStart => exact ⟨u, 0, rfl, rfl, by omega, by omega, by omega, by omega, Lib.hid (by rw [HX.out]; omega)⟩
      case round =>
        obtain ⟨A, Y, rfl, rfl, g0, g1, g2, g3, HY⟩ := hrel
        have h1 : ¬ A + u ≤ n := by omega
        have t1 : decide (A + u ≤ n) = false := by simp; omega
        obtain rfl : Y = X := by
          have hy := HY.out
          rw [steps_none (show n - u < A by omega)] at hy
          simpa using hy
        clear HY
        obtain rfl : Y = L := HEQ.out (by simp)
        by_cases h2 : 1 < u
        · have t2 : decide (1 < u) = true := by simpa using h2
          go_wp2_with
           (first
     | (go_at_call 18; refine (serverRight_any _ _ _ _).mono ?_; rintro e w1 ⟨rfl, hb1⟩; rw [HK.out]; rw [← HV.out] at hb1; have hbn := hb1; clear hb1; obtain ⟨k0, k1, k2, k3, k4, k5⟩ := KS.out _ hbn)
     | (go_at_call 12; refine (knows9_any _).mono ?_; rintro e w1 ⟨rfl, hb1⟩; have hbn := bel_thenD (show Below V.heap.size V _ by assumption) (Nat.le_refl _) hb1; clear hb1; obtain ⟨k0, k1, k2, k3, k4, k5⟩ := KS.out _ hbn)
     | (go_at_call 10; refine (serve_any _ _ _ _ _).mono ?_; rintro e w1 ⟨rfl, hb1⟩; rw [HA.out]; have hbn := bel_thenD (show Below V.heap.size V _ by assumption) (Nat.le_refl _) hb1; clear hb1; obtain ⟨k0, k1, k2, k3, k4, k5⟩ := KS.out _ hbn))
          go_ret
          exact ⟨rfl, B2.out.trans (Below.mono (by repeat first | assumption | refine below_drewD _ ?_) B2.out.size)⟩
        · have t2 : decide (1 < u) = false := by simpa using h2
          go_wp2_with
           (first
     | (go_at_call 18; refine (serverRight_any _ _ _ _).mono ?_; rintro e w1 ⟨rfl, hb1⟩; rw [HK.out]; rw [← HV.out] at hb1; have hbn := hb1; clear hb1; obtain ⟨k0, k1, k2, k3, k4, k5⟩ := KS.out _ hbn)
     | (go_at_call 12; refine (knows9_any _).mono ?_; rintro e w1 ⟨rfl, hb1⟩; have hbn := bel_thenD (show Below V.heap.size V _ by assumption) (Nat.le_refl _) hb1; clear hb1; obtain ⟨k0, k1, k2, k3, k4, k5⟩ := KS.out _ hbn)
     | (go_at_call 10; refine (serve_any _ _ _ _ _).mono ?_; rintro e w1 ⟨rfl, hb1⟩; rw [HA.out]; have hbn := bel_thenD (show Below V.heap.size V _ by assumption) (Nat.le_refl _) hb1; clear hb1; obtain ⟨k0, k1, k2, k3, k4, k5⟩ := KS.out _ hbn))
          go_ret
          exact ⟨rfl, B2.out.trans (Below.mono (by repeat first | assumption | refine below_drewD _ ?_) B2.out.size)⟩
theorem DemandServes_walk (re : Bool) (c u : Int) (n s : Int) (w : World) :
    Calls Try.prog 7 #[.agg #[.bool re, .int .i64 c, .int .i64 u], .int .i64 n, .int .i64 s] w fun e w' => e = .returned (.bool true) ∧ Below w.heap.size w w' := by
  by_cases h : okSv ⟨re, c, u⟩ = true ∧ 0 ≤ n ∧ n ≤ 3000 ∧ 0 ≤ s ∧ s < u
  · exact DemandServes_is re c u n s w h.1 h.2.1 h.2.2.1 h.2.2.2.1 h.2.2.2.2
  · exact DemandServes_not re c u n s w fun h1 => by
      by_cases h3 : 0 ≤ n ∧ n ≤ 3000 ∧ 0 ≤ s ∧ s < u
      · exact absurd ⟨h1, h3⟩ h
      · omega
end Go.Proofs.Ytlmgphomklpplaa
