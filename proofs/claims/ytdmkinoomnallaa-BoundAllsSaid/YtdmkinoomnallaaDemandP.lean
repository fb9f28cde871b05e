/- How much may be asked for: the program's and the document's demands of one task and of one server. -/
import Derived.Test.YtdmkinoomnallaaDemandM
import Derived.Test.YtdmkinoomnallaaRights
import Derived.Deep.RegionLaw
namespace Go.Proofs.Ytdmkinoomnallaa
open Go.ChangeShapes Go.WideShapes Go.ChangeAt Go.RowKit
set_option linter.unusedVariables false

theorem below_drewD {B : Nat} {a w : World} (n : Nat) (h : Below B a w) : Below B a (w.drewN n) := ⟨h.os, h.tape, h.output, h.size, h.block⟩
theorem bel_thenD {B : Nat} {a b c : World} (h : Below B a b) (hB : B ≤ a.heap.size) (h2 : Below b.heap.size b c) : Below B a c := h.trans (h2.mono (Nat.le_trans hB h.size))
theorem ret_iD {a b : Int} (h : a = b) : Ending.returned (.int .i64 a) = .returned (.int .i64 b) := by rw [h]
/-- What a fresh box says in all later worlds. -/
theorem box_says (w : World) (cs : Array Value) (T : TypeId) (W : World) (h : Below (w.alloc (.cells cs T)).heap.size (w.alloc (.cells cs T)) W) (i : Nat) (u : Value) (hu : cs[i]? = some u) : W.cell? ⟨w.heap.size, i, none⟩ = some u :=
  (h.cell (p := ⟨w.heap.size, i, none⟩) (by simp)).trans (cell_in (heap_alloc_new w _) hu)

set_option maxRecDepth 100000 in
theorem heldD_any (n m : Int) (w : World) (m0 : 0 ≤ m) :
    Calls Try.prog 33 #[.int .i64 n, .int .i64 m] w fun e w' => e = .returned (.int .i64 (min (max n 0) m)) ∧ w = w' := by
  obtain ⟨k, hk⟩ : ∃ k : Int, k = min (max n 0) m := ⟨_, rfl⟩
  rw [← hk]
  rcases (show (n < 0 ∧ k = 0) ∨ (0 ≤ n ∧ n ≤ m ∧ k = n) ∨ (0 ≤ n ∧ m < n ∧ k = m) by omega) with ⟨e1, e2⟩ | ⟨e1, e2, e3⟩ | ⟨e1, e2, e3⟩
  all_goals
    ((first | subst e2 | subst e3)
     clear hk
     go_enter Try.func33, Try.ntmps33
     go_wp2_with fail
     go_ret
     exact ⟨rfl, rfl⟩)
set_option maxRecDepth 100000 in
theorem begun_any (t f T : Int) (w : World) (h0 : 0 ≤ t) (h1 : t ≤ 1099511627776) (f0 : 0 ≤ f) (f1 : f ≤ 1000) (hT : 1 ≤ T) (hT2 : T ≤ 1000) :
    Calls Try.prog 45 #[.int .i64 t, .int .i64 f, .int .i64 T] w fun e w' => e = .returned (.int .i64 (stepsTo f T t)) ∧ w = w' := by
  by_cases h : t < f
  · have e : stepsTo f T t = 0 := by unfold stepsTo; rw [if_pos h]
    rw [e]
    go_enter Try.func45, Try.ntmps45
    go_wp2_with fail
    go_ret
    exact ⟨rfl, rfl⟩
  · have e : stepsTo f T t = (t - f) / T + 1 := by unfold stepsTo; rw [if_neg h]
    have q0 : 0 ≤ (t - f) / T := Int.ediv_nonneg (by omega) (by omega)
    have q1 : (t - f) / T ≤ t - f := div_le_self (by omega) hT
    rw [e]
    have nz : (T == 0) = false := by simp; omega
    have nz2 : ¬ T = 0 := by omega
    go_enter Try.func45, Try.ntmps45
    go_wp2_with fail
    go_ret
    exact ⟨rfl, rfl⟩
set_option maxRecDepth 100000 in
theorem counts_any (b : Bool) (t d v lo top : Int) (high : Bool) (w : World) :
    Calls Try.prog 34 #[.agg #[.bool b, .int .i64 t, .int .i64 d, .int .i64 v, .int .i64 lo, .int .i64 top], .bool high] w fun e w' => e = .returned (.bool (okTk ⟨b, t, d, v, lo, top⟩ && (b || !high))) ∧ Below w.heap.size w w' := by
  have KS := Lib.hid (box_says w #[.bool b, .int .i64 t, .int .i64 d, .int .i64 v, .int .i64 lo, .int .i64 top] 60)
  have B1 := Lib.hid (below1 w (.cells #[.bool b, .int .i64 t, .int .i64 d, .int .i64 v, .int .i64 lo, .int .i64 top] 60))
  cases hk : okTk ⟨b, t, d, v, lo, top⟩
  all_goals
    (have HK := Lib.hid hk
     clear hk
     cases b <;> cases high)
  all_goals
    (go_enter Try.func34, Try.ntmps34
     go_wp2_with (first
       | (go_at_call 38; refine (taskRight_any _ _ _ _ _ _ _).mono ?_; rintro e w1 ⟨rfl, hb1⟩; rw [HK.out]; have k0 := KS.out _ hb1 0 _ rfl))
     go_ret
     exact ⟨rfl, bel_thenD B1.out (Nat.le_refl _) (by assumption)⟩)

/-- What was done of a job when n ticks were left to it. -/
def doneV (k : Tk) (n : Int) : Int := if k.d - k.v ≤ n ∧ n < k.d then max 0 (k.lo - (n - (k.d - k.v))) else 0
theorem doneAt_eq (k : Tk) (t : Int) : doneAt k t = doneV k (t % k.t) := rfl
theorem lowAt_begun (k : Tk) (t : Int) : lowAt k t = k.lo * stepsTo k.v k.t t := by
  unfold lowAt stepsTo
  split <;> simp
theorem highAt_begun {k : Tk} (h : okTk k = true) (hh : k.hi = true) {t : Int} (h0 : 0 ≤ t) : highAt k t = k.top * stepsTo (k.d - k.v) k.t t - doneAt k t := by
  obtain ⟨a1, a2, a3, a4, a5, a6, a7, a8⟩ := okTk_t h
  unfold highAt stepsTo
  by_cases h1 : t < k.d - k.v
  · have e : t % k.t = t := Int.emod_eq_of_lt h0 (by omega)
    rw [if_pos (Or.inr h1), if_pos h1]
    unfold doneAt
    rw [e, if_neg (by omega)]
    simp
  · rw [if_neg (by simp [hh]; omega), if_neg h1]
theorem servAt_begun {s : Sv} {t : Int} (hr : s.re = true) (ht : s.t ≤ t) (h : okSv s = true) : servAt s t = s.c * stepsTo 0 s.t (t - 1) := by
  obtain ⟨a1, a2, a3⟩ := okSv_t h
  unfold servAt stepsTo
  rw [hr, if_pos rfl, if_neg (by omega), if_neg (by omega), Int.sub_zero]
theorem stepsTo_bd {f T t : Int} (h0 : 0 ≤ t) (h1 : t ≤ 1099511627776) (f0 : 0 ≤ f) (hT : 1 ≤ T) : 0 ≤ stepsTo f T t ∧ stepsTo f T t ≤ 1099511627777 := by
  unfold stepsTo
  split
  · omega
  · have q0 : 0 ≤ (t - f) / T := Int.ediv_nonneg (by omega) (by omega)
    have q1 : (t - f) / T ≤ t - f := div_le_self (by omega) hT
    omega
theorem mul_bdD {a b : Int} (a0 : 0 ≤ a) (a1 : a ≤ 1000) (b0 : 0 ≤ b) (b1 : b ≤ 1099511627777) : 0 ≤ a * b ∧ a * b ≤ 1099511627777000 :=
  ⟨Int.mul_nonneg a0 b0, by have := Int.mul_le_mul a1 b1 b0 (show (0 : Int) ≤ 1000 by omega); omega⟩
set_option maxRecDepth 100000 in
theorem lowOf_any (b : Bool) (t d v lo top : Int) (n : Int) (w : World) (h : okTk ⟨b, t, d, v, lo, top⟩ = true) (h0 : 0 ≤ n) (h1 : n ≤ 1099511627776) :
    Calls Try.prog 44 #[.agg #[.bool b, .int .i64 t, .int .i64 d, .int .i64 v, .int .i64 lo, .int .i64 top], .int .i64 n] w fun e w' => e = .returned (.int .i64 (lowAt ⟨b, t, d, v, lo, top⟩ n)) ∧ Below w.heap.size w w' := by
  have KS := Lib.hid (box_says w #[.bool b, .int .i64 t, .int .i64 d, .int .i64 v, .int .i64 lo, .int .i64 top] 60)
  have B1 := Lib.hid (below1 w (.cells #[.bool b, .int .i64 t, .int .i64 d, .int .i64 v, .int .i64 lo, .int .i64 top] 60))
  obtain ⟨a1, a2, a3, a4, a5, a6, a7, a8⟩ := okTk_t h
  have CB := Lib.hid (fun (W : World) => begun_any n v t W h0 h1 (by simp at *; omega) (by simp at *; omega) (by simp at *; omega) (by simp at *; omega))
  have HE := Lib.hid (lowAt_begun ⟨b, t, d, v, lo, top⟩ n)
  simp at a1 a2 a3 a4 a5 a6 a7
  obtain ⟨q0, q1⟩ := stepsTo_bd (f := v) (T := t) h0 h1 (by omega) (by omega)
  simp only at HE
  generalize stepsTo v t n = q at *
  obtain ⟨p0, p1⟩ := mul_bdD (a := lo) (b := q) (by omega) (by omega) q0 q1
  have s1 : IntKind.i64.wrap (lo * q) = lo * q := IntWalk.i64_in _ (by omega)
  clear h a8
  go_enter Try.func44, Try.ntmps44
  go_wp2_with fail
  have k1 := KS.out _ (Below.refl _ _) 1 _ rfl
  have k3 := KS.out _ (Below.refl _ _) 3 _ rfl
  have k4 := KS.out _ (Below.refl _ _) 4 _ rfl
  go_region_held3 (fun W => W.cell? ⟨w.heap.size, 1, none⟩ = some (.int .i64 t) ∧ W.cell? ⟨w.heap.size, 3, none⟩ = some (.int .i64 v) ∧ W.cell? ⟨w.heap.size, 4, none⟩ = some (.int .i64 lo))
    (first | exact ⟨by assumption, by assumption, by assumption⟩ | go_keep)
    (first | (go_at_call 45; refine (CB.out _).mono ?_; rintro e w1 ⟨rfl, rfl⟩))
  all_goals
    (go_wp2_with fail
     go_ret
     exact ⟨ret_iD HE.out.symm, by repeat first | exact B1.out | refine below_drewD _ ?_⟩)
end Go.Proofs.Ytdmkinoomnallaa
