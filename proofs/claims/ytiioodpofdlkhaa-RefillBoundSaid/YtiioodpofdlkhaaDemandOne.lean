/- Joined of DemandP, DemandQ, DemandR: How much may be asked for: the program's and the document's demands of one task and of one server. -/
import Derived.Test.YtiioodpofdlkhaaDemandM
import Derived.Test.YtiioodpofdlkhaaRights
import Derived.Deep.RegionLaw
import Derived.Deep.QuietTactic
import Derived.BigQuiet
namespace Go.Proofs.Ytiioodpofdlkhaa
open Go.ChangeShapes Go.WideShapes Go.ChangeAt Go.RowKit
set_option linter.unusedVariables false

theorem below_drewD {B : Nat} {a w : World} (n : Nat) (h : Below B a w) : Below B a (w.drewN n) := ⟨h.os, h.tape, h.output, h.size, h.block⟩
theorem bel_thenD {B : Nat} {a b c : World} (h : Below B a b) (hB : B ≤ a.heap.size) (h2 : Below b.heap.size b c) : Below B a c := h.trans (h2.mono (Nat.le_trans hB h.size))
theorem ret_iD {a b : Int} (h : a = b) : Ending.returned (.int .i64 a) = .returned (.int .i64 b) := by rw [h]
/-- What a fresh box says in all later worlds. -/
theorem box_says (w : World) (cs : Array Value) (T : TypeId) (W : World) (h : Below (w.alloc (.cells cs T)).heap.size (w.alloc (.cells cs T)) W) (i : Nat) (u : Value) (hu : cs[i]? = some u) : W.cell? ⟨w.heap.size, i, none⟩ = some u :=
  (h.cell (p := ⟨w.heap.size, i, none⟩) (by simp)).trans (cell_in (heap_alloc_new w _) hu)

set_option maxRecDepth 100000 in
theorem heldD_any (n m : Int) (w : World) (m0 : 0 ≤ m) :
    Calls Try.prog 25 #[.int .i64 n, .int .i64 m] w fun e w' => e = .returned (.int .i64 (min (max n 0) m)) ∧ w = w' := by
  obtain ⟨k, hk⟩ : ∃ k : Int, k = min (max n 0) m := ⟨_, rfl⟩
  rw [← hk]
  rcases (show (n < 0 ∧ k = 0) ∨ (0 ≤ n ∧ n ≤ m ∧ k = n) ∨ (0 ≤ n ∧ m < n ∧ k = m) by omega) with ⟨e1, e2⟩ | ⟨e1, e2, e3⟩ | ⟨e1, e2, e3⟩
  all_goals
    ((first | subst e2 | subst e3)
     clear hk
     go_enter Try.func25, Try.ntmps25
     go_wp2_with fail
     go_ret
     exact ⟨rfl, rfl⟩)
set_option maxRecDepth 100000 in
theorem begun_any (t f T : Int) (w : World) (h0 : 0 ≤ t) (h1 : t ≤ 1099511627776) (f0 : 0 ≤ f) (f1 : f ≤ 1000) (hT : 1 ≤ T) (hT2 : T ≤ 1000) :
    Calls Try.prog 26 #[.int .i64 t, .int .i64 f, .int .i64 T] w fun e w' => e = .returned (.int .i64 (stepsTo f T t)) ∧ w = w' := by
  by_cases h : t < f
  · have e : stepsTo f T t = 0 := by unfold stepsTo; rw [if_pos h]
    rw [e]
    go_enter Try.func26, Try.ntmps26
    go_wp2_with fail
    go_ret
    exact ⟨rfl, rfl⟩
  · have e : stepsTo f T t = (t - f) / T + 1 := by unfold stepsTo; rw [if_neg h]
    have q0 : 0 ≤ (t - f) / T := Int.ediv_nonneg (by omega) (by omega)
    have q1 : (t - f) / T ≤ t - f := div_le_self (by omega) hT
    rw [e]
    have nz : (T == 0) = false := by simp; omega
    have nz2 : ¬ T = 0 := by omega
    go_enter Try.func26, Try.ntmps26
    go_wp2_with fail
    go_ret
    exact ⟨rfl, rfl⟩

/-- What was done of a job when n ticks were left to it. -/
def doneV (k : Tk) (n : Int) : Int := if k.d - k.v ≤ n ∧ n < k.d then max 0 (k.lo - (n - (k.d - k.v))) else 0
theorem doneAt_eq (k : Tk) (t : Int) : doneAt k t = doneV k (t % k.t) := rfl
theorem lowAt_begun (k : Tk) (t : Int) : lowAt k t = k.lo * stepsTo k.v k.t t := by
  unfold lowAt stepsTo
  split <;> simp
theorem highAt_begun {k : Tk} (h : okTk k = true) (hh : k.hi = true) {t : Int} (h0 : 0 ≤ t) : highAt k t = k.top * stepsTo (k.d - k.v) k.t t - doneAt k t := by
  obtain ⟨a1, a2, a3, a4, a5, a6, a7, a8⟩ := okTk_t h
  unfold highAt stepsTo
  by_cases h1 : t < k.d - k.v
  · have e : t % k.t = t := Int.emod_eq_of_lt h0 (by omega)
    rw [if_pos (Or.inr h1), if_pos h1]
    unfold doneAt
    rw [e, if_neg (by omega)]
    simp
  · rw [if_neg (by simp [hh]; omega), if_neg h1]
theorem servAt_begun {s : Sv} {t : Int} (hr : s.re = true) (ht : s.t ≤ t) (h : okSv s = true) : servAt s t = s.c * stepsTo 0 s.t (t - 1) := by
  obtain ⟨a1, a2, a3⟩ := okSv_t h
  unfold servAt stepsTo
  rw [hr, if_pos rfl, if_neg (by omega), if_neg (by omega), Int.sub_zero]
theorem stepsTo_bd {f T t : Int} (h0 : 0 ≤ t) (h1 : t ≤ 1099511627776) (f0 : 0 ≤ f) (hT : 1 ≤ T) : 0 ≤ stepsTo f T t ∧ stepsTo f T t ≤ 1099511627777 := by
  unfold stepsTo
  split
  · omega
  · have q0 : 0 ≤ (t - f) / T := Int.ediv_nonneg (by omega) (by omega)
    have q1 : (t - f) / T ≤ t - f := div_le_self (by omega) hT
    omega
theorem mul_bdD {a b : Int} (a0 : 0 ≤ a) (a1 : a ≤ 1000) (b0 : 0 ≤ b) (b1 : b ≤ 1099511627777) : 0 ≤ a * b ∧ a * b ≤ 1099511627777000 :=
  ⟨Int.mul_nonneg a0 b0, by have := Int.mul_le_mul a1 b1 b0 (show (0 : Int) ≤ 1000 by omega); omega⟩
end Go.Proofs.Ytiioodpofdlkhaa
namespace Go.Proofs.Ytiioodpofdlkhaa
open Go.ChangeShapes Go.WideShapes Go.ChangeAt Go.RowKit
set_option linter.unusedVariables false

theorem modT {n t : Int} (h0 : 0 ≤ n) (ht : 1 ≤ t) : n.tmod t = n % t ∧ 0 ≤ n % t ∧ n % t < t :=
  ⟨Int.tmod_eq_emod_of_nonneg h0, Int.emod_nonneg _ (by omega), Int.emod_lt_of_pos _ (by omega)⟩
theorem divT {n t : Int} (h0 : 0 ≤ n) (ht : 1 ≤ t) : n.tdiv t = n / t ∧ 0 ≤ n / t ∧ n / t ≤ n :=
  ⟨Int.tdiv_eq_ediv_of_nonneg h0, Int.ediv_nonneg h0 (by omega), div_le_self h0 ht⟩
end Go.Proofs.Ytiioodpofdlkhaa
namespace Go.Proofs.Ytiioodpofdlkhaa
open Go.ChangeShapes Go.WideShapes Go.ChangeAt Go.RowKit
set_option linter.unusedVariables false

theorem ofV_no {k : Tk} {n : Int} {high : Bool} (h : (okTk k && (k.hi || !high)) = false) : ofV k n high = 0 := by
  unfold ofV highAt
  cases h1 : okTk k <;> cases h2 : k.hi <;> cases high <;> simp_all
theorem servV_no {s : Sv} {n : Int} (h : okSv s = false) : servV s n = 0 := by unfold servV; simp [h]
theorem servV_below {s : Sv} {n : Int} (h : okSv s = true) (hn : cutT n < s.t) : servV s n = 0 := by
  have := okSv_t h
  have c0 := (cutT_in n).1
  unfold servV servAt
  rw [if_pos h]
  cases s.re
  · rw [if_neg (by simp), Int.ediv_eq_zero_of_lt c0 hn]; simp
  · rw [if_pos rfl, if_pos hn]
theorem servV_re {s : Sv} {n : Int} (h : okSv s = true) (hr : s.re = true) (hn : s.t ≤ cutT n) : servV s n = s.c * stepsTo 0 s.t (cutT n - 1) := by
  unfold servV
  rw [if_pos h, servAt_begun hr hn h]
theorem servV_not {s : Sv} {n : Int} (h : okSv s = true) (hr : s.re = false) : servV s n = s.c * (cutT n / s.t) := by
  unfold servV servAt
  rw [if_pos h, hr]
  simp
set_option maxRecDepth 100000 in
set_option maxHeartbeats 2000000 in
theorem serve_any (re : Bool) (c t : Int) (n : Int) (w : World) :
    Calls Try.prog 15 #[.agg #[.bool re, .int .i64 c, .int .i64 t], .int .i64 n] w fun e w' => e = .returned (.int .i64 (servV ⟨re, c, t⟩ n)) ∧ Below w.heap.size w w' := by
  have KS := Lib.hid (fun (W : World) (hb : Below (w.alloc (.cells #[.bool re, .int .i64 c, .int .i64 t] 27)).heap.size (w.alloc (.cells #[.bool re, .int .i64 c, .int .i64 t] 27)) W) =>
    have k := box_says w #[.bool re, .int .i64 c, .int .i64 t] 27 W hb
    (⟨k 0 _ rfl, k 1 _ rfl, k 2 _ rfl⟩ : W.cell? ⟨w.heap.size, 0, none⟩ = some (.bool re) ∧ W.cell? ⟨w.heap.size, 1, none⟩ = some (.int .i64 c) ∧ W.cell? ⟨w.heap.size, 2, none⟩ = some (.int .i64 t)))
  have B1 := Lib.hid (below1 w (.cells #[.bool re, .int .i64 c, .int .i64 t] 27))
  have c0 := (cutT_in n).1
  have c1 := (cutT_in n).2
  have HH : Hid (min (max n 0) 1099511627776 = cutT n) := Lib.hid rfl
  cases hc : okSv ⟨re, c, t⟩ with
  | false =>
    have HC := Lib.hid hc
    have HO := Lib.hid (servV_no (n := n) hc)
    clear hc
    go_enter Try.func15, Try.ntmps15
    go_wp2_with (first
      | (go_at_call 25; refine (heldD_any n 1099511627776 _ (by omega)).mono ?_; rintro e w2 ⟨rfl, rfl⟩; rw [HH.out])
      | (go_at_call 18; refine (serverRight_any _ _ _ _).mono ?_; rintro e w1 ⟨rfl, hb1⟩; rw [HC.out]))
    go_ret
    exact ⟨ret_iD HO.out.symm, bel_thenD B1.out (Nat.le_refl _) hb1⟩
  | true =>
    have HC := Lib.hid hc
    obtain ⟨a1, a2, a3⟩ := okSv_t hc
    simp only at a1 a2 a3
    by_cases hlt : cutT n < t
    · have HO := Lib.hid (servV_below hc hlt)
      clear hc
      generalize cutT n = N at *
      go_enter Try.func15, Try.ntmps15
      go_wp2_with (first
        | (go_at_call 25; refine (heldD_any n 1099511627776 _ (by omega)).mono ?_; rintro e w2 ⟨rfl, rfl⟩; rw [HH.out])
        | (go_at_call 18; refine (serverRight_any _ _ _ _).mono ?_; rintro e w1 ⟨rfl, hb1⟩; rw [HC.out]; obtain ⟨k0, k1, k2⟩ := KS.out _ hb1))
      go_ret
      exact ⟨ret_iD HO.out.symm, bel_thenD B1.out (Nat.le_refl _) hb1⟩
    · cases re with
      | true =>
        have HO := Lib.hid (servV_re hc rfl (by simpa using hlt))
        simp only at HO
        have CB := Lib.hid (fun (W : World) => begun_any (cutT n - 1) 0 t W (by omega) (by omega) (by omega) (by omega) (by omega) (by omega))
        obtain ⟨q0, q1⟩ := stepsTo_bd (f := 0) (T := t) (t := cutT n - 1) (by omega) (by omega) (by omega) (by omega)
        generalize stepsTo 0 t (cutT n - 1) = q at *
        generalize cutT n = N at *
        obtain ⟨p0, p1⟩ := mul_bdD (a := c) (b := q) (by omega) (by omega) q0 q1
        clear hc
        have s1 : IntKind.i64.wrap (c * q) = c * q := IntWalk.i64_in _ (by omega)
        have s2 : IntKind.i64.wrap (N - 1) = N - 1 := IntWalk.i64_in _ (by omega)
        have S1 := Lib.hid s1; have S2 := Lib.hid s2
        clear s1 s2
        go_enter Try.func15, Try.ntmps15
        go_wp2_with (first
          | (go_at_call 25; refine (heldD_any n 1099511627776 _ (by omega)).mono ?_; rintro e w2 ⟨rfl, rfl⟩; rw [HH.out])
          | (go_at_call 18; refine (serverRight_any _ _ _ _).mono ?_; rintro e w1 ⟨rfl, hb1⟩; rw [HC.out]; obtain ⟨k0, k1, k2⟩ := KS.out _ hb1))
        have s1 := S1.out; have s2 := S2.out
        go_region_held3 (fun W => W.cell? ⟨w.heap.size, 0, none⟩ = some (.bool true) ∧ W.cell? ⟨w.heap.size, 1, none⟩ = some (.int .i64 c) ∧ W.cell? ⟨w.heap.size, 2, none⟩ = some (.int .i64 t))
          (first | exact ⟨by assumption, by assumption, by assumption⟩ | go_keep)
          (first | (go_at_call 26; refine (CB.out _).mono ?_; rintro e w3 ⟨rfl, rfl⟩))
        all_goals
          (go_wp2_with fail
           go_ret
           exact ⟨ret_iD HO.out.symm, bel_thenD B1.out (Nat.le_refl _) (by repeat first | assumption | refine below_drewD _ ?_)⟩)
      | false =>
        have HO := Lib.hid (servV_not (n := n) hc rfl)
        simp only at HO
        obtain ⟨e1, q0, q1⟩ := divT (n := cutT n) (t := t) c0 (by omega)
        obtain ⟨q, hq⟩ : ∃ q, q = cutT n / t := ⟨_, rfl⟩
        rw [← hq] at HO e1 q0 q1
        have e3 := hq.symm
        generalize cutT n = N at *
        obtain ⟨p0, p1⟩ := mul_bdD (a := c) (b := q) (by omega) (by omega) q0 (by omega)
        clear hc hq
        have nz : (t == 0) = false := by simp; omega
        have nz2 : ¬ t = 0 := by omega
        have S1 : Hid (IntKind.i64.wrap (c * q) = c * q) := Lib.hid (IntWalk.i64_in _ (by omega))
        have S2 : Hid (IntKind.i64.wrap q = q) := Lib.hid (IntWalk.i64_in _ (by omega))
        go_enter Try.func15, Try.ntmps15
        go_wp2_with (first
          | (go_at_call 25; refine (heldD_any n 1099511627776 _ (by omega)).mono ?_; rintro e w2 ⟨rfl, rfl⟩; rw [HH.out])
          | (go_at_call 18; refine (serverRight_any _ _ _ _).mono ?_; rintro e w1 ⟨rfl, hb1⟩; rw [HC.out]; obtain ⟨k0, k1, k2⟩ := KS.out _ hb1))
        have s1 := S1.out; have s2 := S2.out
        go_quiet (fail)
        go_wp2_with fail
        go_ret
        exact ⟨ret_iD HO.out.symm, bel_thenD B1.out (Nat.le_refl _) (by repeat first | assumption | refine below_drewD _ ?_)⟩
end Go.Proofs.Ytiioodpofdlkhaa
