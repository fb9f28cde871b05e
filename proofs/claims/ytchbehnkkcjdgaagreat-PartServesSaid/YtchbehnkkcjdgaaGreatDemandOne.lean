/- Joined of DemandP, DemandQ, DemandR: How much may be asked for: the program's and the document's demands of one task and of one server. -/
import Derived.Test.YtchbehnkkcjdgaaGreatPlains
import Derived.Test.YtchbehnkkcjdgaaGreatRights
import Derived.Deep.RegionLaw
import Derived.Deep.QuietTactic
import Derived.BigQuiet
namespace Go.Proofs.YtchbehnkkcjdgaaGreat
open Go.ChangeShapes Go.WideShapes Go.ChangeAt Go.RowKit
set_option linter.unusedVariables false
theorem below_drewD {B : Nat} {a w : World} (n : Nat) (h : Below B a w) : Below B a (w.drewN n) := ⟨h.os, h.tape, h.output, h.size, h.block⟩
theorem bel_thenD {B : Nat} {a b c : World} (h : Below B a b) (hB : B ≤ a.heap.size) (h2 : Below b.heap.size b c) : Below B a c := h.trans (h2.mono (Nat.le_trans hB h.size))
theorem ret_iD {a b : Int} (h : a = b) : Ending.returned (.int .i64 a) = .returned (.int .i64 b) := by rw [h]
/-- What a fresh box says in all later worlds. -/
theorem box_says (w : World) (cs : Array Value) (T : TypeId) (W : World) (h : Below (w.alloc (.cells cs T)).heap.size (w.alloc (.cells cs T)) W) (i : Nat) (u : Value) (hu : cs[i]? = some u) : W.cell? ⟨w.heap.size, i, none⟩ = some u :=
 (h.cell (p := ⟨w.heap.size, i, none⟩) (by simp)).trans (cell_in (heap_alloc_new w _) hu)
set_option maxRecDepth 100000 in
theorem heldD_any (n m : Int) (w : World) (m0 : 0 ≤ m) :
 Calls Tryz.prog 136 #[.int .i64 n, .int .i64 m] w fun e w' => e = .returned (.int .i64 (min (max n 0) m)) ∧ w = w' := by
 obtain ⟨k, hk⟩ : ∃ k : Int, k = min (max n 0) m := ⟨_, rfl⟩
 rw [← hk]
 rcases (show (n < 0 ∧ k = 0) ∨ (0 ≤ n ∧ n ≤ m ∧ k = n) ∨ (0 ≤ n ∧ m < n ∧ k = m) by omega) with ⟨e1, e2⟩ | ⟨e1, e2, e3⟩ | ⟨e1, e2, e3⟩
 all_goals
  ((first | subst e2 | subst e3)
   clear hk
   go_enter Tryz.func136, Tryz.ntmps136
   go_wp2_with fail
   go_ret
   exact ⟨rfl, rfl⟩)
set_option maxRecDepth 100000 in
theorem begun_any (t f T : Int) (w : World) (h0 : 0 ≤ t) (h1 : t ≤ 1099511627776) (f0 : 0 ≤ f) (f1 : f ≤ 1000) (hT : 1 ≤ T) (hT2 : T ≤ 1000) :
 Calls Tryz.prog 174 #[.int .i64 t, .int .i64 f, .int .i64 T] w fun e w' => e = .returned (.int .i64 (stepsTo f T t)) ∧ w = w' := by
 by_cases h : t < f
 ·have e : stepsTo f T t = 0 := by unfold stepsTo; rw [if_pos h]
  rw [e]
  go_enter Tryz.func174, Tryz.ntmps174
  go_wp2_with fail
  go_ret
  exact ⟨rfl, rfl⟩
 ·have e : stepsTo f T t = (t - f) / T + 1 := by unfold stepsTo; rw [if_neg h]
  have q0 : 0 ≤ (t - f) / T := Int.ediv_nonneg (by omega) (by omega)
  have q1 : (t - f) / T ≤ t - f := div_le_self (by omega) hT
  rw [e]
  have nz : (T == 0) = false := by simp; omega
  have nz2 : ¬ T = 0 := by omega
  go_enter Tryz.func174, Tryz.ntmps174
  go_wp2_with fail
  go_ret
  exact ⟨rfl, rfl⟩
set_option maxRecDepth 100000 in
theorem counts_any (b : Bool) (t d v lo top : Int) (high : Bool) (w : World) :
 Calls Tryz.prog 137 #[.agg #[.bool b, .int .i64 t, .int .i64 d, .int .i64 v, .int .i64 lo, .int .i64 top], .bool high] w fun e w' => e = .returned (.bool (okTk ⟨b, t, d, v, lo, top⟩ && (b || !high))) ∧ Below w.heap.size w w' := by
 have KS := Lib.hid (box_says w #[.bool b, .int .i64 t, .int .i64 d, .int .i64 v, .int .i64 lo, .int .i64 top] 111)
 have B1 := Lib.hid (below1 w (.cells #[.bool b, .int .i64 t, .int .i64 d, .int .i64 v, .int .i64 lo, .int .i64 top] 111))
 cases hk : okTk ⟨b, t, d, v, lo, top⟩
 all_goals
  (have HK := Lib.hid hk
   clear hk
   cases b <;> cases high)
 all_goals
  (go_enter Tryz.func137, Tryz.ntmps137
   go_wp2_with (first
    | (go_at_call 175; refine (taskRight_any _ _ _ _ _ _ _).mono ?_; rintro e w1 ⟨rfl, hb1⟩; rw [HK.out]; have k0 := KS.out _ hb1 0 _ rfl))
   go_ret
   exact ⟨rfl, bel_thenD B1.out (Nat.le_refl _) (by assumption)⟩)
/-- What was done of a job when n ticks were left to it. -/
def doneV (k : Tk) (n : Int) : Int := if k.d - k.v ≤ n ∧ n < k.d then max 0 (k.lo - (n - (k.d - k.v))) else 0
theorem doneAt_eq (k : Tk) (t : Int) : doneAt k t = doneV k (t % k.t) := rfl
theorem lowAt_begun (k : Tk) (t : Int) : lowAt k t = k.lo * stepsTo k.v k.t t := by
 unfold lowAt stepsTo
 split <;> simp
theorem highAt_begun {k : Tk} (h : okTk k = true) (hh : k.hi = true) {t : Int} (h0 : 0 ≤ t) : highAt k t = k.top * stepsTo (k.d - k.v) k.t t - doneAt k t := by
 obtain ⟨a1, a2, a3, a4, a5, a6, a7, a8⟩ := okTk_t h
 unfold highAt stepsTo
 by_cases h1 : t < k.d - k.v
 ·have e : t % k.t = t := Int.emod_eq_of_lt h0 (by omega)
  rw [if_pos (Or.inr h1), if_pos h1]
  unfold doneAt
  rw [e, if_neg (by omega)]
  simp
 ·rw [if_neg (by simp [hh]; omega), if_neg h1]
theorem servAt_begun {s : Sv} {t : Int} (hr : s.re = true) (ht : s.t ≤ t) (h : okSv s = true) : servAt s t = s.c * stepsTo 0 s.t (t - 1) := by
 obtain ⟨a1, a2, a3⟩ := okSv_t h
 unfold servAt stepsTo
 rw [hr, if_pos rfl, if_neg (by omega), if_neg (by omega), Int.sub_zero]
theorem stepsTo_bd {f T t : Int} (h0 : 0 ≤ t) (h1 : t ≤ 1099511627776) (f0 : 0 ≤ f) (hT : 1 ≤ T) : 0 ≤ stepsTo f T t ∧ stepsTo f T t ≤ 1099511627777 := by
 unfold stepsTo
 split
 ·omega
 ·have q0 : 0 ≤ (t - f) / T := Int.ediv_nonneg (by omega) (by omega)
  have q1 : (t - f) / T ≤ t - f := div_le_self (by omega) hT
  omega
theorem mul_bdD {a b : Int} (a0 : 0 ≤ a) (a1 : a ≤ 1000) (b0 : 0 ≤ b) (b1 : b ≤ 1099511627777) : 0 ≤ a * b ∧ a * b ≤ 1099511627777000 :=
 ⟨Int.mul_nonneg a0 b0, by have := Int.mul_le_mul a1 b1 b0 (show (0 : Int) ≤ 1000 by omega); omega⟩
set_option maxRecDepth 100000 in
theorem lowOf_any (b : Bool) (t d v lo top : Int) (n : Int) (w : World) (h : okTk ⟨b, t, d, v, lo, top⟩ = true) (h0 : 0 ≤ n) (h1 : n ≤ 1099511627776) :
 Calls Tryz.prog 173 #[.agg #[.bool b, .int .i64 t, .int .i64 d, .int .i64 v, .int .i64 lo, .int .i64 top], .int .i64 n] w fun e w' => e = .returned (.int .i64 (lowAt ⟨b, t, d, v, lo, top⟩ n)) ∧ Below w.heap.size w w' := by
 have KS := Lib.hid (box_says w #[.bool b, .int .i64 t, .int .i64 d, .int .i64 v, .int .i64 lo, .int .i64 top] 111)
 have B1 := Lib.hid (below1 w (.cells #[.bool b, .int .i64 t, .int .i64 d, .int .i64 v, .int .i64 lo, .int .i64 top] 111))
 obtain ⟨a1, a2, a3, a4, a5, a6, a7, a8⟩ := okTk_t h
 have CB := Lib.hid (fun (W : World) => begun_any n v t W h0 h1 (by simp at *; omega) (by simp at *; omega) (by simp at *; omega) (by simp at *; omega))
 have HE := Lib.hid (lowAt_begun ⟨b, t, d, v, lo, top⟩ n)
 simp at a1 a2 a3 a4 a5 a6 a7
 obtain ⟨q0, q1⟩ := stepsTo_bd (f := v) (T := t) h0 h1 (by omega) (by omega)
 simp only at HE
 generalize stepsTo v t n = q at *
 obtain ⟨p0, p1⟩ := mul_bdD (a := lo) (b := q) (by omega) (by omega) q0 q1
 have s1 : IntKind.i64.wrap (lo * q) = lo * q := IntWalk.i64_in _ (by omega)
 clear h a8
 go_enter Tryz.func173, Tryz.ntmps173
 go_wp2_with fail
 have k1 := KS.out _ (Below.refl _ _) 1 _ rfl
 have k3 := KS.out _ (Below.refl _ _) 3 _ rfl
 have k4 := KS.out _ (Below.refl _ _) 4 _ rfl
 go_region_held3 (fun W => W.cell? ⟨w.heap.size, 1, none⟩ = some (.int .i64 t) ∧ W.cell? ⟨w.heap.size, 3, none⟩ = some (.int .i64 v) ∧ W.cell? ⟨w.heap.size, 4, none⟩ = some (.int .i64 lo))
  (first | exact ⟨by assumption, by assumption, by assumption⟩ | go_keep)
  (first | (go_at_call 174; refine (CB.out _).mono ?_; rintro e w1 ⟨rfl, rfl⟩))
 all_goals
  (go_wp2_with fail
   go_ret
   exact ⟨ret_iD HE.out.symm, by repeat first | exact B1.out | refine below_drewD _ ?_⟩)
end Go.Proofs.YtchbehnkkcjdgaaGreat
namespace Go.Proofs.YtchbehnkkcjdgaaGreat
open Go.ChangeShapes Go.WideShapes Go.ChangeAt Go.RowKit
set_option linter.unusedVariables false
set_option maxRecDepth 100000 in
set_option maxHeartbeats 1000000 in
theorem done_any (b : Bool) (t d v lo top : Int) (n : Int) (w : World) (h : okTk ⟨b, t, d, v, lo, top⟩ = true) (h0 : 0 ≤ n) (h1 : n ≤ 1000) :
 Calls Tryz.prog 192 #[.agg #[.bool b, .int .i64 t, .int .i64 d, .int .i64 v, .int .i64 lo, .int .i64 top], .int .i64 n] w fun e w' => e = .returned (.int .i64 (doneV ⟨b, t, d, v, lo, top⟩ n)) ∧ Below w.heap.size w w' := by
 have B1 := Lib.hid (below1 w (.cells #[.bool b, .int .i64 t, .int .i64 d, .int .i64 v, .int .i64 lo, .int .i64 top] 111))
 obtain ⟨a1, a2, a3, a4, a5, a6, a7, a8⟩ := okTk_t h
 simp at a1 a2 a3 a4 a5 a6 a7
 obtain ⟨k, hk⟩ : ∃ k : Int, k = doneV ⟨b, t, d, v, lo, top⟩ n := ⟨_, rfl⟩
 rw [← hk]
 unfold doneV at hk
 simp only at hk
 clear h a8
 rcases (show (n < d - v ∧ k = 0) ∨ (d - v ≤ n ∧ d ≤ n ∧ k = 0) ∨ (d - v ≤ n ∧ n < d ∧ lo - (n - (d - v)) < 0 ∧ k = 0) ∨ (d - v ≤ n ∧ n < d ∧ 0 ≤ lo - (n - (d - v)) ∧ k = lo - (n - (d - v))) by split at hk <;> omega) with ⟨e1, e2⟩ | ⟨e1, e2, e3⟩ | ⟨e1, e2, e3, e4⟩ | ⟨e1, e2, e3, e4⟩
 all_goals
  ((first | subst e4 | subst e3 | subst e2)
   clear hk
   go_enter Tryz.func192, Tryz.ntmps192
   go_wp2_with fail
   go_ret
   exact ⟨rfl, B1.out⟩)
theorem modT {n t : Int} (h0 : 0 ≤ n) (ht : 1 ≤ t) : n.tmod t = n % t ∧ 0 ≤ n % t ∧ n % t < t :=
 ⟨Int.tmod_eq_emod_of_nonneg h0, Int.emod_nonneg _ (by omega), Int.emod_lt_of_pos _ (by omega)⟩
theorem divT {n t : Int} (h0 : 0 ≤ n) (ht : 1 ≤ t) : n.tdiv t = n / t ∧ 0 ≤ n / t ∧ n / t ≤ n :=
 ⟨Int.tdiv_eq_ediv_of_nonneg h0, Int.ediv_nonneg h0 (by omega), div_le_self h0 ht⟩
set_option maxRecDepth 100000 in
set_option maxHeartbeats 2000000 in
theorem highOf_any (t d v lo top : Int) (n : Int) (w : World) (h : okTk ⟨true, t, d, v, lo, top⟩ = true) (h0 : 0 ≤ n) (h1 : n ≤ 1099511627776) :
 Calls Tryz.prog 172 #[.agg #[.bool true, .int .i64 t, .int .i64 d, .int .i64 v, .int .i64 lo, .int .i64 top], .int .i64 n] w fun e w' => e = .returned (.int .i64 (highAt ⟨true, t, d, v, lo, top⟩ n)) ∧ Below w.heap.size w w' := by
 have B1 := Lib.hid (below1 w (.cells #[.bool true, .int .i64 t, .int .i64 d, .int .i64 v, .int .i64 lo, .int .i64 top] 111))
 have KS := Lib.hid (fun (W : World) (hb : Below (w.alloc (.cells #[.bool true, .int .i64 t, .int .i64 d, .int .i64 v, .int .i64 lo, .int .i64 top] 111)).heap.size (w.alloc (.cells #[.bool true, .int .i64 t, .int .i64 d, .int .i64 v, .int .i64 lo, .int .i64 top] 111)) W) =>
  have k := box_says w #[.bool true, .int .i64 t, .int .i64 d, .int .i64 v, .int .i64 lo, .int .i64 top] 111 W hb
  (⟨hb, k 0 _ rfl, k 1 _ rfl, k 2 _ rfl, k 3 _ rfl, k 4 _ rfl, k 5 _ rfl⟩ : Below (w.alloc (.cells #[.bool true, .int .i64 t, .int .i64 d, .int .i64 v, .int .i64 lo, .int .i64 top] 111)).heap.size (w.alloc (.cells #[.bool true, .int .i64 t, .int .i64 d, .int .i64 v, .int .i64 lo, .int .i64 top] 111)) W ∧ W.cell? ⟨w.heap.size, 0, none⟩ = some (.bool true) ∧ W.cell? ⟨w.heap.size, 1, none⟩ = some (.int .i64 t) ∧ W.cell? ⟨w.heap.size, 2, none⟩ = some (.int .i64 d) ∧ W.cell? ⟨w.heap.size, 3, none⟩ = some (.int .i64 v) ∧ W.cell? ⟨w.heap.size, 4, none⟩ = some (.int .i64 lo) ∧ W.cell? ⟨w.heap.size, 5, none⟩ = some (.int .i64 top)))
 obtain ⟨a1, a2, a3, a4, a5, a6, a7, a8⟩ := okTk_t h
 have HE := Lib.hid (highAt_begun h rfl h0)
 have hdn := doneAt_bd (t := n) h
 rw [doneAt_eq] at hdn
 simp only [doneAt_eq] at HE
 simp only at a1 a2 a3 a4 a5 a6 a7 HE hdn
 have CB := Lib.hid (fun (W : World) => begun_any n (d - v) t W h0 h1 (by omega) (by omega) (by omega) (by omega))
 obtain ⟨e1, r0, r1⟩ := modT (t := t) h0 (by omega)
 have CD := Lib.hid (fun (W : World) => done_any true t d v lo top (n % t) W h r0 (by omega))
 obtain ⟨q0, q1⟩ := stepsTo_bd (f := d - v) (T := t) h0 h1 (by omega) (by omega)
 generalize stepsTo (d - v) t n = q at *
 obtain ⟨p0, p1⟩ := mul_bdD (a := top) (b := q) (by omega) (by omega) q0 q1
 have e2 : n % t = n % t := rfl
 generalize doneV ⟨true, t, d, v, lo, top⟩ (n % t) = y at *
 obtain ⟨r, hr⟩ : ∃ r, r = n % t := ⟨_, rfl⟩
 rw [← hr] at e1 r0 r1 CD
 have e3 : n % t = r := hr.symm
 clear h a8 e2 hr
 have s1 : IntKind.i64.wrap (top * q) = top * q := IntWalk.i64_in _ (by omega)
 have s2 : IntKind.i64.wrap (d - v) = d - v := IntWalk.i64_in _ (by omega)
 have s3 : IntKind.i64.wrap r = r := IntWalk.i64_in _ (by omega)
 have s4 : IntKind.i64.wrap (top * q - y) = top * q - y := IntWalk.i64_in _ (by omega)
 have nz : (t == 0) = false := by simp; omega
 have nz2 : ¬ t = 0 := by omega
 go_enter Tryz.func172, Tryz.ntmps172
 go_wp2_with fail
 obtain ⟨_, k0, k1, k2, k3, k4, k5⟩ := KS.out _ (Below.refl _ _)
 go_region_held3 (fun W => Below (w.alloc (.cells #[.bool true, .int .i64 t, .int .i64 d, .int .i64 v, .int .i64 lo, .int .i64 top] 111)).heap.size (w.alloc (.cells #[.bool true, .int .i64 t, .int .i64 d, .int .i64 v, .int .i64 lo, .int .i64 top] 111)) W ∧ W.cell? ⟨w.heap.size, 0, none⟩ = some (.bool true) ∧ W.cell? ⟨w.heap.size, 1, none⟩ = some (.int .i64 t) ∧ W.cell? ⟨w.heap.size, 2, none⟩ = some (.int .i64 d) ∧ W.cell? ⟨w.heap.size, 3, none⟩ = some (.int .i64 v) ∧ W.cell? ⟨w.heap.size, 4, none⟩ = some (.int .i64 lo) ∧ W.cell? ⟨w.heap.size, 5, none⟩ = some (.int .i64 top))
  (first | exact KS.out _ ((Below.refl _ _).drew) | exact KS.out _ (by assumption))
  (first
    | (go_at_call 174; refine (CB.out _).mono ?_; rintro e w1 ⟨rfl, rfl⟩)
    | (go_at_call 192; refine (CD.out _).mono ?_; rintro e w2 ⟨rfl, hb5⟩; have hbn : Below (w.alloc (.cells #[.bool true, .int .i64 t, .int .i64 d, .int .i64 v, .int .i64 lo, .int .i64 top] 111)).heap.size (w.alloc (.cells #[.bool true, .int .i64 t, .int .i64 d, .int .i64 v, .int .i64 lo, .int .i64 top] 111)) w2 := (by go_split_ands; exact bel_thenD (by assumption) (Nat.le_refl _) hb5)))
 all_goals
  (go_wp2_with fail
   go_ret
   exact ⟨ret_iD HE.out.symm, bel_thenD B1.out (Nat.le_refl _) (by repeat first | assumption | refine below_drewD _ ?_)⟩)
end Go.Proofs.YtchbehnkkcjdgaaGreat
namespace Go.Proofs.YtchbehnkkcjdgaaGreat
open Go.ChangeShapes Go.WideShapes Go.ChangeAt Go.RowKit
set_option linter.unusedVariables false
theorem ofV_no {k : Tk} {n : Int} {high : Bool} (h : (okTk k && (k.hi || !high)) = false) : ofV k n high = 0 := by
 unfold ofV highAt
 cases h1 : okTk k <;> cases h2 : k.hi <;> cases high <;> simp_all
set_option maxRecDepth 100000 in
set_option maxHeartbeats 2000000 in
theorem of_any (b : Bool) (t d v lo top : Int) (n : Int) (high : Bool) (w : World) :
 Calls Tryz.prog 130 #[.agg #[.bool b, .int .i64 t, .int .i64 d, .int .i64 v, .int .i64 lo, .int .i64 top], .int .i64 n, .bool high] w fun e w' => e = .returned (.int .i64 (ofV ⟨b, t, d, v, lo, top⟩ n high)) ∧ Below w.heap.size w w' := by
 have KS := Lib.hid (fun (W : World) (hb : Below (w.alloc (.cells #[.bool b, .int .i64 t, .int .i64 d, .int .i64 v, .int .i64 lo, .int .i64 top] 111)).heap.size (w.alloc (.cells #[.bool b, .int .i64 t, .int .i64 d, .int .i64 v, .int .i64 lo, .int .i64 top] 111)) W) =>
  have k := box_says w #[.bool b, .int .i64 t, .int .i64 d, .int .i64 v, .int .i64 lo, .int .i64 top] 111 W hb
  (⟨k 0 _ rfl, k 1 _ rfl, k 2 _ rfl, k 3 _ rfl, k 4 _ rfl, k 5 _ rfl⟩ : W.cell? ⟨w.heap.size, 0, none⟩ = some (.bool b) ∧ W.cell? ⟨w.heap.size, 1, none⟩ = some (.int .i64 t) ∧ W.cell? ⟨w.heap.size, 2, none⟩ = some (.int .i64 d) ∧ W.cell? ⟨w.heap.size, 3, none⟩ = some (.int .i64 v) ∧ W.cell? ⟨w.heap.size, 4, none⟩ = some (.int .i64 lo) ∧ W.cell? ⟨w.heap.size, 5, none⟩ = some (.int .i64 top)))
 have B1 := Lib.hid (below1 w (.cells #[.bool b, .int .i64 t, .int .i64 d, .int .i64 v, .int .i64 lo, .int .i64 top] 111))
 have c0 := (cutT_in n).1
 have c1 := (cutT_in n).2
 have HH : Hid (min (max n 0) 1099511627776 = cutT n) := Lib.hid rfl
 cases hc : (okTk ⟨b, t, d, v, lo, top⟩ && (b || !high)) with
 | false =>
   have HC := Lib.hid hc
   have HO := Lib.hid (ofV_no (n := n) hc)
   clear hc
   go_enter Tryz.func130, Tryz.ntmps130
   go_wp2_with (first
    | (go_at_call 137; refine (counts_any _ _ _ _ _ _ _ _).mono ?_; rintro e w1 ⟨rfl, hb1⟩; rw [HC.out]))
   go_ret
   exact ⟨ret_iD HO.out.symm, bel_thenD B1.out (Nat.le_refl _) hb1⟩
 | true =>
   have HC := Lib.hid hc
   have hk : okTk ⟨b, t, d, v, lo, top⟩ = true := by simp at hc; exact hc.1
   cases high with
   | false =>
     have HO : Hid (ofV ⟨b, t, d, v, lo, top⟩ n false = lowAt ⟨b, t, d, v, lo, top⟩ (cutT n)) := Lib.hid (by unfold ofV; simp [hk])
     have CL := Lib.hid (fun (W : World) => lowOf_any b t d v lo top (cutT n) W hk c0 c1)
     clear hc hk
     generalize cutT n = N at *
     go_enter Tryz.func130, Tryz.ntmps130
     go_wp2_with (first
      | (go_at_call 137; refine (counts_any _ _ _ _ _ _ _ _).mono ?_; rintro e w1 ⟨rfl, hb1⟩; rw [HC.out]; obtain ⟨k0, k1, k2, k3, k4, k5⟩ := KS.out _ hb1)
      | (go_at_call 136; refine (heldD_any n 1099511627776 _ (by omega)).mono ?_; rintro e w2 ⟨rfl, rfl⟩; rw [HH.out])
      | (go_at_call 173; refine (CL.out _).mono ?_; rintro e w3 ⟨rfl, hb3⟩))
     go_ret
     exact ⟨ret_iD HO.out.symm, bel_thenD (bel_thenD B1.out (Nat.le_refl _) hb1) (Nat.le_refl _) hb3⟩
   | true =>
     obtain rfl : b = true := by simp at hc; exact hc.2
     have HO : Hid (ofV ⟨true, t, d, v, lo, top⟩ n true = highAt ⟨true, t, d, v, lo, top⟩ (cutT n)) := Lib.hid (by unfold ofV; simp [hk])
     have CL := Lib.hid (fun (W : World) => highOf_any t d v lo top (cutT n) W hk c0 c1)
     clear hc hk
     generalize cutT n = N at *
     go_enter Tryz.func130, Tryz.ntmps130
     go_wp2_with (first
      | (go_at_call 137; refine (counts_any _ _ _ _ _ _ _ _).mono ?_; rintro e w1 ⟨rfl, hb1⟩; rw [HC.out]; obtain ⟨k0, k1, k2, k3, k4, k5⟩ := KS.out _ hb1)
      | (go_at_call 136; refine (heldD_any n 1099511627776 _ (by omega)).mono ?_; rintro e w2 ⟨rfl, rfl⟩; rw [HH.out])
      | (go_at_call 172; refine (CL.out _).mono ?_; rintro e w3 ⟨rfl, hb3⟩))
     go_ret
     exact ⟨ret_iD HO.out.symm, bel_thenD (bel_thenD B1.out (Nat.le_refl _) hb1) (Nat.le_refl _) hb3⟩
theorem servV_no {s : Sv} {n : Int} (h : okSv s = false) : servV s n = 0 := by unfold servV; simp [h]
theorem servV_below {s : Sv} {n : Int} (h : okSv s = true) (hn : cutT n < s.t) : servV s n = 0 := by
 have := okSv_t h
 have c0 := (cutT_in n).1
 unfold servV servAt
 rw [if_pos h]
 cases s.re
 ·rw [if_neg (by simp), Int.ediv_eq_zero_of_lt c0 hn]; simp
 ·rw [if_pos rfl, if_pos hn]
theorem servV_re {s : Sv} {n : Int} (h : okSv s = true) (hr : s.re = true) (hn : s.t ≤ cutT n) : servV s n = s.c * stepsTo 0 s.t (cutT n - 1) := by
 unfold servV
 rw [if_pos h, servAt_begun hr hn h]
theorem servV_not {s : Sv} {n : Int} (h : okSv s = true) (hr : s.re = false) : servV s n = s.c * (cutT n / s.t) := by
 unfold servV servAt
 rw [if_pos h, hr]
 simp
set_option maxRecDepth 100000 in
set_option maxHeartbeats 2000000 in
theorem serve_any (re : Bool) (c t : Int) (n : Int) (w : World) :
 Calls Tryz.prog 131 #[.agg #[.bool re, .int .i64 c, .int .i64 t], .int .i64 n] w fun e w' => e = .returned (.int .i64 (servV ⟨re, c, t⟩ n)) ∧ Below w.heap.size w w' := by
 have KS := Lib.hid (fun (W : World) (hb : Below (w.alloc (.cells #[.bool re, .int .i64 c, .int .i64 t] 114)).heap.size (w.alloc (.cells #[.bool re, .int .i64 c, .int .i64 t] 114)) W) =>
  have k := box_says w #[.bool re, .int .i64 c, .int .i64 t] 114 W hb
  (⟨k 0 _ rfl, k 1 _ rfl, k 2 _ rfl⟩ : W.cell? ⟨w.heap.size, 0, none⟩ = some (.bool re) ∧ W.cell? ⟨w.heap.size, 1, none⟩ = some (.int .i64 c) ∧ W.cell? ⟨w.heap.size, 2, none⟩ = some (.int .i64 t)))
 have B1 := Lib.hid (below1 w (.cells #[.bool re, .int .i64 c, .int .i64 t] 114))
 have c0 := (cutT_in n).1
 have c1 := (cutT_in n).2
 have HH : Hid (min (max n 0) 1099511627776 = cutT n) := Lib.hid rfl
 cases hc : okSv ⟨re, c, t⟩ with
 | false =>
   have HC := Lib.hid hc
   have HO := Lib.hid (servV_no (n := n) hc)
   clear hc
   go_enter Tryz.func131, Tryz.ntmps131
   go_wp2_with (first
    | (go_at_call 136; refine (heldD_any n 1099511627776 _ (by omega)).mono ?_; rintro e w2 ⟨rfl, rfl⟩; rw [HH.out])
    | (go_at_call 139; refine (serverRight_any _ _ _ _).mono ?_; rintro e w1 ⟨rfl, hb1⟩; rw [HC.out]))
   go_ret
   exact ⟨ret_iD HO.out.symm, bel_thenD B1.out (Nat.le_refl _) hb1⟩
 | true =>
   have HC := Lib.hid hc
   obtain ⟨a1, a2, a3⟩ := okSv_t hc
   simp only at a1 a2 a3
   by_cases hlt : cutT n < t
   ·have HO := Lib.hid (servV_below hc hlt)
    clear hc
    generalize cutT n = N at *
    go_enter Tryz.func131, Tryz.ntmps131
    go_wp2_with (first
     | (go_at_call 136; refine (heldD_any n 1099511627776 _ (by omega)).mono ?_; rintro e w2 ⟨rfl, rfl⟩; rw [HH.out])
     | (go_at_call 139; refine (serverRight_any _ _ _ _).mono ?_; rintro e w1 ⟨rfl, hb1⟩; rw [HC.out]; obtain ⟨k0, k1, k2⟩ := KS.out _ hb1))
    go_ret
    exact ⟨ret_iD HO.out.symm, bel_thenD B1.out (Nat.le_refl _) hb1⟩
   ·cases re with
    | true =>
      have HO := Lib.hid (servV_re hc rfl (by simpa using hlt))
      simp only at HO
      have CB := Lib.hid (fun (W : World) => begun_any (cutT n - 1) 0 t W (by omega) (by omega) (by omega) (by omega) (by omega) (by omega))
      obtain ⟨q0, q1⟩ := stepsTo_bd (f := 0) (T := t) (t := cutT n - 1) (by omega) (by omega) (by omega) (by omega)
      generalize stepsTo 0 t (cutT n - 1) = q at *
      generalize cutT n = N at *
      obtain ⟨p0, p1⟩ := mul_bdD (a := c) (b := q) (by omega) (by omega) q0 q1
      clear hc
      have s1 : IntKind.i64.wrap (c * q) = c * q := IntWalk.i64_in _ (by omega)
      have s2 : IntKind.i64.wrap (N - 1) = N - 1 := IntWalk.i64_in _ (by omega)
      have S1 := Lib.hid s1; have S2 := Lib.hid s2
      clear s1 s2
      go_enter Tryz.func131, Tryz.ntmps131
      go_wp2_with (first
       | (go_at_call 136; refine (heldD_any n 1099511627776 _ (by omega)).mono ?_; rintro e w2 ⟨rfl, rfl⟩; rw [HH.out])
       | (go_at_call 139; refine (serverRight_any _ _ _ _).mono ?_; rintro e w1 ⟨rfl, hb1⟩; rw [HC.out]; obtain ⟨k0, k1, k2⟩ := KS.out _ hb1))
      have s1 := S1.out; have s2 := S2.out
      go_region_held3 (fun W => W.cell? ⟨w.heap.size, 0, none⟩ = some (.bool true) ∧ W.cell? ⟨w.heap.size, 1, none⟩ = some (.int .i64 c) ∧ W.cell? ⟨w.heap.size, 2, none⟩ = some (.int .i64 t))
       (first | exact ⟨by assumption, by assumption, by assumption⟩ | go_keep)
       (first | (go_at_call 174; refine (CB.out _).mono ?_; rintro e w3 ⟨rfl, rfl⟩))
      all_goals
       (go_wp2_with fail
        go_ret
        exact ⟨ret_iD HO.out.symm, bel_thenD B1.out (Nat.le_refl _) (by repeat first | assumption | refine below_drewD _ ?_)⟩)
    | false =>
      have HO := Lib.hid (servV_not (n := n) hc rfl)
      simp only at HO
      obtain ⟨e1, q0, q1⟩ := divT (n := cutT n) (t := t) c0 (by omega)
      obtain ⟨q, hq⟩ : ∃ q, q = cutT n / t := ⟨_, rfl⟩
      rw [← hq] at HO e1 q0 q1
      have e3 := hq.symm
      generalize cutT n = N at *
      obtain ⟨p0, p1⟩ := mul_bdD (a := c) (b := q) (by omega) (by omega) q0 (by omega)
      clear hc hq
      have nz : (t == 0) = false := by simp; omega
      have nz2 : ¬ t = 0 := by omega
      have S1 : Hid (IntKind.i64.wrap (c * q) = c * q) := Lib.hid (IntWalk.i64_in _ (by omega))
      have S2 : Hid (IntKind.i64.wrap q = q) := Lib.hid (IntWalk.i64_in _ (by omega))
      go_enter Tryz.func131, Tryz.ntmps131
      go_wp2_with (first
       | (go_at_call 136; refine (heldD_any n 1099511627776 _ (by omega)).mono ?_; rintro e w2 ⟨rfl, rfl⟩; rw [HH.out])
       | (go_at_call 139; refine (serverRight_any _ _ _ _).mono ?_; rintro e w1 ⟨rfl, hb1⟩; rw [HC.out]; obtain ⟨k0, k1, k2⟩ := KS.out _ hb1))
      have s1 := S1.out; have s2 := S2.out
      go_quiet (fail)
      go_wp2_with fail
      go_ret
      exact ⟨ret_iD HO.out.symm, bel_thenD B1.out (Nat.le_refl _) (by repeat first | assumption | refine below_drewD _ ?_)⟩
end Go.Proofs.YtchbehnkkcjdgaaGreat
