/- The whole demand of one task and of one server: the program's Of and Serve, the document's. -/
import Derived.Test.YtdmkinoomnallaaDemandQ
import Derived.Deep.QuietTactic
import Derived.BigQuiet
namespace Go.Proofs.Ytdmkinoomnallaa
open Go.ChangeShapes Go.WideShapes Go.ChangeAt Go.RowKit
set_option linter.unusedVariables false

theorem ofV_no {k : Tk} {n : Int} {high : Bool} (h : (okTk k && (k.hi || !high)) = false) : ofV k n high = 0 := by
  unfold ofV highAt
  cases h1 : okTk k <;> cases h2 : k.hi <;> cases high <;> simp_all
set_option maxRecDepth 100000 in
set_option maxHeartbeats 2000000 in
theorem of_any (b : Bool) (t d v lo top : Int) (n : Int) (high : Bool) (w : World) :
    Calls Try.prog 31 #[.agg #[.bool b, .int .i64 t, .int .i64 d, .int .i64 v, .int .i64 lo, .int .i64 top], .int .i64 n, .bool high] w fun e w' => e = .returned (.int .i64 (ofV ⟨b, t, d, v, lo, top⟩ n high)) ∧ Below w.heap.size w w' := by
  have KS := Lib.hid (fun (W : World) (hb : Below (w.alloc (.cells #[.bool b, .int .i64 t, .int .i64 d, .int .i64 v, .int .i64 lo, .int .i64 top] 60)).heap.size (w.alloc (.cells #[.bool b, .int .i64 t, .int .i64 d, .int .i64 v, .int .i64 lo, .int .i64 top] 60)) W) =>
    have k := box_says w #[.bool b, .int .i64 t, .int .i64 d, .int .i64 v, .int .i64 lo, .int .i64 top] 60 W hb
    (⟨k 0 _ rfl, k 1 _ rfl, k 2 _ rfl, k 3 _ rfl, k 4 _ rfl, k 5 _ rfl⟩ : W.cell? ⟨w.heap.size, 0, none⟩ = some (.bool b) ∧ W.cell? ⟨w.heap.size, 1, none⟩ = some (.int .i64 t) ∧ W.cell? ⟨w.heap.size, 2, none⟩ = some (.int .i64 d) ∧ W.cell? ⟨w.heap.size, 3, none⟩ = some (.int .i64 v) ∧ W.cell? ⟨w.heap.size, 4, none⟩ = some (.int .i64 lo) ∧ W.cell? ⟨w.heap.size, 5, none⟩ = some (.int .i64 top)))
  have B1 := Lib.hid (below1 w (.cells #[.bool b, .int .i64 t, .int .i64 d, .int .i64 v, .int .i64 lo, .int .i64 top] 60))
  have c0 := (cutT_in n).1
  have c1 := (cutT_in n).2
  have HH : Hid (min (max n 0) 1099511627776 = cutT n) := Lib.hid rfl
  cases hc : (okTk ⟨b, t, d, v, lo, top⟩ && (b || !high)) with
  | false =>
    have HC := Lib.hid hc
    have HO := Lib.hid (ofV_no (n := n) hc)
    clear hc
    go_enter Try.func31, Try.ntmps31
    go_wp2_with (first
      | (go_at_call 34; refine (counts_any _ _ _ _ _ _ _ _).mono ?_; rintro e w1 ⟨rfl, hb1⟩; rw [HC.out]))
    go_ret
    exact ⟨ret_iD HO.out.symm, bel_thenD B1.out (Nat.le_refl _) hb1⟩
  | true =>
    have HC := Lib.hid hc
    have hk : okTk ⟨b, t, d, v, lo, top⟩ = true := by simp at hc; exact hc.1
    cases high with
    | false =>
      have HO : Hid (ofV ⟨b, t, d, v, lo, top⟩ n false = lowAt ⟨b, t, d, v, lo, top⟩ (cutT n)) := Lib.hid (by unfold ofV; simp [hk])
      have CL := Lib.hid (fun (W : World) => lowOf_any b t d v lo top (cutT n) W hk c0 c1)
      clear hc hk
      generalize cutT n = N at *
      go_enter Try.func31, Try.ntmps31
      go_wp2_with (first
        | (go_at_call 34; refine (counts_any _ _ _ _ _ _ _ _).mono ?_; rintro e w1 ⟨rfl, hb1⟩; rw [HC.out]; obtain ⟨k0, k1, k2, k3, k4, k5⟩ := KS.out _ hb1)
        | (go_at_call 33; refine (heldD_any n 1099511627776 _ (by omega)).mono ?_; rintro e w2 ⟨rfl, rfl⟩; rw [HH.out])
        | (go_at_call 44; refine (CL.out _).mono ?_; rintro e w3 ⟨rfl, hb3⟩))
      go_ret
      exact ⟨ret_iD HO.out.symm, bel_thenD (bel_thenD B1.out (Nat.le_refl _) hb1) (Nat.le_refl _) hb3⟩
    | true =>
      obtain rfl : b = true := by simp at hc; exact hc.2
      have HO : Hid (ofV ⟨true, t, d, v, lo, top⟩ n true = highAt ⟨true, t, d, v, lo, top⟩ (cutT n)) := Lib.hid (by unfold ofV; simp [hk])
      have CL := Lib.hid (fun (W : World) => highOf_any t d v lo top (cutT n) W hk c0 c1)
      clear hc hk
      generalize cutT n = N at *
      go_enter Try.func31, Try.ntmps31
      go_wp2_with (first
        | (go_at_call 34; refine (counts_any _ _ _ _ _ _ _ _).mono ?_; rintro e w1 ⟨rfl, hb1⟩; rw [HC.out]; obtain ⟨k0, k1, k2, k3, k4, k5⟩ := KS.out _ hb1)
        | (go_at_call 33; refine (heldD_any n 1099511627776 _ (by omega)).mono ?_; rintro e w2 ⟨rfl, rfl⟩; rw [HH.out])
        | (go_at_call 43; refine (CL.out _).mono ?_; rintro e w3 ⟨rfl, hb3⟩))
      go_ret
      exact ⟨ret_iD HO.out.symm, bel_thenD (bel_thenD B1.out (Nat.le_refl _) hb1) (Nat.le_refl _) hb3⟩
theorem servV_no {s : Sv} {n : Int} (h : okSv s = false) : servV s n = 0 := by unfold servV; simp [h]
theorem servV_below {s : Sv} {n : Int} (h : okSv s = true) (hn : cutT n < s.t) : servV s n = 0 := by
  have := okSv_t h
  have c0 := (cutT_in n).1
  unfold servV servAt
  rw [if_pos h]
  cases s.re
  · rw [if_neg (by simp), Int.ediv_eq_zero_of_lt c0 hn]; simp
  · rw [if_pos rfl, if_pos hn]
theorem servV_re {s : Sv} {n : Int} (h : okSv s = true) (hr : s.re = true) (hn : s.t ≤ cutT n) : servV s n = s.c * stepsTo 0 s.t (cutT n - 1) := by
  unfold servV
  rw [if_pos h, servAt_begun hr hn h]
theorem servV_not {s : Sv} {n : Int} (h : okSv s = true) (hr : s.re = false) : servV s n = s.c * (cutT n / s.t) := by
  unfold servV servAt
  rw [if_pos h, hr]
  simp
set_option maxRecDepth 100000 in
set_option maxHeartbeats 2000000 in
theorem serve_any (re : Bool) (c t : Int) (n : Int) (w : World) :
    Calls Try.prog 37 #[.agg #[.bool re, .int .i64 c, .int .i64 t], .int .i64 n] w fun e w' => e = .returned (.int .i64 (servV ⟨re, c, t⟩ n)) ∧ Below w.heap.size w w' := by
  have KS := Lib.hid (fun (W : World) (hb : Below (w.alloc (.cells #[.bool re, .int .i64 c, .int .i64 t] 63)).heap.size (w.alloc (.cells #[.bool re, .int .i64 c, .int .i64 t] 63)) W) =>
    have k := box_says w #[.bool re, .int .i64 c, .int .i64 t] 63 W hb
    (⟨k 0 _ rfl, k 1 _ rfl, k 2 _ rfl⟩ : W.cell? ⟨w.heap.size, 0, none⟩ = some (.bool re) ∧ W.cell? ⟨w.heap.size, 1, none⟩ = some (.int .i64 c) ∧ W.cell? ⟨w.heap.size, 2, none⟩ = some (.int .i64 t)))
  have B1 := Lib.hid (below1 w (.cells #[.bool re, .int .i64 c, .int .i64 t] 63))
  have c0 := (cutT_in n).1
  have c1 := (cutT_in n).2
  have HH : Hid (min (max n 0) 1099511627776 = cutT n) := Lib.hid rfl
  cases hc : okSv ⟨re, c, t⟩ with
  | false =>
    have HC := Lib.hid hc
    have HO := Lib.hid (servV_no (n := n) hc)
    clear hc
    go_enter Try.func37, Try.ntmps37
    go_wp2_with (first
      | (go_at_call 33; refine (heldD_any n 1099511627776 _ (by omega)).mono ?_; rintro e w2 ⟨rfl, rfl⟩; rw [HH.out])
      | (go_at_call 36; refine (serverRight_any _ _ _ _).mono ?_; rintro e w1 ⟨rfl, hb1⟩; rw [HC.out]))
    go_ret
    exact ⟨ret_iD HO.out.symm, bel_thenD B1.out (Nat.le_refl _) hb1⟩
  | true =>
    have HC := Lib.hid hc
    obtain ⟨a1, a2, a3⟩ := okSv_t hc
    simp only at a1 a2 a3
    by_cases hlt : cutT n < t
    · have HO := Lib.hid (servV_below hc hlt)
      clear hc
      generalize cutT n = N at *
      go_enter Try.func37, Try.ntmps37
      go_wp2_with (first
        | (go_at_call 33; refine (heldD_any n 1099511627776 _ (by omega)).mono ?_; rintro e w2 ⟨rfl, rfl⟩; rw [HH.out])
        | (go_at_call 36; refine (serverRight_any _ _ _ _).mono ?_; rintro e w1 ⟨rfl, hb1⟩; rw [HC.out]; obtain ⟨k0, k1, k2⟩ := KS.out _ hb1))
      go_ret
      exact ⟨ret_iD HO.out.symm, bel_thenD B1.out (Nat.le_refl _) hb1⟩
    · cases re with
      | true =>
        have HO := Lib.hid (servV_re hc rfl (by simpa using hlt))
        simp only at HO
        have CB := Lib.hid (fun (W : World) => begun_any (cutT n - 1) 0 t W (by omega) (by omega) (by omega) (by omega) (by omega) (by omega))
        obtain ⟨q0, q1⟩ := stepsTo_bd (f := 0) (T := t) (t := cutT n - 1) (by omega) (by omega) (by omega) (by omega)
        generalize stepsTo 0 t (cutT n - 1) = q at *
        generalize cutT n = N at *
        obtain ⟨p0, p1⟩ := mul_bdD (a := c) (b := q) (by omega) (by omega) q0 q1
        clear hc
        have s1 : IntKind.i64.wrap (c * q) = c * q := IntWalk.i64_in _ (by omega)
        have s2 : IntKind.i64.wrap (N - 1) = N - 1 := IntWalk.i64_in _ (by omega)
        have S1 := Lib.hid s1; have S2 := Lib.hid s2
        clear s1 s2
        go_enter Try.func37, Try.ntmps37
        go_wp2_with (first
          | (go_at_call 33; refine (heldD_any n 1099511627776 _ (by omega)).mono ?_; rintro e w2 ⟨rfl, rfl⟩; rw [HH.out])
          | (go_at_call 36; refine (serverRight_any _ _ _ _).mono ?_; rintro e w1 ⟨rfl, hb1⟩; rw [HC.out]; obtain ⟨k0, k1, k2⟩ := KS.out _ hb1))
        have s1 := S1.out; have s2 := S2.out
        go_region_held3 (fun W => W.cell? ⟨w.heap.size, 0, none⟩ = some (.bool true) ∧ W.cell? ⟨w.heap.size, 1, none⟩ = some (.int .i64 c) ∧ W.cell? ⟨w.heap.size, 2, none⟩ = some (.int .i64 t))
          (first | exact ⟨by assumption, by assumption, by assumption⟩ | go_keep)
          (first | (go_at_call 45; refine (CB.out _).mono ?_; rintro e w3 ⟨rfl, rfl⟩))
        all_goals
          (go_wp2_with fail
           go_ret
           exact ⟨ret_iD HO.out.symm, bel_thenD B1.out (Nat.le_refl _) (by repeat first | assumption | refine below_drewD _ ?_)⟩)
      | false =>
        have HO := Lib.hid (servV_not (n := n) hc rfl)
        simp only at HO
        obtain ⟨e1, q0, q1⟩ := divT (n := cutT n) (t := t) c0 (by omega)
        obtain ⟨q, hq⟩ : ∃ q, q = cutT n / t := ⟨_, rfl⟩
        rw [← hq] at HO e1 q0 q1
        have e3 := hq.symm
        generalize cutT n = N at *
        obtain ⟨p0, p1⟩ := mul_bdD (a := c) (b := q) (by omega) (by omega) q0 (by omega)
        clear hc hq
        have nz : (t == 0) = false := by simp; omega
        have nz2 : ¬ t = 0 := by omega
        have S1 : Hid (IntKind.i64.wrap (c * q) = c * q) := Lib.hid (IntWalk.i64_in _ (by omega))
        have S2 : Hid (IntKind.i64.wrap q = q) := Lib.hid (IntWalk.i64_in _ (by omega))
        go_enter Try.func37, Try.ntmps37
        go_wp2_with (first
          | (go_at_call 33; refine (heldD_any n 1099511627776 _ (by omega)).mono ?_; rintro e w2 ⟨rfl, rfl⟩; rw [HH.out])
          | (go_at_call 36; refine (serverRight_any _ _ _ _).mono ?_; rintro e w1 ⟨rfl, hb1⟩; rw [HC.out]; obtain ⟨k0, k1, k2⟩ := KS.out _ hb1))
        have s1 := S1.out; have s2 := S2.out
        go_quiet (fail)
        go_wp2_with fail
        go_ret
        exact ⟨ret_iD HO.out.symm, bel_thenD B1.out (Nat.le_refl _) (by repeat first | assumption | refine below_drewD _ ?_)⟩
end Go.Proofs.Ytdmkinoomnallaa
